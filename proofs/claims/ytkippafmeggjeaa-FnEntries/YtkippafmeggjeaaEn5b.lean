/- Chapter 9: 'UnpackEntry' of the program, walked: the panic is recovered at its face. -/
import Derived.Test.YtkippafmeggjeaaEn5
namespace Go.Proofs.Ytkippafmeggjeaa
open Go.RowKit

theorem catchP (r : Nat) (x y : Value) (u : TypeId) (pv : Value) (older : List PanicEntry) (w : World) (c0 : w.cell? ⟨r, 0, none⟩ = some x) (c1 : w.cell? ⟨r, 1, none⟩ = some y) (f0 : w.frozen? ⟨r, 0, none⟩ = false) (f1 : w.frozen? ⟨r, 1, none⟩ = false) :
    CallsD Try.prog 28 #[.pointer (some ⟨r, 0, none⟩)] (.panicking ({ v := .iface u pv, recovered := false } :: older)) w fun e u' w' =>
      e = .returned (.tuple #[]) ∧ u' = .panicking ({ v := .iface u pv, recovered := true } :: older) ∧ w' = (w.setCell ⟨r, 0, none⟩ (.int .i64 5)).setCell ⟨r, 1, none⟩ (.slice none 0 0) := by
  refine callsD_of_wpS Try.func28 rfl fun c₀ cs hu => ?_
  apply wpS_seq
  apply wpS_region
  simp [wpOpsS, go_sem, recoverD, hu, Try.ntmps28, Exit.thenS]
  refine wpS_cond (t := true) (by simp [Act.eval, Array.replicate]) ?_
  simp only [if_true]
  apply wpS_region
  simp [wpOpsS, go_sem, c0, c1, f0, f1, bodyPostS, results, Try.results28]

theorem catchI (r : Nat) (w : World) :
    CallsD Try.prog 28 #[.pointer (some ⟨r, 0, none⟩)] .returning w fun e u' w' => e = .returned (.tuple #[]) ∧ u' = .returning ∧ w' = w := by
  refine callsD_of_wpS Try.func28 rfl fun c₀ cs hu => ?_
  apply wpS_seq
  apply wpS_region
  simp [wpOpsS, go_sem, recoverD, hu, Try.ntmps28, Exit.thenS]
  refine wpS_cond (t := false) (by simp [Act.eval, Array.replicate]) ?_
  simp only [Bool.false_eq_true, if_false]
  refine wpS_of_wp (wp_skip ?_)
  cases c₀
  simp_all [bodyPostS, results, Try.results28]

/-- One entry in a list of its own. -/
theorem OwJ_made {lo : Nat} {w3 : World} {p : Oj} {z : Value} (T : TypeId) (hz : OwI lo w3 z p.2.2) (hlo : lo ≤ w3.heap.size) :
    OwJ (fun b => lo ≤ b ∧ b < w3.heap.size + 1) (w3.alloc (.cells #[.int .i64 p.1, .int .i64 p.2.1, z] T)) (.slice (some ⟨w3.heap.size, 0, none⟩) 1 1) [p] := by
  obtain ⟨b, h1, h2⟩ := hz
  refine ⟨_, 1, w3.heap.size, 0, fun _ => z, fun _ => b, rfl, by simp, fun _ => ⟨rfl, ⟨hlo, Nat.lt_succ_self _⟩, fun o => by simp [go_sem]⟩, fun i hi => ?_⟩
  have e : i = 0 := by simpa using hi
  subst e
  refine ⟨by simp [go_sem], by simp [go_sem], by simp [go_sem], h1.later (below_alloc _ _), fun hn => ?_⟩
  obtain ⟨k1, k2, k3⟩ := h2 hn
  exact ⟨⟨k1, Nat.lt_succ_of_lt k2⟩, Nat.ne_of_lt k2, fun o => ((bcell (below_alloc _ _)).2 _ _ k2).trans (k3 o), fun j hj _ _ => by simpa using hj⟩

set_option maxHeartbeats 4000000 in
set_option maxRecDepth 4000 in
theorem implUnpackEntry {S : Nat → Prop} {w : World} {v : Value} {xs : List Int} (hv : RdI S w v xs) :
    Calls Try.prog 7 #[v] w (EndsEn (ueC xs) (ueR xs) w) := by
  have hmf : ∀ (fn : Fn) (first cap : Array Value) (w : World), (Instr.makeFunc fn first cap).run Try.prog w = .ok (.func fn first cap) w := fun _ _ _ _ => rfl
  obtain ⟨ao, c, rfl⟩ := hv.shape
  have HV := hide hv
  clear hv
  unfold ueC ueR
  obtain ⟨z, hz⟩ : ∃ z, wordsF xs = z := ⟨_, rfl⟩
  have HZ := hide hz
  rw [hz]
  clear hz
  obtain ⟨n, hn⟩ : ∃ n, xs.length = n := ⟨_, rfl⟩
  have HN := hide hn
  rw [hn] at HV ⊢
  clear hn
  have HC := hide (wordsFault (HV.out.later (below_alloc w (.cells #[.int .i64 0, .slice none 0 0] 28))))
  rw [HZ.out] at HC
  by_cases h0 : z = 0
  · subst h0
    have hm64 : n ≤ 64 := by have := words_len HZ.out; rw [HN.out] at this; exact this
    by_cases hB : enB xs
    · rw [if_pos rfl, if_pos hB, if_pos ⟨rfl, hB⟩]
      obtain ⟨p, hp⟩ : ∃ p, enO xs = p := ⟨_, rfl⟩
      have HP := hide hp
      rw [hp]
      clear hp
      have HB := hide hB
      clear hB
      obtain ⟨a, t, ys⟩ := p
      obtain ⟨l, hl⟩ : ∃ l, ys.length = l := ⟨_, rfl⟩
      have HL := hide hl
      clear hl
      go_enter_defers Try.func7, Try.ntmps7
      go_wp2_with fail
      refine HC.out.mono ?_
      rintro e w1 ⟨rfl, q, rfl⟩
      have HRs := hide ((ResF.start w 28).later (below_drewN _ q))
      have HEn := hide (entryIn (HV.out.later HRs.out.below) (by rw [HN.out]; exact hm64))
      have hsz1 : ((w.alloc (.cells #[.int .i64 0, .slice none 0 0] 28)).drewN q).heap.size = w.heap.size + 1 := by simp
      have HSz := hide hsz1
      clear hsz1
      go_wp2_with fail
      refine HEn.out.mono ?_
      rintro e w2 ⟨hb, ⟨_, z, rfl, ho⟩ | ⟨hB, _⟩⟩
      · rw [HP.out] at ho ⊢
        dsimp only at ho ⊢
        obtain ⟨az, cz, hz⟩ := ho.shape
        rw [HL.out] at hz
        subst hz
        have HRs2 := hide (HRs.out.later hb)
        have hs2 := hb.size
        rw [HSz.out] at ho hs2
        have HOj := hide (OwJ_made (p := (a, t, ys)) 35 ho (by omega))
        have bA := below_alloc w2 (.cells #[.int .i64 a, .int .i64 t, .slice az l cz] 35)
        have HRs3 := hide (HRs2.out.later bA)
        have HFn := hide (ret_entries (x := .int .i64 0) (r := w.heap.size) HRs3.out.below (Nat.le_refl _) HOj.out (fun b hb => ⟨by have := hb.1; omega, by have := hb.2; simp; omega⟩))
        have r0 := HRs2.out.c0
        have r1 := HRs2.out.c1
        have f0 := HRs2.out.fr 0
        have f1 := HRs2.out.fr 1
        have hlt := HRs2.out.lt
        have hlt' : w.heap.size < (w2.setCell ⟨w.heap.size, 0, none⟩ (.int .i64 0)).heap.size := by simpa using hlt
        rw [World.setCell_alloc_past _ _ _ _ hlt, World.setCell_alloc_past _ _ _ _ hlt'] at HFn
        clear hb ho bA HRs3 HOj hlt'
        go_wp2
        refine leaves_cons (f := 28) (args := #[.pointer (some ⟨w.heap.size, 0, none⟩)]) (by simp) (by simp [go_sem]) ?_
        refine (catchI w.heap.size _).mono ?_
        rintro e u' w'' ⟨rfl, rfl, rfl⟩
        exact ⟨.agg #[.int .i64 0, .slice (some ⟨w2.heap.size, 0, none⟩) 1 1], by simp [results, Try.results7, go_sem, r0, r1, hlt], _, rfl, HFn.out.1, HFn.out.2⟩
      · exact absurd HB.out hB
    · rw [if_pos rfl, if_neg hB, if_neg (fun h => hB h.2)]
      have HB := hide hB
      clear hB
      go_enter_defers Try.func7, Try.ntmps7
      go_wp2_with fail
      refine HC.out.mono ?_
      rintro e w1 ⟨rfl, q, rfl⟩
      have HRs := hide ((ResF.start w 28).later (below_drewN _ q))
      have HEn := hide (entryIn (HV.out.later HRs.out.below) (by rw [HN.out]; exact hm64))
      go_wp2_with fail
      refine HEn.out.mono ?_
      rintro e w2 ⟨hb, ⟨hB, _⟩ | ⟨_, pv, rfl⟩⟩
      · exact absurd hB HB.out
      · have HRs2 := hide (HRs.out.later hb)
        clear hb
        go_wp2
        refine leaves_cons (f := 28) (args := #[.pointer (some ⟨w.heap.size, 0, none⟩)]) (by simp) (by simp [go_sem]) ?_
        refine (catchP w.heap.size _ _ _ pv [] _ HRs2.out.c0 HRs2.out.c1 (HRs2.out.fr 0) (HRs2.out.fr 1)).mono ?_
        rintro e u' w'' ⟨rfl, rfl, rfl⟩
        have r0 := HRs2.out.c0
        have r1 := HRs2.out.c1
        exact ⟨.agg #[.int .i64 5, .slice none 0 0], by simp [results, Try.results7, go_sem, r0, r1], _, rfl, HRs2.out.shut _ _, OwJ_nil _ _⟩
  · rw [if_neg h0, if_neg (fun h => h0 h.1)]
    have h0b : (z == 0) = false := by simpa using h0
    go_enter_defers Try.func7, Try.ntmps7
    go_wp2_with fail
    refine HC.out.mono ?_
    rintro e w1 ⟨rfl, q, rfl⟩
    have HRs := hide ((ResF.start w 28).later (below_drewN _ q))
    go_wp2
    exact ⟨.agg #[.int .i64 z, .slice none 0 0], by simp [results, Try.results7, go_sem], _, rfl, HRs.out.shut _ _, OwJ_nil _ _⟩
end Go.Proofs.Ytkippafmeggjeaa
