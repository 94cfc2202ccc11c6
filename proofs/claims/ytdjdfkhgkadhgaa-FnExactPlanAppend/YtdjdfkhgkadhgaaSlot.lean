/- Chapter 3: slots that go round: 'slotFrom', 'l3Slot', 'SlotOf' of the model and of the program, walked. -/
import Derived.Test.YtdjdfkhgkadhgaaImpl2
import Derived.Test.YtdjdfkhgkadhgaaSpec2
import Derived.Test.YtdjdfkhgkadhgaaHd
namespace Go.Proofs.Ytdjdfkhgkadhgaa
open Go.RowKit

theorem slot_mod {t i : Int} (h1 : 0 ≤ t) (h2 : 0 ≤ i) : Int.tmod (t + i) 24 = (t + i) % 24 := Int.tmod_eq_emod_of_nonneg (by omega)

/-- 'impl.slotFrom' of a header that has no fault. -/
theorem slotFrom (s t i : Int) (y : Value) (w : World) (ht : 0 ≤ t) (ht' : t ≤ 23) (hi : 0 ≤ i) (hi' : i ≤ 1048576) :
    Calls Try.prog 43 #[.agg #[.int .i64 s, .int .i64 t, y], .int .i64 i] w fun e w' => e = .returned (.int .i64 ((t + i) % 24)) ∧ Below w.heap.size w w' := by
  have hmod := slot_mod ht hi
  go_enter Try.func43, Try.ntmps43
  go_wp2
  go_ret
  exact ⟨rfl, below_alloc _ _⟩

/-- 'spec.l3Slot' of a header that has no fault. -/
theorem l3Slot {b o : Nat} {s t : Int} {y : Value} (i : Int) (w : World) (hd : HdAt w b o s t y) (ht : 0 ≤ t) (ht' : t ≤ 23) (hi : 0 ≤ i) (hi' : i ≤ 1048576) :
    Calls Try.prog 55 #[.pointer (some ⟨b, o, none⟩), .int .i64 i] w fun e w' => e = .returned (.int .i64 ((t + i) % 24)) ∧ w' = w := by
  have hmod := slot_mod ht hi
  have c1 := hd.start
  clear hd
  go_enter Try.func55, Try.ntmps55
  go_wp2
  go_ret
  exact ⟨rfl, rfl⟩

/-- The code of 'SlotOf', and its value. -/
def slF (s t : Int) (xs : List Int) (i : Int) : Int := if headF s t xs = 0 then (if 0 ≤ i ∧ i ≤ 23 then 0 else 3) else headF s t xs
def slV (s t : Int) (xs : List Int) (i : Int) : Int := if slF s t xs i = 0 then (t + i) % 24 else 0

set_option maxHeartbeats 1000000 in
set_option maxRecDepth 4000 in
theorem implSlotOf {S : Nat → Prop} {w : World} {y : Value} {xs : List Int} (s t i : Int) (hy : RdI S w y xs) :
    Calls Try.prog 25 #[.agg #[.int .i64 s, .int .i64 t, y], .int .i64 i] w fun e w' => e = .returned (.agg #[.int .i64 (slF s t xs i), .int .i64 (slV s t xs i)]) ∧ Below w.heap.size w w' := by
  obtain ⟨ay, cy, rfl⟩ := hy.shape
  obtain ⟨l, hl⟩ : ∃ l, xs.length = l := ⟨_, rfl⟩
  have HP : Hid (headF s t xs = 0 → 0 ≤ t ∧ t ≤ 23) := fun h => ⟨(headF_zero h).1.2.2.1, (headF_zero h).1.2.2.2⟩
  have HF := hide (fun (w' : World) (hb : Below w.heap.size w w') => implHeaderFault s t (hy.later hb))
  rw [hl] at HF ⊢
  clear hy hl
  obtain ⟨z, hz⟩ : ∃ z, headF s t xs = z := ⟨_, rfl⟩
  rw [hz] at HF HP
  have A0 := hide (below_on (below_alloc w (.cells #[.int .i64 s, .int .i64 t, .slice ay l cy] 52)) (below_alloc _ (.cells #[.int .i64 0, .int .i64 0] 50)))
  by_cases h0 : z = 0
  · subst h0
    obtain ⟨ht1, ht2⟩ := HP.out rfl
    by_cases hi : 0 ≤ i ∧ i ≤ 23
    · have e1 : slF s t xs i = 0 := by unfold slF; rw [if_pos hz, if_pos hi]
      have e2 : slV s t xs i = (t + i) % 24 := by unfold slV; rw [if_pos e1]
      rw [e1, e2]
      obtain ⟨hi1, hi2⟩ := hi
      have hi3 : i < 24 := by omega
      have HSl := hide (fun (w : World) => slotFrom s t i (.slice ay l cy) w ht1 ht2 hi1 (by omega))
      generalize (t + i) % 24 = v at HSl ⊢
      clear e1 e2 hz
      go_enter Try.func25, Try.ntmps25
      go_wp2_with fail
      refine (HF.out _ A0.out).mono ?_
      rintro e w1 ⟨rfl, hb⟩
      have c0 : w1.cell? ⟨w.heap.size, 0, none⟩ = some (.int .i64 s) := cell_later hb (by simp [go_sem])
      have c1 : w1.cell? ⟨w.heap.size, 1, none⟩ = some (.int .i64 t) := cell_later hb (by simp [go_sem])
      have c2 : w1.cell? ⟨w.heap.size, 2, none⟩ = some (.slice ay l cy) := cell_later hb (by simp [go_sem])
      have v0 : w1.cell? ⟨w.heap.size + 1, 0, none⟩ = some (.int .i64 0) := cell_later hb (by simp [go_sem])
      have v1 : w1.cell? ⟨w.heap.size + 1, 1, none⟩ = some (.int .i64 0) := cell_later hb (by simp [go_sem])
      have f0 : w1.frozen? ⟨w.heap.size + 1, 0, none⟩ = false := ((bcell hb).2 _ _ (by simp)).trans (by simp [go_sem])
      have f1 : w1.frozen? ⟨w.heap.size + 1, 1, none⟩ = false := ((bcell hb).2 _ _ (by simp)).trans (by simp [go_sem])
      have hs1 : w.heap.size + 1 < w1.heap.size := World.block_lt_of_cell? _ _ v0
      have HB := hide (below_on A0.out hb)
      clear hb
      go_wp2_with fail
      refine (HSl.out _).mono ?_
      rintro e w2 ⟨rfl, hb⟩
      have x0 := cell_later hb v0
      have x1 := cell_later hb v1
      have y0 := ((bcell hb).2 _ _ hs1).trans f0
      have y1 := ((bcell hb).2 _ _ hs1).trans f1
      have HB2 := hide (below_on HB.out hb)
      clear hb
      go_wp2
      exact bodyPost_ret (v := .agg #[.int .i64 0, .int .i64 v]) (by simp [results, Try.results25, go_sem, x0, x1]) rfl ⟨rfl, (HB2.out.setCell (by simp) _).setCell (by simp) _⟩
    · have e1 : slF s t xs i = 3 := by unfold slF; rw [if_pos hz, if_neg hi]
      have e2 : slV s t xs i = 0 := by unfold slV; rw [e1, if_neg (by decide)]
      rw [e1, e2]
      clear e1 e2 hz
      have HI := hide hi
      clear hi
      go_enter Try.func25, Try.ntmps25
      go_wp2_with fail
      refine (HF.out _ A0.out).mono ?_
      rintro e w1 ⟨rfl, hb⟩
      have v0 : w1.cell? ⟨w.heap.size + 1, 0, none⟩ = some (.int .i64 0) := cell_later hb (by simp [go_sem])
      have v1 : w1.cell? ⟨w.heap.size + 1, 1, none⟩ = some (.int .i64 0) := cell_later hb (by simp [go_sem])
      have f0 : w1.frozen? ⟨w.heap.size + 1, 0, none⟩ = false := ((bcell hb).2 _ _ (by simp)).trans (by simp [go_sem])
      have f1 : w1.frozen? ⟨w.heap.size + 1, 1, none⟩ = false := ((bcell hb).2 _ _ (by simp)).trans (by simp [go_sem])
      have HB := hide (below_on A0.out hb)
      clear hb
      by_cases hneg : i < 0
      · go_wp2
        exact bodyPost_ret (v := .agg #[.int .i64 3, .int .i64 0]) (by simp [results, Try.results25, go_sem, v0, v1]) rfl ⟨rfl, (HB.out.setCell (by simp) _).setCell (by simp) _⟩
      · have h24 : 24 ≤ i := by have := HI.out; omega
        go_wp2
        exact bodyPost_ret (v := .agg #[.int .i64 3, .int .i64 0]) (by simp [results, Try.results25, go_sem, v0, v1]) rfl ⟨rfl, (HB.out.setCell (by simp) _).setCell (by simp) _⟩
  · have e1 : slF s t xs i = z := by unfold slF; rw [hz, if_neg h0]
    have e2 : slV s t xs i = 0 := by unfold slV; rw [e1, if_neg h0]
    rw [e1, e2]
    clear e1 e2 hz
    go_enter Try.func25, Try.ntmps25
    go_wp2_with fail
    refine (HF.out _ A0.out).mono ?_
    rintro e w1 ⟨rfl, hb⟩
    have v0 : w1.cell? ⟨w.heap.size + 1, 0, none⟩ = some (.int .i64 0) := cell_later hb (by simp [go_sem])
    have v1 : w1.cell? ⟨w.heap.size + 1, 1, none⟩ = some (.int .i64 0) := cell_later hb (by simp [go_sem])
    have f0 : w1.frozen? ⟨w.heap.size + 1, 0, none⟩ = false := ((bcell hb).2 _ _ (by simp)).trans (by simp [go_sem])
    have f1 : w1.frozen? ⟨w.heap.size + 1, 1, none⟩ = false := ((bcell hb).2 _ _ (by simp)).trans (by simp [go_sem])
    have HB := hide (below_on A0.out hb)
    clear hb
    go_wp2
    exact bodyPost_ret (v := .agg #[.int .i64 z, .int .i64 0]) (by simp [results, Try.results25, go_sem, v0, v1]) rfl ⟨rfl, (HB.out.setCell (by simp) _).setCell (by simp) _⟩

set_option maxHeartbeats 1000000 in
set_option maxRecDepth 4000 in
theorem specSlotOf {S : Nat → Prop} {w : World} {y : Value} {xs : List Int} (s t i : Int) (hy : RdI S w y xs) :
    Calls Try.prog 23 #[.agg #[.int .i64 s, .int .i64 t, y], .int .i64 i] w fun e w' => e = .returned (.agg #[.int .i64 (slF s t xs i), .int .i64 (slV s t xs i)]) ∧ Below w.heap.size w w' := by
  obtain ⟨ay, cy, rfl⟩ := hy.shape
  obtain ⟨l, hl⟩ : ∃ l, xs.length = l := ⟨_, rfl⟩
  have HP : Hid (headF s t xs = 0 → 0 ≤ t ∧ t ≤ 23) := fun h => ⟨(headF_zero h).1.2.2.1, (headF_zero h).1.2.2.2⟩
  rw [hl] at hy ⊢
  have A0 := hide (below_on (below_alloc w (.cells #[.int .i64 s, .int .i64 t, .slice ay l cy] 52)) (below_alloc _ (.cells #[.int .i64 0, .int .i64 0] 50)))
  have hd := (HdAt_new w s t (.slice ay l cy) 52).later (below_alloc _ (.cells #[.int .i64 0, .int .i64 0] 50))
  have HHd := hide hd
  have HF := hide (l2Fault hd (hy.later A0.out))
  clear hy hl hd
  obtain ⟨z, hz⟩ : ∃ z, headF s t xs = z := ⟨_, rfl⟩
  rw [hz] at HF HP
  by_cases h0 : z = 0
  · subst h0
    obtain ⟨ht1, ht2⟩ := HP.out rfl
    by_cases hi : 0 ≤ i ∧ i ≤ 23
    · have e1 : slF s t xs i = 0 := by unfold slF; rw [if_pos hz, if_pos hi]
      have e2 : slV s t xs i = (t + i) % 24 := by unfold slV; rw [if_pos e1]
      rw [e1, e2]
      obtain ⟨hi1, hi2⟩ := hi
      have HSl := hide (l3Slot i _ HHd.out ht1 ht2 hi1 (by omega))
      generalize (t + i) % 24 = v at HSl ⊢
      clear e1 e2 hz
      go_enter Try.func23, Try.ntmps23
      go_wp2_with fail
      refine HF.out.mono ?_
      rintro e w1 ⟨rfl, rfl⟩
      go_wp2_with fail
      refine (l1In_yes _ _ _ hi1 hi2 _).mono ?_
      rintro e w1 ⟨rfl, rfl⟩
      go_wp2_with fail
      refine HSl.out.mono ?_
      rintro e w1 ⟨rfl, rfl⟩
      go_wp2
      exact bodyPost_ret (v := .agg #[.int .i64 0, .int .i64 v]) (by simp [results, Try.results23, go_sem]) rfl ⟨rfl, below_on (below_alloc _ _) (below_alloc _ _)⟩
    · have e1 : slF s t xs i = 3 := by unfold slF; rw [if_pos hz, if_neg hi]
      have e2 : slV s t xs i = 0 := by unfold slV; rw [e1, if_neg (by decide)]
      rw [e1, e2]
      have HI := hide (show i < 0 ∨ 23 < i by omega)
      clear e1 e2 hz hi
      go_enter Try.func23, Try.ntmps23
      go_wp2_with fail
      refine HF.out.mono ?_
      rintro e w1 ⟨rfl, rfl⟩
      go_wp2_with fail
      refine (l1In_no _ _ _ HI.out _).mono ?_
      rintro e w1 ⟨rfl, rfl⟩
      go_wp2
      exact bodyPost_ret (v := .agg #[.int .i64 3, .int .i64 0]) (by simp [results, Try.results23, go_sem]) rfl ⟨rfl, below_on (below_alloc _ _) (below_alloc _ _)⟩
  · have e1 : slF s t xs i = z := by unfold slF; rw [hz, if_neg h0]
    have e2 : slV s t xs i = 0 := by unfold slV; rw [e1, if_neg h0]
    rw [e1, e2]
    clear e1 e2 hz
    go_enter Try.func23, Try.ntmps23
    go_wp2_with fail
    refine HF.out.mono ?_
    rintro e w1 ⟨rfl, rfl⟩
    go_wp2
    exact bodyPost_ret (v := .agg #[.int .i64 z, .int .i64 0]) (by simp [results, Try.results23, go_sem]) rfl ⟨rfl, below_on (below_alloc _ _) (below_alloc _ _)⟩

theorem eqIntResult (a b : Int) (w : World) :
    Calls Try.prog 26 #[.agg #[.int .i64 a, .int .i64 b], .agg #[.int .i64 a, .int .i64 b]] w fun e w' => e = .returned (.bool true) ∧ Below w.heap.size w w' := by
  go_enter Try.func26, Try.ntmps26
  go_wp2
  go_ret
  exact ⟨rfl, below_on (below_alloc _ _) (below_alloc _ _)⟩
end Go.Proofs.Ytdjdfkhgkadhgaa
