/- Im1 in one text: what each says stands at its head below. -/
import Derived.Test.YtgpealbpmgjdjaaG30
import Derived.Test.YtgpealbpmgjdjaaG39
import Derived.Test.YtgpealbpmgjdjaaG40
import Derived.Test.YtgpealbpmgjdjaaG22
import Derived.Test.YtgpealbpmgjdjaaG42
import Derived.Test.YtgpealbpmgjdjaaG43
/- Chapter 11: the file of a snapshot ('SnapFile'), both sides walked. -/
namespace Go.Proofs.Ytgpealbpmgjdjaa
open Go.RowKit

/-- The files that hold a store's snapshot. -/
def sfL (r : Rf) : List Oj := if r.si = 0 then [] else [(2, (r.sn.length : Int), tbL [] (nbF r.sn.length))]
def sfR (r : Rf) : List Oj := if rfF r = 0 then sfL r else []
theorem nb_bound {n : Nat} (h : n ≤ 40) : 0 ≤ nbF n ∧ nbF n ≤ 5 := by unfold nbF; omega
theorem tb_first {n : Int} (h0 : 0 ≤ n) (h1 : n ≤ 5) : tbC [] n = 0 ∧ tbR1 [] n = tbL [] n := by
  have hm : mapF [] = 0 := by decide
  have hf : (frB []).length = 20 := by decide
  have hc : tbC [] n = 0 := by
    unfold tbC
    rw [hm, if_neg (by simp), if_neg (by omega), if_neg (by rw [hf]; omega)]
  exact ⟨hc, by unfold tbR1; rw [if_pos hc]⟩
theorem sfR_bad {r : Rf} (h : rfF r ≠ 0) : sfR r = [] := by unfold sfR; rw [if_neg h]
theorem sfR_ok {r : Rf} (h : rfF r = 0) : sfR r = sfL r := by unfold sfR; rw [if_pos h]
theorem rf_words {r : Rf} (h : rfF r = 0) : r.sn.length ≤ 40 := by
  exact daF_len (rfF_iff.1 h).da
theorem sfR_tot (r : Rf) : totJ (sfR r) (sfR r).length ≤ 1048576 := by
  by_cases h : rfF r = 0
  · rw [sfR_ok h]
    unfold sfL
    split
    · simp [totJ]
    · have := tbL_len [] (nbF r.sn.length)
      simp [totJ]
      omega
  · rw [sfR_bad h]
    simp [totJ]
theorem ow_one11 {w : World} {B : Nat} {a s : Int} {z : Value} {xs : List Int} {t : TypeId} (ho : OwI B w z xs) (hB : B ≤ w.heap.size) :
    OwJ (fun b => B ≤ b ∧ b < w.heap.size + 1) (w.alloc (.cells #[.int .i64 a, .int .i64 s, z] t)) (.slice (some ⟨w.heap.size, 0, none⟩) 1 1) [(a, s, xs)] := by
  have bA := below_alloc w (.cells #[.int .i64 a, .int .i64 s, z] t)
  obtain ⟨b, h1, h2⟩ := ho
  refine ⟨_, 1, w.heap.size, 0, fun _ => z, fun _ => b, rfl, by simp, fun _ => ⟨rfl, ⟨hB, by omega⟩, fun o => by simp [go_sem]⟩, fun i hi => ?_⟩
  have : i = 0 := by simp at hi; omega
  subst this
  refine ⟨by simp [go_sem], by simp [go_sem], by simp [go_sem], h1.later bA, fun hn => ?_⟩
  obtain ⟨k1, k2, k3⟩ := h2 (by simpa using hn)
  dsimp only
  exact ⟨⟨k1, by omega⟩, by omega, fun o => ((bcell bA).2 _ _ k2).trans (k3 o), fun j hj _ _ => by simp at hj; omega⟩

theorem Try.fldTk1 (x y z : Value) (w : World) : (Instr.field 106 (.agg #[x, y, z]) 1).run Try.prog w = .ok y w := by
  simp [Instr.field, run_underlying Try.underlying106, asAgg, part, isAgg, run_underlying Try.underlying34]
theorem OwK.fst {B : Nat} {w : World} {u v : Value} {xs ys : List Int} (h : OwK B w u v xs ys) : OwI B w u xs := by
  obtain ⟨b1, b2, h1, h2, h3, h4, h5⟩ := h
  exact ⟨b1, h1, h3⟩

set_option maxHeartbeats 2000000 in
set_option maxRecDepth 4000 in
theorem snapFilesI {S T : Nat → Prop} {w : World} {y z : Value} (r : Rf) (hy : RdI S w y r.sn) (hz : RdJ T w z r.lg) (hl : r.sn.length ≤ 40) :
    Calls Try.prog 42 #[.agg #[.int .i64 r.tm, .int .i64 r.vt, .int .i64 r.si, .int .i64 r.st, y, z]] w fun e w' => ∃ v, e = .returned v ∧ Below w.heap.size w w' ∧ OwJ (fun b => w.heap.size ≤ b ∧ b < w'.heap.size) w' v (sfL r) := by
  obtain ⟨ay, cy, rfl⟩ := hy.shape
  obtain ⟨az, cz, rfl, _⟩ := hz.shape
  have BA := hide (below_alloc w (.cells #[.int .i64 r.tm, .int .i64 r.vt, .int .i64 r.si, .int .i64 r.st, .slice ay r.sn.length cy, .slice az r.lg.length cz] 45))
  obtain ⟨f0, hf0⟩ : ∃ f, sfL r = f := ⟨_, rfl⟩
  rw [hf0]
  have HF := hide hf0
  have HN := hide (nb_bound hl)
  have HTb := hide (tb_first (nb_bound hl).1 (nb_bound hl).2)
  have HFor := hide (fun W => blocksForI (r.sn.length : Int) (by omega) (by omega) W)
  clear hy hz hf0
  unfold Hid sfL at HF
  generalize r.sn.length = l at *
  generalize r.lg.length = m at *
  generalize r.tm = a at *
  generalize r.vt = b at *
  generalize r.st = d at *
  generalize r.si = c at *
  by_cases hc : c = 0
  · rw [if_pos hc] at HF
    subst hc
    subst HF
    go_enter Try.func42, Try.ntmps42
    go_wp2
    go_ret
    exact ⟨_, rfl, BA.out, OwJ_nil _ _⟩
  · rw [if_neg hc] at HF
    replace HF := hide HF
    go_enter Try.func42, Try.ntmps42
    go_wp2_with fail
    refine (HFor.out _).mono ?_
    rintro e w1 ⟨rfl, rfl⟩
    generalize nbF (l : Int) = n at *
    have HK := hide (implTakeBlocks n (S := fun _ => False) (xs := []) (u := .slice none 0 0) (w := w.alloc (.cells #[.int .i64 a, .int .i64 b, .int .i64 c, .int .i64 d, .slice ay l cy, .slice az m cz] 45)) ⟨none, 0, rfl, by simp, fun h => absurd rfl h⟩)
    rw [HTb.out.1, HTb.out.2] at HK
    go_wp2_with fail
    refine HK.out.mono ?_
    rintro e w1 ⟨u, v, rfl, hb, ho⟩
    have fK1 := Try.fldTk1
    have HO := hide (ow_one11 (a := 2) (s := (l : Int)) (t := 100) ho.fst hb.size)
    have BB := hide (below_on (below_on BA.out hb) (below_alloc w1 (.cells #[.int .i64 2, .int .i64 (l : Int), u] 100)))
    have hz := hb.size
    simp only [World.size_alloc] at hz
    obtain ⟨au, cu, hu⟩ := ho.fst.shape
    subst hu
    clear hb ho HK
    generalize tbL [] n = ts at *
    obtain ⟨q, hq⟩ : ∃ q, ts.length = q := ⟨_, rfl⟩
    rw [hq] at HO BB ⊢
    clear hq
    go_wp2
    go_ret
    refine ⟨_, rfl, BB.out, ?_⟩
    rw [← HF.out]
    exact HO.out.mono fun x hx => ⟨by have := hx.1; simp at this; omega, by simp; omega⟩

set_option maxHeartbeats 2000000 in
set_option maxRecDepth 4000 in
theorem l11FileP {S : Nat → Prop} {w : World} {bk : Nat} {y z : Value} (r : Rf) (hv : Var6 w bk (.int .i64 r.tm) (.int .i64 r.vt) (.int .i64 r.si) (.int .i64 r.st) y z) (hy : RdI S w y r.sn) (hl : r.sn.length ≤ 40) :
    Calls Try.prog 38 #[.pointer (some ⟨bk, 0, none⟩)] w fun e w' => ∃ v, e = .returned v ∧ Below w.heap.size w w' ∧ OwJ (fun b => w.heap.size ≤ b ∧ b < w'.heap.size) w' v (sfL r) := by
  obtain ⟨ay, cy, rfl⟩ := hy.shape
  obtain ⟨f0, hf0⟩ : ∃ f, sfL r = f := ⟨_, rfl⟩
  rw [hf0]
  have HF := hide hf0
  have HN := hide (nb_bound hl)
  have HFor := hide (fun W => l8For (r.sn.length : Int) (by omega) (by omega) W)
  have HV := hide hv
  clear hy hf0 hv
  unfold Hid sfL at HF
  generalize r.sn.length = l at *
  generalize r.tm = a at *
  generalize r.vt = b at *
  generalize r.st = d at *
  generalize r.si = c at *
  obtain ⟨v0, v1, v2, v3, v4, v5⟩ := HV.out
  by_cases hc : c = 0
  · rw [if_pos hc] at HF
    subst hc
    subst HF
    have BA := hide (below_alloc w (.cells #[] 100))
    go_enter Try.func38, Try.ntmps38
    go_wp2
    go_ret
    exact ⟨_, rfl, BA.out, ⟨_, 0, 0, 0, fun _ => .bool false, fun _ => 0, rfl, by simp, fun h => absurd rfl h, fun i hi => absurd hi (Nat.not_lt_zero _)⟩⟩
  · rw [if_neg hc] at HF
    replace HF := hide HF
    obtain ⟨n, hn⟩ : ∃ n : Nat, nbF (l : Int) = (n : Int) := ⟨(nbF (l : Int)).toNat, by have := HN.out.1; omega⟩
    rw [hn] at HF HFor
    have hn5 : n ≤ 5 := by have := HN.out.2; rw [hn] at this; omega
    clear hn
    have HK := hide (fun (S : Nat → Prop) (h : RdI S w (.slice none 0 0) []) => l7Take n (by omega) h)
    go_enter Try.func38, Try.ntmps38
    go_wp2_with fail
    refine (HFor.out _).mono ?_
    rintro e w1 ⟨rfl, rfl⟩
    go_wp2_with fail
    refine (HK.out (fun _ => False) ⟨none, 0, rfl, by simp, fun h => absurd rfl h⟩).mono ?_
    rintro e w1 ⟨u, v, rfl, hb, ho⟩
    have HO := hide (ow_one11 (a := 2) (s := (l : Int)) (t := 100) ho.fst hb.size)
    have BB := hide (below_on hb (below_alloc w1 (.cells #[.int .i64 2, .int .i64 (l : Int), u] 100)))
    have hz := hb.size
    obtain ⟨au, cu, hu⟩ := ho.fst.shape
    subst hu
    clear hb ho HK v0 v1 v2 v3 v4 v5
    generalize tbL [] (n : Int) = ts at *
    obtain ⟨q, hq⟩ : ∃ q, ts.length = q := ⟨_, rfl⟩
    rw [hq] at HO BB ⊢
    clear hq
    go_wp2
    go_ret
    refine ⟨_, rfl, BB.out, ?_⟩
    rw [← HF.out]
    exact HO.out.mono fun x hx => ⟨by have := hx.1; omega, by simp; omega⟩
end Go.Proofs.Ytgpealbpmgjdjaa
