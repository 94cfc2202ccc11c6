/- Chapter 4: 'impl.ApplyPuts', walked. -/
import Derived.Test.YtiommfabhchgdaaApplyM
import Derived.Test.YtiommfabhchgdaaIvP
import Derived.Carry
namespace Go.Proofs.Ytiommfabhchgdaa
open Go.RowKit Go.Maps

instance (ps : List (Int × List Int)) : Decidable (isVw ps) := by unfold isVw; infer_instance

/-- The code of ApplyPuts; the view that it tells. -/
def apC (vs ps : List (Int × List Int)) : Int := if hpF 60 vs = 0 then (if hpF 60 ps = 0 then (if isVw vs then 0 else 1) else hpF 60 ps) else hpF 60 vs
def apM (vs ps : List (Int × List Int)) : Int → List Int := ps.foldl putM (vs.foldl putM fun _ => [])
def apR (vs ps : List (Int × List Int)) : List (Int × List Int) := if apC vs ps = 0 then viewTo (apM vs ps) 40 else []
theorem apC_zero {vs ps : List (Int × List Int)} (h : apC vs ps = 0) : hpF 60 vs = 0 ∧ hpF 60 ps = 0 ∧ isVw vs := by
  unfold apC at h
  by_cases h1 : hpF 60 vs = 0
  · rw [if_pos h1] at h
    by_cases h2 : hpF 60 ps = 0
    · rw [if_pos h2] at h
      by_cases h3 : isVw vs
      · exact ⟨h1, h2, h3⟩
      · rw [if_neg h3] at h; exact absurd h (by decide)
    · rw [if_neg h2] at h; exact absurd h h2
  · rw [if_neg h1] at h; exact absurd h h1
theorem apM_len {vs ps : List (Int × List Int)} (h1 : hpF 60 vs = 0) (h2 : hpF 60 ps = 0) (a : Int) : (apM vs ps a).length ≤ 64 :=
  foldl_len (foldl_len (by simp) (fun i hi => ((hpF_all h1).2 i hi).2.2)) (fun i hi => ((hpF_all h2).2 i hi).2.2)
theorem RdP_old {S : Nat → Prop} {w : World} {v : Value} {ps : List (Int × List Int)} (h : RdP S w v ps) : RdP (fun b => b < w.heap.size) w v ps := by
  obtain ⟨ao, c, e1, e2, e3⟩ := h
  refine ⟨ao, c, e1, e2, fun hne => ?_⟩
  obtain ⟨b, off, V, f1, f2, f3⟩ := e3 hne
  refine ⟨b, off, V, f1, World.block_lt_of_cell? _ _ (f3 0 (List.length_pos_iff.2 hne)).1, fun i hi => ⟨(f3 i hi).1, (f3 i hi).2.1, ?_⟩⟩
  obtain ⟨ao', c', k1, k2, k3⟩ := (f3 i hi).2.2
  refine ⟨ao', c', k1, k2, fun hn => ?_⟩
  obtain ⟨b', off', m1, m2, m3⟩ := k3 hn
  exact ⟨b', off', m1, World.block_lt_of_cell? _ _ (m3 0 (List.length_pos_iff.2 hn)), m3⟩
theorem below_grown {w w1 w2 : World} {B : Nat} (hb : Below w.heap.size w w1) (hg : w1.grownBy w2 (some B)) (hB : w.heap.size ≤ B) : Below w.heap.size w w2 :=
  hb.grown hg hb.size (fun r hr => by injection hr with hr; omega)
/-- The end of a function that stores a code and puts into its result's variable. -/
theorem ret_putsA {w w3 : World} {P : Nat → Prop} {r : Nat} {z x : Value} {ps : List (Int × List Int)} (hb : Below w.heap.size w w3) (hr : w.heap.size ≤ r) (ho : OwP P w3 z ps) (hP : ∀ b, P b → r < b ∧ b < w3.heap.size) :
    Below w.heap.size w ((w3.setCell ⟨r, 0, none⟩ x).setCell ⟨r, 1, none⟩ z) ∧ OwP (fun b => w.heap.size ≤ b ∧ b < ((w3.setCell ⟨r, 0, none⟩ x).setCell ⟨r, 1, none⟩ z).heap.size) ((w3.setCell ⟨r, 0, none⟩ x).setCell ⟨r, 1, none⟩ z) z ps := by
  have hw : Wr (fun y => y = r) w3 ((w3.setCell ⟨r, 0, none⟩ x).setCell ⟨r, 1, none⟩ z) := ((Wr.refl (fun y => y = r) _).setCell (p := ⟨r, 0, none⟩) rfl _).setCell (p := ⟨r, 1, none⟩) rfl _
  exact ⟨(hb.setCell (p := ⟨r, 0, none⟩) hr _).setCell (p := ⟨r, 1, none⟩) hr _, (ho.wr hw (fun b h1 e => by have := hP b h1; omega)).mono (fun b hb => by have := hP b hb; simp; omega)⟩

end Go.Proofs.Ytiommfabhchgdaa
