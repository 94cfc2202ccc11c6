/- Do1 in one text: what each says stands at its head below. -/
import Derived.Test.YtlljcajfdeiigaaGreatDoorG15
import Derived.Test.YtlljcajfdeiigaaGreatDoorG28
import Derived.Test.YtlljcajfdeiigaaGreatDoorG29
import Derived.Test.YtlljcajfdeiigaaGreatDoorG09
/- Chapter 12: what an operation does to a store. -/
namespace Go.Proofs.YtlljcajfdeiigaaGreatDoor
open Go.RowKit

/-- The reply: the code of what is done. -/
def dyC (r o : Rf) : Int := if o.tm = 1 then shC r o.si o.st else if o.tm = 2 then apRC r o.vt o.si o.lg else if o.tm = 3 then cpC r o.vt o.sn else if o.tm = 4 then inC r o.vt o.si o.sn else taC r o.vt
/-- The store then, where there is no code. -/
def dyN (r o : Rf) : Rf := if o.tm = 1 then shR r o.si o.st else if o.tm = 2 then apRR r o.vt o.si o.lg else if o.tm = 3 then cpR r o.vt o.sn else if o.tm = 4 then inR r o.vt o.si o.sn else r
def dyR (r o : Rf) : Rf := if dyC r o = 0 then dyN r o else r
def dyV (r o : Rf) : Int := if o.tm = 1 ∨ o.tm = 2 ∨ o.tm = 3 ∨ o.tm = 4 then 0 else taV r o.vt
def Room (x : Rf) : Prop := x.sn.length ≤ 1048576 ∧ x.lg.length ≤ 1048576 ∧ ∀ i, i < x.lg.length → (x.lg.getD i oj0).2.2.length ≤ 1048576
theorem room_tot {x : Rf} (h : totR x ≤ 1048576) : Room x := by
  unfold totR at h
  have h2 : ∀ i, i ≤ x.lg.length → i * 2 ≤ totJ x.lg i := by
    intro i
    induction i with
    | zero => intro _; omega
    | succ k ih => intro hk; have := ih (by omega); have := totJ_succ x.lg k (by omega); omega
  have h3 := h2 x.lg.length (Nat.le_refl _)
  exact ⟨by omega, by omega, fun i hi => by have h4 := totJ_succ x.lg i hi; have h5 := totJ_le x.lg (i + 1) x.lg.length hi; omega⟩
theorem room_of {r : Rf} (h : rfF r = 0) : Room r := by
  obtain ⟨h1, h2, h3⟩ := rf_room h
  exact ⟨by omega, by omega, h3⟩
theorem tot_of {r : Rf} (h : rfF r = 0) : totR r ≤ 1048576 := by
  obtain ⟨h1, h2, _⟩ := rf_room h
  have hs := sum_le _ (six (rfF_iff.1 h).lo)
  unfold totR totJ
  rw [List.take_length]
  omega
theorem dyN_tot {r o : Rf} (h : rfF r = 0) : totR (dyN r o) ≤ 1048576 := by
  unfold dyN
  split
  · exact shR_tot _ _ _
  · split
    · exact apRR_tot _ _ _ _
    · split
      · exact cpR_tot _ _ _
      · split
        · exact inR_tot _ _ _ _
        · exact tot_of h
theorem dyR_tot {r o : Rf} (h : rfF r = 0) : totR (dyR r o) ≤ 1048576 := by
  unfold dyR
  split
  · exact dyN_tot h
  · exact tot_of h
theorem op_kind {o : Rf} (h : opF o = 0) : o.tm = 1 ∨ o.tm = 2 ∨ o.tm = 3 ∨ o.tm = 4 ∨ o.tm = 5 := by
  have := (opF_ok h).1
  unfold fmO at this
  omega
def doC (r o : Rf) : Int := if rfF r ≠ 0 then rfF r else opF o
def doY (r o : Rf) : Int := if doC r o = 0 then dyC r o else 0
def doV (r o : Rf) : Int := if doC r o = 0 then dyV r o else 0
def doR (r o : Rf) : Rf := if doC r o = 0 then dyR r o else rf0
theorem do_bad {r o : Rf} (h : rfF r ≠ 0) : doC r o = rfF r ∧ doY r o = 0 ∧ doV r o = 0 ∧ doR r o = rf0 := by
  have hc : doC r o = rfF r := by unfold doC; rw [if_pos h]
  have hn : ¬ doC r o = 0 := by rw [hc]; exact h
  exact ⟨hc, by unfold doY; rw [if_neg hn], by unfold doV; rw [if_neg hn], by unfold doR; rw [if_neg hn]⟩
theorem do_op {r o : Rf} (h : rfF r = 0) (h1 : opF o ≠ 0) : doC r o = opF o ∧ doY r o = 0 ∧ doV r o = 0 ∧ doR r o = rf0 := by
  have hc : doC r o = opF o := by unfold doC; rw [if_neg (fun k => k h)]
  have hn : ¬ doC r o = 0 := by rw [hc]; exact h1
  exact ⟨hc, by unfold doY; rw [if_neg hn], by unfold doV; rw [if_neg hn], by unfold doR; rw [if_neg hn]⟩
theorem do_ok {r o : Rf} (h : rfF r = 0) (h1 : opF o = 0) : doC r o = 0 ∧ doY r o = dyC r o ∧ doV r o = dyV r o ∧ doR r o = dyR r o := by
  have hc : doC r o = 0 := by unfold doC; rw [if_neg (fun k => k h)]; exact h1
  exact ⟨hc, by unfold doY; rw [if_pos hc], by unfold doV; rw [if_pos hc], by unfold doR; rw [if_pos hc]⟩
theorem doR_tot (r o : Rf) : totR (doR r o) ≤ 1048576 := by
  unfold doR
  split
  · rename_i h
    have h0 : rfF r = 0 := by
      by_cases k : rfF r = 0
      · exact k
      · rw [(do_bad k).1] at h; exact absurd h k
    exact dyR_tot h0
  · rw [totR_zero]; decide
theorem dy1 {r o : Rf} (h : o.tm = 1) : dyC r o = shC r o.si o.st ∧ dyV r o = 0 ∧ dyR r o = if shC r o.si o.st = 0 then shR r o.si o.st else r := by
  have hc : dyC r o = shC r o.si o.st := by unfold dyC; rw [if_pos h]
  exact ⟨hc, by unfold dyV; rw [if_pos (by omega)], by unfold dyR; rw [hc]; unfold dyN; rw [if_pos h]⟩
theorem dy2 {r o : Rf} (h : o.tm = 2) : dyC r o = apRC r o.vt o.si o.lg ∧ dyV r o = 0 ∧ dyR r o = if apRC r o.vt o.si o.lg = 0 then apRR r o.vt o.si o.lg else r := by
  have hc : dyC r o = apRC r o.vt o.si o.lg := by unfold dyC; rw [if_neg (show ¬ o.tm = 1 by omega), if_pos h]
  exact ⟨hc, by unfold dyV; rw [if_pos (by omega)], by unfold dyR; rw [hc]; unfold dyN; rw [if_neg (show ¬ o.tm = 1 by omega), if_pos h]⟩
theorem dy3 {r o : Rf} (h : o.tm = 3) : dyC r o = cpC r o.vt o.sn ∧ dyV r o = 0 ∧ dyR r o = if cpC r o.vt o.sn = 0 then cpR r o.vt o.sn else r := by
  have hc : dyC r o = cpC r o.vt o.sn := by unfold dyC; rw [if_neg (show ¬ o.tm = 1 by omega), if_neg (show ¬ o.tm = 2 by omega), if_pos h]
  exact ⟨hc, by unfold dyV; rw [if_pos (by omega)], by unfold dyR; rw [hc]; unfold dyN; rw [if_neg (show ¬ o.tm = 1 by omega), if_neg (show ¬ o.tm = 2 by omega), if_pos h]⟩
theorem dy4 {r o : Rf} (h : o.tm = 4) : dyC r o = inC r o.vt o.si o.sn ∧ dyV r o = 0 ∧ dyR r o = if inC r o.vt o.si o.sn = 0 then inR r o.vt o.si o.sn else r := by
  have hc : dyC r o = inC r o.vt o.si o.sn := by unfold dyC; rw [if_neg (show ¬ o.tm = 1 by omega), if_neg (show ¬ o.tm = 2 by omega), if_neg (show ¬ o.tm = 3 by omega), if_pos h]
  exact ⟨hc, by unfold dyV; rw [if_pos (by omega)], by unfold dyR; rw [hc]; unfold dyN; rw [if_neg (show ¬ o.tm = 1 by omega), if_neg (show ¬ o.tm = 2 by omega), if_neg (show ¬ o.tm = 3 by omega), if_pos h]⟩
theorem dy5 {r o : Rf} (h : o.tm = 5) : dyC r o = taC r o.vt ∧ dyV r o = taV r o.vt ∧ dyR r o = r := by
  have hc : dyC r o = taC r o.vt := by unfold dyC; rw [if_neg (show ¬ o.tm = 1 by omega), if_neg (show ¬ o.tm = 2 by omega), if_neg (show ¬ o.tm = 3 by omega), if_neg (show ¬ o.tm = 4 by omega)]
  refine ⟨hc, by unfold dyV; rw [if_neg (by omega)], ?_⟩
  unfold dyR
  split
  · unfold dyN; rw [if_neg (show ¬ o.tm = 1 by omega), if_neg (show ¬ o.tm = 2 by omega), if_neg (show ¬ o.tm = 3 by omega), if_neg (show ¬ o.tm = 4 by omega)]
  · rfl
end Go.Proofs.YtlljcajfdeiigaaGreatDoor
