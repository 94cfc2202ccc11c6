/- Chapter 5: the codes that PutsOf asks, the program's side, walked. -/
import Derived.Test.YtiommfabhchgdaaApplyI
import Derived.Test.YtiommfabhchgdaaObS
import Derived.Test.YtiommfabhchgdaaObj1
namespace Go.Proofs.Ytiommfabhchgdaa
open Go.RowKit Go.Maps

/-- The code of a view; the code of a list of objects. -/
def vF (vs : List (Int × List Int)) : Int := if hpF 60 vs = 0 then (if isVw vs then 0 else 1) else hpF 60 vs
def firstJ : List Oj → Int
  | [] => 0
  | o :: r => if objF o.1 o.2.1 o.2.2 = 0 then firstJ r else objF o.1 o.2.1 o.2.2
def ojsF (os : List Oj) : Int := if 12 < os.length then 2 else firstJ os
theorem firstJ_drop (os : List Oj) (k : Nat) (h : k < os.length) : firstJ (os.drop k) = if objF (os.getD k oj0).1 (os.getD k oj0).2.1 (os.getD k oj0).2.2 = 0 then firstJ (os.drop (k + 1)) else objF (os.getD k oj0).1 (os.getD k oj0).2.1 (os.getD k oj0).2.2 := by
  rw [List.drop_eq_getElem_cons h, firstJ]
  have e : os.getD k oj0 = os[k] := by simp [List.getD, h]
  rw [e]
theorem firstJ_all : ∀ {os : List Oj}, firstJ os = 0 → ∀ i, i < os.length → objF (os.getD i oj0).1 (os.getD i oj0).2.1 (os.getD i oj0).2.2 = 0
  | [], _, i, hi => absurd hi (Nat.not_lt_zero _)
  | o :: r, h, i, hi => by
    rw [firstJ] at h
    by_cases e : objF o.1 o.2.1 o.2.2 = 0
    · rw [if_pos e] at h
      cases i with
      | zero => exact e
      | succ i => simpa using firstJ_all h i (by simpa using hi)
    · rw [if_neg e] at h; exact absurd h e
theorem RdJ.at {S : Nat → Prop} {w : World} {ao : Option Addr} {n c k : Nat} {os : List Oj} (h : RdJ S w (.slice ao n c) os) (hk : k < os.length) :
    ∃ b off v, ao = some ⟨b, off, none⟩ ∧ w.cell? ⟨b, off + k * 3, none⟩ = some (.int .i64 (os.getD k oj0).1) ∧ w.cell? ⟨b, off + k * 3 + 1, none⟩ = some (.int .i64 (os.getD k oj0).2.1) ∧ w.cell? ⟨b, off + k * 3 + 2, none⟩ = some v ∧ RdI S w v (os.getD k oj0).2.2 := by
  obtain ⟨ao', c', e, _, h3⟩ := h
  injection e with e1 e2 e3
  subst e1
  obtain ⟨b, off, V, e, _, hc⟩ := h3 (by rintro rfl; exact absurd hk (Nat.not_lt_zero _))
  obtain ⟨k0, k1, k2, k3⟩ := hc k hk
  exact ⟨b, off, V k, e, k0, k1, k2, k3⟩

theorem viewFaultP {S : Nat → Prop} {w : World} {u : Value} {vs : List (Int × List Int)} (hu : RdP S w u vs) :
    Calls Try.prog 38 #[u] w fun e w' => e = .returned (.int .i64 (vF vs)) ∧ Below w.heap.size w w' := by
  obtain ⟨au, cu, rfl, _⟩ := hu.shape
  have HU := hide (homePutsFault 60 hu)
  have HI := hide (fun (w' : World) (hb : Below w.heap.size w w') => isViewP (hu.later hb))
  have HV : Hid (vF vs = if hpF 60 vs = 0 then (if isVw vs then 0 else 1) else hpF 60 vs) := rfl
  clear hu
  generalize hpF 60 vs = p at HU HV
  generalize vF vs = C at HV ⊢
  by_cases h0 : p = 0
  · subst h0
    go_enter Try.func38, Try.ntmps38
    go_wp2_with fail
    refine HU.out.mono ?_
    rintro e w1 ⟨rfl, hb1⟩
    have HB1 := hide hb1
    clear hb1
    go_wp2_with fail
    refine (HI.out _ HB1.out).mono ?_
    rintro e w2 ⟨⟨r, rfl, hr⟩, hb2⟩
    have HB2 := hide (below_on HB1.out hb2)
    have HRr := hide hr
    clear hb2 hr
    cases r with
    | true =>
      have hC : C = 0 := by have h := HV.out; have h2 := HRr.out.1 rfl; simpa [h2] using h
      subst hC
      clear HRr
      go_wp2
      go_ret
      exact ⟨rfl, HB2.out⟩
    | false =>
      have hC : C = 1 := by have h := HV.out; have h2 : ¬ isVw vs := fun h => (by have := HRr.out.2 h; cases this); simpa [h2] using h
      subst hC
      clear HRr
      go_wp2
      go_ret
      exact ⟨rfl, HB2.out⟩
  · have hC : C = p := by rw [HV.out, if_neg h0]
    subst hC
    go_enter Try.func38, Try.ntmps38
    go_wp2_with fail
    refine HU.out.mono ?_
    rintro e w1 ⟨rfl, hb1⟩
    have HB1 := hide hb1
    clear hb1
    go_wp2
    go_ret
    exact ⟨rfl, HB1.out⟩

end Go.Proofs.Ytiommfabhchgdaa
