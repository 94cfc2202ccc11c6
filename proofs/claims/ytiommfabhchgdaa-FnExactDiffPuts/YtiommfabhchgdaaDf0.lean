/- Chapter 11: what differs between two views ('DiffPuts'): the mathematics; a map that is looked into. -/
import Derived.Test.YtiommfabhchgdaaSeenS
import Derived.Test.YtiommfabhchgdaaPo1
namespace Go.Proofs.Ytiommfabhchgdaa
open Go.RowKit Go.Maps

/-- What a list of puts leaves. -/
def lkP (ps : List (Int × List Int)) : Int → List Int := ps.foldl putM fun _ => []
/-- Does a put of the image change what is there? -/
def dfQ (vs : List (Int × List Int)) (p : Int × List Int) : Bool := decide (lkP vs p.1 ≠ p.2)
/-- Is a block taken away? -/
def goneQ (vs ps : List (Int × List Int)) (a : Int) : Bool := decide (lkP vs a ≠ []) && decide (lkP ps a = [])
def dfB (vs ps : List (Int × List Int)) (k : Nat) : List (Int × List Int) := ((([0, 1] : List Int).take k).filter (goneQ vs ps)).map fun a => (a, [])
/-- What differs. -/
def dfL (vs ps : List (Int × List Int)) : List (Int × List Int) := ps.filter (dfQ vs) ++ dfB vs ps 2
def dfC (vs ps : List (Int × List Int)) : Int := if vF vs = 0 then (if vF ps = 0 then (if 12 < (dfL vs ps).length then 2 else 0) else vF ps) else vF vs
def dfR (vs ps : List (Int × List Int)) : List (Int × List Int) := if dfC vs ps = 0 then dfL vs ps else []

theorem filt_at {α : Type} (f : α → Bool) (d : α) (L : List α) (i : Nat) (hi : i < L.length) (h : f (L.getD i d) = true) :
    ((L.take i).filter f).length < (L.filter f).length ∧ (L.filter f).getD ((L.take i).filter f).length d = L.getD i d ∧ ((L.take (i + 1)).filter f).length = ((L.take i).filter f).length + 1 := by
  have hg : L.getD i d = L[i] := by simp [List.getD, hi]
  rw [hg] at h ⊢
  have h1 : L.take (i + 1) = L.take i ++ [L[i]] := List.take_succ_eq_append_getElem hi
  have h2 : L = L.take i ++ [L[i]] ++ L.drop (i + 1) := by rw [← h1, List.take_append_drop]
  have h3 : L.filter f = (L.take i).filter f ++ [L[i]] ++ (L.drop (i + 1)).filter f := by
    conv => lhs; rw [h2]
    rw [List.filter_append, List.filter_append]
    simp [h]
  refine ⟨by rw [h3]; simp, ?_, by rw [h1, List.filter_append]; simp [h]⟩
  rw [h3]
  simp [List.getD]
theorem filt_no {α : Type} (f : α → Bool) (d : α) (L : List α) (i : Nat) (hi : i < L.length) (h : f (L.getD i d) = false) : ((L.take (i + 1)).filter f).length = ((L.take i).filter f).length := by
  have hg : L.getD i d = L[i] := by simp [List.getD, hi]
  rw [hg] at h
  rw [List.take_succ_eq_append_getElem hi, List.filter_append]
  simp [h]
theorem dfL_at {vs ps : List (Int × List Int)} {i : Nat} (hi : i < ps.length) (h : dfQ vs (ps.getD i (0, [])) = true) :
    ((ps.take i).filter (dfQ vs)).length < (dfL vs ps).length ∧ (dfL vs ps).getD ((ps.take i).filter (dfQ vs)).length (0, []) = ps.getD i (0, []) := by
  obtain ⟨h1, h2, _⟩ := filt_at (dfQ vs) (0, []) ps i hi h
  unfold dfL
  refine ⟨by rw [List.length_append]; omega, ?_⟩
  rw [← h2]
  simp only [List.getD]
  rw [List.getElem?_append_left h1]
theorem dfB_step (vs ps : List (Int × List Int)) (k : Nat) (hk : k < 2) : (dfB vs ps (k + 1)).length = (dfB vs ps k).length + (if goneQ vs ps (k : Int) then 1 else 0) ∧ (goneQ vs ps (k : Int) = true → (dfB vs ps k).length < (dfB vs ps 2).length ∧ (dfB vs ps 2).getD (dfB vs ps k).length (0, []) = ((k : Int), [])) := by
  unfold dfB
  rcases (by omega : k = 0 ∨ k = 1) with rfl | rfl
  · cases h0 : goneQ vs ps 0 <;> cases h1 : goneQ vs ps 1 <;> simp [h0, h1]
  · cases h0 : goneQ vs ps 0 <;> cases h1 : goneQ vs ps 1 <;> simp [h0, h1]
theorem dfL_gone {vs ps : List (Int × List Int)} {k : Nat} (hk : k < 2) (h : goneQ vs ps (k : Int) = true) :
    (ps.filter (dfQ vs)).length + (dfB vs ps k).length < (dfL vs ps).length ∧ (dfL vs ps).getD ((ps.filter (dfQ vs)).length + (dfB vs ps k).length) (0, []) = ((k : Int), []) := by
  obtain ⟨h1, h2⟩ := (dfB_step vs ps k hk).2 h
  unfold dfL
  refine ⟨by rw [List.length_append]; omega, ?_⟩
  rw [← h2]
  simp only [List.getD]
  rw [List.getElem?_append_right (by omega), Nat.add_sub_cancel_left]

theorem zeroWordsAt (w : World) : (zeroValue 22).run Try.prog w = .ok (.slice none 0 0) w := by kernel_rfl
/-- A block is looked up in such a map. -/
theorem SeenS.look {S : Nat → Prop} {w : World} {B n : Nat} {M : Int → List Int} (h : SeenS S w B n M) {a : Int} (h0 : 0 ≤ a) (h1 : a < 40) :
    ∃ v, (∀ w' : World, w'.heap[B]? = w.heap[B]? → (Instr.lookup 97 (.map (some B)) (.int .i64 a) false).run Try.prog w' = .ok v w') ∧ RdI S w v (M a) := by
  obtain ⟨D, hown, hD, _⟩ := h
  obtain ⟨v, hv, hr⟩ := hD a h0 h1
  refine ⟨v, fun w' hw => ?_, hr⟩
  have hown' : w'.ownsMap Try.prog 2 asIs B n D := by
    obtain ⟨es, clock, hb, F, hs, hDD⟩ := hown
    exact ⟨es, clock, hw.trans hb, F, hs, hDD⟩
  have hkey : keyOf Try.prog 2 (.int .i64 a) = some (.int .i64 a) := keyOf_int_mk Try.underlying2 (WalkArith.wf_i64 (by omega))
  obtain ⟨v', p', hrun, hv'⟩ := hown'.lookup lawI64 Try.underlying97 (zeroWordsAt w') (zd := .held (.slice none 0 0)) (zp := []) rfl hkey
  rw [hv] at hv'
  have e : v' = v := by
    simp only [asIs, Option.some.injEq, Prod.mk.injEq, DataW.held.injEq] at hv'
    exact hv'.1
  rw [← e]
  exact hrun
end Go.Proofs.Ytiommfabhchgdaa
