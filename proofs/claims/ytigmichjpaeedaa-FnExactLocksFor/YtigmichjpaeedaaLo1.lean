/- Chapter 12: the blocks that an operation locks, rising. -/
import Derived.Test.YtigmichjpaeedaaEn6
import Derived.Test.YtigmichjpaeedaaOp2
namespace Go.Proofs.Ytigmichjpaeedaa
open Go.RowKit

def lkH (a : Int) : List Int := if a = 3 ∨ a = 4 then [0, 1] else []
def lkS (ps : List Oj) : List Int := ps.map fun e => 24 + e.1 % 14
/-- As they are collected by the program. -/
def lkU (a : Int) (ps : List Oj) : List Int := 2 :: (lkH a ++ lkS ps)
/-- Those of s that are a, a + 1, .., one behind the other. -/
def lkG (s : List Int) : Nat → Int → List Int
  | 0, _ => []
  | n + 1, a => s.filter (fun x => x == a) ++ lkG s n (a + 1)
/-- As they are collected by the model. -/
def lkM (a : Int) (ps : List Oj) : List Int := lkH a ++ (2 :: lkG (lkS ps) 14 24)
def lkQ (a : Int) (ps : List Oj) : List Int := (lkU a ps).mergeSort (fun x y => decide (x ≤ y))
theorem lkQ_up (a : Int) (ps : List Oj) : (lkQ a ps).Pairwise (· ≤ ·) := by
  have h := List.pairwise_mergeSort (le := fun (x y : Int) => decide (x ≤ y)) (fun a b c h1 h2 => by simp at *; omega) (fun a b => by simp; omega) (lkU a ps)
  exact h.imp (fun h => by simpa using h)
theorem lkG_mem (s : List Int) : ∀ (n : Nat) (a x : Int), x ∈ lkG s n a → a ≤ x ∧ x < a + n
  | 0, a, x, h => by simp [lkG] at h
  | n + 1, a, x, h => by
    rw [lkG, List.mem_append] at h
    rcases h with h | h
    · have := (List.mem_filter.1 h).2
      simp at this
      omega
    · have := lkG_mem s n (a + 1) x h
      push_cast
      omega
theorem lkG_up (s : List Int) : ∀ (n : Nat) (a : Int), (lkG s n a).Pairwise (· ≤ ·)
  | 0, a => by simp [lkG]
  | n + 1, a => by
    rw [lkG, List.pairwise_append]
    refine ⟨?_, lkG_up s n (a + 1), fun x hx y hy => ?_⟩
    · refine List.Pairwise.imp_of_mem (R := fun _ _ => True) (fun {x y} hx hy _ => ?_) (List.pairwise_of_forall (fun _ _ => trivial))
      have h1 := (List.mem_filter.1 hx).2
      have h2 := (List.mem_filter.1 hy).2
      simp at h1 h2
      omega
    · have h1 := (List.mem_filter.1 hx).2
      have h2 := lkG_mem s n (a + 1) y hy
      simp at h1
      omega
theorem lkG_perm (s : List Int) : ∀ (n : Nat) (a : Int), (lkG s n a).Perm (s.filter fun x => decide (a ≤ x ∧ x < a + n))
  | 0, a => by
    have : s.filter (fun x => decide (a ≤ x ∧ x < a + (0 : Nat))) = [] := by
      rw [List.filter_eq_nil_iff]
      intro x _
      simp
      try omega
    rw [this, lkG]
  | n + 1, a => by
    rw [lkG]
    have h1 := List.filter_append_perm (fun x => x == a) (s.filter fun x => decide (a ≤ x ∧ x < a + ((n + 1 : Nat) : Int)))
    rw [List.filter_filter, List.filter_filter] at h1
    have e1 : s.filter (fun x => (x == a) && decide (a ≤ x ∧ x < a + ((n + 1 : Nat) : Int))) = s.filter (fun x => x == a) := by
      apply List.filter_congr
      intro x _
      by_cases hx : x = a
      · subst hx; simp; omega
      · simp [hx]
    have e2 : s.filter (fun x => (!(x == a)) && decide (a ≤ x ∧ x < a + ((n + 1 : Nat) : Int))) = s.filter (fun x => decide (a + 1 ≤ x ∧ x < a + 1 + (n : Int))) := by
      apply List.filter_congr
      intro x _
      by_cases hx : x = a
      · subst hx; simp; omega
      · have hb : (x == a) = false := by simpa using hx
        rw [hb]
        simp only [Bool.not_false, Bool.true_and, decide_eq_decide]
        push_cast
        omega
    rw [e1, e2] at h1
    exact ((List.Perm.refl _).append (lkG_perm s n (a + 1))).trans h1
theorem lkS_in (ps : List Oj) : ∀ x, x ∈ lkS ps → 24 ≤ x ∧ x < 38 := fun x hx => by
  obtain ⟨e, _, rfl⟩ := List.mem_map.1 hx
  omega
theorem lkM_eq (a : Int) (ps : List Oj) : lkM a ps = lkQ a ps := by
  have hp : (lkG (lkS ps) 14 24).Perm (lkS ps) := by
    refine (lkG_perm (lkS ps) 14 24).trans ?_
    rw [List.filter_eq_self.2 (fun x hx => by have := lkS_in ps x hx; simp; omega)]
  have hperm : (lkM a ps).Perm (lkU a ps) := by
    unfold lkM lkU
    refine List.perm_middle.trans ?_
    exact ((List.Perm.refl (lkH a)).append hp).cons 2
  refine List.Perm.eq_of_pairwise (le := fun x y : Int => x ≤ y) (fun x y _ _ h1 h2 => by omega) ?_ (lkQ_up a ps) (hperm.trans (List.mergeSort_perm _ _).symm)
  unfold lkM
  rw [List.pairwise_append]
  refine ⟨by unfold lkH; split <;> simp, ?_, ?_⟩
  · rw [List.pairwise_cons]
    exact ⟨fun y hy => by have := lkG_mem _ _ _ _ hy; omega, lkG_up _ _ _⟩
  · intro x hx y hy
    have hx2 : x ≤ 1 := by
      unfold lkH at hx
      split at hx
      · simp at hx; omega
      · simp at hx
    rcases List.mem_cons.1 hy with rfl | hy
    · omega
    · have := lkG_mem _ _ _ _ hy; omega
theorem lkU_len (a : Int) (ps : List Oj) : (lkU a ps).length ≤ 3 + ps.length := by
  unfold lkU lkH lkS
  split <;> simp <;> omega
theorem lkQ_len (a : Int) (ps : List Oj) : (lkQ a ps).length = (lkU a ps).length := (List.mergeSort_perm _ _).length_eq
theorem lkS_take (ps : List Oj) (k : Nat) (h : k < ps.length) : lkS (ps.take (k + 1)) = lkS (ps.take k) ++ [24 + (ps.getD k oj0).1 % 14] := by
  have e : (ps.getD k oj0) = ps[k] := by simp [List.getD, h]
  rw [e, List.take_succ_eq_append_getElem h]
  unfold lkS
  rw [List.map_append]
  rfl
/-- The answer: the fault, and the blocks where there is none. -/
def lkA (r : Rf) : List Int := if opF r = 0 then lkQ r.tm r.lg else []
theorem lkA_ok {r : Rf} (h : opF r = 0) : lkA r = lkQ r.tm r.lg := by unfold lkA; rw [if_pos h]
theorem lkA_no {r : Rf} (h : opF r ≠ 0) : lkA r = [] := by unfold lkA; rw [if_neg h]
theorem lkA_len (r : Rf) : (lkA r).length ≤ 7 := by
  by_cases h : opF r = 0
  · rw [lkA_ok h, lkQ_len]
    have := lkU_len r.tm r.lg
    have := (opF_ok h).2.1
    omega
  · rw [lkA_no h]; simp
theorem op_index {r : Rf} (h : opF r = 0) (k : Nat) (hk : k < r.lg.length) : 1 ≤ (r.lg.getD k oj0).1 ∧ (r.lg.getD k oj0).1 ≤ 9999 := (entF_zero ((logF_iff.1 (opF_ok h).2.2.2).2.1 k hk)).1.1
/-- The variable of a code with a list, at r, new and not yet written. -/
structure ResL (w wr : World) (r : Nat) : Prop where
  below : Below w.heap.size w wr
  v : Var2 wr r (.int .i64 0) (.slice none 0 0)
  fr : ∀ o, wr.frozen? ⟨r, o, none⟩ = false
  ge : w.heap.size ≤ r
theorem ResL.later {w wr w1 : World} {r : Nat} (h : ResL w wr r) (hb : Below wr.heap.size wr w1) : ResL w w1 r := ⟨below_on h.below hb, h.v.later hb, fun o => ((bcell hb).2 _ _ h.v.lt).trans (h.fr o), h.ge⟩
theorem ResL.start (w : World) (o : Obj) (t : TypeId) : ResL w ((w.alloc o).alloc (.cells #[.int .i64 0, .slice none 0 0] t)) (w.heap.size + 1) := by
  have h := Var2_new (w.alloc o) (.int .i64 0) (.slice none 0 0) t
  rw [World.size_alloc] at h
  exact ⟨below_on (below_alloc _ _) (below_alloc _ _), h, fun q => by simp [go_sem], by omega⟩
theorem ret_list {w w3 : World} {r : Nat} {x0 y : Value} {xs : List Int} (hb : Below w.heap.size w w3) (hr : w.heap.size ≤ r) (ho : OwI (r + 1) w3 y xs) :
    Below w.heap.size w ((w3.setCell ⟨r, 0, none⟩ x0).setCell ⟨r, 1, none⟩ y) ∧ OwI w.heap.size ((w3.setCell ⟨r, 0, none⟩ x0).setCell ⟨r, 1, none⟩ y) y xs := by
  have hw : Wr (fun q => q = r) w3 ((w3.setCell ⟨r, 0, none⟩ x0).setCell ⟨r, 1, none⟩ y) := ((Wr.refl (fun q => q = r) _).setCell (p := ⟨r, 0, none⟩) rfl _).setCell (p := ⟨r, 1, none⟩) rfl _
  exact ⟨(hb.setCell (p := ⟨r, 0, none⟩) hr _).setCell (p := ⟨r, 1, none⟩) hr _, (ho.wr hw (fun b hb _ => by omega)).mono (by omega)⟩
end Go.Proofs.Ytigmichjpaeedaa
