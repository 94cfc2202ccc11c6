/- What a block holds if just so much of what was put is there: 'spec.l1Half', 'spec.l1Tear', walked. -/
import Derived.Test.YtiommfabhchgdaaCopy
import Derived.Test.YtiommfabhchgdaaFault
import Derived.Deep.AppendLies
namespace Go.Proofs.Ytiommfabhchgdaa
open Go.RowKit

theorem l1Min_any (a b : Int) (w : World) :
    Calls Try.prog 46 #[.int .i64 a, .int .i64 b] w fun e w' => e = .returned (.int .i64 (if a < b then a else b)) ∧ w' = w := by
  by_cases h : a < b
  · rw [if_pos h]
    go_enter Try.func46, Try.ntmps46
    go_wp2
    go_ret
    exact ⟨rfl, rfl⟩
  · rw [if_neg h]
    go_enter Try.func46, Try.ntmps46
    go_wp2
    go_ret
    exact ⟨rfl, rfl⟩

theorem RdI_nil (S : Nat → Prop) (w : World) (ao : Option Addr) (c : Nat) : RdI S w (.slice ao 0 c) [] := ⟨ao, c, by simp, by simp, fun h => absurd rfl h⟩

/-- What a block holds behind a tear. -/
def tearA (old next : List Int) (pick : Int) : List Int := if pick = 1 ∨ pick = 2 then next.take 32 else old.take 32
def tearB (old next : List Int) (pick : Int) : List Int := if pick = 1 ∨ pick = 3 then next.drop 32 else old.drop 32
/-- a, filled up with words 0 where b is not empty, and b behind it. -/
def joinT (a b : List Int) : List Int := if b = [] then a else a ++ List.replicate (32 - a.length) 0 ++ b
def tear (old next : List Int) (pick : Int) : List Int := joinT (tearA old next pick) (tearB old next pick)

theorem ownsRow_shape {w : World} {B e z n : Nat} {v : Value} {xs : List Value} (h : w.ownsRow B e z v n xs) : ∃ ao c, v = .slice ao n c := by
  rcases h.2 with ⟨rfl, e⟩ | ⟨g, cap, cur, rfl, _⟩
  · exact ⟨none, 0, by rw [e]⟩
  · exact ⟨_, _, rfl⟩

theorem snoc_zero (a : List Int) (j : Nat) : (a ++ List.replicate (j + 1) 0).map (Value.int .i64) = a.map (Value.int .i64) ++ (List.replicate j (.int .i64 0) ++ [.int .i64 0]) := by
  rw [List.replicate_succ']
  simp


/-- How long the slice in a slot is. -/
def sliceLen : Value → Nat
  | .slice _ n _ => n
  | _ => 0

theorem joinT_none (a : List Int) : joinT a [] = a := by unfold joinT; rw [if_pos rfl]
theorem joinT_some {a b : List Int} (h : b ≠ []) : joinT a b = a ++ List.replicate (32 - a.length) 0 ++ b := by unfold joinT; rw [if_neg h]

theorem tear_all {old next : List Int} (h : next.length ≤ 64) : tear old next 1 = next := by
  unfold tear tearA tearB
  rw [if_pos (Or.inl rfl), if_pos (Or.inl rfl)]
  by_cases hd : next.drop 32 = []
  · rw [hd, joinT_none]
    exact List.take_of_length_le (by have := congrArg List.length hd; simp at this; omega)
  · rw [joinT_some hd]
    have hl : 32 < next.length := by
      apply Nat.lt_of_not_le
      intro hle
      exact hd (List.drop_eq_nil_of_le hle)
    have e : (next.take 32).length = 32 := by simp; omega
    rw [e]
    simp

theorem tear_len {old next : List Int} {p : Int} (h1 : old.length ≤ 64) (h2 : next.length ≤ 64) : (tear old next p).length ≤ 64 := by
  have hA : (tearA old next p).length ≤ 32 := by unfold tearA; split <;> simp <;> omega
  have hB : (tearB old next p).length ≤ 32 := by unfold tearB; split <;> simp <;> omega
  unfold tear joinT
  split
  · omega
  · simp; omega
theorem RdI.at {S : Nat → Prop} {w : World} {ao : Option Addr} {n c : Nat} {xs : List Int} (h : RdI S w (.slice ao n c) xs) {k : Nat} (hk : k < xs.length) : ∃ b off, ao = some ⟨b, off, none⟩ ∧ w.cell? ⟨b, off + k, none⟩ = some (.int .i64 (xs.getD k 0)) := by
  obtain ⟨ao', c', e1, e2, e3⟩ := h
  obtain ⟨b, off, f1, f2, f3⟩ := e3 (by rintro rfl; simp at hk)
  injection e1 with e1 _ _
  exact ⟨b, off, by rw [e1, f1], f3 k hk⟩
end Go.Proofs.Ytiommfabhchgdaa
