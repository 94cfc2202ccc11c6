/- Chapter 10: a store copied; held; a code with a store marked and held. -/
import Derived.Test.YtigmichjpaeedaaRa
namespace Go.Proofs.Ytigmichjpaeedaa
open Go.RowKit
theorem IvR_made {lo1 C lo : Nat} {w w' : World} {y z : Value} {xs : List Int} {ps : List Oj} (ho : IvI lo1 C w y xs) (hj : OwJ (fun b => C ≤ b ∧ b < w.heap.size) w z ps) (h1 : lo ≤ lo1) (h2 : lo1 ≤ C) (hw : Wr (fun b => b < lo1) w w') : IvR lo w'.heap.size w' y z xs ps := by
  obtain ⟨b, k1, k2⟩ := ho
  refine ⟨b, fun b => C ≤ b ∧ b < w.heap.size, k1.wr hw (fun hn x hx e => by subst hx; have := (k2 hn).1; omega), fun hn => ?_, Nat.le_refl _, fun x hx => ⟨by omega, Nat.lt_of_lt_of_le hx.2 hw.size⟩, hj.wr hw fun x hx e => by omega⟩
  obtain ⟨g1, g2, g3, g4⟩ := k2 hn
  exact ⟨by omega, Nat.lt_of_lt_of_le g3 hw.size, fun h => by omega, fun o => (hw.frz _ _ g3).trans (g4 o)⟩


end Go.Proofs.Ytigmichjpaeedaa
