/- Chapter 9: entries among the arguments; a code with entries. Made by program (genen.py). -/
import Derived.Test.YtebgonaiodblhaaEnZ
import Derived.Test.YtebgonaiodblhaaObV
namespace Go.Proofs.Ytebgonaiodblhaa
open Go.RowKit


/-- What a call that ends in a code and entries is to leave. -/
def EndsEn (x : Int) (rs : List Oj) (w : World) (e : Ending) (w' : World) : Prop :=
  ∃ z, e = .returned (.agg #[.int .i64 x, z]) ∧ Below w.heap.size w w' ∧ OwJ (fun b => w.heap.size ≤ b ∧ b < w'.heap.size) w' z rs

theorem szEnU {S : Nat → Prop} {w : World} {v : Value} {ps : List Oj} {left : Int} (hv : RdJ S w v ps) (h0 : 0 ≤ left) (h1 : left ≤ 1048576) :
    Calls Try.prog 20 #[v, .int .i64 left] w fun e w' => e = .returned (.int .i64 (szv left (szU ps))) ∧ Below w.heap.size w w' := szEn hv h0 h1

theorem IvJ.monoE {lo hi lo' : Nat} {w : World} {v : Value} {ps : List Oj} (h : IvJ lo hi w v ps) (h1 : lo' ≤ lo) : IvJ lo' hi w v ps := by
  obtain ⟨S, k0, k1, k2⟩ := h
  exact ⟨S, k0, fun b hb => ⟨Nat.le_trans h1 (k1 b hb).1, (k1 b hb).2⟩, k2⟩
end Go.Proofs.Ytebgonaiodblhaa
