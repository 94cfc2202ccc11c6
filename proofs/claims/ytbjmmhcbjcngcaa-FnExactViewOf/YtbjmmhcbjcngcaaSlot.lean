/- Chapter 3: slots that go round: 'slotFrom', 'l3Slot', 'SlotOf' of the model and of the program, walked. -/
import Derived.Test.YtbjmmhcbjcngcaaImpl2
import Derived.Test.YtbjmmhcbjcngcaaSpec2
import Derived.Test.YtbjmmhcbjcngcaaHd
namespace Go.Proofs.Ytbjmmhcbjcngcaa
open Go.RowKit

theorem slot_mod {t i : Int} (h1 : 0 ≤ t) (h2 : 0 ≤ i) : Int.tmod (t + i) 24 = (t + i) % 24 := Int.tmod_eq_emod_of_nonneg (by omega)

/-- 'impl.slotFrom' of a header that has no fault. -/
theorem slotFrom (s t i : Int) (y : Value) (w : World) (ht : 0 ≤ t) (ht' : t ≤ 23) (hi : 0 ≤ i) (hi' : i ≤ 1048576) :
    Calls Try.prog 54 #[.agg #[.int .i64 s, .int .i64 t, y], .int .i64 i] w fun e w' => e = .returned (.int .i64 ((t + i) % 24)) ∧ Below w.heap.size w w' := by
  have hmod := slot_mod ht hi
  go_enter Try.func54, Try.ntmps54
  go_wp2
  go_ret
  exact ⟨rfl, below_alloc _ _⟩

/-- 'spec.l3Slot' of a header that has no fault. -/
theorem l3Slot {b o : Nat} {s t : Int} {y : Value} (i : Int) (w : World) (hd : HdAt w b o s t y) (ht : 0 ≤ t) (ht' : t ≤ 23) (hi : 0 ≤ i) (hi' : i ≤ 1048576) :
    Calls Try.prog 50 #[.pointer (some ⟨b, o, none⟩), .int .i64 i] w fun e w' => e = .returned (.int .i64 ((t + i) % 24)) ∧ w' = w := by
  have hmod := slot_mod ht hi
  have c1 := hd.start
  clear hd
  go_enter Try.func50, Try.ntmps50
  go_wp2
  go_ret
  exact ⟨rfl, rfl⟩

/-- The code of 'SlotOf', and its value. -/
def slF (s t : Int) (xs : List Int) (i : Int) : Int := if headF s t xs = 0 then (if 0 ≤ i ∧ i ≤ 23 then 0 else 3) else headF s t xs
def slV (s t : Int) (xs : List Int) (i : Int) : Int := if slF s t xs i = 0 then (t + i) % 24 else 0

end Go.Proofs.Ytbjmmhcbjcngcaa
