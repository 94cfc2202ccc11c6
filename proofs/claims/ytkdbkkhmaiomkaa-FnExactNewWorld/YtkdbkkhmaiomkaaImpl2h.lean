/- Chapter 2, the program's side: 'impl.headerPlace', 'impl.headerAt', 'impl.HeaderIn', walked. -/
import Derived.Test.YtkdbkkhmaiomkaaImpl2f
import Derived.Test.YtkdbkkhmaiomkaaImpl2g
import Derived.Test.YtkdbkkhmaiomkaaSpec2g
namespace Go.Proofs.Ytkdbkkhmaiomkaa
open Go.RowKit

theorem headerPlace (s : Int) (h : 0 ≤ s) (w : World) : Calls Try.prog 18 #[.int .i64 s] w fun e w' => e = .returned (.int .i64 (s % 2)) ∧ w' = w := by
  have hmod : Int.tmod s 2 = s % 2 := Int.tmod_eq_emod_of_nonneg h
  go_enter Try.func18, Try.ntmps18
  go_wp2
  go_ret
  exact ⟨rfl, rfl⟩

/-- The fault of a disk that must have 66 blocks. -/
def sizedF (xss : List (List Int)) (ps : List (Int × List Int)) : Int := if diskF xss ps = 0 then (if xss.length = 66 then 0 else 1) else diskF xss ps

theorem set4_far {w : World} {b h o : Nat} {x y z u : Value} (hb : b ≠ h) : ((((w.setCell ⟨h, 0, none⟩ x).setCell ⟨h, 1, none⟩ y).setCell ⟨h, 2, none⟩ z).setCell ⟨h, 3, none⟩ u).cell? ⟨b, o, none⟩ = w.cell? ⟨b, o, none⟩ := by
  rw [World.cell?_setCell_other _ _ _ _ (by intro e; injection e with e1 _; exact hb e1.symm), World.cell?_setCell_other _ _ _ _ (by intro e; injection e with e1 _; exact hb e1.symm), World.cell?_setCell_other _ _ _ _ (by intro e; injection e with e1 _; exact hb e1.symm), World.cell?_setCell_other _ _ _ _ (by intro e; injection e with e1 _; exact hb e1.symm)]

end Go.Proofs.Ytkdbkkhmaiomkaa
