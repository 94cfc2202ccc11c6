/- The laws' helpers over Header and HeaderResult. Made by program (genflat.py). -/
import Derived.Test.YtiommfabhchgdaaIv
import Derived.Test.YtiommfabhchgdaaSz
import Derived.Test.YtiommfabhchgdaaHeld
import Derived.Test.YtiommfabhchgdaaMark
namespace Go.Proofs.Ytiommfabhchgdaa
open Go.RowKit

theorem markIMk {lo hi : Nat} {w : World} {u : Value} {xs : List Int} {k : Int} (hu : IvI lo hi w u xs) (hk0 : 0 ≤ k) (hk : k + (xs.length : Int) ≤ 9223372036854775807) :
    Calls Try.prog 31 #[u, .int .i64 k] w fun e w' => e = .returned (.int .i64 (k + (xs.length : Int))) ∧ MkI k lo hi w' u xs.length ∧ Wr (fun b => lo ≤ b ∧ b < hi) w w' := by
  obtain ⟨b, h1, h2⟩ := hu
  refine (markI h1 (fun hne => (h2 hne).2.2.2) hk0 hk).mono fun e w' ⟨he, hr, hw⟩ => ⟨he, RdI.narrow hr (fun hne y hy => ?_), hw.mono fun y ⟨e, hne⟩ => e ▸ ⟨(h2 hne).1, (h2 hne).2.1⟩⟩
  subst hy
  have hne' : xs ≠ [] := by rintro rfl; exact hne rfl
  exact ⟨(h2 hne').1, (h2 hne').2.1⟩
theorem heldI' {lo hi : Nat} {w : World} {u : Value} {n : Nat} {k : Int} (hu : MkI k lo hi w u n) (hk0 : 0 ≤ k) (hk : k + (n : Int) ≤ 9223372036854775807) :
    Calls Try.prog 61 #[u, .int .i64 k] w fun e w' => e = .returned (.int .i64 (k + (n : Int))) ∧ Below w.heap.size w w' :=
  (heldI hu hk0 hk).mono (by rintro e w' ⟨he, q, rfl⟩; exact ⟨he, below_drewN _ _⟩)

end Go.Proofs.Ytiommfabhchgdaa
