/- The walks of the laws' functions that ask whether marks still stand. -/
import Derived.Test.YtigmichjpaeedaaBase
namespace Go.Proofs.Ytigmichjpaeedaa
open Go.RowKit

theorem heldI_cells (n b off c : Nat) (k : Int) (w : World) (hm : n ≤ 9223372036854775807) (hk0 : 0 ≤ k) (hk : k + (n : Int) ≤ 9223372036854775807)
    (hx : ∀ i, i < n → w.cell? ⟨b, off + i, none⟩ = some (.int .i64 (k + (i : Int)))) :
    Calls Try.prog 44 #[.slice (some ⟨b, off, none⟩) n c, .int .i64 k] w fun e w' =>
      e = .returned (.int .i64 (k + (n : Int))) ∧ ∃ q, w' = w.drewN q := by
  go_enter Try.func44, Try.ntmps44
  go_wp2
  go_loopw [1, 5] (fun t i wr => ∃ j q : Nat, j ≤ n ∧ t = .int .i64 (k + (j : Int)) ∧ i = .int .i64 j ∧ wr = w.drewN q) (fun _ i _ => n - (intOf i).toNat)
  case atStart => exact ⟨0, 0, Nat.zero_le _, by simp, rfl, rfl⟩
  case round =>
    obtain ⟨j, q, hj, rfl, rfl, rfl⟩ := hrel
    by_cases hlt : j < n
    · have g1 := hx j hlt
      go_wp2
      go_roundw
      case rel => exact ⟨j + 1, _, by omega, by go_num, by go_num, rfl⟩
      case measure => simp [intOf]; omega
    · have : j = n := by omega
      subst this
      go_wp2
      go_ret
      exact ⟨rfl, _, rfl⟩

theorem heldI_none (ao : Option Addr) (c : Nat) (k : Int) (w : World) :
    Calls Try.prog 44 #[.slice ao 0 c, .int .i64 k] w fun e w' => e = .returned (.int .i64 k) ∧ ∃ q, w' = w.drewN q := by
  go_enter Try.func44, Try.ntmps44
  go_wp2
  go_loopw [1, 5] (fun t i wr => t = .int .i64 k ∧ i = .int .i64 0 ∧ wr = w) (fun _ _ _ => 0)
  case atStart => exact ⟨rfl, rfl, rfl⟩
  case round =>
    obtain ⟨rfl, rfl, rfl⟩ := hrel
    go_wp2
    go_ret
    exact ⟨rfl, 0, rfl⟩

/-- 'heldInt64S' of a slice whose marks stand. -/
theorem heldI {S : Nat → Prop} {w : World} {v : Value} {n : Nat} {k : Int} (hv : RdI S w v (mkI k n)) (hk0 : 0 ≤ k) (hk : k + (n : Int) ≤ 9223372036854775807) :
    Calls Try.prog 44 #[v, .int .i64 k] w fun e w' =>
      e = .returned (.int .i64 (k + (n : Int))) ∧ ∃ q, w' = w.drewN q := by
  obtain ⟨ao, c, rfl, hm, h⟩ := hv
  rw [mkI_len] at hm h ⊢
  cases n with
  | zero => exact (heldI_none _ _ _ _).mono fun e w' ⟨he, hw⟩ => ⟨by simpa using he, hw⟩
  | succ n =>
    obtain ⟨b, off, rfl, _, hc⟩ := h (by simp [mkI, List.range_succ])
    exact heldI_cells _ b off _ k w hm hk0 hk (fun i hi => by rw [hc i hi, mkI_at _ _ _ hi])

end Go.Proofs.Ytigmichjpaeedaa
