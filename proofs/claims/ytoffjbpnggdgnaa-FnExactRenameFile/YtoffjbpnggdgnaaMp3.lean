/- Chapter 7: 'IsUsed' of the program and of the model, walked. -/
import Derived.Test.YtoffjbpnggdgnaaMp2
namespace Go.Proofs.Ytoffjbpnggdgnaa
open Go.RowKit

theorem ret_boolM {a b : Bool} (h : a = b) : Ending.returned (.bool a) = .returned (.bool b) := by rw [h]
/-- Whether a block is in use. -/
def usedB (xs : List Int) (x : Int) : Bool := decide (mapF xs = 0) && decide (x ∈ xs)

set_option maxHeartbeats 1000000 in
set_option maxRecDepth 4000 in
theorem l7Among {S : Nat → Prop} {w : World} {u : Value} {xs : List Int} (x : Int) (hu : RdI S w u xs) :
    Calls Try.prog 37 #[u, .int .i64 x] w fun e w' => w' = w ∧ e = .returned (.bool (decide (x ∈ xs))) := by
  have hml := hu.max
  obtain ⟨au, cu, rfl⟩ := hu.shape
  have HU := hide hu
  obtain ⟨n, hn⟩ : ∃ n, xs.length = n := ⟨_, rfl⟩
  have HN := hide hn
  rw [hn] at HU hml ⊢
  clear hu hn
  obtain ⟨B, hB⟩ : ∃ B, decide (x ∈ xs) = B := ⟨_, rfl⟩
  rw [hB]
  have HB := hide hB
  clear hB
  go_enter Try.func37, Try.ntmps37
  go_wp2
  go_loopw [5] (fun i wr => ∃ k : Nat, k ≤ n ∧ i = .int .i64 (k : Int) ∧ Hid (∀ j, j < k → xs.getD j 0 ≠ x) ∧ wr = w) (fun i _ => n - (RowKit.intOf i).toNat)
  case atStart => exact ⟨0, Nat.zero_le _, rfl, fun j hj => absurd hj (Nat.not_lt_zero _), rfl⟩
  case round =>
    obtain ⟨k, hk, rfl, HA, rfl⟩ := hrel
    by_cases hlt : k < n
    · obtain ⟨b, off, rfl, q1⟩ := HU.out.at (k := k) (by rw [HN.out]; exact hlt)
      obtain ⟨y, hy⟩ : ∃ y, xs.getD k 0 = y := ⟨_, rfl⟩
      rw [hy] at q1
      have HY := hide hy
      have hk0 : (0 : Int) ≤ (k : Int) := by omega
      have hk1 : (k : Int) < (n : Int) := by omega
      clear hy
      by_cases hxy : y = x
      · subst hxy
        have HIn : Hid (true = B) := by
          rw [Hid, ← HB.out]
          refine (decide_eq_true ?_).symm
          rw [← HY.out]
          simp [List.getD, show k < xs.length by rw [HN.out]; exact hlt]
        go_wp2
        go_ret
        exact ⟨rfl, ret_boolM HIn.out⟩
      · have HA' : Hid (∀ j, j < k + 1 → xs.getD j 0 ≠ x) := fun j hj => by
          by_cases e : j = k
          · subst e; rw [HY.out]; exact hxy
          · exact HA.out j (by omega)
        have hxb : (y == x) = false := by simpa using hxy
        go_wp2
        go_roundw
        case rel => exact ⟨k + 1, hlt, by go_num, HA'.out, by first | rfl | trivial⟩
        case measure => simp [RowKit.intOf]; omega
    · have hkn : k = n := by omega
      subst hkn
      have HNo : Hid (false = B) := by
        rw [Hid, ← HB.out]
        refine (decide_eq_false fun h => ?_).symm
        obtain ⟨j, hj⟩ := List.mem_iff_getElem?.1 h
        have hl := (List.getElem?_eq_some_iff.1 hj).1
        exact HA.out j (by rw [HN.out] at hl; exact hl) (by simp [List.getD, hj])
      go_wp2
      go_ret
      exact ⟨rfl, ret_boolM HNo.out⟩

end Go.Proofs.Ytoffjbpnggdgnaa
