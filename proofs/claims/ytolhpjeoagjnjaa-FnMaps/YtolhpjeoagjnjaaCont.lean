/- slices.Index, slices.Contains over numbers, walked. -/
import Derived.Test.YtolhpjeoagjnjaaIv
import Derived.Test.YtolhpjeoagjnjaaTear
namespace Go.Proofs.Ytolhpjeoagjnjaa
open Go.RowKit

set_option maxHeartbeats 1000000 in
set_option maxRecDepth 4000 in
theorem indexI {S : Nat → Prop} {w : World} {u : Value} {xs : List Int} (x : Int) (hu : RdI S w u xs) :
    Calls Try.prog 60 #[u, .int .i64 x] w fun e w' => w' = w ∧ ((e = .returned (.int .i64 (-1)) ∧ x ∉ xs) ∨ ∃ i : Nat, e = .returned (.int .i64 (i : Int)) ∧ x ∈ xs) := by
  have hml : xs.length ≤ 9223372036854775807 := by obtain ⟨_, _, _, h, _⟩ := hu; exact h
  obtain ⟨au, cu, rfl⟩ := hu.shape
  have HU := hide hu
  obtain ⟨n, hn⟩ : ∃ n, xs.length = n := ⟨_, rfl⟩
  have HN := hide hn
  rw [hn] at HU hml ⊢
  clear hu hn
  go_enter Try.func60, Try.ntmps60
  go_wp2
  go_loopw [8] (fun i wr => ∃ k : Nat, k ≤ n ∧ i = .int .i64 (k : Int) ∧ Hid (∀ j, j < k → xs.getD j 0 ≠ x) ∧ wr = w) (fun i _ => n - (RowKit.intOf i).toNat)
  case atStart => exact ⟨0, Nat.zero_le _, rfl, fun j hj => absurd hj (Nat.not_lt_zero _), rfl⟩
  case round =>
    obtain ⟨k, hk, rfl, HA, rfl⟩ := hrel
    by_cases hlt : k < n
    · obtain ⟨b, off, rfl, q1⟩ := HU.out.at (k := k) (by rw [HN.out]; exact hlt)
      obtain ⟨y, hy⟩ : ∃ y, xs.getD k 0 = y := ⟨_, rfl⟩
      rw [hy] at q1
      have HY := hide hy
      have hk0 : (0 : Int) ≤ (k : Int) := by omega
      have hk1 : (k : Int) < (n : Int) := by omega
      clear hy
      by_cases hxy : x = y
      · subst hxy
        have HIn : Hid (x ∈ xs) := by
          rw [Hid, ← HY.out]
          simp [List.getD, show k < xs.length by rw [HN.out]; exact hlt]
        go_wp2
        go_ret
        exact ⟨rfl, Or.inr ⟨k, rfl, HIn.out⟩⟩
      · have HA' : Hid (∀ j, j < k + 1 → xs.getD j 0 ≠ x) := fun j hj => by
          by_cases e : j = k
          · subst e; rw [HY.out]; exact fun e => hxy e.symm
          · exact HA.out j (by omega)
        have hxb : (x == y) = false := by simpa using hxy
        go_wp2
        go_roundw
        case rel => exact ⟨k + 1, hlt, by go_num, HA'.out, by first | rfl | trivial⟩
        case measure => simp [RowKit.intOf]; omega
    · have hkn : k = n := by omega
      subst hkn
      have HNo : Hid (x ∉ xs) := fun h => by
        obtain ⟨j, hj⟩ := List.mem_iff_getElem?.1 h
        have hl := (List.getElem?_eq_some_iff.1 hj).1
        exact HA.out j (by rw [HN.out] at hl; exact hl) (by simp [List.getD, hj])
      go_wp2
      go_ret
      exact ⟨rfl, Or.inl ⟨rfl, HNo.out⟩⟩
theorem containsI {S : Nat → Prop} {w : World} {u : Value} {xs : List Int} (x : Int) (hu : RdI S w u xs) :
    Calls Try.prog 59 #[u, .int .i64 x] w fun e w' => w' = w ∧ e = .returned (.bool (decide (x ∈ xs))) := by
  have HI := hide (indexI x hu)
  obtain ⟨au, cu, rfl⟩ := hu.shape
  clear hu
  go_enter Try.func59, Try.ntmps59
  go_wp2_with fail
  refine HI.out.mono ?_
  rintro e w' ⟨hw, h⟩
  have hw := hw.symm
  subst hw
  rcases h with ⟨rfl, h⟩ | ⟨i, rfl, h⟩
  · go_wp2
    go_ret
    exact ⟨rfl, by simp [h]⟩
  · have h0 : (0 : Int) ≤ (i : Int) := by omega
    go_wp2
    go_ret
    exact ⟨rfl, by simp [h]⟩
end Go.Proofs.Ytolhpjeoagjnjaa
