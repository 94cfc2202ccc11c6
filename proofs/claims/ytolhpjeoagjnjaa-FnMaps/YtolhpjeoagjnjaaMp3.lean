/- Chapter 7: 'IsUsed' of the program and of the model, walked. -/
import Derived.Test.YtolhpjeoagjnjaaMp2
namespace Go.Proofs.Ytolhpjeoagjnjaa
open Go.RowKit

theorem ret_boolM {a b : Bool} (h : a = b) : Ending.returned (.bool a) = .returned (.bool b) := by rw [h]
/-- Whether a block is in use. -/
def usedB (xs : List Int) (x : Int) : Bool := decide (mapF xs = 0) && decide (x ∈ xs)

set_option maxHeartbeats 1000000 in
set_option maxRecDepth 4000 in
theorem l7Among {S : Nat → Prop} {w : World} {u : Value} {xs : List Int} (x : Int) (hu : RdI S w u xs) :
    Calls Try.prog 55 #[u, .int .i64 x] w fun e w' => w' = w ∧ e = .returned (.bool (decide (x ∈ xs))) := by
  have hml := hu.max
  obtain ⟨au, cu, rfl⟩ := hu.shape
  have HU := hide hu
  obtain ⟨n, hn⟩ : ∃ n, xs.length = n := ⟨_, rfl⟩
  have HN := hide hn
  rw [hn] at HU hml ⊢
  clear hu hn
  obtain ⟨B, hB⟩ : ∃ B, decide (x ∈ xs) = B := ⟨_, rfl⟩
  rw [hB]
  have HB := hide hB
  clear hB
  go_enter Try.func55, Try.ntmps55
  go_wp2
  go_loopw [5] (fun i wr => ∃ k : Nat, k ≤ n ∧ i = .int .i64 (k : Int) ∧ Hid (∀ j, j < k → xs.getD j 0 ≠ x) ∧ wr = w) (fun i _ => n - (RowKit.intOf i).toNat)
  case atStart => exact ⟨0, Nat.zero_le _, rfl, fun j hj => absurd hj (Nat.not_lt_zero _), rfl⟩
  case round =>
    obtain ⟨k, hk, rfl, HA, rfl⟩ := hrel
    by_cases hlt : k < n
    · obtain ⟨b, off, rfl, q1⟩ := HU.out.at (k := k) (by rw [HN.out]; exact hlt)
      obtain ⟨y, hy⟩ : ∃ y, xs.getD k 0 = y := ⟨_, rfl⟩
      rw [hy] at q1
      have HY := hide hy
      have hk0 : (0 : Int) ≤ (k : Int) := by omega
      have hk1 : (k : Int) < (n : Int) := by omega
      clear hy
      by_cases hxy : y = x
      · subst hxy
        have HIn : Hid (true = B) := by
          rw [Hid, ← HB.out]
          refine (decide_eq_true ?_).symm
          rw [← HY.out]
          simp [List.getD, show k < xs.length by rw [HN.out]; exact hlt]
        go_wp2
        go_ret
        exact ⟨rfl, ret_boolM HIn.out⟩
      · have HA' : Hid (∀ j, j < k + 1 → xs.getD j 0 ≠ x) := fun j hj => by
          by_cases e : j = k
          · subst e; rw [HY.out]; exact hxy
          · exact HA.out j (by omega)
        have hxb : (y == x) = false := by simpa using hxy
        go_wp2
        go_roundw
        case rel => exact ⟨k + 1, hlt, by go_num, HA'.out, by first | rfl | trivial⟩
        case measure => simp [RowKit.intOf]; omega
    · have hkn : k = n := by omega
      subst hkn
      have HNo : Hid (false = B) := by
        rw [Hid, ← HB.out]
        refine (decide_eq_false fun h => ?_).symm
        obtain ⟨j, hj⟩ := List.mem_iff_getElem?.1 h
        have hl := (List.getElem?_eq_some_iff.1 hj).1
        exact HA.out j (by rw [HN.out] at hl; exact hl) (by simp [List.getD, hj])
      go_wp2
      go_ret
      exact ⟨rfl, ret_boolM HNo.out⟩

set_option maxHeartbeats 1000000 in
set_option maxRecDepth 4000 in
theorem implIsUsed {S : Nat → Prop} {w : World} {u : Value} {xs : List Int} (x : Int) (hu : RdI S w u xs) :
    Calls Try.prog 18 #[u, .int .i64 x] w fun e w' => e = .returned (.bool (usedB xs x)) ∧ Below w.heap.size w w' := by
  obtain ⟨au, cu, rfl⟩ := hu.shape
  have HU := hide hu
  clear hu
  obtain ⟨z, hz⟩ : ∃ z, mapF xs = z := ⟨_, rfl⟩
  have HZ := hide hz
  unfold usedB
  rw [hz]
  clear hz
  by_cases h0 : z = 0
  · subst h0
    rw [decide_eq_true rfl, Bool.true_and]
    go_enter Try.func18, Try.ntmps18
    go_wp2_with fail
    refine (implMapFault HU.out).mono ?_
    rintro e w1 ⟨he, q, rfl⟩
    rw [HZ.out] at he
    subst he
    go_wp2_with fail
    refine (takenIn (HU.out.drewN q)).mono ?_
    rintro e w2 ⟨f, rfl, hb, b, u, S', rfl, h1, h2⟩
    have HB := hide (below_on (below_drewN w q) hb)
    have H1 := hide h1
    have H2 := hide h2
    clear hb h1 h2
    go_wp2_with fail
    refine (takenIn1 x H1.out H2.out).mono ?_
    rintro e w3 ⟨hw, rfl⟩
    have hw := hw.symm
    subst hw
    go_wp2
    go_ret
    exact ⟨rfl, HB.out⟩
  · rw [decide_eq_false h0, Bool.false_and]
    have h0b : (z == 0) = false := by simpa using h0
    go_enter Try.func18, Try.ntmps18
    go_wp2_with fail
    refine (implMapFault HU.out).mono ?_
    rintro e w1 ⟨he, q, rfl⟩
    rw [HZ.out] at he
    subst he
    go_wp2
    go_ret
    exact ⟨rfl, below_drewN _ q⟩
end Go.Proofs.Ytolhpjeoagjnjaa
