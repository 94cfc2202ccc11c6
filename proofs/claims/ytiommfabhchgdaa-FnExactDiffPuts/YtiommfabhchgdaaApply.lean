/- Chapter 4: what ApplyPuts asks and does, the program's side, walked. -/
import Derived.Test.YtiommfabhchgdaaHomeF
import Derived.Test.YtiommfabhchgdaaView
namespace Go.Proofs.Ytiommfabhchgdaa
open Go.RowKit Go.Maps

/-- Puts that are a view: each has words, At rises. -/
def isVw (ps : List (Int × List Int)) : Prop := ∀ i, i < ps.length → (ps.getD i (0, [])).2 ≠ [] ∧ (0 < i → (ps.getD (i - 1) (0, [])).1 < (ps.getD i (0, [])).1)

set_option maxHeartbeats 2000000 in
set_option maxRecDepth 4000 in
theorem isViewP {S : Nat → Prop} {w : World} {u : Value} {ps : List (Int × List Int)} (hu : RdP S w u ps) :
    Calls Try.prog 68 #[u] w fun e w' => (∃ r : Bool, e = .returned (.bool r) ∧ (r = true ↔ isVw ps)) ∧ Below w.heap.size w w' := by
  obtain ⟨au, cu, rfl, hml⟩ := hu.shape
  have HU := hide hu
  obtain ⟨n, hn⟩ : ∃ n, ps.length = n := ⟨_, rfl⟩
  have HN := hide hn
  rw [hn] at HU hml ⊢
  clear hu hn
  go_enter Try.func68, Try.ntmps68
  go_wp2
  go_loopw [7] (fun i wr => ∃ k : Nat, k ≤ n ∧ i = .int .i64 (k : Int) ∧ Hid (∀ i, i < k → (ps.getD i (0, [])).2 ≠ [] ∧ (0 < i → (ps.getD (i - 1) (0, [])).1 < (ps.getD i (0, [])).1)) ∧ Hid (Below w.heap.size w wr)) (fun i _ => n - (RowKit.intOf i).toNat)
  case atStart => exact ⟨0, Nat.zero_le _, rfl, fun i hi => absurd hi (Nat.not_lt_zero _), Below.refl _ _⟩
  case round =>
    obtain ⟨k, hk, rfl, HA, HB⟩ := hrel
    by_cases hlt : k < n
    · obtain ⟨b, off, V, rfl, q1, q2, q3⟩ := HU.out.at (k := k) (by rw [HN.out]; exact hlt)
      obtain ⟨a3, c3, rfl⟩ := q3.shape
      have g1 := cell_later HB.out q1
      have g2 := cell_later HB.out q2
      obtain ⟨x, hx⟩ : ∃ x, (ps.getD k (0, [])).1 = x := ⟨_, rfl⟩
      obtain ⟨l, hl⟩ : ∃ l, (ps.getD k (0, [])).2.length = l := ⟨_, rfl⟩
      rw [hx] at g1
      rw [hl] at g2
      have HX := hide hx
      have HL := hide hl
      clear q1 q2 q3 hx hl
      have hnw : w.heap.size ≤ wr.heap.size := HB.out.size
      have bA := hide (below_alloc wr (.cells #[.int .i64 x, .slice a3 l c3] 57))
      by_cases hl0 : l = 0
      · subst hl0
        have HNo : Hid (¬ isVw ps) := fun h => (h k (by rw [HN.out]; exact hlt)).1 (List.eq_nil_of_length_eq_zero HL.out)
        go_wp2_with fail
        go_quiet (fail)
        have HBq := hide (below_on (below_on HB.out bA.out) (below_drewN _ nq))
        go_wp2
        go_ret
        exact ⟨⟨false, rfl, ⟨fun h => (by cases h), fun h => absurd h HNo.out⟩⟩, HBq.out⟩
      · have hl0' : ¬ ((l : Int) = 0) := by omega
        have hl0b : ((l : Int) == 0) = false := by simpa using hl0
        have HNe : Hid ((ps.getD k (0, [])).2 ≠ []) := fun h => hl0 (by rw [← HL.out, h]; rfl)
        by_cases hk0 : k = 0
        · subst hk0
          have g1' : wr.cell? ⟨b, off, none⟩ = some (.int .i64 x) := by simpa using g1
          have g2' : wr.cell? ⟨b, off + 1, none⟩ = some (.slice a3 l c3) := by simpa using g2
          clear g1 g2
          have HA' : Hid (∀ i, i < 0 + 1 → (ps.getD i (0, [])).2 ≠ [] ∧ (0 < i → (ps.getD (i - 1) (0, [])).1 < (ps.getD i (0, [])).1)) := fun i hi => by
            have : i = 0 := by omega
            subst this
            exact ⟨HNe.out, fun h => absurd h (Nat.lt_irrefl _)⟩
          go_wp2_with fail
          go_quiet (fail)
          have HBq := hide (below_on (below_on HB.out bA.out) (below_drewN _ nq))
          go_wp2
          go_roundw
          case rel => exact ⟨0 + 1, by omega, by go_num, HA'.out, HBq.out⟩
          case measure => simp [RowKit.intOf]; omega
        · have hkp : 0 < k := by omega
          obtain ⟨j, hjk⟩ : ∃ j, k = j + 1 := ⟨k - 1, by omega⟩
          obtain ⟨b', off', V', e', q1', _, _⟩ := HU.out.at (k := j) (by rw [HN.out]; omega)
          injection e' with e'
          injection e' with e1 e2
          subst e1 e2
          have g0 := cell_later (below_on HB.out bA.out) q1'
          obtain ⟨y, hy⟩ : ∃ y, (ps.getD j (0, [])).1 = y := ⟨_, rfl⟩
          rw [hy] at g0
          have HY := hide hy
          clear hy q1'
          have hw1 : IntKind.i64.wrap ((k : Int) - 1) = (j : Int) := by simp [IntKind.wrap, IntKind.bits, IntKind.signed]; omega
          have hj0 : (0 : Int) < (k : Int) := by omega
          have hjp : (0 : Int) ≤ (j : Int) := by omega
          have hjn : (j : Int) < (n : Int) := by omega
          have HJK := hide hjk
          clear hk0 hjk
          by_cases hxy : x ≤ y
          · have HNo : Hid (¬ isVw ps) := fun h => by
              have := (h k (by rw [HN.out]; exact hlt)).2 (by have := HJK.out; omega)
              rw [HX.out, show k - 1 = j by have := HJK.out; omega, HY.out] at this
              omega
            go_wp2_with fail
            go_quiet (fail)
            have HBq := hide (below_on (below_on HB.out bA.out) (below_drewN _ nq))
            go_wp2
            go_ret
            exact ⟨⟨false, rfl, ⟨fun h => (by cases h), fun h => absurd h HNo.out⟩⟩, HBq.out⟩
          · have hxy' : y < x := by omega
            have HA' : Hid (∀ i, i < k + 1 → (ps.getD i (0, [])).2 ≠ [] ∧ (0 < i → (ps.getD (i - 1) (0, [])).1 < (ps.getD i (0, [])).1)) := fun i hi => by
              by_cases e : i = k
              · subst e
                exact ⟨HNe.out, fun _ => by rw [HX.out, show i - 1 = j by have := HJK.out; omega, HY.out]; exact hxy'⟩
              · exact HA.out i (by omega)
            go_wp2_with fail
            go_quiet (fail)
            have HBq := hide (below_on (below_on HB.out bA.out) (below_drewN _ nq))
            go_wp2
            go_roundw
            case rel => exact ⟨k + 1, by omega, by go_num, HA'.out, HBq.out⟩
            case measure => simp [RowKit.intOf]; omega
    · have hkn : k = n := by omega
      subst hkn
      have HYes : Hid (isVw ps) := fun i hi => HA.out i (by rw [HN.out] at hi; exact hi)
      go_wp2
      go_ret
      exact ⟨⟨true, rfl, ⟨fun _ => HYes.out, fun _ => rfl⟩⟩, HB.out⟩
end Go.Proofs.Ytiommfabhchgdaa
