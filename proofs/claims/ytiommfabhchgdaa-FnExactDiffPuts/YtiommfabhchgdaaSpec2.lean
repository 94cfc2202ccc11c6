/- Chapter 2, the model's side: 'spec.l2Fault', 'spec.HeaderFault', walked. -/
import Derived.Test.YtiommfabhchgdaaFault
import Derived.Test.YtiommfabhchgdaaTear
namespace Go.Proofs.Ytiommfabhchgdaa
open Go.RowKit

/-- The fault of a header. -/
def headF (s t : Int) (xs : List Int) : Int :=
  if 1 ≤ s ∧ s ≤ 65000 ∧ 0 ≤ t ∧ t ≤ 23 then (if 24 < xs.length then 2 else if (∀ i, i < xs.length → 0 ≤ xs.getD i 0 ∧ xs.getD i 0 ≤ 39) then 0 else 3) else 3
theorem headF_range {s t : Int} {xs : List Int} (h : ¬ (1 ≤ s ∧ s ≤ 65000 ∧ 0 ≤ t ∧ t ≤ 23)) : headF s t xs = 3 := by unfold headF; rw [if_neg h]
theorem headF_many {s t : Int} {xs : List Int} (h : 1 ≤ s ∧ s ≤ 65000 ∧ 0 ≤ t ∧ t ≤ 23) (h2 : 24 < xs.length) : headF s t xs = 2 := by unfold headF; rw [if_pos h, if_pos h2]
theorem headF_ok {s t : Int} {xs : List Int} (h : 1 ≤ s ∧ s ≤ 65000 ∧ 0 ≤ t ∧ t ≤ 23) (h2 : ¬ 24 < xs.length) (h3 : ∀ i, i < xs.length → 0 ≤ xs.getD i 0 ∧ xs.getD i 0 ≤ 39) : headF s t xs = 0 := by unfold headF; rw [if_pos h, if_neg h2, if_pos h3]
theorem headF_at {s t : Int} {xs : List Int} (h : 1 ≤ s ∧ s ≤ 65000 ∧ 0 ≤ t ∧ t ≤ 23) (h2 : ¬ 24 < xs.length) {i : Nat} (hi : i < xs.length) (h3 : ¬ (0 ≤ xs.getD i 0 ∧ xs.getD i 0 ≤ 39)) : headF s t xs = 3 := by
  unfold headF; rw [if_pos h, if_neg h2, if_neg (fun k => h3 (k i hi))]
theorem headF_zero {s t : Int} {xs : List Int} (h : headF s t xs = 0) : (1 ≤ s ∧ s ≤ 65000 ∧ 0 ≤ t ∧ t ≤ 23) ∧ xs.length ≤ 24 ∧ ∀ i, i < xs.length → 0 ≤ xs.getD i 0 ∧ xs.getD i 0 ≤ 39 := by
  unfold headF at h
  split at h
  · rename_i h1
    split at h
    · exact absurd h (by decide)
    · rename_i h2
      split at h
      · rename_i h3
        exact ⟨h1, by omega, h3⟩
      · exact absurd h (by decide)
  · exact absurd h (by decide)

/-- A header's cells, at whatever place. -/
structure HdAt (w : World) (b o : Nat) (s t : Int) (y : Value) : Prop where
  seq : w.cell? ⟨b, o, none⟩ = some (.int .i64 s)
  start : w.cell? ⟨b, o + 1, none⟩ = some (.int .i64 t)
  addrs : w.cell? ⟨b, o + 2, none⟩ = some y

theorem l2Home_yes (v : Int) (h1 : 0 ≤ v) (h2 : v ≤ 39) (w : World) : Calls Try.prog 82 #[.int .i64 v] w fun e w' => e = .returned (.bool true) ∧ w' = w := by
  go_enter Try.func82, Try.ntmps82
  go_wp2_with fail
  refine (l1In_yes v 0 39 h1 h2 w).mono ?_
  rintro e w1 ⟨rfl, rfl⟩
  go_wp2
  go_ret
  exact ⟨rfl, rfl⟩
theorem l2Home_no (v : Int) (h : v < 0 ∨ 39 < v) (w : World) : Calls Try.prog 82 #[.int .i64 v] w fun e w' => e = .returned (.bool false) ∧ w' = w := by
  go_enter Try.func82, Try.ntmps82
  go_wp2_with fail
  refine (l1In_no v 0 39 h w).mono ?_
  rintro e w1 ⟨rfl, rfl⟩
  go_wp2
  go_ret
  exact ⟨rfl, rfl⟩

theorem HdAt_new (w : World) (s t : Int) (y : Value) (ty : TypeId) : HdAt (w.alloc (.cells #[.int .i64 s, .int .i64 t, y] ty)) w.heap.size 0 s t y := ⟨by simp [go_sem], by simp [go_sem], by simp [go_sem]⟩
theorem HdAt.later {w w' : World} {b o : Nat} {s t : Int} {y : Value} (h : HdAt w b o s t y) (hb : Below w.heap.size w w') : HdAt w' b o s t y := ⟨cell_later hb h.seq, cell_later hb h.start, cell_later hb h.addrs⟩

end Go.Proofs.Ytiommfabhchgdaa
