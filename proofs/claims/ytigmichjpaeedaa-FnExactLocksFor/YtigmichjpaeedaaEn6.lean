/- Chapter 9: 'SlotFor' of both sides, walked. -/
import Derived.Test.YtigmichjpaeedaaEn1
namespace Go.Proofs.Ytigmichjpaeedaa
open Go.RowKit

def sfC (i : Int) : Int := if 1 ≤ i ∧ i ≤ 9999 then 0 else 3
def sfV (i : Int) : Int := if 1 ≤ i ∧ i ≤ 9999 then 24 + i % 14 else 0
theorem sf_mod {i : Int} (h : 1 ≤ i) : Int.tmod i 14 = i % 14 := Int.tmod_eq_emod_of_nonneg (by omega)

set_option maxRecDepth 4000 in
theorem implSlotFor (i : Int) (w : World) :
    Calls Try.prog 40 #[.int .i64 i] w fun e w' => e = .returned (.agg #[.int .i64 (sfC i), .int .i64 (sfV i)]) ∧ Below w.heap.size w w' := by
  unfold sfC sfV
  have A0 := hide (below_alloc w (.cells #[.int .i64 0, .int .i64 0] 37))
  by_cases h : 1 ≤ i ∧ i ≤ 9999
  · rw [if_pos h, if_pos h]
    have HI := hide h
    have hm := sf_mod h.1
    have hr : 0 ≤ i % 14 ∧ i % 14 < 14 := ⟨Int.emod_nonneg _ (by decide), Int.emod_lt_of_pos _ (by decide)⟩
    generalize i % 14 = r at hm hr ⊢
    clear h
    go_enter Try.func40, Try.ntmps40
    go_wp2_with fail
    refine (isIndexY i HI.out.1 HI.out.2 _).mono ?_
    rintro e w1 ⟨rfl, hw⟩
    have hw := hw.symm
    subst hw
    go_wp2
    refine bodyPost_ret (v := .agg #[.int .i64 0, .int .i64 (24 + r)]) (by simp [results, Try.results40, go_sem]) rfl ⟨rfl, ?_⟩
    repeat (first | exact A0.out | exact below_alloc _ _ | refine Below.setCell ?_ (by first | (simp; done) | (simp; omega) | omega) _)
  · rw [if_neg h, if_neg h]
    have HI := hide h
    clear h
    go_enter Try.func40, Try.ntmps40
    go_wp2_with fail
    refine (isIndexN i HI.out _).mono ?_
    rintro e w1 ⟨rfl, hw⟩
    have hw := hw.symm
    subst hw
    go_wp2
    refine bodyPost_ret (v := .agg #[.int .i64 3, .int .i64 0]) (by simp [results, Try.results40, go_sem]) rfl ⟨rfl, ?_⟩
    repeat (first | exact A0.out | exact below_alloc _ _ | refine Below.setCell ?_ (by first | (simp; done) | (simp; omega) | omega) _)
theorem l9Slot (i : Int) (h : 1 ≤ i) (w : World) : Calls Try.prog 56 #[.int .i64 i] w fun e w' => e = .returned (.int .i64 (24 + i % 14)) ∧ w' = w := by
  have hm := sf_mod h
  have hr : 0 ≤ i % 14 ∧ i % 14 < 14 := ⟨Int.emod_nonneg _ (by decide), Int.emod_lt_of_pos _ (by decide)⟩
  generalize i % 14 = r at hm hr ⊢
  go_enter Try.func56, Try.ntmps56
  go_wp2
  go_ret
  exact ⟨by go_num, rfl⟩
end Go.Proofs.Ytigmichjpaeedaa
