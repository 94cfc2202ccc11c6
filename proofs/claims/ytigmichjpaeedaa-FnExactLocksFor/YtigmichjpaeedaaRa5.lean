/- Chapter 10: the fault of a store, of the model, walked. Made by program (genra5.py). -/
import Derived.Test.YtigmichjpaeedaaRa3
namespace Go.Proofs.Ytigmichjpaeedaa
open Go.RowKit

theorem l10DataI {S : Nat → Prop} {w : World} {v : Value} {xs : List Int} (hv : RdI S w v xs) :
    Calls Try.prog 48 #[v] w fun e w' => e = .returned (.int .i64 (daF xs)) ∧ ∃ q, w' = w.drewN q := by
  have hm : xs.length ≤ 9223372036854775807 := hv.maxR
  have HW := hide (l1Words hv)
  obtain ⟨ao, c, rfl⟩ := hv.shape
  have HD : Hid (daF xs = if 40 < xs.length then 2 else wordsF xs) := rfl
  obtain ⟨l, hl⟩ : ∃ l, xs.length = l := ⟨_, rfl⟩
  rw [HD.out]
  rw [hl] at hm HW ⊢
  clear HD hl hv
  by_cases h : 40 < l
  · have h' : (40 : Int) < (l : Int) := by omega
    rw [if_pos h]
    go_enter Try.func48, Try.ntmps48
    go_wp2
    go_ret
    exact ⟨rfl, 0, rfl⟩
  · have h' : ¬ (40 : Int) < (l : Int) := by omega
    rw [if_neg h]
    go_enter Try.func48, Try.ntmps48
    go_wp2_with fail
    refine HW.out.mono ?_
    rintro e w1 ⟨rfl, q, rfl⟩
    go_wp2
    go_ret
    exact ⟨rfl, q, rfl⟩

def inBq (v lo hi : Int) : Bool := decide (lo ≤ v ∧ v ≤ hi)
theorem inBq_yes {v lo hi : Int} (h : lo ≤ v ∧ v ≤ hi) : inBq v lo hi = true := decide_eq_true h
theorem inBq_no {v lo hi : Int} (h : ¬ (lo ≤ v ∧ v ≤ hi)) : inBq v lo hi = false := decide_eq_false h
theorem l1InB (v lo hi : Int) (w : World) : Calls Try.prog 46 #[.int .i64 v, .int .i64 lo, .int .i64 hi] w fun e w' => e = .returned (.bool (inBq v lo hi)) ∧ w' = w := by
  by_cases h : lo ≤ v ∧ v ≤ hi
  · rw [inBq_yes h]; exact l1In_yes v lo hi h.1 h.2 w
  · rw [inBq_no h]; exact l1In_no v lo hi (by omega) w

end Go.Proofs.Ytigmichjpaeedaa
