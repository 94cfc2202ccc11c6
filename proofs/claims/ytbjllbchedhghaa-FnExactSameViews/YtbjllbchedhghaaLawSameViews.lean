/- The law 'FnExactSameViews' walked, out of what the program's function and the model's answer. -/
import Derived.Test.YtbjllbchedhghaaIvP
namespace Go.Proofs.Ytbjllbchedhghaa
open Go.RowKit

set_option maxHeartbeats 2000000 in
theorem lawSameViews_small {S0 S1 : Nat → Prop} {w : World} {y0 : Value} {qs0 : List (Int × List Int)} {y1 : Value} {qs1 : List (Int × List Int)} (hy0 : RdP S0 w y0 qs0) (hy1 : RdP S1 w y1 qs1) (code : Bool) (_rs : Unit) (_hres : True)
    (hq0 : szQ qs0 ≤ 1048576) (hq1 : szQ qs0 + szQ qs1 ≤ 1048576)
    (hspec : ∀ (S0 S1 : Nat → Prop) (w : World) (y0 y1 : Value), RdP S0 w y0 qs0 → RdP S1 w y1 qs1 → Calls Try.prog 7 #[y0, y1] w fun e w' => e = .returned (.bool code) ∧ Below w.heap.size w w')
    (himpl : ∀ (S0 S1 : Nat → Prop) (w : World) (y0 y1 : Value), RdP S0 w y0 qs0 → RdP S1 w y1 qs1 → Calls Try.prog 9 #[y0, y1] w fun e w' => e = .returned (.bool code) ∧ Below w.heap.size w w') :
    Calls Try.prog 3 #[y0, y1] w fun e w' => e = .returned (.bool true) ∧ Below w.heap.size w w' := by
  have HS := hide hspec
  have HI := hide himpl
  clear hspec himpl
  obtain ⟨ay0, cy0, hyv0, _⟩ := id hy0
  subst hyv0
  obtain ⟨ay1, cy1, hyv1, _⟩ := id hy1
  subst hyv1
  have HY0 := hide hy0
  have HY1 := hide hy1
  have n0 := szQ_nonneg qs0
  have n1 := szQ_nonneg qs1
  have HZ0 := hide (szv_yes (left := (1048576 : Int)) (s := szQ qs0) (by omega))
  have HZ1 := hide (szv_yes (left := (1048576 : Int) - szQ qs0) (s := szQ qs1) (by omega))
  have hp0 : ¬ ((1048576 : Int) - szQ qs0 < 0) := by omega
  have hp1 : ¬ ((1048576 : Int) - szQ qs0 - szQ qs1 < 0) := by omega
  have HQ0 := hide (smallQ (by omega : szQ qs0 ≤ 1048576))
  have HQ1 := hide (smallQ (by omega : szQ qs1 ≤ 1048576))
  have hsd1 : 0 ≤ (1048576 : Int) - szQ qs0 ∧ (1048576 : Int) - szQ qs0 ≤ 1048576 := by omega
  clear hy0 hy1 hq0 hq1 n0 n1
  go_enter Try.func3, Try.ntmps3
  go_wp2_with fail
  refine (szP HY0.out (by omega) (by omega)).mono ?_
  rintro e w1 ⟨he, hb⟩
  rw [show ((qs0.length : Int) + (totW qs0 qs0.length : Int)) = szQ qs0 from rfl, HZ0.out] at he
  subst he
  have B1 := hide hb
  clear hb
  go_wp2_with fail
  refine (szP (HY1.out.later B1.out) hsd1.1 hsd1.2).mono ?_
  rintro e w2 ⟨he, hb⟩
  rw [show ((qs1.length : Int) + (totW qs1 qs1.length : Int)) = szQ qs1 from rfl, HZ1.out] at he
  subst he
  have B2 := hide (below_on B1.out hb)
  clear hb B1
  go_wp2_with fail
  refine (toP (HY0.out.later B2.out) HQ0.out.1 HQ0.out.2.1).mono ?_
  rintro e w3 ⟨z3, rfl, hb, ho⟩
  have O3 := hide ho.rd
  have B3 := hide (below_on B2.out hb)
  clear hb ho B2
  go_wp2_with fail
  refine (toP (HY1.out.later B3.out) HQ1.out.1 HQ1.out.2.1).mono ?_
  rintro e w4 ⟨z4, rfl, hb, ho⟩
  have O4 := hide ho.rd
  have O3' := hide (O3.out.later hb)
  have B4 := hide (below_on B3.out hb)
  clear hb ho B3 O3
  go_wp2_with fail
  refine (HS.out _ _ _ _ _ O3'.out O4.out).mono ?_
  rintro e w5 ⟨rfl, hb⟩
  have B5 := hide (below_on B4.out hb)
  clear hb B4 O3' O4
  go_wp2_with fail
  refine (toP (HY0.out.later B5.out) HQ0.out.1 HQ0.out.2.1).mono ?_
  rintro e w6 ⟨z6, rfl, hb, ho⟩
  have O6 := hide ho.rd
  have B6 := hide (below_on B5.out hb)
  clear hb ho B5
  go_wp2_with fail
  refine (toP (HY1.out.later B6.out) HQ1.out.1 HQ1.out.2.1).mono ?_
  rintro e w7 ⟨z7, rfl, hb, ho⟩
  have O7 := hide ho.rd
  have P6 := hide (O6.out.later hb)
  have B7 := hide (below_on B6.out hb)
  clear hb ho B6 O6
  go_wp2_with fail
  refine (HI.out _ _ _ _ _ P6.out O7.out).mono ?_
  rintro e w8 ⟨rfl, hb⟩
  have P8 := hide (P6.out.later hb)
  have Q8 := hide (O7.out.later hb)
  have B8 := hide (below_on B7.out hb)
  clear hb B7 P6 O7
  cases code
  all_goals
    go_wp2_with fail
    refine (toP (HY0.out.later B8.out) HQ0.out.1 HQ0.out.2.1).mono ?_
    rintro e w9 ⟨z9, rfl, hb, ho⟩
    have O9 := hide ho.rd
    have P9 := hide (P8.out.later hb)
    have Q9 := hide (Q8.out.later hb)
    have B9 := hide (below_on B8.out hb)
    clear hb ho B8 P8 Q8
    go_wp2_with fail
    refine (eqP P9.out O9.out).mono ?_
    rintro e w10 ⟨rfl, hb⟩
    have Q10 := hide (Q9.out.later hb)
    have B10 := hide (below_on B9.out hb)
    clear hb B9 P9 Q9 O9
    go_wp2_with fail
    refine (toP (HY1.out.later B10.out) HQ1.out.1 HQ1.out.2.1).mono ?_
    rintro e w11 ⟨z11, rfl, hb, ho⟩
    have O11 := hide ho.rd
    have Q11 := hide (Q10.out.later hb)
    have B11 := hide (below_on B10.out hb)
    clear hb ho B10 Q10
    go_wp2_with fail
    refine (eqP Q11.out O11.out).mono ?_
    rintro e w12 ⟨rfl, hb⟩
    have B12 := hide (below_on B11.out hb)
    clear hb B11
    go_wp2
    go_ret
    exact ⟨rfl, B12.out⟩
end Go.Proofs.Ytbjllbchedhghaa
