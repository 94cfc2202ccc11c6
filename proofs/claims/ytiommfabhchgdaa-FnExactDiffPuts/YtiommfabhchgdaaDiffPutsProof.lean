/- For every input that can be handed in (a list of puts, a list of puts; shared memory allowed): 'FnExactDiffPuts' returns true, and its arguments read as they did; no condition. Made by program (gendfp.py, out of ApplyPuts'). -/
import Derived.Test.YtiommfabhchgdaaLawDiffPuts
import Derived.Test.YtiommfabhchgdaaDf2
import Derived.Test.YtiommfabhchgdaaDf4
import Derived.Test.YtiommfabhchgdaaOpenP
namespace Go.Proofs.Ytiommfabhchgdaa
open Go.ChangeShapes Go.WideShapes Go.ChangeAt Go.RowKit

set_option maxHeartbeats 1000000 in
theorem lawDiffPuts_all {S0 S1 : Nat → Prop} {w : World} {y0 : Value} {qs0 : List (Int × List Int)} {y1 : Value} {qs1 : List (Int × List Int)} (hy0 : RdP S0 w y0 qs0) (hy1 : RdP S1 w y1 qs1) :
    Calls Try.prog 4 #[y0, y1] w fun e w' => e = .returned (.bool true) ∧ Below w.heap.size w w' := by
  by_cases hq0 : szQ qs0 ≤ 1048576
  · skip
    by_cases hq1 : szQ qs0 + szQ qs1 ≤ 1048576
    · skip
      exact lawDiffPuts_small  hy0 hy1 (dfC qs0 qs1) (dfR qs0 qs1) (by have := dfR_tot qs0 qs1; omega) hq0 hq1 (fun _ _ w y z hy hz => specDiffPuts hy hz) (fun _ _ w y z hy hz => implDiffPuts hy hz)
    · have HZ := hide (szv_no (left := (1048576 : Int) - szQ qs0) (s := szQ qs1) (by omega))
      have hsd : 0 ≤ (1048576 : Int) - szQ qs0 ∧ (1048576 : Int) - szQ qs0 ≤ 1048576 := by have := szQ_nonneg qs0; have := szQ_nonneg qs1; omega
      have HZ0 := hide (szv_yes (left := (1048576 : Int)) (s := szQ qs0) (by omega))
      have hp0 : ¬ ((1048576 : Int) - szQ qs0 < 0) := by omega
      have hsd0 : 0 ≤ (1048576 : Int) ∧ (1048576 : Int) ≤ 1048576 := by have := szQ_nonneg qs0; have := szQ_nonneg qs1; omega
      obtain ⟨ay0, cy0, hyv0, _⟩ := id hy0
      subst hyv0
      have HR0 := hide hy0
      clear hy0
      obtain ⟨ay1, cy1, hyv1, _⟩ := id hy1
      subst hyv1
      have HR1 := hide hy1
      clear hy1
      clear hq0 hq1
      go_enter Try.func4, Try.ntmps4
      go_wp2_with fail
      refine (szP (HR0.out.later (Below.refl _ _)) hsd0.1 hsd0.2).mono ?_
      rintro e wp0 ⟨he, hb⟩
      rw [show ((qs0.length : Int) + (totW qs0 qs0.length : Int)) = szQ qs0 from rfl, HZ0.out] at he
      subst he
      have BP0 := hide (below_on (Below.refl _ _) hb)
      clear hb
      go_wp2_with fail
      refine (szP (HR1.out.later (BP0.out)) hsd.1 hsd.2).mono ?_
      rintro e wp1 ⟨he, hb⟩
      rw [show ((qs1.length : Int) + (totW qs1 qs1.length : Int)) = szQ qs1 from rfl, HZ.out] at he
      subst he
      have BP1 := hide (below_on (BP0.out) hb)
      clear hb
      go_wp2
      go_ret
      exact ⟨rfl, BP1.out⟩
  · have HZ := hide (szv_no (left := (1048576 : Int)) (s := szQ qs0) (by omega))
    have hsd : 0 ≤ (1048576 : Int) ∧ (1048576 : Int) ≤ 1048576 := by have := szQ_nonneg qs0; omega
    obtain ⟨ay0, cy0, hyv0, _⟩ := id hy0
    subst hyv0
    have HR0 := hide hy0
    clear hy0
    obtain ⟨ay1, cy1, hyv1, _⟩ := id hy1
    subst hyv1
    have HR1 := hide hy1
    clear hy1
    clear hq0
    go_enter Try.func4, Try.ntmps4
    go_wp2_with fail
    refine (szP (HR0.out.later (Below.refl _ _)) hsd.1 hsd.2).mono ?_
    rintro e wp0 ⟨he, hb⟩
    rw [show ((qs0.length : Int) + (totW qs0 qs0.length : Int)) = szQ qs0 from rfl, HZ.out] at he
    subst he
    have BP0 := hide (below_on (Below.refl _ _) hb)
    clear hb
    go_wp2
    go_ret
    exact ⟨rfl, BP0.out⟩

set_option maxRecDepth 100000 in
theorem fnExactDiffPuts_lifted (os : Os) (started : os.Started) (H : Type) (enc : TypeId × Value → H) :
    ReturnsInHanded {} Try.checked os 4 .any (Rows.fnExactDiffPutsSpec.pre6 enc Try.prog Try.f4 Rows.fnExactDiffPutsRow.domain false) (Rows.fnExactDiffPutsSpec.post enc Try.prog Try.f4 false true false false) := by
  refine returnsInHanded_of_change (C := Try.checked) Try.own started (by kernel_rfl) Try.func4
    (ChangeSpec.witness6 (enc := enc) (C := Try.checked) false ⟨#[], #[.slice none 0 0, .slice none 0 0], []⟩ 8 (by kernel_rfl) (by kernel_rfl) (by kernel_rfl) (by kernel_rfl)) ?_
  intro W base args ds gs before hval0 hW hcnd _
  have hval : ∀ (j : Nat) t v, Try.f4.params[j]? = some t → args[j]? = some v → Value.okWide Try.prog W .any base t v := hval0
  have hW' := hW
  obtain ⟨p, q, hA0, hV, rfl, hfz, hnd⟩ := hW
  have hA : DataW.TrodAll enc Try.prog W 0 (fun _ => true) true Try.f4.params.toList args.toList ds p := hA0
  rw [Try.params4] at hA hval
  obtain ⟨v0, v1, d0, d1, p0, p1, rfl, rfl, rfl, h0, h1⟩ := trodAll_two hA
  obtain ⟨rfl, rfl⟩ := trodVars_none hV
  obtain ⟨qs0, hy0⟩ := rdParg_of (hval 0 40 v0 rfl rfl) h0
  obtain ⟨qs1, hy1⟩ := rdParg_of (hval 1 40 v1 rfl rfl) h1
  clear hA0 hval0
  simp only [List.append_nil] at hW'
  refine (lawDiffPuts_all hy0 hy1).mono fun e W' ⟨he, hb⟩ => ?_
  subst he
  exact ⟨_, rfl, _, _, _, [], p0 ++ p1, [], hW', trodAll_mk1 (shut_bool Try.underlying4 _), trodAll_mk2 (Below.trod Try.laidOut (by kernel_rfl) (of_decide_eq_true (by kernel_rfl)) h0 hb (fun x hx => by simpa using hW'.lt x (by simp [hx]))) (Below.trod Try.laidOut (by kernel_rfl) (of_decide_eq_true (by kernel_rfl)) h1 hb (fun x hx => by simpa using hW'.lt x (by simp [hx]))), rfl, hb.frame _, fun h => by cases h⟩

theorem fnExactDiffPuts_holds : Rows.FnExactDiffPutsSaid :=
  OpenClaim.holds_of_wide 4 Try.f4 rfl rfl rfl rfl rfl rfl rfl ⟨rfl, rfl, rfl, rfl, rfl⟩ rfl rfl rfl rfl rfl (by kernel_rfl) Try.func4 (by kernel_rfl)
    (of_decide_eq_true (by kernel_rfl)) (by unfold Func.isWrapper; first | (rw [if_pos (by decide +kernel)]; kernel_rfl) | (rw [if_neg (by decide +kernel)]; exact ⟨rfl, rfl⟩))
    (fun os started H enc _ => fnExactDiffPuts_lifted os started H enc)
#print axioms fnExactDiffPuts_holds
end Go.Proofs.Ytiommfabhchgdaa
