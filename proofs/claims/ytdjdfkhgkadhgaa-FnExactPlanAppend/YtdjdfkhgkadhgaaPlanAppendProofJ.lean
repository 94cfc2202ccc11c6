/- For every input that can be handed in (a disk, a list of puts; shared memory allowed): 'FnExactPlanAppend' returns true, and its arguments read as they did; no condition. Made by program (genproof.py). -/
import Derived.Test.YtdjdfkhgkadhgaaLawPlanAppend
import Derived.Test.YtdjdfkhgkadhgaaJAp
import Derived.Test.YtdjdfkhgkadhgaaOpenP
namespace Go.Proofs.Ytdjdfkhgkadhgaa
open Go.ChangeShapes Go.WideShapes Go.ChangeAt Go.RowKit

set_option maxHeartbeats 1000000 in
theorem lawPlanAppend_all {S T S1 : Nat → Prop} {w : World} {u v : Value} {xss : List (List Int)} {ps : List (Int × List Int)} {y1 : Value} {qs1 : List (Int × List Int)} (hu : RdII S w u xss) (hv : RdP T w v ps) (hy1 : RdP S1 w y1 qs1) :
    Calls Try.prog 6 #[.agg #[u, v], y1] w fun e w' => e = .returned (.bool true) ∧ Below w.heap.size w w' := by
  by_cases hsz : szD xss ps ≤ 1048576
  · have HM := Small.of hsz
    by_cases hq1 : szD xss ps + szQ qs1 ≤ 1048576
    · skip
      exact lawPlanAppend_small  hu hv hy1 (apF xss ps qs1) (apT xss ps qs1) (ap_bound xss ps qs1) hsz hq1 (fun _ _ _ w u v y hu hv hy => specPlanAppend hu hv hy HM) (fun _ _ _ w u v y hu hv hy => implPlanAppend hu hv hy HM)
    · have HZ := hide (szv_no (left := (1048576 : Int) - szD xss ps) (s := szQ qs1) (by omega))
      have hsd : 0 ≤ (1048576 : Int) - szD xss ps ∧ (1048576 : Int) - szD xss ps ≤ 1048576 := by have := szQ_nonneg qs1; have := szD_nonneg xss ps; omega
      obtain ⟨ay1, cy1, hyv1, _⟩ := id hy1
      subst hyv1
      have HR1 := hide hy1
      clear hy1
      have HY := hide (szv_yes hsz)
      have hp : ¬ (1048576 - szD xss ps < 0) := by omega
      have HU := hide hu
      have HV := hide hv
      clear hu hv
      clear hq1
      go_enter Try.func6, Try.ntmps6
      go_wp2_with fail
      refine (szDisk (HU.out.later (below_alloc _ _)) (HV.out.later (below_alloc _ _)) (by omega) (by omega)).mono ?_
      rintro e w1 ⟨he, hb⟩
      rw [HY.out] at he
      subst he
      have B1 := hide (below_on (below_alloc _ _) hb)
      clear hb
      go_wp2_with fail
      refine (szP (HR1.out.later (B1.out)) hsd.1 hsd.2).mono ?_
      rintro e wp1 ⟨he, hb⟩
      rw [show ((qs1.length : Int) + (totW qs1 qs1.length : Int)) = szQ qs1 from rfl, HZ.out] at he
      subst he
      have BP1 := hide (below_on (B1.out) hb)
      clear hb
      go_wp2
      go_ret
      exact ⟨rfl, BP1.out⟩
  · have HY := hide (szv_no (left := 1048576) (s := szD xss ps) (by omega))
    have HU := hide hu
    have HV := hide hv
    clear hsz hu hv
    obtain ⟨ay1, cy1, hyv1, _⟩ := hy1
    subst hyv1
    go_enter Try.func6, Try.ntmps6
    go_wp2_with fail
    refine (szDisk (HU.out.later (below_alloc _ _)) (HV.out.later (below_alloc _ _)) (by omega) (by omega)).mono ?_
    rintro e w1 ⟨he, hb⟩
    rw [HY.out] at he
    subst he
    have B1 := hide (below_on (below_alloc _ _) hb)
    clear hb
    go_wp2
    go_ret
    exact ⟨rfl, B1.out⟩

set_option maxRecDepth 100000 in
theorem fnExactPlanAppend_lifted (os : Os) (started : os.Started) (H : Type) (enc : TypeId × Value → H) :
    ReturnsInHanded {} Try.checked os 6 .any (Rows.fnExactPlanAppendSpec.pre6 enc Try.prog Try.f6 Rows.fnExactPlanAppendRow.domain false) (Rows.fnExactPlanAppendSpec.post enc Try.prog Try.f6 false true false false) := by
  refine returnsInHanded_of_change (C := Try.checked) Try.own started (by kernel_rfl) Try.func6
    (ChangeSpec.witness6 (enc := enc) (C := Try.checked) false ⟨#[], #[.agg #[.slice none 0 0, .slice none 0 0], .slice none 0 0], []⟩ 8 (by kernel_rfl) (by kernel_rfl) (by kernel_rfl) (by kernel_rfl)) ?_
  intro W base args ds gs before hval0 hW hcnd _
  have hval : ∀ (j : Nat) t v, Try.f6.params[j]? = some t → args[j]? = some v → Value.okWide Try.prog W .any base t v := hval0
  have hW' := hW
  obtain ⟨p, q, hA0, hV, rfl, hfz, hnd⟩ := hW
  have hA : DataW.TrodAll enc Try.prog W 0 (fun _ => true) true Try.f6.params.toList args.toList ds p := hA0
  rw [Try.params6] at hA hval
  obtain ⟨v0, v1, d0, d1, p0, p1, rfl, rfl, rfl, h0, h1⟩ := trodAll_two hA
  obtain ⟨rfl, rfl⟩ := trodVars_none hV
  obtain ⟨u, u', xss, ps, rfl, hu, hp⟩ := rdD_of (hval 0 25 v0 rfl rfl) h0
  obtain ⟨qs1, hy1⟩ := rdParg_of (hval 1 23 v1 rfl rfl) h1
  clear hA0 hval0
  simp only [List.append_nil] at hW'
  refine (lawPlanAppend_all hu hp hy1).mono fun e W' ⟨he, hb⟩ => ?_
  subst he
  exact ⟨_, rfl, _, _, _, [], p0 ++ p1, [], hW', trodAll_mk1 (shut_bool Try.underlying4 _), trodAll_mk2 (Below.trod Try.laidOut (by kernel_rfl) (of_decide_eq_true (by kernel_rfl)) h0 hb (fun x hx => by simpa using hW'.lt x (by simp [hx]))) (Below.trod Try.laidOut (by kernel_rfl) (of_decide_eq_true (by kernel_rfl)) h1 hb (fun x hx => by simpa using hW'.lt x (by simp [hx]))), rfl, hb.frame _, fun h => by cases h⟩

theorem fnExactPlanAppend_holds : Rows.FnExactPlanAppendSaid :=
  OpenClaim.holds_of_wide 6 Try.f6 rfl rfl rfl rfl rfl rfl rfl ⟨rfl, rfl, rfl, rfl, rfl⟩ rfl rfl rfl rfl rfl (by kernel_rfl) Try.func6 (by kernel_rfl)
    (of_decide_eq_true (by kernel_rfl)) (by unfold Func.isWrapper; first | (rw [if_pos (by decide +kernel)]; kernel_rfl) | (rw [if_neg (by decide +kernel)]; exact ⟨rfl, rfl⟩))
    (fun os started H enc _ => fnExactPlanAppend_lifted os started H enc)
#print axioms fnExactPlanAppend_holds
end Go.Proofs.Ytdjdfkhgkadhgaa
