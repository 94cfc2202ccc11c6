/- For every input that can be handed in (a list of puts, a list of objects; shared memory allowed): 'FnExactPutsOf' returns true, and its arguments read as they did; no condition. Made by program (genproof.py). -/
import Derived.Test.YtjekggpddpblmaaLawPutsOf
import Derived.Test.YtjekggpddpblmaaPo8
import Derived.Test.YtjekggpddpblmaaOpenJ
namespace Go.Proofs.Ytjekggpddpblmaa
open Go.ChangeShapes Go.WideShapes Go.ChangeAt Go.RowKit

set_option maxHeartbeats 1000000 in
theorem lawPutsOf_all {S0 S1 : Nat → Prop} {w : World} {y0 : Value} {qs0 : List (Int × List Int)} {y1 : Value} {qs1 : List Oj} (hy0 : RdP S0 w y0 qs0) (hy1 : RdJ S1 w y1 qs1) :
    Calls Try.prog 3 #[y0, y1] w fun e w' => e = .returned (.bool true) ∧ Below w.heap.size w w' := by
  by_cases hq0 : szQ qs0 ≤ 1048576
  · skip
    by_cases hq1 : szQ qs0 + szU qs1 ≤ 1048576
    · skip
      exact lawPutsOf_small  hy0 hy1 (poC qs0 qs1) (poV qs0 qs1) (po_bound qs0 qs1) hq0 hq1 (fun _ _ w y z hy hz => specPutsOf hy hz) (fun _ _ w y z hy hz => implPutsOf hy hz)
    · have HZ := hide (szv_no (left := (1048576 : Int) - szQ qs0) (s := szU qs1) (by omega))
      have hsd : 0 ≤ (1048576 : Int) - szQ qs0 ∧ (1048576 : Int) - szQ qs0 ≤ 1048576 := by have := szQ_nonneg qs0; have := szU_nonneg qs1; omega
      have HZ0 := hide (szv_yes (left := (1048576 : Int)) (s := szQ qs0) (by omega))
      have hp0 : ¬ ((1048576 : Int) - szQ qs0 < 0) := by omega
      have hsd0 : 0 ≤ (1048576 : Int) ∧ (1048576 : Int) ≤ 1048576 := by have := szQ_nonneg qs0; have := szU_nonneg qs1; omega
      obtain ⟨ay0, cy0, hyv0, _⟩ := id hy0
      subst hyv0
      have HR0 := hide hy0
      clear hy0
      obtain ⟨ay1, cy1, hyv1, _⟩ := id hy1
      subst hyv1
      have HR1 := hide hy1
      clear hy1
      clear hq0 hq1
      go_enter Try.func3, Try.ntmps3
      go_wp2_with fail
      refine (szP (HR0.out.later (Below.refl _ _)) hsd0.1 hsd0.2).mono ?_
      rintro e wp0 ⟨he, hb⟩
      rw [show ((qs0.length : Int) + (totW qs0 qs0.length : Int)) = szQ qs0 from rfl, HZ0.out] at he
      subst he
      have BP0 := hide (below_on (Below.refl _ _) hb)
      clear hb
      go_wp2_with fail
      refine (szJ (HR1.out.later (BP0.out)) hsd.1 hsd.2).mono ?_
      rintro e wp1 ⟨he, hb⟩
      rw [show ((qs1.length : Int) + (totX qs1 qs1.length : Int)) = szU qs1 from rfl, HZ.out] at he
      subst he
      have BP1 := hide (below_on (BP0.out) hb)
      clear hb
      go_wp2
      go_ret
      exact ⟨rfl, BP1.out⟩
  · have HZ := hide (szv_no (left := (1048576 : Int)) (s := szQ qs0) (by omega))
    have hsd : 0 ≤ (1048576 : Int) ∧ (1048576 : Int) ≤ 1048576 := by have := szQ_nonneg qs0; omega
    obtain ⟨ay0, cy0, hyv0, _⟩ := id hy0
    subst hyv0
    have HR0 := hide hy0
    clear hy0
    obtain ⟨ay1, cy1, hyv1, _⟩ := id hy1
    subst hyv1
    have HR1 := hide hy1
    clear hy1
    clear hq0
    go_enter Try.func3, Try.ntmps3
    go_wp2_with fail
    refine (szP (HR0.out.later (Below.refl _ _)) hsd.1 hsd.2).mono ?_
    rintro e wp0 ⟨he, hb⟩
    rw [show ((qs0.length : Int) + (totW qs0 qs0.length : Int)) = szQ qs0 from rfl, HZ.out] at he
    subst he
    have BP0 := hide (below_on (Below.refl _ _) hb)
    clear hb
    go_wp2
    go_ret
    exact ⟨rfl, BP0.out⟩

set_option maxRecDepth 100000 in
theorem fnExactPutsOf_lifted (os : Os) (started : os.Started) (H : Type) (enc : TypeId × Value → H) :
    ReturnsInHanded {} Try.checked os 3 .any (Rows.fnExactPutsOfSpec.pre6 enc Try.prog Try.f3 Rows.fnExactPutsOfRow.domain false) (Rows.fnExactPutsOfSpec.post enc Try.prog Try.f3 false true false false) := by
  refine returnsInHanded_of_change (C := Try.checked) Try.own started (by kernel_rfl) Try.func3
    (ChangeSpec.witness6 (enc := enc) (C := Try.checked) false ⟨#[], #[.slice none 0 0, .slice none 0 0], []⟩ 8 (by kernel_rfl) (by kernel_rfl) (by kernel_rfl) (by kernel_rfl)) ?_
  intro W base args ds gs before hval0 hW hcnd _
  have hval : ∀ (j : Nat) t v, Try.f3.params[j]? = some t → args[j]? = some v → Value.okWide Try.prog W .any base t v := hval0
  have hW' := hW
  obtain ⟨p, q, hA0, hV, rfl, hfz, hnd⟩ := hW
  have hA : DataW.TrodAll enc Try.prog W 0 (fun _ => true) true Try.f3.params.toList args.toList ds p := hA0
  rw [Try.params3] at hA hval
  obtain ⟨v0, v1, d0, d1, p0, p1, rfl, rfl, rfl, h0, h1⟩ := trodAll_two hA
  obtain ⟨rfl, rfl⟩ := trodVars_none hV
  obtain ⟨qs0, hy0⟩ := rdParg_of (hval 0 22 v0 rfl rfl) h0
  obtain ⟨qs1, hy1⟩ := rdJarg_of (hval 1 23 v1 rfl rfl) h1
  clear hA0 hval0
  simp only [List.append_nil] at hW'
  refine (lawPutsOf_all hy0 hy1).mono fun e W' ⟨he, hb⟩ => ?_
  subst he
  exact ⟨_, rfl, _, _, _, [], p0 ++ p1, [], hW', trodAll_mk1 (shut_bool Try.underlying4 _), trodAll_mk2 (Below.trod Try.laidOut (by kernel_rfl) (of_decide_eq_true (by kernel_rfl)) h0 hb (fun x hx => by simpa using hW'.lt x (by simp [hx]))) (Below.trod Try.laidOut (by kernel_rfl) (of_decide_eq_true (by kernel_rfl)) h1 hb (fun x hx => by simpa using hW'.lt x (by simp [hx]))), rfl, hb.frame _, fun h => by cases h⟩

theorem fnExactPutsOf_holds : Rows.FnExactPutsOfSaid :=
  OpenClaim.holds_of_wide 3 Try.f3 rfl rfl rfl rfl rfl rfl rfl ⟨rfl, rfl, rfl, rfl, rfl⟩ rfl rfl rfl rfl rfl (by kernel_rfl) Try.func3 (by kernel_rfl)
    (of_decide_eq_true (by kernel_rfl)) (by unfold Func.isWrapper; first | (rw [if_pos (by decide +kernel)]; kernel_rfl) | (rw [if_neg (by decide +kernel)]; exact ⟨rfl, rfl⟩))
    (fun os started H enc _ => fnExactPutsOf_lifted os started H enc)
#print axioms fnExactPutsOf_holds
end Go.Proofs.Ytjekggpddpblmaa
