/- For every input that can be handed in (a disk; shared memory allowed): 'FnExactViewOf' returns true, and its arguments read as they did; no condition. Made by program (genproof.py). -/
import Derived.Test.YtbjmmhcbjcngcaaLawViewOf
import Derived.Test.YtbjmmhcbjcngcaaVw2
import Derived.Test.YtbjmmhcbjcngcaaOpen
namespace Go.Proofs.Ytbjmmhcbjcngcaa
open Go.ChangeShapes Go.WideShapes Go.ChangeAt Go.RowKit

set_option maxHeartbeats 1000000 in
theorem lawViewOf_all {S T : Nat → Prop} {w : World} {u v : Value} {xss : List (List Int)} {ps : List (Int × List Int)} (hu : RdII S w u xss) (hv : RdP T w v ps) :
    Calls Try.prog 3 #[.agg #[u, v]] w fun e w' => e = .returned (.bool true) ∧ Below w.heap.size w w' := by
  by_cases hsz : szD xss ps ≤ 1048576
  · have HM := Small.of hsz
    exact lawViewOf_small  hu hv (lgF xss ps) (vwL xss ps) (vw_bound HM) hsz (fun _ _ w u v hu hv => specViewOf hu hv HM) (fun _ _ w u v hu hv => implViewOf hu hv HM)
  · have HY := hide (szv_no (left := 1048576) (s := szD xss ps) (by omega))
    have HU := hide hu
    have HV := hide hv
    clear hsz hu hv
    go_enter Try.func3, Try.ntmps3
    go_wp2_with fail
    refine (szDisk (HU.out.later (below_alloc _ _)) (HV.out.later (below_alloc _ _)) (by omega) (by omega)).mono ?_
    rintro e w1 ⟨he, hb⟩
    rw [HY.out] at he
    subst he
    have B1 := hide (below_on (below_alloc _ _) hb)
    clear hb
    go_wp2
    go_ret
    exact ⟨rfl, B1.out⟩

set_option maxRecDepth 100000 in
theorem fnExactViewOf_lifted (os : Os) (started : os.Started) (H : Type) (enc : TypeId × Value → H) :
    ReturnsInHanded {} Try.checked os 3 .any (Rows.fnExactViewOfSpec.pre6 enc Try.prog Try.f3 Rows.fnExactViewOfRow.domain false) (Rows.fnExactViewOfSpec.post enc Try.prog Try.f3 false true false false) := by
  refine returnsInHanded_of_change (C := Try.checked) Try.own started (by kernel_rfl) Try.func3
    (ChangeSpec.witness6 (enc := enc) (C := Try.checked) false ⟨#[], #[.agg #[.slice none 0 0, .slice none 0 0]], []⟩ 8 (by kernel_rfl) (by kernel_rfl) (by kernel_rfl) (by kernel_rfl)) ?_
  intro W base args ds gs before hval0 hW hcnd _
  have hval : ∀ (j : Nat) t v, Try.f3.params[j]? = some t → args[j]? = some v → Value.okWide Try.prog W .any base t v := hval0
  have hW' := hW
  obtain ⟨p, q, hA0, hV, rfl, hfz, hnd⟩ := hW
  have hA : DataW.TrodAll enc Try.prog W 0 (fun _ => true) true Try.f3.params.toList args.toList ds p := hA0
  rw [Try.params3] at hA hval
  obtain ⟨v0, d0, rfl, rfl, h0⟩ := trodAll_one hA
  obtain ⟨rfl, rfl⟩ := trodVars_none hV
  obtain ⟨u, u', xss, ps, rfl, hu, hp⟩ := rdD_of (hval 0 25 v0 rfl rfl) h0
  clear hA0 hval0
  simp only [List.append_nil] at hW'
  refine (lawViewOf_all hu hp).mono fun e W' ⟨he, hb⟩ => ?_
  subst he
  exact ⟨_, rfl, _, _, _, [], p, [], hW', trodAll_mk1 (shut_bool Try.underlying4 _), trodAll_mk1 (Below.trod Try.laidOut (by kernel_rfl) (of_decide_eq_true (by kernel_rfl)) h0 hb (fun x hx => by simpa using hW'.lt x (by simp [hx]))), rfl, hb.frame _, fun h => by cases h⟩

theorem fnExactViewOf_holds : Rows.FnExactViewOfSaid :=
  OpenClaim.holds_of_wide 3 Try.f3 rfl rfl rfl rfl rfl rfl rfl ⟨rfl, rfl, rfl, rfl, rfl⟩ rfl rfl rfl rfl rfl (by kernel_rfl) Try.func3 (by kernel_rfl)
    (of_decide_eq_true (by kernel_rfl)) (by unfold Func.isWrapper; first | (rw [if_pos (by decide +kernel)]; kernel_rfl) | (rw [if_neg (by decide +kernel)]; exact ⟨rfl, rfl⟩))
    (fun os started H enc _ => fnExactViewOf_lifted os started H enc)
#print axioms fnExactViewOf_holds
end Go.Proofs.Ytbjmmhcbjcngcaa
