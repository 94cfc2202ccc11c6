/- For every input that can be handed in (a disk, a number; shared memory allowed): 'FnExactReadHome' returns true, and its arguments read as they did; no condition. Made by program (genproof.py). -/
import Derived.Test.YtbohmnfnhggekaaLawReadHome
import Derived.Test.YtbohmnfnhggekaaSeen4
import Derived.Test.YtbohmnfnhggekaaOpen
namespace Go.Proofs.Ytbohmnfnhggekaa
open Go.ChangeShapes Go.WideShapes Go.ChangeAt Go.RowKit

set_option maxHeartbeats 1000000 in
theorem lawReadHome_all {S T : Nat → Prop} {w : World} {u v : Value} {xss : List (List Int)} {ps : List (Int × List Int)} (a1 : Int) (hu : RdII S w u xss) (hv : RdP T w v ps) :
    Calls Try.prog 4 #[.agg #[u, v], .int .i64 a1] w fun e w' => e = .returned (.bool true) ∧ Below w.heap.size w w' := by
  by_cases hsz : szD xss ps ≤ 1048576
  · have HM := Small.of hsz
    exact lawReadHome_small a1 hu hv (rhF xss ps a1) (rhXs xss ps a1) (rh_bound HM a1) hsz (fun _ _ w u v hu hv => specReadHome a1 hu hv HM) (fun _ _ w u v hu hv => implReadHome a1 hu hv HM)
  · have HY := hide (szv_no (left := 1048576) (s := szD xss ps) (by omega))
    have HU := hide hu
    have HV := hide hv
    clear hsz hu hv
    go_enter Try.func4, Try.ntmps4
    go_wp2_with fail
    refine (szDisk (HU.out.later (below_alloc _ _)) (HV.out.later (below_alloc _ _)) (by omega) (by omega)).mono ?_
    rintro e w1 ⟨he, hb⟩
    rw [HY.out] at he
    subst he
    have B1 := hide (below_on (below_alloc _ _) hb)
    clear hb
    go_wp2
    go_ret
    exact ⟨rfl, B1.out⟩

set_option maxRecDepth 100000 in
theorem fnExactReadHome_lifted (os : Os) (started : os.Started) (H : Type) (enc : TypeId × Value → H) :
    ReturnsInHanded {} Try.checked os 4 .any (Rows.fnExactReadHomeSpec.pre6 enc Try.prog Try.f4 Rows.fnExactReadHomeRow.domain false) (Rows.fnExactReadHomeSpec.post enc Try.prog Try.f4 false true false false) := by
  refine returnsInHanded_of_change (C := Try.checked) Try.own started (by kernel_rfl) Try.func4
    (ChangeSpec.witness6 (enc := enc) (C := Try.checked) false ⟨#[], #[.agg #[.slice none 0 0, .slice none 0 0], .int .i64 0], []⟩ 8 (by kernel_rfl) (by kernel_rfl) (by kernel_rfl) (by kernel_rfl)) ?_
  intro W base args ds gs before hval0 hW hcnd _
  have hval : ∀ (j : Nat) t v, Try.f4.params[j]? = some t → args[j]? = some v → Value.okWide Try.prog W .any base t v := hval0
  have hW' := hW
  obtain ⟨p, q, hA0, hV, rfl, hfz, hnd⟩ := hW
  have hA : DataW.TrodAll enc Try.prog W 0 (fun _ => true) true Try.f4.params.toList args.toList ds p := hA0
  rw [Try.params4] at hA hval
  obtain ⟨v0, v1, d0, d1, p0, p1, rfl, rfl, rfl, h0, h1⟩ := trodAll_two hA
  obtain ⟨rfl, rfl⟩ := trodVars_none hV
  obtain ⟨u, u', xss, ps, rfl, hu, hp⟩ := rdD_of (hval 0 25 v0 rfl rfl) h0
  obtain ⟨a1, rfl, rfl, rfl, wf1⟩ := open_int Try.underlying2 (hval 1 2 v1 rfl rfl) h1
  clear hA0 hval0
  simp only [List.append_nil] at hW'
  refine (lawReadHome_all a1 hu hp).mono fun e W' ⟨he, hb⟩ => ?_
  subst he
  exact ⟨_, rfl, _, _, _, [], p0 ++ [], [], hW', trodAll_mk1 (shut_bool Try.underlying4 _), trodAll_mk2 (Below.trod Try.laidOut (by kernel_rfl) (of_decide_eq_true (by kernel_rfl)) h0 hb (fun x hx => by simpa using hW'.lt x (by simp [hx]))) (shut_int Try.underlying2 wf1), rfl, hb.frame _, fun h => by cases h⟩

theorem fnExactReadHome_holds : Rows.FnExactReadHomeSaid :=
  OpenClaim.holds_of_wide 4 Try.f4 rfl rfl rfl rfl rfl rfl rfl ⟨rfl, rfl, rfl, rfl, rfl⟩ rfl rfl rfl rfl rfl (by kernel_rfl) Try.func4 (by kernel_rfl)
    (of_decide_eq_true (by kernel_rfl)) (by unfold Func.isWrapper; first | (rw [if_pos (by decide +kernel)]; kernel_rfl) | (rw [if_neg (by decide +kernel)]; exact ⟨rfl, rfl⟩))
    (fun os started H enc _ => fnExactReadHome_lifted os started H enc)
#print axioms fnExactReadHome_holds
end Go.Proofs.Ytbohmnfnhggekaa
