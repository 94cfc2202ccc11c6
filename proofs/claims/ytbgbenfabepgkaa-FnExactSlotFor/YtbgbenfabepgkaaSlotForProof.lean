/- For every number: 'FnExactSlotFor' returns true; no condition. -/
import Derived.Test.YtbgbenfabepgkaaEn6
import Derived.Test.YtbgbenfabepgkaaOpen
namespace Go.Proofs.Ytbgbenfabepgkaa
open Go.ChangeShapes Go.WideShapes Go.ChangeAt Go.RowKit

theorem eqIntResS (x y : Int) (w : World) : Calls Try.prog 35 #[.agg #[.int .i64 x, .int .i64 y], .agg #[.int .i64 x, .int .i64 y]] w fun e w' => e = .returned (.bool true) ∧ Below w.heap.size w w' := by
  go_enter Try.func35, Try.ntmps35
  go_wp2
  go_ret
  exact ⟨rfl, below_on (below_alloc _ _) (below_alloc _ _)⟩
set_option maxHeartbeats 2000000 in
theorem lawSlotFor (i : Int) (w : World) : Calls Try.prog 7 #[.int .i64 i] w fun e w' => e = .returned (.bool true) ∧ Below w.heap.size w w' := by
  have HS := hide (fun w => specSlotFor i w)
  have HI := hide (fun w => implSlotFor i w)
  generalize sfC i = z at HS HI
  generalize sfV i = z2 at HS HI
  go_enter Try.func7, Try.ntmps7
  go_wp2_with fail
  refine (HS.out _).mono ?_
  rintro e w3 ⟨rfl, hb⟩
  have B3 := hide (below_on hb (below_alloc w3 (.cells #[.int .i64 z, .int .i64 z2] 54)))
  have V3 := hide (Var2_new w3 (.int .i64 z) (.int .i64 z2) 54)
  clear hb
  go_wp2_with fail
  refine (HI.out _).mono ?_
  rintro e w5 ⟨rfl, hb⟩
  have B5 := hide (below_on B3.out hb)
  have V5 := hide (V3.out.later hb)
  have bA := below_alloc w5 (.cells #[.int .i64 z, .int .i64 z2] 54)
  have hlt := V5.out.lt
  obtain ⟨p0, p1⟩ := V5.out.later bA
  obtain ⟨p2, p3⟩ := V5.out
  have B6 := hide (below_on B5.out bA)
  clear hb B3 V3 V5 B5 bA
  go_wp2_with fail
  refine (eqIntResS z z2 _).mono ?_
  rintro e w6 ⟨rfl, hb⟩
  have B7 := hide (below_on B6.out hb)
  clear hb
  go_wp2
  go_ret
  exact ⟨rfl, B7.out⟩

set_option maxRecDepth 100000 in
theorem fnExactSlotFor_lifted (os : Os) (started : os.Started) (H : Type) (enc : TypeId × Value → H) :
    ReturnsInHanded {} Try.checked os 7 .any (Rows.fnExactSlotForSpec.pre6 enc Try.prog Try.f7 Rows.fnExactSlotForRow.domain false) (Rows.fnExactSlotForSpec.post enc Try.prog Try.f7 false true false false) := by
  refine returnsInHanded_of_change (C := Try.checked) Try.own started (by kernel_rfl) Try.func7
    (ChangeSpec.witness6 (enc := enc) (C := Try.checked) false ⟨#[], #[.int .i64 0], []⟩ 8 (by kernel_rfl) (by kernel_rfl) (by kernel_rfl) (by kernel_rfl)) ?_
  intro W base args ds gs before hval0 hW hcnd _
  have hval : ∀ (j : Nat) t v, Try.f7.params[j]? = some t → args[j]? = some v → Value.okWide Try.prog W .any base t v := hval0
  have hW' := hW
  obtain ⟨p, q, hA0, hV, rfl, hfz, hnd⟩ := hW
  have hA : DataW.TrodAll enc Try.prog W 0 (fun _ => true) true Try.f7.params.toList args.toList ds p := hA0
  rw [Try.params7] at hA hval
  obtain ⟨v0, d0, rfl, rfl, h0⟩ := trodAll_one hA
  obtain ⟨rfl, rfl⟩ := trodVars_none hV
  obtain ⟨s, rfl, rfl, rfl, w0⟩ := open_int Try.underlying2 (hval 0 2 v0 rfl rfl) h0
  clear hA0 hval0
  simp only [List.append_nil] at hW'
  refine (lawSlotFor s W).mono fun e W' ⟨he, hb⟩ => ?_
  subst he
  exact ⟨_, rfl, _, _, _, [], [], [], hW', trodAll_mk1 (shut_bool Try.underlying4 _), trodAll_mk1 (shut_int Try.underlying2 w0), rfl, hb.frame _, fun h => by cases h⟩

theorem fnExactSlotFor_holds : Rows.FnExactSlotForSaid :=
  OpenClaim.holds_of_wide 7 Try.f7 rfl rfl rfl rfl rfl rfl rfl ⟨rfl, rfl, rfl, rfl, rfl⟩ rfl rfl rfl rfl rfl (by kernel_rfl) Try.func7 (by kernel_rfl)
    (of_decide_eq_true (by kernel_rfl)) (by unfold Func.isWrapper; first | (rw [if_pos (by decide +kernel)]; kernel_rfl) | (rw [if_neg (by decide +kernel)]; exact ⟨rfl, rfl⟩))
    (fun os started H enc _ => fnExactSlotFor_lifted os started H enc)
#print axioms fnExactSlotFor_holds
end Go.Proofs.Ytbgbenfabepgkaa
