/- For every list of what was done that can be handed in (shared memory allowed): 'FnExactOrderRight' returns true, and its arguments read as they did; no condition. Made by program (lawgen6.py). -/
import Derived.Test.YtebgonaiodblhaaOr3
import Derived.Test.YtebgonaiodblhaaOr4
import Derived.Test.YtebgonaiodblhaaOpenDn
namespace Go.Proofs.Ytebgonaiodblhaa
open Go.ChangeShapes Go.WideShapes Go.ChangeAt Go.RowKit

set_option maxHeartbeats 2000000 in
theorem lawOrderRight {S : Nat → Prop} {w : World} {y : Value} {os : List Dn} (z : Bool) (hy : RdDn S w y os) (hspec : ∀ (S : Nat → Prop) (w : World) (y : Value), os.length ≤ 1048576 → RdDn S w y os → Calls Try.prog 6 #[y] w fun e w' => e = .returned (.bool z) ∧ Below w.heap.size w w')
    (himpl : ∀ (S : Nat → Prop) (w : World) (y : Value), os.length ≤ 1048576 → RdDn S w y os → Calls Try.prog 8 #[y] w fun e w' => e = .returned (.bool z) ∧ Below w.heap.size w w') : Calls Try.prog 3 #[y] w fun e w' => e = .returned (.bool true) ∧ Below w.heap.size w w' := by
  obtain ⟨ay, cy, rfl⟩ := hy.shape
  obtain ⟨l, hl⟩ : ∃ l, os.length = l := ⟨_, rfl⟩
  have HL := hide hl
  rw [hl] at hy ⊢
  have HU := hide hy
  have HS := hide hspec
  have HI := hide himpl
  clear hy hl hspec himpl
  by_cases hsz : l ≤ 1048576
  · have HY := hide (szv_yes (left := 1048576) (s := (l : Int)) (by omega))
    have hp : ¬ ((1048576 : Int) - (l : Int) < 0) := by omega
    go_enter Try.func3, Try.ntmps3
    go_wp2_with fail
    refine (szDn HU.out (by omega) (by omega)).mono ?_
    rintro e w1 ⟨he, hb⟩
    rw [HL.out, HY.out] at he
    subst he
    have B1 := hide hb
    clear hb
    go_wp2_with fail
    refine (toDn (HU.out.later B1.out) (by rw [HL.out]; exact hsz)).mono ?_
    rintro e w2 ⟨z2', rfl, hb, ho⟩
    have O2 := hide ho.rd
    have B2 := hide (below_on B1.out hb)
    clear hb ho B1
    go_wp2_with fail
    refine (HS.out _ _ _ (by rw [HL.out]; exact hsz) O2.out).mono ?_
    rintro e w3 ⟨rfl, hb⟩
    have B3 := hide (below_on B2.out hb)
    clear hb B2 O2
    go_wp2_with fail
    refine (toDn (HU.out.later B3.out) (by rw [HL.out]; exact hsz)).mono ?_
    rintro e w4 ⟨z4, rfl, hb, ho⟩
    obtain ⟨ao, c, hz4⟩ := ho.shape
    rw [HL.out] at hz4
    subst hz4
    have O4 := hide ho.iv
    have B4 := hide (below_on B3.out hb)
    clear hb ho B3
    go_wp2_with fail
    refine (HI.out _ _ _ (by rw [HL.out]; exact hsz) O4.out.rd).mono ?_
    rintro e w5 ⟨rfl, hb⟩
    have O5 := hide (O4.out.later hb)
    have B5 := hide (below_on B4.out hb)
    clear hb O4 B4
    go_wp2_with fail
    refine (toDn (HU.out.later B5.out) (by rw [HL.out]; exact hsz)).mono ?_
    rintro e w7 ⟨z7, rfl, hb, ho⟩
    have O7 := hide ho.iv
    have O6 := hide (O5.out.later hb)
    have B7 := hide (below_on B5.out hb)
    clear hb ho B5 O5
    go_wp2_with fail
    refine (eqDn O6.out.rd O7.out.rd).mono ?_
    rintro e w8 ⟨rfl, hb⟩
    have B8 := hide (below_on B7.out hb)
    clear hb
    go_wp2
    go_ret
    exact ⟨rfl, B8.out⟩
  · have HY := hide (szv_no (left := 1048576) (s := (l : Int)) (by omega))
    clear hsz
    go_enter Try.func3, Try.ntmps3
    go_wp2_with fail
    refine (szDn HU.out (by omega) (by omega)).mono ?_
    rintro e w1 ⟨he, hb⟩
    rw [HL.out, HY.out] at he
    subst he
    have B1 := hide hb
    clear hb
    go_wp2
    go_ret
    exact ⟨rfl, B1.out⟩

set_option maxRecDepth 100000 in
theorem fnExactOrderRight_lifted (os : Os) (started : os.Started) (H : Type) (enc : TypeId × Value → H) :
    ReturnsInHanded {} Try.checked os 3 .any (Rows.fnExactOrderRightSpec.pre6 enc Try.prog Try.f3 Rows.fnExactOrderRightRow.domain false) (Rows.fnExactOrderRightSpec.post enc Try.prog Try.f3 false true false false) := by
  refine returnsInHanded_of_change (C := Try.checked) Try.own started (by kernel_rfl) Try.func3
    (ChangeSpec.witness6 (enc := enc) (C := Try.checked) false ⟨#[], #[.slice none 0 0], []⟩ 8 (by kernel_rfl) (by kernel_rfl) (by kernel_rfl) (by kernel_rfl)) ?_
  intro W base args ds gs before hval0 hW hcnd _
  have hval : ∀ (j : Nat) t v, Try.f3.params[j]? = some t → args[j]? = some v → Value.okWide Try.prog W .any base t v := hval0
  have hW' := hW
  obtain ⟨p, q, hA0, hV, rfl, hfz, hnd⟩ := hW
  have hA : DataW.TrodAll enc Try.prog W 0 (fun _ => true) true Try.f3.params.toList args.toList ds p := hA0
  rw [Try.params3] at hA hval
  obtain ⟨v0, d0, rfl, rfl, h0⟩ := trodAll_one hA
  obtain ⟨rfl, rfl⟩ := trodVars_none hV
  obtain ⟨xs0, hy0, hwf0⟩ := rdDnarg_of (hval 0 22 v0 rfl rfl) h0
  clear hA0 hval0
  simp only [List.append_nil] at hW'
  refine (lawOrderRight (orF xs0 xs0.length) hy0 (fun _ _ _ hm h => specOrderRight h hm) (fun _ _ _ hm h => implOrderRight h hm hwf0)).mono fun e W' ⟨he, hb⟩ => ?_
  subst he
  exact ⟨_, rfl, _, _, _, [], p, [], hW', trodAll_mk1 (shut_bool Try.underlying4 _), trodAll_mk1 (Below.trod Try.laidOut (by kernel_rfl) (of_decide_eq_true (by kernel_rfl)) h0 hb (fun x hx => by simpa using hW'.lt x (by simp [hx]))), rfl, hb.frame _, fun h => by cases h⟩

theorem fnExactOrderRight_holds : Rows.FnExactOrderRightSaid :=
  OpenClaim.holds_of_wide 3 Try.f3 rfl rfl rfl rfl rfl rfl rfl ⟨rfl, rfl, rfl, rfl, rfl⟩ rfl rfl rfl rfl rfl (by kernel_rfl) Try.func3 (by kernel_rfl)
    (of_decide_eq_true (by kernel_rfl)) (by unfold Func.isWrapper; first | (rw [if_pos (by decide +kernel)]; kernel_rfl) | (rw [if_neg (by decide +kernel)]; exact ⟨rfl, rfl⟩))
    (fun os started H enc _ => fnExactOrderRight_lifted os started H enc)
#print axioms fnExactOrderRight_holds
end Go.Proofs.Ytebgonaiodblhaa
