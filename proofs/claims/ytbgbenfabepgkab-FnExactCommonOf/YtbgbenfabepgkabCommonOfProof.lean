/- For every two lists of entries that can be handed in (shared memory allowed): 'FnExactCommonOf' returns true, and its arguments read as they did; no condition. Made by program (lawgen9.py). -/
import Derived.Test.YtbgbenfabepgkabEn7
import Derived.Test.YtbgbenfabepgkabEnV
import Derived.Test.YtbgbenfabepgkabOpenE
namespace Go.Proofs.Ytbgbenfabepgkab
open Go.ChangeShapes Go.WideShapes Go.ChangeAt Go.RowKit

set_option maxHeartbeats 4000000 in
theorem lawCommonOf {S T : Nat → Prop} {w : World} {y u : Value} {ps qs : List Oj} (z : Int) (hy : RdJ S w y ps) (hu : RdJ T w u qs) (hspec : ∀ (S T : Nat → Prop) (w : World) (y u : Value), RdJ S w y ps → RdJ T w u qs → Calls Try.prog 5 #[y, u] w fun e w' => e = .returned (.int .i64 z) ∧ Below w.heap.size w w')
    (himpl : ∀ (S T : Nat → Prop) (w : World) (y u : Value), RdJ S w y ps → RdJ T w u qs → Calls Try.prog 7 #[y, u] w fun e w' => e = .returned (.int .i64 z) ∧ Below w.heap.size w w') : Calls Try.prog 3 #[y, u] w fun e w' => e = .returned (.bool true) ∧ Below w.heap.size w w' := by
  obtain ⟨ay, cy, rfl, _⟩ := hy.shape
  obtain ⟨au, cu, rfl, _⟩ := hu.shape
  obtain ⟨l, hl⟩ : ∃ l, ps.length = l := ⟨_, rfl⟩
  have HL := hide hl
  rw [hl] at hy ⊢
  obtain ⟨m, hm⟩ : ∃ m, qs.length = m := ⟨_, rfl⟩
  have HM := hide hm
  rw [hm] at hu ⊢
  have HU := hide hy
  have HV := hide hu
  obtain ⟨z0, hz0⟩ : ∃ z, szU ps = z := ⟨_, rfl⟩
  have hzn := szU_nonneg ps
  have HQf := hide (fun (h : z0 ≤ 1048576) => smallU (qs := ps) (by rw [hz0]; exact h))
  rw [hz0] at hzn
  have HZ0 := hide hz0
  obtain ⟨z1, hz1⟩ : ∃ z, szU qs = z := ⟨_, rfl⟩
  have hzn1 := szU_nonneg qs
  have HQg := hide (fun (h : z1 ≤ 1048576) => smallU (qs := qs) (by rw [hz1]; exact h))
  rw [hz1] at hzn1
  have HZ1 := hide hz1
  have HS := hide hspec
  have HI := hide himpl
  clear hz0 hz1 hy hu hl hm hspec himpl
  by_cases hsz : z0 ≤ 1048576
  · have HY0 := hide (szv_yes (left := 1048576) (s := z0) (by omega))
    have hp : ¬ ((1048576 : Int) - z0 < 0) := by omega
    by_cases hsz1 : z1 ≤ 1048576 - z0
    · have HY1 := hide (szv_yes (left := 1048576 - z0) (s := z1) (by omega))
      have hp1 : ¬ ((1048576 : Int) - z0 - z1 < 0) := by omega
      have hsz2 : z1 ≤ 1048576 := by omega
      go_enter Try.func3, Try.ntmps3
      go_wp2_with fail
      refine (szEnU (HU.out.later (Below.refl _ _)) (by omega) (by omega)).mono ?_
      rintro e w1 ⟨he, hb⟩
      rw [HZ0.out, HY0.out] at he
      subst he
      have B1 := hide (below_on (Below.refl _ _) hb)
      clear hb
      go_wp2_with fail
      refine (szEnU (HV.out.later B1.out) (by omega) (by omega)).mono ?_
      rintro e w2 ⟨he, hb⟩
      rw [HZ1.out, HY1.out] at he
      subst he
      have B2 := hide (below_on B1.out hb)
      clear hb
      clear B1
      go_wp2_with fail
      refine (toEn (HU.out.later B2.out) (HQf.out hsz).1 (HQf.out hsz).2.1).mono ?_
      rintro e w3 ⟨zs, rfl, hb, ho⟩
      obtain ⟨ads, cds, hzs⟩ := ho.shape
      rw [HL.out] at hzs
      subst hzs
      have Os := hide ho.iv
      have B3 := hide (below_on B2.out hb)
      clear hb ho B2
      go_wp2_with fail
      refine (toEn (HV.out.later B3.out) (HQg.out hsz2).1 (HQg.out hsz2).2.1).mono ?_
      rintro e w4 ⟨zt, rfl, hb, ho⟩
      obtain ⟨adt, cdt, hzt⟩ := ho.shape
      rw [HM.out] at hzt
      subst hzt
      have Ot := hide ho.iv
      have B4 := hide (below_on B3.out hb)
      have Os4 := hide (Os.out.later hb)
      clear hb ho B3
      go_wp2_with fail
      refine (HS.out _ _ _ _ _ Os4.out.rd Ot.out.rd).mono ?_
      rintro e w5 ⟨rfl, hb⟩
      have B5 := hide (below_on B4.out hb)
      clear hb B4 Os Os4 Ot
      go_wp2_with fail
      refine (toEn (HU.out.later B5.out) (HQf.out hsz).1 (HQf.out hsz).2.1).mono ?_
      rintro e w6 ⟨zx, rfl, hb, ho⟩
      obtain ⟨adx, cdx, hzx⟩ := ho.shape
      rw [HL.out] at hzx
      subst hzx
      have Ox := hide ho.iv
      have B6 := hide (below_on B5.out hb)
      clear hb ho B5
      go_wp2_with fail
      refine (toEn (HV.out.later B6.out) (HQg.out hsz2).1 (HQg.out hsz2).2.1).mono ?_
      rintro e w7 ⟨zv, rfl, hb, ho⟩
      obtain ⟨adv, cdv, hzv⟩ := ho.shape
      rw [HM.out] at hzv
      subst hzv
      have Ov := hide ho.iv
      have B7 := hide (below_on B6.out hb)
      have Ox7 := hide (Ox.out.later hb)
      clear hb ho B6 Ox
      go_wp2_with fail
      refine (HI.out _ _ _ _ _ Ox7.out.rd Ov.out.rd).mono ?_
      rintro e w8 ⟨rfl, hb⟩
      have B8 := hide (below_on B7.out hb)
      have Ox8 := hide (Ox7.out.later hb)
      have Ov8 := hide (Ov.out.later hb)
      clear hb B7 Ox7 Ov
      go_wp2_with fail
      refine (toEn (HU.out.later B8.out) (HQf.out hsz).1 (HQf.out hsz).2.1).mono ?_
      rintro e w9 ⟨zp, rfl, hb, ho⟩
      obtain ⟨adp, cdp, hzp⟩ := ho.shape
      rw [HL.out] at hzp
      subst hzp
      have Op := hide ho.iv
      have B9 := hide (below_on B8.out hb)
      have Ox9 := hide (Ox8.out.later hb)
      have Ov9 := hide (Ov8.out.later hb)
      clear hb ho B8 Ox8 Ov8
      go_wp2_with fail
      refine (eqEn Ox9.out.rd Op.out.rd).mono ?_
      rintro e w10 ⟨rfl, hb⟩
      have B10 := hide (below_on B9.out hb)
      have Ov10 := hide (Ov9.out.later hb)
      clear hb B9 Ox9 Ov9 Op
      go_wp2_with fail
      refine (toEn (HV.out.later B10.out) (HQg.out hsz2).1 (HQg.out hsz2).2.1).mono ?_
      rintro e w11 ⟨zq, rfl, hb, ho⟩
      obtain ⟨adq, cdq, hzq⟩ := ho.shape
      rw [HM.out] at hzq
      subst hzq
      have Oq := hide ho.iv
      have B11 := hide (below_on B10.out hb)
      have Ov11 := hide (Ov10.out.later hb)
      clear hb ho B10 Ov10
      go_wp2_with fail
      refine (eqEn Ov11.out.rd Oq.out.rd).mono ?_
      rintro e w12 ⟨rfl, hb⟩
      have B12 := hide (below_on B11.out hb)
      clear hb
      go_wp2
      go_ret
      exact ⟨rfl, B12.out⟩
    · have HY1 := hide (szv_no (left := 1048576 - z0) (s := z1) (by omega))
      clear hsz1
      go_enter Try.func3, Try.ntmps3
      go_wp2_with fail
      refine (szEnU (HU.out.later (Below.refl _ _)) (by omega) (by omega)).mono ?_
      rintro e w1 ⟨he, hb⟩
      rw [HZ0.out, HY0.out] at he
      subst he
      have B1 := hide (below_on (Below.refl _ _) hb)
      clear hb
      go_wp2_with fail
      refine (szEnU (HV.out.later B1.out) (by omega) (by omega)).mono ?_
      rintro e w2 ⟨he, hb⟩
      rw [HZ1.out, HY1.out] at he
      subst he
      have B2 := hide (below_on B1.out hb)
      clear hb
      go_wp2
      go_ret
      exact ⟨rfl, B2.out⟩
  · have HY0 := hide (szv_no (left := 1048576) (s := z0) (by omega))
    clear hsz
    go_enter Try.func3, Try.ntmps3
    go_wp2_with fail
    refine (szEnU (HU.out.later (Below.refl _ _)) (by omega) (by omega)).mono ?_
    rintro e w1 ⟨he, hb⟩
    rw [HZ0.out, HY0.out] at he
    subst he
    have B1 := hide (below_on (Below.refl _ _) hb)
    clear hb
    go_wp2
    go_ret
    exact ⟨rfl, B1.out⟩

set_option maxRecDepth 100000 in
theorem fnExactCommonOf_lifted (os : Os) (started : os.Started) (H : Type) (enc : TypeId × Value → H) :
    ReturnsInHanded {} Try.checked os 3 .any (Rows.fnExactCommonOfSpec.pre6 enc Try.prog Try.f3 Rows.fnExactCommonOfRow.domain false) (Rows.fnExactCommonOfSpec.post enc Try.prog Try.f3 false true false false) := by
  refine returnsInHanded_of_change (C := Try.checked) Try.own started (by kernel_rfl) Try.func3
    (ChangeSpec.witness6 (enc := enc) (C := Try.checked) false ⟨#[], #[.slice none 0 0, .slice none 0 0], []⟩ 8 (by kernel_rfl) (by kernel_rfl) (by kernel_rfl) (by kernel_rfl)) ?_
  intro W base args ds gs before hval0 hW hcnd _
  have hval : ∀ (j : Nat) t v, Try.f3.params[j]? = some t → args[j]? = some v → Value.okWide Try.prog W .any base t v := hval0
  have hW' := hW
  obtain ⟨p, q, hA0, hV, rfl, hfz, hnd⟩ := hW
  have hA : DataW.TrodAll enc Try.prog W 0 (fun _ => true) true Try.f3.params.toList args.toList ds p := hA0
  rw [Try.params3] at hA hval
  obtain ⟨v0, v1, d0, d1, p0, p1, rfl, rfl, rfl, h0, h1⟩ := trodAll_two hA
  obtain ⟨rfl, rfl⟩ := trodVars_none hV
  obtain ⟨xs0, hy0⟩ := rdEnarg_of (hval 0 22 v0 rfl rfl) h0
  obtain ⟨xs1, hy1⟩ := rdEnarg_of (hval 1 22 v1 rfl rfl) h1
  clear hA0 hval0
  simp only [List.append_nil] at hW'
  refine (lawCommonOf ((cmnE xs0 xs1 : Nat) : Int) hy0 hy1 (fun _ _ _ _ _ h k => (specCommonOf h k).mono fun e w1 ⟨he, q, hq⟩ => ⟨he, hq ▸ below_drewN _ q⟩) (fun _ _ _ _ _ h k => implCommonOf h k)).mono fun e W' ⟨he, hb⟩ => ?_
  subst he
  exact ⟨_, rfl, _, _, _, [], p0 ++ p1, [], hW', trodAll_mk1 (shut_bool Try.underlying4 _), trodAll_mk2 (Below.trod Try.laidOut (by kernel_rfl) (of_decide_eq_true (by kernel_rfl)) h0 hb (fun x hx => by simpa using hW'.lt x (by simp [hx]))) (Below.trod Try.laidOut (by kernel_rfl) (of_decide_eq_true (by kernel_rfl)) h1 hb (fun x hx => by simpa using hW'.lt x (by simp [hx]))), rfl, hb.frame _, fun h => by cases h⟩

theorem fnExactCommonOf_holds : Rows.FnExactCommonOfSaid :=
  OpenClaim.holds_of_wide 3 Try.f3 rfl rfl rfl rfl rfl rfl rfl ⟨rfl, rfl, rfl, rfl, rfl⟩ rfl rfl rfl rfl rfl (by kernel_rfl) Try.func3 (by kernel_rfl)
    (of_decide_eq_true (by kernel_rfl)) (by unfold Func.isWrapper; first | (rw [if_pos (by decide +kernel)]; kernel_rfl) | (rw [if_neg (by decide +kernel)]; exact ⟨rfl, rfl⟩))
    (fun os started H enc _ => fnExactCommonOf_lifted os started H enc)
#print axioms fnExactCommonOf_holds
end Go.Proofs.Ytbgbenfabepgkab
