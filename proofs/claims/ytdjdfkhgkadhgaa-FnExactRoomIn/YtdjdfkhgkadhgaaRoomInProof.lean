/- For every disk that can be handed in (shared memory allowed): 'FnExactRoomIn' returns true, and its argument reads as it did; no condition. -/
import Derived.Test.YtdjdfkhgkadhgaaRoom
import Derived.Test.YtdjdfkhgkadhgaaSmall
import Derived.Test.YtdjdfkhgkadhgaaIv
import Derived.Test.YtdjdfkhgkadhgaaEq
import Derived.Test.YtdjdfkhgkadhgaaOpen
namespace Go.Proofs.Ytdjdfkhgkadhgaa
open Go.ChangeShapes Go.WideShapes Go.ChangeAt Go.RowKit

set_option maxHeartbeats 1000000 in
theorem lawRoomIn {S T : Nat → Prop} {w : World} {u v : Value} {xss : List (List Int)} {ps : List (Int × List Int)} (hu : RdII S w u xss) (hv : RdP T w v ps) :
    Calls Try.prog 7 #[.agg #[u, v]] w fun e w' => e = .returned (.bool true) ∧ Below w.heap.size w w' := by
  by_cases hsz : szD xss ps ≤ 1048576
  · have HM := hide (Small.of hsz)
    have HS := hide (fun (S T : Nat → Prop) (w : World) (u v : Value) (h1 : RdII S w u xss) (h2 : RdP T w v ps) => specRoomIn h1 h2 HM.out)
    have HI := hide (fun (S T : Nat → Prop) (w : World) (u v : Value) (h1 : RdII S w u xss) (h2 : RdP T w v ps) => implRoomIn h1 h2 HM.out)
    generalize inF xss ps = cc at HS HI
    generalize rmV xss ps = vv at HS HI
    have HU := hide hu
    have HV := hide hv
    have HY := hide (szv_yes hsz)
    have hp : ¬ (1048576 - szD xss ps < 0) := by omega
    clear hu hv hsz
    go_enter Try.func7, Try.ntmps7
    go_wp2_with fail
    refine (szDisk (HU.out.later (below_alloc _ _)) (HV.out.later (below_alloc _ _)) (by omega) (by omega)).mono ?_
    rintro e w1 ⟨he, hb⟩
    rw [HY.out] at he
    subst he
    have B1 := hide (below_on (below_alloc w (.cells #[u, v] 25)) hb)
    obtain ⟨c0, c1⟩ := (Var2_new w u v 25).later hb
    clear hb
    go_wp2_with fail
    refine (toDisk' (HU.out.later B1.out) (HV.out.later B1.out) HM.out).mono ?_
    rintro e w2 ⟨u2, v2, rfl, hb, ho⟩
    have O2 := hide ho.iv
    have B2 := hide (below_on B1.out hb)
    have d0 := cell_later hb c0
    have d1 := cell_later hb c1
    clear hb ho c0 c1 B1
    go_wp2_with fail
    refine (HS.out _ _ _ _ _ O2.out.rdII O2.out.rdP).mono ?_
    rintro e w3 ⟨rfl, hb⟩
    have hb' := below_on hb (below_alloc w3 (.cells #[.int .i64 cc, .int .i64 vv] 50))
    have B3 := hide (below_on B2.out hb')
    have c0 := cell_later hb' d0
    have c1 := cell_later hb' d1
    obtain ⟨q0, q1⟩ := Var2_new w3 (.int .i64 cc) (.int .i64 vv) 50
    clear hb hb' d0 d1 B2 O2
    go_upto_region 6 with fail
    refine forget (fun wx => Below w.heap.size w wx ∧ Var2 wx w.heap.size u v ∧ Var2 wx w3.heap.size (.int .i64 cc) (.int .i64 vv)) ⟨B3.out, ⟨c0, c1⟩, q0, q1⟩ ?_
    clear B3 c0 c1 q0 q1
    rintro V ⟨hbV, ⟨c0, c1⟩, q0, q1⟩
    have B3 := hide hbV
    clear hbV
    obtain ⟨W, hW⟩ : ∃ W, w3.heap.size = W := ⟨_, rfl⟩
    rw [hW] at q0 q1 ⊢
    clear hW
    go_wp2_with fail
    refine (toDisk' (HU.out.later B3.out) (HV.out.later B3.out) HM.out).mono ?_
    rintro e w4 ⟨u4, v4, rfl, hb, ho⟩
    obtain ⟨ao, c, ao', c', rfl, rfl⟩ := ho.shape
    have O4 := hide ho.iv
    have B4 := hide (below_on B3.out hb)
    have d0 := cell_later hb c0
    have d1 := cell_later hb c1
    have r0 := cell_later hb q0
    have r1 := cell_later hb q1
    clear hb ho c0 c1 q0 q1 B3
    go_wp2_with fail
    refine (HI.out _ _ _ _ _ (O4.out.rdII.later (below_alloc _ _)) (O4.out.rdP.later (below_alloc _ _))).mono ?_
    rintro e w5 ⟨rfl, hb⟩
    have hb' := below_on (below_alloc w4 (.cells #[.slice ao xss.length c, .slice ao' ps.length c'] 33)) hb
    have c0 := cell_later hb' d0
    have c1 := cell_later hb' d1
    have q0 := cell_later hb' r0
    have q1 := cell_later hb' r1
    obtain ⟨x0, x1⟩ := (Var2_new w4 (.slice ao xss.length c) (.slice ao' ps.length c') 33).later hb
    have R5 := hide (O4.out.rdII.later hb')
    have P5 := hide (O4.out.rdP.later hb')
    have B5 := hide (below_on B4.out hb')
    clear hb hb' d0 d1 r0 r1 O4 B4
    have hWlt := World.block_lt_of_cell? _ _ q0
    go_wp2_with fail
    refine (eqIntResult cc vv _).mono ?_
    rintro e w8 ⟨rfl, hb⟩
    have hb' := below_on (below_alloc w5 (.cells #[.int .i64 cc, .int .i64 vv] 50)) hb
    have c0 := cell_later hb' c0
    have c1 := cell_later hb' c1
    have x0 := cell_later hb' x0
    have x1 := cell_later hb' x1
    have R5 := hide (R5.out.later hb')
    have P5 := hide (P5.out.later hb')
    have B5 := hide (below_on B5.out hb')
    clear hb hb' q0 q1
    go_wp2_with fail
    go_region_held3 (fun w' => w'.cell? ⟨w.heap.size, 0, none⟩ = some u ∧ w'.cell? ⟨w.heap.size, 1, none⟩ = some v ∧ w'.cell? ⟨w4.heap.size, 0, none⟩ = some (.slice ao xss.length c) ∧ w'.cell? ⟨w4.heap.size, 1, none⟩ = some (.slice ao' ps.length c')) (first | exact ⟨c0, c1, x0, x1⟩ | exact ⟨e0, e1, e3, e4⟩ | exact ⟨i0, i1, i3, i4⟩)
      (first
        | (go_at_call 10; refine (toDisk' (HU.out.later (below_on B5.out (below_drewN _ 1))) (HV.out.later (below_on B5.out (below_drewN _ 1))) HM.out).mono ?_; rintro e w6 ⟨u6, v6, rfl, hb, ho⟩; have e0 := cell_later hb c0; have e1 := cell_later hb c1; have e3 := cell_later hb x0; have e4 := cell_later hb x1; have O6 := hide ho.iv; have R6 := hide ((R5.out.later (below_drewN _ 1)).later hb); have P6 := hide ((P5.out.later (below_drewN _ 1)).later hb); have B6 := hide (below_on (below_on B5.out (below_drewN _ 1)) hb); clear hb ho)
        | (go_at_call 13; refine (eqDisk R6.out P6.out O6.out.rdII O6.out.rdP).mono ?_; rintro e w7 ⟨rfl, hb⟩; have i0 := cell_later hb e0; have i1 := cell_later hb e1; have i3 := cell_later hb e3; have i4 := cell_later hb e4; have B7 := hide (below_on B6.out hb); clear hb))
    go_wp2
    go_ret
    exact ⟨rfl, B7.out⟩
  · have HY := hide (szv_no (left := 1048576) (s := szD xss ps) (by omega))
    have HU := hide hu
    have HV := hide hv
    clear hsz hu hv
    go_enter Try.func7, Try.ntmps7
    go_wp2_with fail
    refine (szDisk (HU.out.later (below_alloc _ _)) (HV.out.later (below_alloc _ _)) (by omega) (by omega)).mono ?_
    rintro e w1 ⟨he, hb⟩
    rw [HY.out] at he
    subst he
    have B1 := hide (below_on (below_alloc _ _) hb)
    clear hb
    go_wp2
    go_ret
    exact ⟨rfl, B1.out⟩

set_option maxRecDepth 100000 in
theorem fnExactRoomIn_lifted (os : Os) (started : os.Started) (H : Type) (enc : TypeId × Value → H) :
    ReturnsInHanded {} Try.checked os 7 .any (Rows.fnExactRoomInSpec.pre6 enc Try.prog Try.f7 Rows.fnExactRoomInRow.domain false) (Rows.fnExactRoomInSpec.post enc Try.prog Try.f7 false true false false) := by
  refine returnsInHanded_of_change (C := Try.checked) Try.own started (by kernel_rfl) Try.func7
    (ChangeSpec.witness6 (enc := enc) (C := Try.checked) false ⟨#[], #[.agg #[.slice none 0 0, .slice none 0 0]], []⟩ 8 (by kernel_rfl) (by kernel_rfl) (by kernel_rfl) (by kernel_rfl)) ?_
  intro W base args ds gs before hval0 hW hcnd _
  have hval : ∀ (j : Nat) t v, Try.f7.params[j]? = some t → args[j]? = some v → Value.okWide Try.prog W .any base t v := hval0
  have hW' := hW
  obtain ⟨p, q, hA0, hV, rfl, hfz, hnd⟩ := hW
  have hA : DataW.TrodAll enc Try.prog W 0 (fun _ => true) true Try.f7.params.toList args.toList ds p := hA0
  rw [Try.params7] at hA hval
  obtain ⟨v0, d0, rfl, rfl, h0⟩ := trodAll_one hA
  obtain ⟨rfl, rfl⟩ := trodVars_none hV
  obtain ⟨u, u', xss, ps, rfl, hu, hp⟩ := rdD_of (hval 0 25 v0 rfl rfl) h0
  clear hA0 hval0
  simp only [List.append_nil] at hW'
  refine (lawRoomIn hu hp).mono fun e W' ⟨he, hb⟩ => ?_
  subst he
  exact ⟨_, rfl, _, _, _, [], p, [], hW', trodAll_mk1 (shut_bool Try.underlying4 _), trodAll_mk1 (Below.trod Try.laidOut (by kernel_rfl) (of_decide_eq_true (by kernel_rfl)) h0 hb (fun x hx => by simpa using hW'.lt x (by simp [hx]))), rfl, hb.frame _, fun h => by cases h⟩

theorem fnExactRoomIn_holds : Rows.FnExactRoomInSaid :=
  OpenClaim.holds_of_wide 7 Try.f7 rfl rfl rfl rfl rfl rfl rfl ⟨rfl, rfl, rfl, rfl, rfl⟩ rfl rfl rfl rfl rfl (by kernel_rfl) Try.func7 (by kernel_rfl)
    (of_decide_eq_true (by kernel_rfl)) (by unfold Func.isWrapper; first | (rw [if_pos (by decide +kernel)]; kernel_rfl) | (rw [if_neg (by decide +kernel)]; exact ⟨rfl, rfl⟩))
    (fun os started H enc _ => fnExactRoomIn_lifted os started H enc)
#print axioms fnExactRoomIn_holds
end Go.Proofs.Ytdjdfkhgkadhgaa
