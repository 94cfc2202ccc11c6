/- For every header and number that can be handed in (shared memory allowed): 'FnExactSlotOf' returns true, and its arguments read as they did; no condition. -/
import Derived.Test.YtdjdfkhgkadhgaaSlot
import Derived.Test.YtdjdfkhgkadhgaaImpl2b
import Derived.Test.YtdjdfkhgkadhgaaHd
import Derived.Test.YtdjdfkhgkadhgaaOpenH
namespace Go.Proofs.Ytdjdfkhgkadhgaa
open Go.ChangeShapes Go.WideShapes Go.ChangeAt Go.RowKit

set_option maxHeartbeats 1000000 in
theorem lawSlotOf {S : Nat → Prop} {w : World} (s t i : Int) {y : Value} {xs : List Int} (hu : RdI S w y xs) :
    Calls Try.prog 5 #[.agg #[.int .i64 s, .int .i64 t, y], .int .i64 i] w fun e w' => e = .returned (.bool true) ∧ Below w.heap.size w w' := by
  obtain ⟨ay, cy, rfl⟩ := hu.shape
  obtain ⟨l, hl⟩ : ∃ l, xs.length = l := ⟨_, rfl⟩
  have HL := hide hl
  rw [hl] at hu ⊢
  have HU := hide hu
  clear hu hl
  have HS := hide (fun (S : Nat → Prop) (w : World) (y : Value) (h : RdI S w y xs) => specSlotOf s t i h)
  have HI := hide (fun (S : Nat → Prop) (w : World) (y : Value) (h : RdI S w y xs) => implSlotOf s t i h)
  generalize slF s t xs i = cc at HS HI
  generalize slV s t xs i = vv at HS HI
  by_cases hsz : l ≤ 1048576
  · have HY := hide (szv_yes (left := 1048576) (s := (l : Int)) (by omega))
    have hp : ¬ ((1048576 : Int) - (l : Int) < 0) := by omega
    go_enter Try.func5, Try.ntmps5
    go_wp2_with fail
    refine (szHeader s t (HU.out.later (below_alloc _ _)) (by omega) (by omega)).mono ?_
    rintro e w1 ⟨he, hb⟩
    rw [HL.out, HY.out] at he
    subst he
    have B1 := hide (below_on (below_alloc w (.cells #[.int .i64 s, .int .i64 t, .slice ay l cy] 47)) hb)
    obtain ⟨c0, c1, c2⟩ := (Var3_new w (.int .i64 s) (.int .i64 t) (.slice ay l cy) 47).later hb
    clear hb
    go_wp2_with fail
    refine (toHeader s t (HU.out.later B1.out) (by rw [HL.out]; exact hsz)).mono ?_
    rintro e w2 ⟨z2, rfl, hb, ho⟩
    have O2 := hide ho.rd
    have B2 := hide (below_on B1.out hb)
    have d0 := cell_later hb c0
    have d1 := cell_later hb c1
    have d2 := cell_later hb c2
    clear hb ho c0 c1 c2 B1
    go_wp2_with fail
    refine (HS.out _ _ _ O2.out).mono ?_
    rintro e w3 ⟨rfl, hb⟩
    have hb' := below_on hb (below_alloc w3 (.cells #[.int .i64 cc, .int .i64 vv] 50))
    have B3 := hide (below_on B2.out hb')
    have c0 := cell_later hb' d0
    have c1 := cell_later hb' d1
    have c2 := cell_later hb' d2
    obtain ⟨q0, q1⟩ := Var2_new w3 (.int .i64 cc) (.int .i64 vv) 50
    clear hb hb' d0 d1 d2 B2 O2
    go_upto_region 6 with fail
    refine forget (fun wx => Below w.heap.size w wx ∧ Var3 wx w.heap.size (.int .i64 s) (.int .i64 t) (.slice ay l cy) ∧ Var2 wx w3.heap.size (.int .i64 cc) (.int .i64 vv)) ⟨B3.out, ⟨c0, c1, c2⟩, q0, q1⟩ ?_
    clear B3 c0 c1 c2 q0 q1
    rintro V ⟨hbV, ⟨c0, c1, c2⟩, q0, q1⟩
    have B3 := hide hbV
    clear hbV
    obtain ⟨W, hW⟩ : ∃ W, w3.heap.size = W := ⟨_, rfl⟩
    rw [hW] at q0 q1 ⊢
    clear hW
    go_wp2_with fail
    refine (toHeader s t (HU.out.later B3.out) (by rw [HL.out]; exact hsz)).mono ?_
    rintro e w4 ⟨z4, rfl, hb, ho⟩
    obtain ⟨ao, c, hz4⟩ := ho.shape
    rw [HL.out] at hz4
    subst hz4
    have O4 := hide ho
    have B4 := hide (below_on B3.out hb)
    have d0 := cell_later hb c0
    have d1 := cell_later hb c1
    have d2 := cell_later hb c2
    have r0 := cell_later hb q0
    have r1 := cell_later hb q1
    clear hb ho c0 c1 c2 q0 q1 B3
    go_wp2_with fail
    refine (HI.out _ _ _ (O4.out.rd.later (below_alloc _ _))).mono ?_
    rintro e w5 ⟨rfl, hb⟩
    have hb' := below_on (below_alloc w4 (.cells #[.int .i64 s, .int .i64 t, .slice ao l c] 52)) hb
    have c0 := cell_later hb' d0
    have c1 := cell_later hb' d1
    have c2 := cell_later hb' d2
    have q0 := cell_later hb' r0
    have q1 := cell_later hb' r1
    obtain ⟨x0, x1, x2⟩ := (Var3_new w4 (.int .i64 s) (.int .i64 t) (.slice ao l c) 52).later hb
    have R5 := hide (O4.out.rd.later hb')
    have B5 := hide (below_on B4.out hb')
    clear hb hb' d0 d1 d2 r0 r1 O4 B4
    have hWlt := World.block_lt_of_cell? _ _ q0
    go_wp2_with fail
    refine (eqIntResult cc vv _).mono ?_
    rintro e w8 ⟨rfl, hb⟩
    have hb' := below_on (below_alloc w5 (.cells #[.int .i64 cc, .int .i64 vv] 50)) hb
    have c0 := cell_later hb' c0
    have c1 := cell_later hb' c1
    have c2 := cell_later hb' c2
    have x0 := cell_later hb' x0
    have x1 := cell_later hb' x1
    have x2 := cell_later hb' x2
    have R5 := hide (R5.out.later hb')
    have B5 := hide (below_on B5.out hb')
    clear hb hb' q0 q1
    go_wp2_with fail
    go_region_held3 (fun w' => w'.cell? ⟨w.heap.size, 0, none⟩ = some (.int .i64 s) ∧ w'.cell? ⟨w.heap.size, 1, none⟩ = some (.int .i64 t) ∧ w'.cell? ⟨w.heap.size, 2, none⟩ = some (.slice ay l cy) ∧ w'.cell? ⟨w4.heap.size, 0, none⟩ = some (.int .i64 s) ∧ w'.cell? ⟨w4.heap.size, 1, none⟩ = some (.int .i64 t) ∧ w'.cell? ⟨w4.heap.size, 2, none⟩ = some (.slice ao l c)) (first | exact ⟨c0, c1, c2, x0, x1, x2⟩ | exact ⟨e0, e1, e2, e3, e4, e5⟩ | exact ⟨i0, i1, i2, i3, i4, i5⟩)
      (first
        | (go_at_call 24; refine (toHeader s t (HU.out.later (below_on B5.out (below_drewN _ 1))) (by rw [HL.out]; exact hsz)).mono ?_; rintro e w6 ⟨z6, rfl, hb, ho⟩; have e0 := cell_later hb c0; have e1 := cell_later hb c1; have e2 := cell_later hb c2; have e3 := cell_later hb x0; have e4 := cell_later hb x1; have e5 := cell_later hb x2; have O6 := hide ho.rd; have R6 := hide ((R5.out.drewN 1).later hb); have B6 := hide (below_on (below_on B5.out (below_drewN _ 1)) hb); clear hb ho)
        | (go_at_call 27; refine (eqHeader s t R6.out O6.out).mono ?_; rintro e w7 ⟨rfl, hb⟩; have i0 := cell_later hb e0; have i1 := cell_later hb e1; have i2 := cell_later hb e2; have i3 := cell_later hb e3; have i4 := cell_later hb e4; have i5 := cell_later hb e5; have B7 := hide (below_on B6.out hb); clear hb))
    go_wp2
    go_ret
    exact ⟨rfl, B7.out⟩
  · have HY := hide (szv_no (left := 1048576) (s := (l : Int)) (by omega))
    clear hsz
    go_enter Try.func5, Try.ntmps5
    go_wp2_with fail
    refine (szHeader s t (HU.out.later (below_alloc _ _)) (by omega) (by omega)).mono ?_
    rintro e w1 ⟨he, hb⟩
    rw [HL.out, HY.out] at he
    subst he
    have B1 := hide (below_on (below_alloc _ _) hb)
    clear hb
    go_wp2
    go_ret
    exact ⟨rfl, B1.out⟩

set_option maxRecDepth 100000 in
theorem fnExactSlotOf_lifted (os : Os) (started : os.Started) (H : Type) (enc : TypeId × Value → H) :
    ReturnsInHanded {} Try.checked os 5 .any (Rows.fnExactSlotOfSpec.pre6 enc Try.prog Try.f5 Rows.fnExactSlotOfRow.domain false) (Rows.fnExactSlotOfSpec.post enc Try.prog Try.f5 false true false false) := by
  refine returnsInHanded_of_change (C := Try.checked) Try.own started (by kernel_rfl) Try.func5
    (ChangeSpec.witness6 (enc := enc) (C := Try.checked) false ⟨#[], #[.agg #[.int .i64 0, .int .i64 0, .slice none 0 0], .int .i64 0], []⟩ 8 (by kernel_rfl) (by kernel_rfl) (by kernel_rfl) (by kernel_rfl)) ?_
  intro W base args ds gs before hval0 hW hcnd _
  have hval : ∀ (j : Nat) t v, Try.f5.params[j]? = some t → args[j]? = some v → Value.okWide Try.prog W .any base t v := hval0
  have hW' := hW
  obtain ⟨p, q, hA0, hV, rfl, hfz, hnd⟩ := hW
  have hA : DataW.TrodAll enc Try.prog W 0 (fun _ => true) true Try.f5.params.toList args.toList ds p := hA0
  rw [Try.params5] at hA hval
  obtain ⟨v0, v1, d0, d1, p0, p1, rfl, rfl, rfl, h0, h1⟩ := trodAll_two hA
  obtain ⟨rfl, rfl⟩ := trodVars_none hV
  obtain ⟨s, t, y, xs, rfl, hu⟩ := rdH_of (hval 0 47 v0 rfl rfl) h0
  obtain ⟨a1, rfl, rfl, rfl, wf1⟩ := open_int Try.underlying2 (hval 1 2 v1 rfl rfl) h1
  clear hA0 hval0
  simp only [List.append_nil] at hW'
  refine (lawSlotOf s t a1 hu).mono fun e W' ⟨he, hb⟩ => ?_
  subst he
  exact ⟨_, rfl, _, _, _, [], p0 ++ [], [], hW', trodAll_mk1 (shut_bool Try.underlying4 _), trodAll_mk2 (Below.trod Try.laidOut (by kernel_rfl) (of_decide_eq_true (by kernel_rfl)) h0 hb (fun x hx => by simpa using hW'.lt x (by simp [hx]))) (shut_int Try.underlying2 wf1), rfl, hb.frame _, fun h => by cases h⟩

theorem fnExactSlotOf_holds : Rows.FnExactSlotOfSaid :=
  OpenClaim.holds_of_wide 5 Try.f5 rfl rfl rfl rfl rfl rfl rfl ⟨rfl, rfl, rfl, rfl, rfl⟩ rfl rfl rfl rfl rfl (by kernel_rfl) Try.func5 (by kernel_rfl)
    (of_decide_eq_true (by kernel_rfl)) (by unfold Func.isWrapper; first | (rw [if_pos (by decide +kernel)]; kernel_rfl) | (rw [if_neg (by decide +kernel)]; exact ⟨rfl, rfl⟩))
    (fun os started H enc _ => fnExactSlotOf_lifted os started H enc)
#print axioms fnExactSlotOf_holds
end Go.Proofs.Ytdjdfkhgkadhgaa
