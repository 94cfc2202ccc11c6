/- For every two objects that can be handed in (shared memory allowed): 'FnExactClashObjects' returns true, and its arguments read as they did; no condition. -/
import Derived.Test.YtknjfaebiljiiaaObj2
import Derived.Test.YtknjfaebiljiiaaOb
import Derived.Test.YtknjfaebiljiiaaOpenO
namespace Go.Proofs.Ytknjfaebiljiiaa
open Go.ChangeShapes Go.WideShapes Go.ChangeAt Go.RowKit

set_option maxHeartbeats 4000000 in
theorem lawClashObjects {S T : Nat → Prop} {w : World} (a f b g : Int) {y z : Value} {xs ys : List Int} (hu : RdI S w y xs) (hv : RdI T w z ys) :
    Calls Try.prog 7 #[.agg #[.int .i64 a, .int .i64 f, y], .agg #[.int .i64 b, .int .i64 g, z]] w fun e w' => e = .returned (.bool true) ∧ Below w.heap.size w w' := by
  obtain ⟨ay, cy, rfl⟩ := hu.shape
  obtain ⟨az, cz, rfl⟩ := hv.shape
  obtain ⟨l, hl⟩ : ∃ l, xs.length = l := ⟨_, rfl⟩
  obtain ⟨m, hm⟩ : ∃ m, ys.length = m := ⟨_, rfl⟩
  have HL := hide hl
  have HM := hide hm
  rw [hl] at hu ⊢
  rw [hm] at hv ⊢
  have HU := hide hu
  have HV := hide hv
  clear hu hv hl hm
  obtain ⟨cb, hcb⟩ : ∃ cb, clashB a f xs b g ys = cb := ⟨_, rfl⟩
  have HCB := hide hcb
  clear hcb
  have B0 := hide (below_on (below_alloc w (.cells #[.int .i64 a, .int .i64 f, .slice ay l cy] 35)) (below_alloc _ (.cells #[.int .i64 b, .int .i64 g, .slice az m cz] 35)))
  have V1 := ((Var3_new w (.int .i64 a) (.int .i64 f) (.slice ay l cy) 35).later (below_alloc _ (.cells #[.int .i64 b, .int .i64 g, .slice az m cz] 35)))
  have V2 := Var3_new (w.alloc (.cells #[.int .i64 a, .int .i64 f, .slice ay l cy] 35)) (.int .i64 b) (.int .i64 g) (.slice az m cz) 35
  rw [show (w.alloc (.cells #[.int .i64 a, .int .i64 f, .slice ay l cy] 35)).heap.size = w.heap.size + 1 by simp] at V2
  have HB := hide (And.intro V1 V2)
  clear V1 V2
  by_cases hs1 : l ≤ 1048576
  · have HY := hide (szv_yes (left := 1048576) (s := (l : Int)) (by omega))
    have hp : ¬ ((1048576 : Int) - (l : Int) < 0) := by omega
    go_enter Try.func7, Try.ntmps7
    go_wp2_with fail
    refine (szObject a f (HU.out.later B0.out) (by omega) (by omega)).mono ?_
    rintro e w1 ⟨he, hb⟩
    rw [HL.out, HY.out] at he
    subst he
    have B1 := hide (below_on B0.out hb)
    have HB1 := hide (And.intro (HB.out.1.later hb) (HB.out.2.later hb))
    clear hb HB
    obtain ⟨⟨a0, a1, a2⟩, b0, b1, b2⟩ := HB1.out
    by_cases hs2 : m + l ≤ 1048576
    · have HY2 := hide (szv_yes (left := (1048576 : Int) - (l : Int)) (s := (m : Int)) (by omega))
      have hp2 : ¬ ((1048576 : Int) - (l : Int) - (m : Int) < 0) := by omega
      go_wp2_with fail
      refine (szObject b g (HV.out.later B1.out) (by omega) (by omega)).mono ?_
      rintro e w2 ⟨he, hb⟩
      rw [HM.out, HY2.out] at he
      subst he
      have B2 := hide (below_on B1.out hb)
      have HB2 := hide (And.intro (HB1.out.1.later hb) (HB1.out.2.later hb))
      clear hb HB1 a0 a1 a2 b0 b1 b2
      obtain ⟨⟨a0, a1, a2⟩, b0, b1, b2⟩ := HB2.out
      go_wp2_with fail
      go_region_held3 (fun w' => w'.cell? ⟨w.heap.size, 0, none⟩ = some (.int .i64 a) ∧ w'.cell? ⟨w.heap.size, 1, none⟩ = some (.int .i64 f) ∧ w'.cell? ⟨w.heap.size, 2, none⟩ = some (.slice ay l cy) ∧ w'.cell? ⟨w.heap.size + 1, 0, none⟩ = some (.int .i64 b) ∧ w'.cell? ⟨w.heap.size + 1, 1, none⟩ = some (.int .i64 g) ∧ w'.cell? ⟨w.heap.size + 1, 2, none⟩ = some (.slice az m cz)) (first | exact ⟨a0, a1, a2, b0, b1, b2⟩ | exact ⟨c0, c1, c2, d0, d1, d2⟩ | exact ⟨e0, e1, e2, f0, f1, f2⟩ | exact ⟨i0, i1, i2, j0, j1, j2⟩)
        (first
          | (go_at_call 27; refine (specClashObjects a f b g O4.out P4.out).mono ?_; rintro e w5 ⟨he, hb⟩; rw [HCB.out] at he; subst he; have i0 := cell_later hb e0; have i1 := cell_later hb e1; have i2 := cell_later hb e2; have j0 := cell_later hb f0; have j1 := cell_later hb f1; have j2 := cell_later hb f2; have B5 := hide (below_on B4.out hb); clear hb)
          | (go_at_call 17; have cc0 := c0; clear cc0; refine (toObject b g (HV.out.later B3.out) (by rw [HM.out]; omega)).mono ?_; rintro e w4 ⟨z4, rfl, hb, ho⟩; have e0 := cell_later hb c0; have e1 := cell_later hb c1; have e2 := cell_later hb c2; have f0 := cell_later hb d0; have f1 := cell_later hb d1; have f2 := cell_later hb d2; have B4 := hide (below_on B3.out hb); have O4 := hide (O3.out.later hb); have P4 := hide ho.rd; clear hb ho)
          | (go_at_call 17; refine (toObject a f (HU.out.later (below_on B2.out (below_drewN _ 1))) (by rw [HL.out]; omega)).mono ?_; rintro e w3 ⟨z3, rfl, hb, ho⟩; have c0 := cell_later hb a0; have c1 := cell_later hb a1; have c2 := cell_later hb a2; have d0 := cell_later hb b0; have d1 := cell_later hb b1; have d2 := cell_later hb b2; have B3 := hide (below_on (below_on B2.out (below_drewN _ 1)) hb); have O3 := hide ho.rd; clear hb ho))
      clear a0 a1 a2 b0 b1 b2 c0 c1 c2 d0 d1 d2 e0 e1 e2 f0 f1 f2 O3 O4 P4 B3 B4 HB2
      go_wp2_with fail
      refine (toObject a f (HU.out.later B5.out) (by rw [HL.out]; omega)).mono ?_
      rintro e w6 ⟨z6, rfl, hb, ho⟩
      obtain ⟨ao, c, hz6⟩ := ho.shape
      rw [HL.out] at hz6
      subst hz6
      have O6 := hide ho.rd
      have B6 := hide (below_on B5.out hb)
      have HB6 := hide (And.intro (And.intro (cell_later hb i0) (And.intro (cell_later hb i1) (cell_later hb i2))) (And.intro (cell_later hb j0) (And.intro (cell_later hb j1) (cell_later hb j2))))
      clear hb ho i0 i1 i2 j0 j1 j2 B5
      have bA := hide (below_alloc w6 (.cells #[.int .i64 a, .int .i64 f, .slice ao l c] 26))
      obtain ⟨⟨a0, a1, a2⟩, b0, b1, b2⟩ := HB6.out
      have q1 : w.heap.size + 1 < w6.heap.size := World.block_lt_of_cell? _ _ b0
      go_wp2_with fail
      refine (toObject b g (HV.out.later (below_on B6.out bA.out)) (by rw [HM.out]; omega)).mono ?_
      rintro e w7 ⟨z7, rfl, hb, ho⟩
      obtain ⟨ap, d, hz7⟩ := ho.shape
      rw [HM.out] at hz7
      subst hz7
      have hb' := below_on bA.out hb
      have X7 := hide ((Var3_new w6 (.int .i64 a) (.int .i64 f) (.slice ao l c) 26).later hb)
      have O7 := hide (O6.out.later hb')
      have P7 := hide ho.rd
      have B7 := hide (below_on B6.out hb')
      have HB7 := hide (And.intro (And.intro (cell_later hb' a0) (And.intro (cell_later hb' a1) (cell_later hb' a2))) (And.intro (cell_later hb' b0) (And.intro (cell_later hb' b1) (cell_later hb' b2))))
      clear hb hb' ho a0 a1 a2 b0 b1 b2 B6 O6 bA HB6
      have bA := hide (below_alloc w7 (.cells #[.int .i64 b, .int .i64 g, .slice ap m d] 26))
      obtain ⟨x0, x1, x2⟩ := X7.out
      have q2 : w6.heap.size < w7.heap.size := World.block_lt_of_cell? _ _ x0
      go_wp2_with fail
      refine (implClashObjects a f b g (O7.out.later bA.out) (P7.out.later bA.out)).mono ?_
      rintro e w8 ⟨he, hb⟩
      rw [HCB.out] at he
      subst he
      have hb' := below_on bA.out hb
      have X8 := hide (X7.out.later hb')
      have Y8 := hide ((Var3_new w7 (.int .i64 b) (.int .i64 g) (.slice ap m d) 26).later hb)
      have O8 := hide (O7.out.later hb')
      have P8 := hide (P7.out.later hb')
      have B8 := hide (below_on B7.out hb')
      obtain ⟨⟨a0, a1, a2⟩, b0, b1, b2⟩ := HB7.out
      have HB8 := hide (And.intro (And.intro (cell_later hb' a0) (And.intro (cell_later hb' a1) (cell_later hb' a2))) (And.intro (cell_later hb' b0) (And.intro (cell_later hb' b1) (cell_later hb' b2))))
      clear hb hb' x0 x1 x2 a0 a1 a2 b0 b1 b2 B7 O7 P7 X7 HB7 bA
      obtain ⟨x0, x1, x2⟩ := X8.out
      obtain ⟨⟨a0, a1, a2⟩, b0, b1, b2⟩ := HB8.out
      go_wp2_with fail
      go_region_held3 (fun w' => w'.cell? ⟨w.heap.size, 0, none⟩ = some (.int .i64 a) ∧ w'.cell? ⟨w.heap.size, 1, none⟩ = some (.int .i64 f) ∧ w'.cell? ⟨w.heap.size, 2, none⟩ = some (.slice ay l cy) ∧ w'.cell? ⟨w6.heap.size, 0, none⟩ = some (.int .i64 a) ∧ w'.cell? ⟨w6.heap.size, 1, none⟩ = some (.int .i64 f) ∧ w'.cell? ⟨w6.heap.size, 2, none⟩ = some (.slice ao l c)) (first | exact ⟨a0, a1, a2, x0, x1, x2⟩ | exact ⟨e0, e1, e2, e3, e4, e5⟩ | exact ⟨i0, i1, i2, i3, i4, i5⟩)
        (first
          | (go_at_call 18; refine (eqObject a f R9.out O9.out).mono ?_; rintro e w10 ⟨rfl, hb⟩; have i0 := cell_later hb e0; have i1 := cell_later hb e1; have i2 := cell_later hb e2; have i3 := cell_later hb e3; have i4 := cell_later hb e4; have i5 := cell_later hb e5; have C10 := hide (below_on C9.out hb); clear hb)
          | (go_at_call 17; refine (toObject a f (HU.out.later (below_on B8.out (below_drewN _ 1))) (by rw [HL.out]; omega)).mono ?_; rintro e w9 ⟨z9, rfl, hb, ho⟩; have e0 := cell_later hb a0; have e1 := cell_later hb a1; have e2 := cell_later hb a2; have e3 := cell_later hb x0; have e4 := cell_later hb x1; have e5 := cell_later hb x2; have O9 := hide ho.rd; have R9 := hide ((O8.out.drewN 1).later hb); have C9 := hide (below_on (below_drewN _ 1) hb); clear hb ho))
      have C := C10.out
      have P10 := hide (P8.out.later C)
      have B10 := hide (below_on B8.out C)
      obtain ⟨y0, y1, y2⟩ := Y8.out.later C
      have n0 := cell_later C b0
      have n1 := cell_later C b1
      have n2 := cell_later C b2
      clear a0 a1 a2 b0 b1 b2 x0 x1 x2 e0 e1 e2 e3 e4 e5 i0 i1 i2 i3 i4 i5 O9 R9 C9 C10 C O8 P8 B8 X8 Y8 HB8
      go_wp2_with fail
      go_region_held3 (fun w' => w'.cell? ⟨w.heap.size + 1, 0, none⟩ = some (.int .i64 b) ∧ w'.cell? ⟨w.heap.size + 1, 1, none⟩ = some (.int .i64 g) ∧ w'.cell? ⟨w.heap.size + 1, 2, none⟩ = some (.slice az m cz) ∧ w'.cell? ⟨w7.heap.size, 0, none⟩ = some (.int .i64 b) ∧ w'.cell? ⟨w7.heap.size, 1, none⟩ = some (.int .i64 g) ∧ w'.cell? ⟨w7.heap.size, 2, none⟩ = some (.slice ap m d)) (first | exact ⟨n0, n1, n2, y0, y1, y2⟩ | exact ⟨e0, e1, e2, e3, e4, e5⟩ | exact ⟨i0, i1, i2, i3, i4, i5⟩)
        (first
          | (go_at_call 18; refine (eqObject b g R11.out O11.out).mono ?_; rintro e w12 ⟨rfl, hb⟩; have i0 := cell_later hb e0; have i1 := cell_later hb e1; have i2 := cell_later hb e2; have i3 := cell_later hb e3; have i4 := cell_later hb e4; have i5 := cell_later hb e5; have B12 := hide (below_on B11.out hb); clear hb)
          | (go_at_call 17; refine (toObject b g (HV.out.later (below_on B10.out (below_drewN _ 1))) (by rw [HM.out]; omega)).mono ?_; rintro e w11 ⟨z11, rfl, hb, ho⟩; have e0 := cell_later hb n0; have e1 := cell_later hb n1; have e2 := cell_later hb n2; have e3 := cell_later hb y0; have e4 := cell_later hb y1; have e5 := cell_later hb y2; have O11 := hide ho.rd; have R11 := hide ((P10.out.drewN 1).later hb); have B11 := hide (below_on (below_on B10.out (below_drewN _ 1)) hb); clear hb ho))
      go_wp2
      go_ret
      exact ⟨rfl, B12.out⟩
    · have HY2 := hide (szv_no (left := (1048576 : Int) - (l : Int)) (s := (m : Int)) (by omega))
      go_wp2_with fail
      refine (szObject b g (HV.out.later B1.out) (by omega) (by omega)).mono ?_
      rintro e w2 ⟨he, hb⟩
      rw [HM.out, HY2.out] at he
      subst he
      have B2 := hide (below_on B1.out hb)
      clear hb
      go_wp2
      go_ret
      exact ⟨rfl, B2.out⟩
  · have HY := hide (szv_no (left := 1048576) (s := (l : Int)) (by omega))
    clear hs1
    go_enter Try.func7, Try.ntmps7
    go_wp2_with fail
    refine (szObject a f (HU.out.later B0.out) (by omega) (by omega)).mono ?_
    rintro e w1 ⟨he, hb⟩
    rw [HL.out, HY.out] at he
    subst he
    have B1 := hide (below_on B0.out hb)
    clear hb
    go_wp2
    go_ret
    exact ⟨rfl, B1.out⟩

set_option maxRecDepth 100000 in
theorem fnExactClashObjects_lifted (os : Os) (started : os.Started) (H : Type) (enc : TypeId × Value → H) :
    ReturnsInHanded {} Try.checked os 7 .any (Rows.fnExactClashObjectsSpec.pre6 enc Try.prog Try.f7 Rows.fnExactClashObjectsRow.domain false) (Rows.fnExactClashObjectsSpec.post enc Try.prog Try.f7 false true false false) := by
  refine returnsInHanded_of_change (C := Try.checked) Try.own started (by kernel_rfl) Try.func7
    (ChangeSpec.witness6 (enc := enc) (C := Try.checked) false ⟨#[], #[.agg #[.int .i64 0, .int .i64 0, .slice none 0 0], .agg #[.int .i64 0, .int .i64 0, .slice none 0 0]], []⟩ 8 (by kernel_rfl) (by kernel_rfl) (by kernel_rfl) (by kernel_rfl)) ?_
  intro W base args ds gs before hval0 hW hcnd _
  have hval : ∀ (j : Nat) t v, Try.f7.params[j]? = some t → args[j]? = some v → Value.okWide Try.prog W .any base t v := hval0
  have hW' := hW
  obtain ⟨p, q, hA0, hV, rfl, hfz, hnd⟩ := hW
  have hA : DataW.TrodAll enc Try.prog W 0 (fun _ => true) true Try.f7.params.toList args.toList ds p := hA0
  rw [Try.params7] at hA hval
  obtain ⟨v0, v1, d0, d1, p0, p1, rfl, rfl, rfl, h0, h1⟩ := trodAll_two hA
  obtain ⟨rfl, rfl⟩ := trodVars_none hV
  obtain ⟨a, f, y, xs, rfl, hy0⟩ := rdO_of (hval 0 35 v0 rfl rfl) h0
  obtain ⟨b, g, z, ys, rfl, hy1⟩ := rdO_of (hval 1 35 v1 rfl rfl) h1
  clear hA0 hval0
  simp only [List.append_nil] at hW'
  refine (lawClashObjects a f b g hy0 hy1).mono fun e W' ⟨he, hb⟩ => ?_
  subst he
  exact ⟨_, rfl, _, _, _, [], p0 ++ p1, [], hW', trodAll_mk1 (shut_bool Try.underlying4 _), trodAll_mk2 (Below.trod Try.laidOut (by kernel_rfl) (of_decide_eq_true (by kernel_rfl)) h0 hb (fun x hx => by simpa using hW'.lt x (by simp [hx]))) (Below.trod Try.laidOut (by kernel_rfl) (of_decide_eq_true (by kernel_rfl)) h1 hb (fun x hx => by simpa using hW'.lt x (by simp [hx]))), rfl, hb.frame _, fun h => by cases h⟩

theorem fnExactClashObjects_holds : Rows.FnExactClashObjectsSaid :=
  OpenClaim.holds_of_wide 7 Try.f7 rfl rfl rfl rfl rfl rfl rfl ⟨rfl, rfl, rfl, rfl, rfl⟩ rfl rfl rfl rfl rfl (by kernel_rfl) Try.func7 (by kernel_rfl)
    (of_decide_eq_true (by kernel_rfl)) (by unfold Func.isWrapper; first | (rw [if_pos (by decide +kernel)]; kernel_rfl) | (rw [if_neg (by decide +kernel)]; exact ⟨rfl, rfl⟩))
    (fun os started H enc _ => fnExactClashObjects_lifted os started H enc)
#print axioms fnExactClashObjects_holds
end Go.Proofs.Ytknjfaebiljiiaa
