/- For every entry that can be handed in (shared memory allowed): 'FnExactEntryFault' returns true, and its argument reads as it did; no condition. -/
import Derived.Test.YtbgbenfabepgkaaEn1
import Derived.Test.YtbgbenfabepgkaaEnZ
import Derived.Test.YtbgbenfabepgkaaOpenE
namespace Go.Proofs.Ytbgbenfabepgkaa
open Go.ChangeShapes Go.WideShapes Go.ChangeAt Go.RowKit

set_option maxHeartbeats 1000000 in
theorem lawEntryFault {S : Nat → Prop} {w : World} (s t : Int) {y : Value} {xs : List Int} (hu : RdI S w y xs) :
    Calls Try.prog 3 #[.agg #[.int .i64 s, .int .i64 t, y]] w fun e w' => e = .returned (.bool true) ∧ Below w.heap.size w w' := by
  obtain ⟨ay, cy, rfl⟩ := hu.shape
  obtain ⟨l, hl⟩ : ∃ l, xs.length = l := ⟨_, rfl⟩
  have HL := hide hl
  rw [hl] at hu ⊢
  have HU := hide hu
  clear hu hl
  by_cases hsz : l ≤ 1048576
  · have HY := hide (szv_yes (left := 1048576) (s := (l : Int)) (by omega))
    have hp : ¬ ((1048576 : Int) - (l : Int) < 0) := by omega
    go_enter Try.func3, Try.ntmps3
    go_wp2_with fail
    refine (szEntry s t (HU.out.later (below_alloc _ _)) (by omega) (by omega)).mono ?_
    rintro e w1 ⟨he, hb⟩
    rw [HL.out, HY.out] at he
    subst he
    have B1 := hide (below_on (below_alloc w (.cells #[.int .i64 s, .int .i64 t, .slice ay l cy] 24)) hb)
    obtain ⟨c0, c1, c2⟩ := (Var3_new w (.int .i64 s) (.int .i64 t) (.slice ay l cy) 24).later hb
    clear hb
    go_wp2_with fail
    refine (toEntry s t (HU.out.later B1.out) (by rw [HL.out]; exact hsz)).mono ?_
    rintro e w2 ⟨z2, rfl, hb, ho⟩
    have O2 := hide ho.rd
    have B2 := hide (below_on B1.out hb)
    have d0 := cell_later hb c0
    have d1 := cell_later hb c1
    have d2 := cell_later hb c2
    clear hb ho c0 c1 c2 B1
    go_wp2_with fail
    refine (specEntryFault s t O2.out).mono ?_
    rintro e w3 ⟨rfl, hb⟩
    have B3 := hide (below_on B2.out hb)
    have c0 := cell_later hb d0
    have c1 := cell_later hb d1
    have c2 := cell_later hb d2
    clear hb d0 d1 d2 B2 O2
    go_wp2_with fail
    refine (toEntry s t (HU.out.later B3.out) (by rw [HL.out]; exact hsz)).mono ?_
    rintro e w4 ⟨z4, rfl, hb, ho⟩
    obtain ⟨ao, c, hz4⟩ := ho.shape
    rw [HL.out] at hz4
    subst hz4
    have O4 := hide ho
    have B4 := hide (below_on B3.out hb)
    have d0 := cell_later hb c0
    have d1 := cell_later hb c1
    have d2 := cell_later hb c2
    have z4 : w.heap.size < w4.heap.size := World.block_lt_of_cell? _ _ d0
    clear hb ho c0 c1 c2 B3
    go_wp2_with fail
    refine (implEntryFault s t (O4.out.rd.later (below_alloc _ _))).mono ?_
    rintro e w5 ⟨rfl, hb⟩
    have hb' := below_on (below_alloc w4 (.cells #[.int .i64 s, .int .i64 t, .slice ao l c] 27)) hb
    have c0 := cell_later hb' d0
    have c1 := cell_later hb' d1
    have c2 := cell_later hb' d2
    obtain ⟨x0, x1, x2⟩ := (Var3_new w4 (.int .i64 s) (.int .i64 t) (.slice ao l c) 27).later hb
    have R5 := hide (O4.out.rd.later hb')
    have B5 := hide (below_on B4.out hb')
    clear hb hb' d0 d1 d2 O4 B4
    go_wp2_with fail
    go_region_held3 (fun w' => w'.cell? ⟨w.heap.size, 0, none⟩ = some (.int .i64 s) ∧ w'.cell? ⟨w.heap.size, 1, none⟩ = some (.int .i64 t) ∧ w'.cell? ⟨w.heap.size, 2, none⟩ = some (.slice ay l cy) ∧ w'.cell? ⟨w4.heap.size, 0, none⟩ = some (.int .i64 s) ∧ w'.cell? ⟨w4.heap.size, 1, none⟩ = some (.int .i64 t) ∧ w'.cell? ⟨w4.heap.size, 2, none⟩ = some (.slice ao l c)) (first | exact ⟨c0, c1, c2, x0, x1, x2⟩ | exact ⟨e0, e1, e2, e3, e4, e5⟩ | exact ⟨i0, i1, i2, i3, i4, i5⟩)
      (first
        | (go_at_call 11; refine (toEntry s t (HU.out.later (below_on B5.out (below_drewN _ 1))) (by rw [HL.out]; exact hsz)).mono ?_; rintro e w6 ⟨z6, rfl, hb, ho⟩; have e0 := cell_later hb c0; have e1 := cell_later hb c1; have e2 := cell_later hb c2; have e3 := cell_later hb x0; have e4 := cell_later hb x1; have e5 := cell_later hb x2; have O6 := hide ho.rd; have R6 := hide ((R5.out.drewN 1).later hb); have B6 := hide (below_on (below_on B5.out (below_drewN _ 1)) hb); clear hb ho)
        | (go_at_call 13; refine (eqEntry s t R6.out O6.out).mono ?_; rintro e w7 ⟨rfl, hb⟩; have i0 := cell_later hb e0; have i1 := cell_later hb e1; have i2 := cell_later hb e2; have i3 := cell_later hb e3; have i4 := cell_later hb e4; have i5 := cell_later hb e5; have B7 := hide (below_on B6.out hb); clear hb))
    go_wp2
    go_ret
    exact ⟨rfl, B7.out⟩
  · have HY := hide (szv_no (left := 1048576) (s := (l : Int)) (by omega))
    clear hsz
    go_enter Try.func3, Try.ntmps3
    go_wp2_with fail
    refine (szEntry s t (HU.out.later (below_alloc _ _)) (by omega) (by omega)).mono ?_
    rintro e w1 ⟨he, hb⟩
    rw [HL.out, HY.out] at he
    subst he
    have B1 := hide (below_on (below_alloc _ _) hb)
    clear hb
    go_wp2
    go_ret
    exact ⟨rfl, B1.out⟩

set_option maxRecDepth 100000 in
theorem fnExactEntryFault_lifted (os : Os) (started : os.Started) (H : Type) (enc : TypeId × Value → H) :
    ReturnsInHanded {} Try.checked os 3 .any (Rows.fnExactEntryFaultSpec.pre6 enc Try.prog Try.f3 Rows.fnExactEntryFaultRow.domain false) (Rows.fnExactEntryFaultSpec.post enc Try.prog Try.f3 false true false false) := by
  refine returnsInHanded_of_change (C := Try.checked) Try.own started (by kernel_rfl) Try.func3
    (ChangeSpec.witness6 (enc := enc) (C := Try.checked) false ⟨#[], #[.agg #[.int .i64 0, .int .i64 0, .slice none 0 0]], []⟩ 8 (by kernel_rfl) (by kernel_rfl) (by kernel_rfl) (by kernel_rfl)) ?_
  intro W base args ds gs before hval0 hW hcnd _
  have hval : ∀ (j : Nat) t v, Try.f3.params[j]? = some t → args[j]? = some v → Value.okWide Try.prog W .any base t v := hval0
  have hW' := hW
  obtain ⟨p, q, hA0, hV, rfl, hfz, hnd⟩ := hW
  have hA : DataW.TrodAll enc Try.prog W 0 (fun _ => true) true Try.f3.params.toList args.toList ds p := hA0
  rw [Try.params3] at hA hval
  obtain ⟨v0, d0, rfl, rfl, h0⟩ := trodAll_one hA
  obtain ⟨rfl, rfl⟩ := trodVars_none hV
  obtain ⟨s, t, y, xs, rfl, hu⟩ := rdEntry_of (hval 0 24 v0 rfl rfl) h0
  clear hA0 hval0
  simp only [List.append_nil] at hW'
  refine (lawEntryFault s t hu).mono fun e W' ⟨he, hb⟩ => ?_
  subst he
  exact ⟨_, rfl, _, _, _, [], p, [], hW', trodAll_mk1 (shut_bool Try.underlying4 _), trodAll_mk1 (Below.trod Try.laidOut (by kernel_rfl) (of_decide_eq_true (by kernel_rfl)) h0 hb (fun x hx => by simpa using hW'.lt x (by simp [hx]))), rfl, hb.frame _, fun h => by cases h⟩

theorem fnExactEntryFault_holds : Rows.FnExactEntryFaultSaid :=
  OpenClaim.holds_of_wide 3 Try.f3 rfl rfl rfl rfl rfl rfl rfl ⟨rfl, rfl, rfl, rfl, rfl⟩ rfl rfl rfl rfl rfl (by kernel_rfl) Try.func3 (by kernel_rfl)
    (of_decide_eq_true (by kernel_rfl)) (by unfold Func.isWrapper; first | (rw [if_pos (by decide +kernel)]; kernel_rfl) | (rw [if_neg (by decide +kernel)]; exact ⟨rfl, rfl⟩))
    (fun os started H enc _ => fnExactEntryFault_lifted os started H enc)
#print axioms fnExactEntryFault_holds
end Go.Proofs.Ytbgbenfabepgkaa
