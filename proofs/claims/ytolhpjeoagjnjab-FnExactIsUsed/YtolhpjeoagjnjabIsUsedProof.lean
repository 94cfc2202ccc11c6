/- For every list of numbers and every number that can be handed in (shared memory allowed): 'FnExactIsUsed' returns true, and its arguments read as they did; no condition. Made by program (lawgen7.py). -/
import Derived.Test.YtolhpjeoagjnjabMp3
import Derived.Test.YtolhpjeoagjnjabOpen
namespace Go.Proofs.Ytolhpjeoagjnjab
open Go.ChangeShapes Go.WideShapes Go.ChangeAt Go.RowKit

set_option maxHeartbeats 2000000 in
theorem lawIsUsed {S : Nat → Prop} {w : World} {y : Value} {xs : List Int} (at1 : Int) (z : Bool) (hy : RdI S w y xs) (hspec : ∀ (S : Nat → Prop) (w : World) (y : Value), RdI S w y xs → Calls Try.prog 4 #[y, .int .i64 at1] w fun e w' => e = .returned (.bool z) ∧ Below w.heap.size w w')
    (himpl : ∀ (S : Nat → Prop) (w : World) (y : Value), RdI S w y xs → Calls Try.prog 6 #[y, .int .i64 at1] w fun e w' => e = .returned (.bool z) ∧ Below w.heap.size w w') : Calls Try.prog 3 #[y, .int .i64 at1] w fun e w' => e = .returned (.bool true) ∧ Below w.heap.size w w' := by
  obtain ⟨ay, cy, rfl⟩ := hy.shape
  obtain ⟨l, hl⟩ : ∃ l, xs.length = l := ⟨_, rfl⟩
  have HL := hide hl
  have hmx := hy.max
  rw [hl] at hy hmx ⊢
  have HU := hide hy
  have HS := hide hspec
  have HI := hide himpl
  clear hy hl hspec himpl
  by_cases hsz : l ≤ 1048576
  · have hsz' : ¬ (1048576 : Int) < (l : Int) := by omega
    go_enter Try.func3, Try.ntmps3
    go_wp2_with fail
    refine (toI' HU.out (by rw [HL.out]; exact hsz)).mono ?_
    rintro e w2 ⟨z2', rfl, hb, ho⟩
    obtain ⟨ao2, c2, hz2⟩ := ho.shape
    rw [HL.out] at hz2
    subst hz2
    have O2 := hide ho.rd
    have B2 := hide hb
    clear hb ho
    go_wp2_with fail
    refine (HS.out _ _ _ O2.out).mono ?_
    rintro e w3 ⟨rfl, hb⟩
    have B3 := hide (below_on B2.out hb)
    clear hb B2 O2
    go_wp2_with fail
    refine (toI' (HU.out.later B3.out) (by rw [HL.out]; exact hsz)).mono ?_
    rintro e w4 ⟨z4, rfl, hb, ho⟩
    obtain ⟨ao, c, hz4⟩ := ho.shape
    rw [HL.out] at hz4
    subst hz4
    have O4 := hide ho.iv
    have B4 := hide (below_on B3.out hb)
    clear hb ho B3
    go_wp2_with fail
    refine (HI.out _ _ _ O4.out.rd).mono ?_
    rintro e w5 ⟨rfl, hb⟩
    have O5 := hide (O4.out.later hb)
    have B5 := hide (below_on B4.out hb)
    clear hb O4 B4
    go_wp2_with fail
    refine (toI' (HU.out.later B5.out) (by rw [HL.out]; exact hsz)).mono ?_
    rintro e w7 ⟨z7, rfl, hb, ho⟩
    obtain ⟨ao7, c7, hz7⟩ := ho.shape
    rw [HL.out] at hz7
    subst hz7
    have O7 := hide ho.iv
    have O6 := hide (O5.out.later hb)
    have B7 := hide (below_on B5.out hb)
    clear hb ho B5 O5
    go_wp2_with fail
    refine (eqI' O6.out.rd O7.out.rd).mono ?_
    rintro e w8 ⟨rfl, hb⟩
    have B8 := hide (below_on B7.out hb)
    clear hb
    go_wp2
    go_ret
    exact ⟨rfl, B8.out⟩
  · have hsz' : (1048576 : Int) < (l : Int) := by omega
    clear hsz
    go_enter Try.func3, Try.ntmps3
    go_wp2
    go_ret
    exact ⟨rfl, Below.refl _ _⟩

set_option maxRecDepth 100000 in
theorem fnExactIsUsed_lifted (os : Os) (started : os.Started) (H : Type) (enc : TypeId × Value → H) :
    ReturnsInHanded {} Try.checked os 3 .any (Rows.fnExactIsUsedSpec.pre6 enc Try.prog Try.f3 Rows.fnExactIsUsedRow.domain false) (Rows.fnExactIsUsedSpec.post enc Try.prog Try.f3 false true false false) := by
  refine returnsInHanded_of_change (C := Try.checked) Try.own started (by kernel_rfl) Try.func3
    (ChangeSpec.witness6 (enc := enc) (C := Try.checked) false ⟨#[], #[.slice none 0 0, .int .i64 0], []⟩ 8 (by kernel_rfl) (by kernel_rfl) (by kernel_rfl) (by kernel_rfl)) ?_
  intro W base args ds gs before hval0 hW hcnd _
  have hval : ∀ (j : Nat) t v, Try.f3.params[j]? = some t → args[j]? = some v → Value.okWide Try.prog W .any base t v := hval0
  have hW' := hW
  obtain ⟨p, q, hA0, hV, rfl, hfz, hnd⟩ := hW
  have hA : DataW.TrodAll enc Try.prog W 0 (fun _ => true) true Try.f3.params.toList args.toList ds p := hA0
  rw [Try.params3] at hA hval
  obtain ⟨v0, v1, d0, d1, p0, p1, rfl, rfl, rfl, h0, h1⟩ := trodAll_two hA
  obtain ⟨rfl, rfl⟩ := trodVars_none hV
  obtain ⟨xs0, hy0⟩ := rdIarg_of (hval 0 22 v0 rfl rfl) h0
  obtain ⟨a1, rfl, rfl, rfl, wf1⟩ := open_int Try.underlying2 (hval 1 2 v1 rfl rfl) h1
  clear hA0 hval0
  simp only [List.append_nil] at hW'
  refine (lawIsUsed a1 (usedB xs0 a1) hy0 (fun _ _ _ h => specIsUsed a1 h) (fun _ _ _ h => implIsUsed a1 h)).mono fun e W' ⟨he, hb⟩ => ?_
  subst he
  exact ⟨_, rfl, _, _, _, [], p0 ++ [], [], hW', trodAll_mk1 (shut_bool Try.underlying4 _), trodAll_mk2 (Below.trod Try.laidOut (by kernel_rfl) (of_decide_eq_true (by kernel_rfl)) h0 hb (fun x hx => by simpa using hW'.lt x (by simp [hx]))) (shut_int Try.underlying2 wf1), rfl, hb.frame _, fun h => by cases h⟩

theorem fnExactIsUsed_holds : Rows.FnExactIsUsedSaid :=
  OpenClaim.holds_of_wide 3 Try.f3 rfl rfl rfl rfl rfl rfl rfl ⟨rfl, rfl, rfl, rfl, rfl⟩ rfl rfl rfl rfl rfl (by kernel_rfl) Try.func3 (by kernel_rfl)
    (of_decide_eq_true (by kernel_rfl)) (by unfold Func.isWrapper; first | (rw [if_pos (by decide +kernel)]; kernel_rfl) | (rw [if_neg (by decide +kernel)]; exact ⟨rfl, rfl⟩))
    (fun os started H enc _ => fnExactIsUsed_lifted os started H enc)
#print axioms fnExactIsUsed_holds
end Go.Proofs.Ytolhpjeoagjnjab
