/- For every list of steps that can be handed in (shared memory allowed): 'FnExactCommitAt' returns true, and its arguments read as they did; no condition. Made by program (genct.py). -/
import Derived.Test.YtigmichjpaeedaaCt2
import Derived.Test.YtigmichjpaeedaaStZ
import Derived.Test.YtigmichjpaeedaaOpenT
namespace Go.Proofs.Ytigmichjpaeedaa
open Go.ChangeShapes Go.WideShapes Go.ChangeAt Go.RowKit

theorem eqIntResC (x y : Int) (w : World) : Calls Try.prog 15 #[.agg #[.int .i64 x, .int .i64 y], .agg #[.int .i64 x, .int .i64 y]] w fun e w' => e = .returned (.bool true) ∧ Below w.heap.size w w' := by
  go_enter Try.func15, Try.ntmps15
  go_wp2
  go_ret
  exact ⟨rfl, below_on (below_alloc _ _) (below_alloc _ _)⟩
set_option maxHeartbeats 2000000 in
set_option maxRecDepth 4000 in
theorem lawCommitAt {S : Nat → Prop} {w : World} {y : Value} {os : List St} (z zz : Int) (hy : RdT S w y os) (hspec : ∀ (S : Nat → Prop) (w : World) (y : Value), RdT S w y os → Calls Try.prog 12 #[y] w fun e w' => e = .returned (.agg #[.int .i64 z, .int .i64 zz]) ∧ Below w.heap.size w w')
    (himpl : ∀ (S : Nat → Prop) (w : World) (y : Value), RdT S w y os → Calls Try.prog 14 #[y] w fun e w' => e = .returned (.agg #[.int .i64 z, .int .i64 zz]) ∧ Below w.heap.size w w') : Calls Try.prog 4 #[y] w fun e w' => e = .returned (.bool true) ∧ Below w.heap.size w w' := by
  obtain ⟨ay, cy, rfl, _⟩ := hy.shape
  obtain ⟨l, hl⟩ : ∃ l, os.length = l := ⟨_, rfl⟩
  have HL := hide hl
  rw [hl] at hy ⊢
  have HU := hide hy
  obtain ⟨z0, hz0⟩ : ∃ z, szW os = z := ⟨_, rfl⟩
  have hzn := szW_nonneg os
  have HQf := hide (fun (h : z0 ≤ 1048576) => smallW (qs := os) (by rw [hz0]; exact h))
  rw [hz0] at hzn
  have HZ0 := hide hz0
  clear hz0
  have HS := hide hspec
  have HI := hide himpl
  clear hy hl hspec himpl
  by_cases hsz : z0 ≤ 1048576
  · have HY := hide (szv_yes (left := 1048576) (s := z0) (by omega))
    have hp : ¬ ((1048576 : Int) - z0 < 0) := by omega
    go_enter Try.func4, Try.ntmps4
    go_wp2_with fail
    refine (szTW HU.out (by omega) (by omega)).mono ?_
    rintro e w1 ⟨he, hb⟩
    rw [HZ0.out, HY.out] at he
    subst he
    have B1 := hide hb
    clear hb
    go_wp2_with fail
    refine (toT (HU.out.later B1.out) (HQf.out hsz).1 (HQf.out hsz).2).mono ?_
    rintro e w2 ⟨z2', rfl, hb, ho⟩
    have O2 := hide ho.rd
    have B2 := hide (below_on B1.out hb)
    clear hb ho B1
    go_wp2_with fail
    refine (HS.out _ _ _ O2.out).mono ?_
    rintro e w3 ⟨rfl, hb⟩
    have hb2 := below_on hb (below_alloc w3 (.cells #[.int .i64 z, .int .i64 zz] 37))
    have B3 := hide (below_on B2.out hb2)
    have R3 := hide (Var2_new w3 (.int .i64 z) (.int .i64 zz) 37)
    clear hb2
    clear hb B2 O2
    go_wp2_with fail
    refine (toT (HU.out.later B3.out) (HQf.out hsz).1 (HQf.out hsz).2).mono ?_
    rintro e w4 ⟨z4, rfl, hb, ho⟩
    obtain ⟨ao, c, hz4⟩ := ho.shape
    rw [HL.out] at hz4
    subst hz4
    have O4 := hide ho.iv
    have B4 := hide (below_on B3.out hb)
    have R4 := hide (R3.out.later hb)
    clear hb ho B3 R3
    go_wp2_with fail
    refine (HI.out _ _ _ O4.out.rd).mono ?_
    rintro e w5 ⟨rfl, hb⟩
    have hb5 := below_on hb (below_alloc w5 (.cells #[.int .i64 z, .int .i64 zz] 37))
    have O5 := hide (O4.out.later hb5)
    have B5 := hide (below_on B4.out hb5)
    have R5 := hide (R4.out.later hb5)
    have G5 := hide (Var2_new w5 (.int .i64 z) (.int .i64 zz) 37)
    have hz5 := hb.size
    have hz4 := R4.out.lt
    clear hb hb5 O4 B4 R4
    obtain ⟨p0, p1⟩ := R5.out
    obtain ⟨g0, g1⟩ := G5.out
    go_wp2_with fail
    refine (eqIntResC z zz _).mono ?_
    rintro e w6 ⟨rfl, hb⟩
    have O5 := hide (O5.out.later hb)
    have B5 := hide (below_on B5.out hb)
    clear hb p0 p1 g0 g1 R5 G5
    go_wp2_with fail
    refine (toT (HU.out.later B5.out) (HQf.out hsz).1 (HQf.out hsz).2).mono ?_
    rintro e w7 ⟨z7, rfl, hb, ho⟩
    have O7 := hide ho.iv
    have O6 := hide (O5.out.later hb)
    have B7 := hide (below_on B5.out hb)
    clear hb ho B5 O5
    go_wp2_with fail
    refine (eqT O6.out.rd O7.out.rd).mono ?_
    rintro e w8 ⟨rfl, hb⟩
    have B8 := hide (below_on B7.out hb)
    clear hb
    go_wp2
    go_ret
    exact ⟨rfl, B8.out⟩
  · have HY := hide (szv_no (left := 1048576) (s := z0) (by omega))
    clear hsz
    go_enter Try.func4, Try.ntmps4
    go_wp2_with fail
    refine (szTW HU.out (by omega) (by omega)).mono ?_
    rintro e w1 ⟨he, hb⟩
    rw [HZ0.out, HY.out] at he
    subst he
    have B1 := hide hb
    clear hb
    go_wp2
    go_ret
    exact ⟨rfl, B1.out⟩

set_option maxRecDepth 100000 in
theorem fnExactCommitAt_lifted (os : Os) (started : os.Started) (H : Type) (enc : TypeId × Value → H) :
    ReturnsInHanded {} Try.checked os 4 .any (Rows.fnExactCommitAtSpec.pre6 enc Try.prog Try.f4 Rows.fnExactCommitAtRow.domain false) (Rows.fnExactCommitAtSpec.post enc Try.prog Try.f4 false true false false) := by
  refine returnsInHanded_of_change (C := Try.checked) Try.own started (by kernel_rfl) Try.func4
    (ChangeSpec.witness6 (enc := enc) (C := Try.checked) false ⟨#[], #[.slice none 0 0], []⟩ 8 (by kernel_rfl) (by kernel_rfl) (by kernel_rfl) (by kernel_rfl)) ?_
  intro W base args ds gs before hval0 hW hcnd _
  have hval : ∀ (j : Nat) t v, Try.f4.params[j]? = some t → args[j]? = some v → Value.okWide Try.prog W .any base t v := hval0
  have hW' := hW
  obtain ⟨p, q, hA0, hV, rfl, hfz, hnd⟩ := hW
  have hA : DataW.TrodAll enc Try.prog W 0 (fun _ => true) true Try.f4.params.toList args.toList ds p := hA0
  rw [Try.params4] at hA hval
  obtain ⟨v0, d0, rfl, rfl, h0⟩ := trodAll_one hA
  obtain ⟨rfl, rfl⟩ := trodVars_none hV
  obtain ⟨xs0, hy0⟩ := rdTarg_of (hval 0 34 v0 rfl rfl) h0
  clear hA0 hval0
  simp only [List.append_nil] at hW'
  refine (lawCommitAt  (cmC xs0) (cmV xs0) hy0 (fun _ _ _ h => specCommitAt h) (fun _ _ _ h => implCommitAt h)).mono fun e W' ⟨he, hb⟩ => ?_
  subst he
  exact ⟨_, rfl, _, _, _, [], p, [], hW', trodAll_mk1 (shut_bool Try.underlying4 _), trodAll_mk1 (Below.trod Try.laidOut (by kernel_rfl) (of_decide_eq_true (by kernel_rfl)) h0 hb (fun x hx => by simpa using hW'.lt x (by simp [hx]))), rfl, hb.frame _, fun h => by cases h⟩

theorem fnExactCommitAt_holds : Rows.FnExactCommitAtSaid :=
  OpenClaim.holds_of_wide 4 Try.f4 rfl rfl rfl rfl rfl rfl rfl ⟨rfl, rfl, rfl, rfl, rfl⟩ rfl rfl rfl rfl rfl (by kernel_rfl) Try.func4 (by kernel_rfl)
    (of_decide_eq_true (by kernel_rfl)) (by unfold Func.isWrapper; first | (rw [if_pos (by decide +kernel)]; kernel_rfl) | (rw [if_neg (by decide +kernel)]; exact ⟨rfl, rfl⟩))
    (fun os started H enc _ => fnExactCommitAt_lifted os started H enc)
#print axioms fnExactCommitAt_holds
end Go.Proofs.Ytigmichjpaeedaa
