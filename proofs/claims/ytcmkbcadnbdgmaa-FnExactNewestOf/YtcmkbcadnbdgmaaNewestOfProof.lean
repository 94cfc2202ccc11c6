/- For every input that can be handed in (two headers with codes; shared memory allowed): 'FnExactNewestOf' returns true, and its arguments read as they did; no condition. -/
import Derived.Test.YtcmkbcadnbdgmaaLawNewestOf
import Derived.Test.YtcmkbcadnbdgmaaImpl2g
import Derived.Test.YtcmkbcadnbdgmaaLen2b
import Derived.Test.YtcmkbcadnbdgmaaOpenH
namespace Go.Proofs.Ytcmkbcadnbdgmaa
open Go.ChangeShapes Go.WideShapes Go.ChangeAt Go.RowKit

set_option maxHeartbeats 1000000 in
theorem lawNewestOf_all {S0 S1 : Nat → Prop} {w : World} (c0 s0 t0 c1 s1 t1 : Int) {y0 y1 : Value} {xs0 xs1 : List Int} (hy0 : RdI S0 w y0 xs0) (hy1 : RdI S1 w y1 xs1) :
    Calls Try.prog 6 #[.agg #[.int .i64 c0, .int .i64 s0, .int .i64 t0, y0], .agg #[.int .i64 c1, .int .i64 s1, .int .i64 t1, y1]] w fun e w' => e = .returned (.bool true) ∧ Below w.heap.size w w' := by
  by_cases hsz : xs0.length + xs1.length ≤ 1048576
  · exact lawNewestOf_small c0 s0 t0 c1 s1 t1 hy0 hy1 (nwF (nwP c0 s0 t0 xs0 c1 s1 t1 xs1)) (nwI (nwP c0 s0 t0 xs0 c1 s1 t1 xs1) s0 s1) (nwI (nwP c0 s0 t0 xs0 c1 s1 t1 xs1) t0 t1) (nwA (nwP c0 s0 t0 xs0 c1 s1 t1 xs1) xs0 xs1) (nwA_bound _ (by omega) (by omega)) hsz
      (fun _ _ w y0 y1 h0 h1 => specNewest c0 s0 t0 c1 s1 t1 h0 h1 (by omega) (by omega)) (fun _ _ w y0 y1 h0 h1 => implNewest c0 s0 t0 c1 s1 t1 h0 h1 (by omega) (by omega))
  · obtain ⟨ay0, cy0, rfl⟩ := hy0.shape
    obtain ⟨ay1, cy1, rfl⟩ := hy1.shape
    obtain ⟨l0, hl0⟩ : ∃ l, xs0.length = l := ⟨_, rfl⟩
    obtain ⟨l1, hl1⟩ : ∃ l, xs1.length = l := ⟨_, rfl⟩
    have HL0 := hide hl0
    have HL1 := hide hl1
    rw [hl0] at hy0 hsz ⊢
    rw [hl1] at hy1 hsz ⊢
    have HY0 := hide hy0
    have HY1 := hide hy1
    clear hy0 hy1 hl0 hl1
    by_cases h0 : l0 ≤ 1048576
    · have HZ0 := hide (szv_yes (left := 1048576) (s := (l0 : Int)) (by omega))
      have HZ1 := hide (szv_no (left := 1048576 - (l0 : Int)) (s := (l1 : Int)) (by omega))
      have hp0 : ¬ ((1048576 : Int) - (l0 : Int) < 0) := by omega
      go_enter Try.func6, Try.ntmps6
      go_wp2_with fail
      refine (szHeaderResult c0 s0 t0 (HY0.out.later (below_on (below_alloc _ _) (below_alloc _ _))) (by omega) (by omega)).mono ?_
      rintro e w1 ⟨he, hb⟩
      rw [HL0.out, HZ0.out] at he
      subst he
      have BB := hide (below_on (below_on (below_alloc w (.cells #[.int .i64 c0, .int .i64 s0, .int .i64 t0, .slice ay0 l0 cy0] 47)) (below_alloc _ (.cells #[.int .i64 c1, .int .i64 s1, .int .i64 t1, .slice ay1 l1 cy1] 47))) hb)
      have q0 : w1.cell? ⟨w.heap.size + 1, 0, none⟩ = some (.int .i64 c1) := cell_later hb (by simp [go_sem])
      have q1 : w1.cell? ⟨w.heap.size + 1, 1, none⟩ = some (.int .i64 s1) := cell_later hb (by simp [go_sem])
      have q2 : w1.cell? ⟨w.heap.size + 1, 2, none⟩ = some (.int .i64 t1) := cell_later hb (by simp [go_sem])
      have q3 : w1.cell? ⟨w.heap.size + 1, 3, none⟩ = some (.slice ay1 l1 cy1) := cell_later hb (by simp [go_sem])
      clear hb
      go_wp2_with fail
      refine (szHeaderResult c1 s1 t1 (HY1.out.later BB.out) (by omega) (by omega)).mono ?_
      rintro e w2 ⟨he, hb⟩
      rw [HL1.out, HZ1.out] at he
      subst he
      have BC := hide (below_on BB.out hb)
      clear hb
      go_wp2
      go_ret
      exact ⟨rfl, BC.out⟩
    · have HZ0 := hide (szv_no (left := 1048576) (s := (l0 : Int)) (by omega))
      go_enter Try.func6, Try.ntmps6
      go_wp2_with fail
      refine (szHeaderResult c0 s0 t0 (HY0.out.later (below_on (below_alloc _ _) (below_alloc _ _))) (by omega) (by omega)).mono ?_
      rintro e w1 ⟨he, hb⟩
      rw [HL0.out, HZ0.out] at he
      subst he
      have BC := hide (below_on (below_on (below_alloc _ _) (below_alloc _ _)) hb)
      clear hb
      go_wp2
      go_ret
      exact ⟨rfl, BC.out⟩

set_option maxRecDepth 100000 in
theorem fnExactNewestOf_lifted (os : Os) (started : os.Started) (H : Type) (enc : TypeId × Value → H) :
    ReturnsInHanded {} Try.checked os 6 .any (Rows.fnExactNewestOfSpec.pre6 enc Try.prog Try.f6 Rows.fnExactNewestOfRow.domain false) (Rows.fnExactNewestOfSpec.post enc Try.prog Try.f6 false true false false) := by
  refine returnsInHanded_of_change (C := Try.checked) Try.own started (by kernel_rfl) Try.func6
    (ChangeSpec.witness6 (enc := enc) (C := Try.checked) false ⟨#[], #[.agg #[.int .i64 0, .int .i64 0, .int .i64 0, .slice none 0 0], .agg #[.int .i64 0, .int .i64 0, .int .i64 0, .slice none 0 0]], []⟩ 8 (by kernel_rfl) (by kernel_rfl) (by kernel_rfl) (by kernel_rfl)) ?_
  intro W base args ds gs before hval0 hW hcnd _
  have hval : ∀ (j : Nat) t v, Try.f6.params[j]? = some t → args[j]? = some v → Value.okWide Try.prog W .any base t v := hval0
  have hW' := hW
  obtain ⟨p, q, hA0, hV, rfl, hfz, hnd⟩ := hW
  have hA : DataW.TrodAll enc Try.prog W 0 (fun _ => true) true Try.f6.params.toList args.toList ds p := hA0
  rw [Try.params6] at hA hval
  obtain ⟨v0, v1, d0, d1, p0, p1, rfl, rfl, rfl, h0, h1⟩ := trodAll_two hA
  obtain ⟨rfl, rfl⟩ := trodVars_none hV
  obtain ⟨c0, s0, t0, y0, xs0, rfl, hy0⟩ := rdR_of (hval 0 47 v0 rfl rfl) h0
  obtain ⟨c1, s1, t1, y1, xs1, rfl, hy1⟩ := rdR_of (hval 1 47 v1 rfl rfl) h1
  clear hA0 hval0
  simp only [List.append_nil] at hW'
  refine (lawNewestOf_all c0 s0 t0 c1 s1 t1 hy0 hy1).mono fun e W' ⟨he, hb⟩ => ?_
  subst he
  exact ⟨_, rfl, _, _, _, [], p0 ++ p1, [], hW', trodAll_mk1 (shut_bool Try.underlying4 _), trodAll_mk2 (Below.trod Try.laidOut (by kernel_rfl) (of_decide_eq_true (by kernel_rfl)) h0 hb (fun x hx => by simpa using hW'.lt x (by simp [hx]))) (Below.trod Try.laidOut (by kernel_rfl) (of_decide_eq_true (by kernel_rfl)) h1 hb (fun x hx => by simpa using hW'.lt x (by simp [hx]))), rfl, hb.frame _, fun h => by cases h⟩

theorem fnExactNewestOf_holds : Rows.FnExactNewestOfSaid :=
  OpenClaim.holds_of_wide 6 Try.f6 rfl rfl rfl rfl rfl rfl rfl ⟨rfl, rfl, rfl, rfl, rfl⟩ rfl rfl rfl rfl rfl (by kernel_rfl) Try.func6 (by kernel_rfl)
    (of_decide_eq_true (by kernel_rfl)) (by unfold Func.isWrapper; first | (rw [if_pos (by decide +kernel)]; kernel_rfl) | (rw [if_neg (by decide +kernel)]; exact ⟨rfl, rfl⟩))
    (fun os started H enc _ => fnExactNewestOf_lifted os started H enc)
#print axioms fnExactNewestOf_holds
end Go.Proofs.Ytcmkbcadnbdgmaa
