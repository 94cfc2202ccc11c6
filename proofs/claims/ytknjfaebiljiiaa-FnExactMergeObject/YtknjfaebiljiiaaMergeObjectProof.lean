/- For every input that can be handed in (a list of numbers, a struct of numbers and a list; shared memory allowed): 'FnExactMergeObject' returns true, and its arguments read as they did; no condition. Made by program (rowgen.py). -/
import Derived.Test.YtknjfaebiljiiaaLawMergeObject
import Derived.Test.YtknjfaebiljiiaaObj7
import Derived.Test.YtknjfaebiljiiaaOpenO
namespace Go.Proofs.Ytknjfaebiljiiaa
open Go.ChangeShapes Go.WideShapes Go.ChangeAt Go.RowKit

set_option maxHeartbeats 2000000 in
theorem lawMergeObject_all {S0 S1 : Nat → Prop} {w : World} {y0 : Value} {xs0 : List Int} (n1_0 n1_1 : Int) {y1 : Value} {xs1 : List Int} (hy0 : RdI S0 w y0 xs0) (hy1 : RdI S1 w y1 xs1) :
    Calls Try.prog 6 #[y0, .agg #[.int .i64 n1_0, .int .i64 n1_1, y1]] w fun e w' => e = .returned (.bool true) ∧ Below w.heap.size w w' := by
  by_cases hl0 : xs0.length ≤ 1048576
  · skip
    by_cases hs1 : (xs1.length : Int) ≤ 1048576
    · skip
      exact lawMergeObject_small n1_0 n1_1 hy0 hy1 (mrgC xs0 n1_0 n1_1 xs1) (mrgR xs0 n1_0 n1_1 xs1) (by have := mrgR_len xs0 n1_0 n1_1 xs1; omega) (by omega) hl0 (fun _ _ w y z hy hz => specMergeObject n1_0 n1_1 hy hz) (fun _ _ w y z hy hz => implMergeObject n1_0 n1_1 hy hz)
    · skip
      obtain ⟨ay0, cy0, rfl⟩ := hy0.shape
      obtain ⟨ay1, cy1, rfl⟩ := hy1.shape
      have HZ1 := hide (szv_no (left := (1048576 : Int)) (s := (xs1.length : Int)) (by omega))
      have hd1 : 0 ≤ (1048576 : Int) ∧ (1048576 : Int) ≤ 1048576 := by omega
      have HR1 := hide hy1
      have BB := hide (below_on (Below.refl w.heap.size w) (below_alloc _ (.cells #[.int .i64 n1_0, .int .i64 n1_1, .slice ay1 xs1.length cy1] 35)))
      have F_b1 : Hid (Var3 (w.alloc (.cells #[.int .i64 n1_0, .int .i64 n1_1, .slice ay1 xs1.length cy1] 35)) (w.heap.size) (.int .i64 n1_0) (.int .i64 n1_1) (.slice ay1 xs1.length cy1)) := by have h := Var3_new w (.int .i64 n1_0) (.int .i64 n1_1) (.slice ay1 xs1.length cy1) 35; (try simp at h); unfold Hid; exact h
      clear hy0 hy1
      clear hs1
      go_enter Try.func6, Try.ntmps6
      go_wp2_with fail
      refine (szObject n1_0 n1_1 (HR1.out.later BB.out) hd1.1 hd1.2).mono ?_
      rintro e wz1 ⟨he, hb⟩
      rw [HZ1.out] at he
      subst he
      have G_b1 := hide (F_b1.out.later hb)
      clear F_b1
      have F_b1 := G_b1
      clear G_b1
      have BC := hide (below_on BB.out hb)
      clear BB
      have BB := BC
      clear BC hb
      go_wp2
      go_ret
      exact ⟨rfl, BB.out⟩
  · skip
    obtain ⟨ay0, cy0, rfl⟩ := hy0.shape
    obtain ⟨ay1, cy1, rfl⟩ := hy1.shape
    have hbig : 1048576 < xs0.length := by omega
    have hym0 : xs0.length ≤ 9223372036854775807 := by obtain ⟨_, _, _, h, _⟩ := hy0; exact h
    have HR1 := hide hy1
    have BB := hide (below_on (Below.refl w.heap.size w) (below_alloc _ (.cells #[.int .i64 n1_0, .int .i64 n1_1, .slice ay1 xs1.length cy1] 35)))
    clear hy0 hy1
    go_enter Try.func6, Try.ntmps6
    go_wp2
    go_ret
    exact ⟨rfl, BB.out⟩

set_option maxRecDepth 100000 in
theorem fnExactMergeObject_lifted (os : Os) (started : os.Started) (H : Type) (enc : TypeId × Value → H) :
    ReturnsInHanded {} Try.checked os 6 .any (Rows.fnExactMergeObjectSpec.pre6 enc Try.prog Try.f6 Rows.fnExactMergeObjectRow.domain false) (Rows.fnExactMergeObjectSpec.post enc Try.prog Try.f6 false true false false) := by
  refine returnsInHanded_of_change (C := Try.checked) Try.own started (by kernel_rfl) Try.func6
    (ChangeSpec.witness6 (enc := enc) (C := Try.checked) false ⟨#[], #[.slice none 0 0, .agg #[.int .i64 0, .int .i64 0, .slice none 0 0]], []⟩ 8 (by kernel_rfl) (by kernel_rfl) (by kernel_rfl) (by kernel_rfl)) ?_
  intro W base args ds gs before hval0 hW hcnd _
  have hval : ∀ (j : Nat) t v, Try.f6.params[j]? = some t → args[j]? = some v → Value.okWide Try.prog W .any base t v := hval0
  have hW' := hW
  obtain ⟨p, q, hA0, hV, rfl, hfz, hnd⟩ := hW
  have hA : DataW.TrodAll enc Try.prog W 0 (fun _ => true) true Try.f6.params.toList args.toList ds p := hA0
  rw [Try.params6] at hA hval
  obtain ⟨v0, v1, d0, d1, p0, p1, rfl, rfl, rfl, h0, h1⟩ := trodAll_two hA
  obtain ⟨rfl, rfl⟩ := trodVars_none hV
  obtain ⟨xs0, hy0⟩ := rdIarg_of (hval 0 24 v0 rfl rfl) h0
  obtain ⟨n1_0, n1_1, y1, xs1, rfl, hy1⟩ := rdObject_of (hval 1 35 v1 rfl rfl) h1
  clear hA0 hval0
  simp only [List.append_nil] at hW'
  refine (lawMergeObject_all n1_0 n1_1 hy0 hy1).mono fun e W' ⟨he, hb⟩ => ?_
  subst he
  exact ⟨_, rfl, _, _, _, [], p0 ++ p1, [], hW', trodAll_mk1 (shut_bool Try.underlying4 _), trodAll_mk2 (Below.trod Try.laidOut (by kernel_rfl) (of_decide_eq_true (by kernel_rfl)) h0 hb (fun x hx => by simpa using hW'.lt x (by simp [hx]))) (Below.trod Try.laidOut (by kernel_rfl) (of_decide_eq_true (by kernel_rfl)) h1 hb (fun x hx => by simpa using hW'.lt x (by simp [hx]))), rfl, hb.frame _, fun h => by cases h⟩

theorem fnExactMergeObject_holds : Rows.FnExactMergeObjectSaid :=
  OpenClaim.holds_of_wide 6 Try.f6 rfl rfl rfl rfl rfl rfl rfl ⟨rfl, rfl, rfl, rfl, rfl⟩ rfl rfl rfl rfl rfl (by kernel_rfl) Try.func6 (by kernel_rfl)
    (of_decide_eq_true (by kernel_rfl)) (by unfold Func.isWrapper; first | (rw [if_pos (by decide +kernel)]; kernel_rfl) | (rw [if_neg (by decide +kernel)]; exact ⟨rfl, rfl⟩))
    (fun os started H enc _ => fnExactMergeObject_lifted os started H enc)
#print axioms fnExactMergeObject_holds
end Go.Proofs.Ytknjfaebiljiiaa
