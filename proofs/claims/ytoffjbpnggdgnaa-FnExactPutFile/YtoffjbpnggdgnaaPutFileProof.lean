/- For every input that can be handed in (a list of files, a struct of numbers and a list; shared memory allowed): 'FnExactPutFile' returns true, and its arguments read as they did; no condition. Made by program (rowgen.py). -/
import Derived.Test.YtoffjbpnggdgnaaLawPutFile
import Derived.Test.YtoffjbpnggdgnaaFs4
import Derived.Test.YtoffjbpnggdgnaaOpenF
namespace Go.Proofs.Ytoffjbpnggdgnaa
open Go.ChangeShapes Go.WideShapes Go.ChangeAt Go.RowKit

set_option maxHeartbeats 2000000 in
theorem lawPutFile_all {S0 S1 : Nat → Prop} {w : World} {y0 : Value} {xs0 : List Oj} (n1_0 n1_1 : Int) {y1 : Value} {xs1 : List Int} (hy0 : RdJ S0 w y0 xs0) (hy1 : RdI S1 w y1 xs1) :
    Calls Try.prog 3 #[y0, .agg #[.int .i64 n1_0, .int .i64 n1_1, y1]] w fun e w' => e = .returned (.bool true) ∧ Below w.heap.size w w' := by
  by_cases hs0 : szU xs0 ≤ 1048576
  · skip
    by_cases hs1 : szU xs0 + (xs1.length : Int) ≤ 1048576
    · skip
      exact lawPutFile_small n1_0 n1_1 hy0 hy1 (ptC xs0 (n1_0, n1_1, xs1)) (ptR xs0 (n1_0, n1_1, xs1)) (ptR_tot xs0 (n1_0, n1_1, xs1)) (by have := szU_nonneg xs0; omega)  (fun _ _ w y z hy hz => specPutFile n1_0 n1_1 hy hz (by have := szU_nonneg xs0; omega)) (fun _ _ w y z hy hz => implPutFile n1_0 n1_1 hy hz (by have := szU_nonneg xs0; omega))
    · skip
      obtain ⟨ay0, cy0, rfl, _⟩ := hy0.shape
      obtain ⟨ay1, cy1, rfl⟩ := hy1.shape
      have HZ0 := hide (szv_yes (left := (1048576 : Int)) (s := szU xs0) (by omega))
      have hd0 : 0 ≤ (1048576 : Int) ∧ (1048576 : Int) ≤ 1048576 := by have := szU_nonneg xs0; omega
      have hp0 : ¬ ((1048576 : Int) - szU xs0 < 0) := by omega
      have HZ1 := hide (szv_no (left := (1048576 : Int) - szU xs0) (s := (xs1.length : Int)) (by omega))
      have hd1 : 0 ≤ (1048576 : Int) - szU xs0 ∧ (1048576 : Int) - szU xs0 ≤ 1048576 := by have := szU_nonneg xs0; omega
      have HR0 := hide hy0
      have HR1 := hide hy1
      have BB := hide (below_on (Below.refl w.heap.size w) (below_alloc _ (.cells #[.int .i64 n1_0, .int .i64 n1_1, .slice ay1 xs1.length cy1] 25)))
      have F_b1 : Hid (Var3 (w.alloc (.cells #[.int .i64 n1_0, .int .i64 n1_1, .slice ay1 xs1.length cy1] 25)) (w.heap.size) (.int .i64 n1_0) (.int .i64 n1_1) (.slice ay1 xs1.length cy1)) := by have h := Var3_new w (.int .i64 n1_0) (.int .i64 n1_1) (.slice ay1 xs1.length cy1) 25; (try simp at h); unfold Hid; exact h
      clear hy0 hy1
      clear hs0 hs1
      go_enter Try.func3, Try.ntmps3
      go_wp2_with fail
      refine (szFiU (HR0.out.later BB.out) hd0.1 hd0.2).mono ?_
      rintro e wz0 ⟨he, hb⟩
      rw [HZ0.out] at he
      subst he
      have G_b1 := hide (F_b1.out.later hb)
      clear F_b1
      have F_b1 := G_b1
      clear G_b1
      have BC := hide (below_on BB.out hb)
      clear BB
      have BB := BC
      clear BC hb
      obtain ⟨p1_0, p1_1, p1_2⟩ := F_b1.out
      go_wp2_with fail
      refine (szFile n1_0 n1_1 (HR1.out.later BB.out) hd1.1 hd1.2).mono ?_
      rintro e wz1 ⟨he, hb⟩
      rw [HZ1.out] at he
      subst he
      clear p1_0 p1_1 p1_2
      have G_b1 := hide (F_b1.out.later hb)
      clear F_b1
      have F_b1 := G_b1
      clear G_b1
      have BC := hide (below_on BB.out hb)
      clear BB
      have BB := BC
      clear BC hb
      go_wp2
      go_ret
      exact ⟨rfl, BB.out⟩
  · skip
    obtain ⟨ay0, cy0, rfl, _⟩ := hy0.shape
    obtain ⟨ay1, cy1, rfl⟩ := hy1.shape
    have HZ0 := hide (szv_no (left := (1048576 : Int)) (s := szU xs0) (by omega))
    have hd0 : 0 ≤ (1048576 : Int) ∧ (1048576 : Int) ≤ 1048576 := by have := szU_nonneg xs0; omega
    have HR0 := hide hy0
    have HR1 := hide hy1
    have BB := hide (below_on (Below.refl w.heap.size w) (below_alloc _ (.cells #[.int .i64 n1_0, .int .i64 n1_1, .slice ay1 xs1.length cy1] 25)))
    have F_b1 : Hid (Var3 (w.alloc (.cells #[.int .i64 n1_0, .int .i64 n1_1, .slice ay1 xs1.length cy1] 25)) (w.heap.size) (.int .i64 n1_0) (.int .i64 n1_1) (.slice ay1 xs1.length cy1)) := by have h := Var3_new w (.int .i64 n1_0) (.int .i64 n1_1) (.slice ay1 xs1.length cy1) 25; (try simp at h); unfold Hid; exact h
    clear hy0 hy1
    clear hs0
    go_enter Try.func3, Try.ntmps3
    go_wp2_with fail
    refine (szFiU (HR0.out.later BB.out) hd0.1 hd0.2).mono ?_
    rintro e wz0 ⟨he, hb⟩
    rw [HZ0.out] at he
    subst he
    have G_b1 := hide (F_b1.out.later hb)
    clear F_b1
    have F_b1 := G_b1
    clear G_b1
    have BC := hide (below_on BB.out hb)
    clear BB
    have BB := BC
    clear BC hb
    go_wp2
    go_ret
    exact ⟨rfl, BB.out⟩

set_option maxRecDepth 100000 in
theorem fnExactPutFile_lifted (os : Os) (started : os.Started) (H : Type) (enc : TypeId × Value → H) :
    ReturnsInHanded {} Try.checked os 3 .any (Rows.fnExactPutFileSpec.pre6 enc Try.prog Try.f3 Rows.fnExactPutFileRow.domain false) (Rows.fnExactPutFileSpec.post enc Try.prog Try.f3 false true false false) := by
  refine returnsInHanded_of_change (C := Try.checked) Try.own started (by kernel_rfl) Try.func3
    (ChangeSpec.witness6 (enc := enc) (C := Try.checked) false ⟨#[], #[.slice none 0 0, .agg #[.int .i64 0, .int .i64 0, .slice none 0 0]], []⟩ 8 (by kernel_rfl) (by kernel_rfl) (by kernel_rfl) (by kernel_rfl)) ?_
  intro W base args ds gs before hval0 hW hcnd _
  have hval : ∀ (j : Nat) t v, Try.f3.params[j]? = some t → args[j]? = some v → Value.okWide Try.prog W .any base t v := hval0
  have hW' := hW
  obtain ⟨p, q, hA0, hV, rfl, hfz, hnd⟩ := hW
  have hA : DataW.TrodAll enc Try.prog W 0 (fun _ => true) true Try.f3.params.toList args.toList ds p := hA0
  rw [Try.params3] at hA hval
  obtain ⟨v0, v1, d0, d1, p0, p1, rfl, rfl, rfl, h0, h1⟩ := trodAll_two hA
  obtain ⟨rfl, rfl⟩ := trodVars_none hV
  obtain ⟨xs0, hy0⟩ := rdFiarg_of (hval 0 22 v0 rfl rfl) h0
  obtain ⟨n1_0, n1_1, y1, xs1, rfl, hy1⟩ := rdFile_of (hval 1 25 v1 rfl rfl) h1
  clear hA0 hval0
  simp only [List.append_nil] at hW'
  refine (lawPutFile_all n1_0 n1_1 hy0 hy1).mono fun e W' ⟨he, hb⟩ => ?_
  subst he
  exact ⟨_, rfl, _, _, _, [], p0 ++ p1, [], hW', trodAll_mk1 (shut_bool Try.underlying4 _), trodAll_mk2 (Below.trod Try.laidOut (by kernel_rfl) (of_decide_eq_true (by kernel_rfl)) h0 hb (fun x hx => by simpa using hW'.lt x (by simp [hx]))) (Below.trod Try.laidOut (by kernel_rfl) (of_decide_eq_true (by kernel_rfl)) h1 hb (fun x hx => by simpa using hW'.lt x (by simp [hx]))), rfl, hb.frame _, fun h => by cases h⟩

theorem fnExactPutFile_holds : Rows.FnExactPutFileSaid :=
  OpenClaim.holds_of_wide 3 Try.f3 rfl rfl rfl rfl rfl rfl rfl ⟨rfl, rfl, rfl, rfl, rfl⟩ rfl rfl rfl rfl rfl (by kernel_rfl) Try.func3 (by kernel_rfl)
    (of_decide_eq_true (by kernel_rfl)) (by unfold Func.isWrapper; first | (rw [if_pos (by decide +kernel)]; kernel_rfl) | (rw [if_neg (by decide +kernel)]; exact ⟨rfl, rfl⟩))
    (fun os started H enc _ => fnExactPutFile_lifted os started H enc)
#print axioms fnExactPutFile_holds
end Go.Proofs.Ytoffjbpnggdgnaa
