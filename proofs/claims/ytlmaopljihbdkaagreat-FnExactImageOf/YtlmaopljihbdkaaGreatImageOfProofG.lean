/- For every input that can be handed in (a store; shared memory allowed): 'FnExactImageOf' returns true, and its arguments read as they did; no condition. Made by program (rowgen.py). -/
import Derived.Test.YtlmaopljihbdkaaGreatG15
import Derived.Test.YtlmaopljihbdkaaGreatG51
import Derived.Test.YtlmaopljihbdkaaGreatG34
namespace Go.Proofs.YtlmaopljihbdkaaGreat
open Go.ChangeShapes Go.WideShapes Go.ChangeAt Go.RowKit

set_option maxHeartbeats 2000000 in
theorem lawImageOf_all {S0 T0 : Nat → Prop} {w : World} (n0_0 n0_1 n0_2 n0_3 : Int) {y0 z0 : Value} {xs0 : List Int} {ps0 : List Oj} (hy0 : RdI S0 w y0 xs0) (hz0 : RdJ T0 w z0 ps0) :
    Calls Tryz.prog 3 #[.agg #[.int .i64 n0_0, .int .i64 n0_1, .int .i64 n0_2, .int .i64 n0_3, y0, z0]] w fun e w' => e = .returned (.bool true) ∧ Below w.heap.size w w' := by
  by_cases hs0 : ((xs0.length : Int) + szU ps0) ≤ 1048576
  · skip
    exact lawImageOf_small n0_0 n0_1 n0_2 n0_3 hy0 hz0 (rfF ⟨n0_0, n0_1, n0_2, n0_3, xs0, ps0⟩) (imR ⟨n0_0, n0_1, n0_2, n0_3, xs0, ps0⟩) (imR_tot ⟨n0_0, n0_1, n0_2, n0_3, xs0, ps0⟩) (by have := szU_nonneg ps0; omega)  (fun _ _ w y z hy hz => specImageOf ⟨n0_0, n0_1, n0_2, n0_3, xs0, ps0⟩ hy hz) (fun _ _ w y z hy hz => implImageOf ⟨n0_0, n0_1, n0_2, n0_3, xs0, ps0⟩ hy hz)
  · skip
    obtain ⟨ay0, cy0, rfl⟩ := hy0.shape
    obtain ⟨az0, cz0, rfl, _⟩ := hz0.shape
    have HRz0 := hide hz0
    clear hz0
    have HZ0 := hide (szv_no (left := (1048576 : Int)) (s := ((xs0.length : Int) + szU ps0)) (by omega))
    have hd0 : 0 ≤ (1048576 : Int) ∧ (1048576 : Int) ≤ 1048576 := by have := szU_nonneg ps0; omega
    have HR0 := hide hy0
    have BB := hide (below_on (Below.refl w.heap.size w) (below_alloc _ (.cells #[.int .i64 n0_0, .int .i64 n0_1, .int .i64 n0_2, .int .i64 n0_3, .slice ay0 xs0.length cy0, .slice az0 ps0.length cz0] 25)))
    have F_b0 : Hid (Var6 (w.alloc (.cells #[.int .i64 n0_0, .int .i64 n0_1, .int .i64 n0_2, .int .i64 n0_3, .slice ay0 xs0.length cy0, .slice az0 ps0.length cz0] 25)) (w.heap.size) (.int .i64 n0_0) (.int .i64 n0_1) (.int .i64 n0_2) (.int .i64 n0_3) (.slice ay0 xs0.length cy0) (.slice az0 ps0.length cz0)) := by have h := Var6_new w (.int .i64 n0_0) (.int .i64 n0_1) (.int .i64 n0_2) (.int .i64 n0_3) (.slice ay0 xs0.length cy0) (.slice az0 ps0.length cz0) 25; (try simp at h); unfold Hid; exact h
    clear hy0
    clear hs0
    go_enter Tryz.func3, Tryz.ntmps3
    go_wp2_with fail
    refine (szRaft n0_0 n0_1 n0_2 n0_3 (HR0.out.later BB.out) (HRz0.out.later BB.out) hd0.1 hd0.2).mono ?_
    rintro e wz0 ⟨he, hb⟩
    rw [HZ0.out] at he
    subst he
    have G_b0 := hide (F_b0.out.later hb)
    clear F_b0
    have F_b0 := G_b0
    clear G_b0
    have BC := hide (below_on BB.out hb)
    clear BB
    have BB := BC
    clear BC hb
    go_wp2
    go_ret
    exact ⟨rfl, BB.out⟩

set_option maxRecDepth 100000 in
theorem fnExactImageOf_lifted (os : Os) (started : os.Started) (H : Type) (enc : TypeId × Value → H) :
    ReturnsInHanded {} Tryz.checked os 3 .any (Rows.fnExactImageOfSpec.pre6 enc Tryz.prog Tryz.f3 Rows.fnExactImageOfRow.domain false) (Rows.fnExactImageOfSpec.post enc Tryz.prog Tryz.f3 false true false false) := by
  refine returnsInHanded_of_change (C := Tryz.checked) Tryz.own started (by kernel_rfl) Tryz.func3
    (ChangeSpec.witness6 (enc := enc) (C := Tryz.checked) false ⟨#[], #[.agg #[.int .i64 0, .int .i64 0, .int .i64 0, .int .i64 0, .slice none 0 0, .slice none 0 0]], []⟩ 8 (by kernel_rfl) (by kernel_rfl) (by kernel_rfl) (by kernel_rfl)) ?_
  intro W base args ds gs before hval0 hW hcnd _
  have hval : ∀ (j : Nat) t v, Tryz.f3.params[j]? = some t → args[j]? = some v → Value.okWide Tryz.prog W .any base t v := hval0
  have hW' := hW
  obtain ⟨p, q, hA0, hV, rfl, hfz, hnd⟩ := hW
  have hA : DataW.TrodAll enc Tryz.prog W 0 (fun _ => true) true Tryz.f3.params.toList args.toList ds p := hA0
  rw [Tryz.params3] at hA hval
  obtain ⟨v0, d0, rfl, rfl, h0⟩ := trodAll_one hA
  obtain ⟨rfl, rfl⟩ := trodVars_none hV
  obtain ⟨⟨n0_0, n0_1, n0_2, n0_3, xs0, ps0⟩, y0, z0, rfl, hy0, hz0⟩ := rdRaft_of (hval 0 25 v0 rfl rfl) h0
  clear hA0 hval0
  simp only [List.append_nil] at hW'
  refine (lawImageOf_all n0_0 n0_1 n0_2 n0_3 hy0 hz0).mono fun e W' ⟨he, hb⟩ => ?_
  subst he
  exact ⟨_, rfl, _, _, _, [], p, [], hW', trodAll_mk1 (shut_bool Tryz.underlying4 _), trodAll_mk1 (Below.trod Tryz.laidOut (by kernel_rfl) (of_decide_eq_true (by kernel_rfl)) h0 hb (fun x hx => by simpa using hW'.lt x (by simp [hx]))), rfl, hb.frame _, fun h => by cases h⟩

theorem fnExactImageOf_holds : Rows.FnExactImageOfSaid :=
  OpenClaim.holds_of_wide 3 Tryz.f3 rfl rfl rfl rfl rfl rfl rfl ⟨rfl, rfl, rfl, rfl, rfl⟩ rfl rfl rfl rfl rfl (by kernel_rfl) Tryz.func3 (by kernel_rfl)
    (of_decide_eq_true (by kernel_rfl)) (by unfold Func.isWrapper; first | (rw [if_pos (by decide +kernel)]; kernel_rfl) | (rw [if_neg (by decide +kernel)]; exact ⟨rfl, rfl⟩))
    (fun os started H enc _ => fnExactImageOf_lifted os started H enc)
#print axioms fnExactImageOf_holds
end Go.Proofs.YtlmaopljihbdkaaGreat
