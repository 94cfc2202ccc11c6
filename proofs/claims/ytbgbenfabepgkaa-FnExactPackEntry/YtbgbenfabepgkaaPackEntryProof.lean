/- For every input that can be handed in (a struct of numbers and a list; shared memory allowed): 'FnExactPackEntry' returns true, and its arguments read as they did; no condition. Made by program (rowgen.py). -/
import Derived.Test.YtbgbenfabepgkaaLawPackEntry
import Derived.Test.YtbgbenfabepgkaaEn3
import Derived.Test.YtbgbenfabepgkaaOpenE
namespace Go.Proofs.Ytbgbenfabepgkaa
open Go.ChangeShapes Go.WideShapes Go.ChangeAt Go.RowKit

set_option maxHeartbeats 2000000 in
theorem lawPackEntry_all {S0 : Nat → Prop} {w : World} (n0_0 n0_1 : Int) {y0 : Value} {xs0 : List Int} (hy0 : RdI S0 w y0 xs0) :
    Calls Try.prog 5 #[.agg #[.int .i64 n0_0, .int .i64 n0_1, y0]] w fun e w' => e = .returned (.bool true) ∧ Below w.heap.size w w' := by
  by_cases hs0 : (xs0.length : Int) ≤ 1048576
  · skip
    exact lawPackEntry_small n0_0 n0_1 hy0 (entF (n0_0, n0_1, xs0)) (peR (n0_0, n0_1, xs0)) (peR_len (n0_0, n0_1, xs0)) (by omega)  (fun _ w y h => specPackEntry n0_0 n0_1 h) (fun _ w y h => implPackEntry n0_0 n0_1 h)
  · skip
    obtain ⟨ay0, cy0, rfl⟩ := hy0.shape
    have HZ0 := hide (szv_no (left := (1048576 : Int)) (s := (xs0.length : Int)) (by omega))
    have hd0 : 0 ≤ (1048576 : Int) ∧ (1048576 : Int) ≤ 1048576 := by omega
    have HR0 := hide hy0
    have BB := hide (below_on (Below.refl w.heap.size w) (below_alloc _ (.cells #[.int .i64 n0_0, .int .i64 n0_1, .slice ay0 xs0.length cy0] 24)))
    have F_b0 : Hid (Var3 (w.alloc (.cells #[.int .i64 n0_0, .int .i64 n0_1, .slice ay0 xs0.length cy0] 24)) (w.heap.size) (.int .i64 n0_0) (.int .i64 n0_1) (.slice ay0 xs0.length cy0)) := by have h := Var3_new w (.int .i64 n0_0) (.int .i64 n0_1) (.slice ay0 xs0.length cy0) 24; (try simp at h); unfold Hid; exact h
    clear hy0
    clear hs0
    go_enter Try.func5, Try.ntmps5
    go_wp2_with fail
    refine (szEntry n0_0 n0_1 (HR0.out.later BB.out) hd0.1 hd0.2).mono ?_
    rintro e wz0 ⟨he, hb⟩
    rw [HZ0.out] at he
    subst he
    have G_b0 := hide (F_b0.out.later hb)
    clear F_b0
    have F_b0 := G_b0
    clear G_b0
    have BC := hide (below_on BB.out hb)
    clear BB
    have BB := BC
    clear BC hb
    go_wp2
    go_ret
    exact ⟨rfl, BB.out⟩

set_option maxRecDepth 100000 in
theorem fnExactPackEntry_lifted (os : Os) (started : os.Started) (H : Type) (enc : TypeId × Value → H) :
    ReturnsInHanded {} Try.checked os 5 .any (Rows.fnExactPackEntrySpec.pre6 enc Try.prog Try.f5 Rows.fnExactPackEntryRow.domain false) (Rows.fnExactPackEntrySpec.post enc Try.prog Try.f5 false true false false) := by
  refine returnsInHanded_of_change (C := Try.checked) Try.own started (by kernel_rfl) Try.func5
    (ChangeSpec.witness6 (enc := enc) (C := Try.checked) false ⟨#[], #[.agg #[.int .i64 0, .int .i64 0, .slice none 0 0]], []⟩ 8 (by kernel_rfl) (by kernel_rfl) (by kernel_rfl) (by kernel_rfl)) ?_
  intro W base args ds gs before hval0 hW hcnd _
  have hval : ∀ (j : Nat) t v, Try.f5.params[j]? = some t → args[j]? = some v → Value.okWide Try.prog W .any base t v := hval0
  have hW' := hW
  obtain ⟨p, q, hA0, hV, rfl, hfz, hnd⟩ := hW
  have hA : DataW.TrodAll enc Try.prog W 0 (fun _ => true) true Try.f5.params.toList args.toList ds p := hA0
  rw [Try.params5] at hA hval
  obtain ⟨v0, d0, rfl, rfl, h0⟩ := trodAll_one hA
  obtain ⟨rfl, rfl⟩ := trodVars_none hV
  obtain ⟨n0_0, n0_1, y0, xs0, rfl, hy0⟩ := rdEntry_of (hval 0 24 v0 rfl rfl) h0
  clear hA0 hval0
  simp only [List.append_nil] at hW'
  refine (lawPackEntry_all n0_0 n0_1 hy0).mono fun e W' ⟨he, hb⟩ => ?_
  subst he
  exact ⟨_, rfl, _, _, _, [], p, [], hW', trodAll_mk1 (shut_bool Try.underlying4 _), trodAll_mk1 (Below.trod Try.laidOut (by kernel_rfl) (of_decide_eq_true (by kernel_rfl)) h0 hb (fun x hx => by simpa using hW'.lt x (by simp [hx]))), rfl, hb.frame _, fun h => by cases h⟩

theorem fnExactPackEntry_holds : Rows.FnExactPackEntrySaid :=
  OpenClaim.holds_of_wide 5 Try.f5 rfl rfl rfl rfl rfl rfl rfl ⟨rfl, rfl, rfl, rfl, rfl⟩ rfl rfl rfl rfl rfl (by kernel_rfl) Try.func5 (by kernel_rfl)
    (of_decide_eq_true (by kernel_rfl)) (by unfold Func.isWrapper; first | (rw [if_pos (by decide +kernel)]; kernel_rfl) | (rw [if_neg (by decide +kernel)]; exact ⟨rfl, rfl⟩))
    (fun os started H enc _ => fnExactPackEntry_lifted os started H enc)
#print axioms fnExactPackEntry_holds
end Go.Proofs.Ytbgbenfabepgkaa
