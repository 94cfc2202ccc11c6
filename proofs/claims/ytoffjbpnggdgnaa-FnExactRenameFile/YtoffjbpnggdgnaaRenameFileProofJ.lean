/- For every input that can be handed in (a list of files, a number, a number; shared memory allowed): 'FnExactRenameFile' returns true, and its arguments read as they did; no condition. Made by program (rowgen.py). -/
import Derived.Test.YtoffjbpnggdgnaaLawRenameFile
import Derived.Test.YtoffjbpnggdgnaaJRn
import Derived.Test.YtoffjbpnggdgnaaOpenF
namespace Go.Proofs.Ytoffjbpnggdgnaa
open Go.ChangeShapes Go.WideShapes Go.ChangeAt Go.RowKit

set_option maxHeartbeats 2000000 in
theorem lawRenameFile_all {S0 : Nat → Prop} {w : World} {y0 : Value} {xs0 : List Oj} (a1 : Int) (a2 : Int) (hy0 : RdJ S0 w y0 xs0) :
    Calls Try.prog 4 #[y0, .int .i64 a1, .int .i64 a2] w fun e w' => e = .returned (.bool true) ∧ Below w.heap.size w w' := by
  by_cases hs0 : szU xs0 ≤ 1048576
  · skip
    exact lawRenameFile_small a1 a2 hy0 (rnC xs0 a1 a2) (rnR xs0 a1 a2) (rnR_tot xs0 a1 a2) (by have := szU_nonneg xs0; omega)  (fun _ w y h => specRenameFile a1 a2 h) (fun _ w y h => implRenameFile a1 a2 h)
  · skip
    obtain ⟨ay0, cy0, rfl, _⟩ := hy0.shape
    have HZ0 := hide (szv_no (left := (1048576 : Int)) (s := szU xs0) (by omega))
    have hd0 : 0 ≤ (1048576 : Int) ∧ (1048576 : Int) ≤ 1048576 := by have := szU_nonneg xs0; omega
    have HR0 := hide hy0
    have BB := hide (Below.refl w.heap.size w)
    clear hy0
    clear hs0
    go_enter Try.func4, Try.ntmps4
    go_wp2_with fail
    refine (szFiU (HR0.out.later BB.out) hd0.1 hd0.2).mono ?_
    rintro e wz0 ⟨he, hb⟩
    rw [HZ0.out] at he
    subst he
    have BC := hide (below_on BB.out hb)
    clear BB
    have BB := BC
    clear BC hb
    go_wp2
    go_ret
    exact ⟨rfl, BB.out⟩

set_option maxRecDepth 100000 in
theorem fnExactRenameFile_lifted (os : Os) (started : os.Started) (H : Type) (enc : TypeId × Value → H) :
    ReturnsInHanded {} Try.checked os 4 .any (Rows.fnExactRenameFileSpec.pre6 enc Try.prog Try.f4 Rows.fnExactRenameFileRow.domain false) (Rows.fnExactRenameFileSpec.post enc Try.prog Try.f4 false true false false) := by
  refine returnsInHanded_of_change (C := Try.checked) Try.own started (by kernel_rfl) Try.func4
    (ChangeSpec.witness6 (enc := enc) (C := Try.checked) false ⟨#[], #[.slice none 0 0, .int .i64 0, .int .i64 0], []⟩ 8 (by kernel_rfl) (by kernel_rfl) (by kernel_rfl) (by kernel_rfl)) ?_
  intro W base args ds gs before hval0 hW hcnd _
  have hval : ∀ (j : Nat) t v, Try.f4.params[j]? = some t → args[j]? = some v → Value.okWide Try.prog W .any base t v := hval0
  have hW' := hW
  obtain ⟨p, q, hA0, hV, rfl, hfz, hnd⟩ := hW
  have hA : DataW.TrodAll enc Try.prog W 0 (fun _ => true) true Try.f4.params.toList args.toList ds p := hA0
  rw [Try.params4] at hA hval
  obtain ⟨v0, v1, v2, d0, d1, d2, p0, p1, p2, rfl, rfl, rfl, h0, h1, h2⟩ := trodAll_three hA
  obtain ⟨rfl, rfl⟩ := trodVars_none hV
  obtain ⟨xs0, hy0⟩ := rdFiarg_of (hval 0 22 v0 rfl rfl) h0
  obtain ⟨a1, rfl, rfl, rfl, wf1⟩ := open_int Try.underlying2 (hval 1 2 v1 rfl rfl) h1
  obtain ⟨a2, rfl, rfl, rfl, wf2⟩ := open_int Try.underlying2 (hval 2 2 v2 rfl rfl) h2
  clear hA0 hval0
  simp only [List.append_nil] at hW'
  refine (lawRenameFile_all a1 a2 hy0).mono fun e W' ⟨he, hb⟩ => ?_
  subst he
  exact ⟨_, rfl, _, _, _, [], p0 ++ ([] ++ []), [], hW', trodAll_mk1 (shut_bool Try.underlying4 _), trodAll_mk3 (Below.trod Try.laidOut (by kernel_rfl) (of_decide_eq_true (by kernel_rfl)) h0 hb (fun x hx => by simpa using hW'.lt x (by simp [hx]))) (shut_int Try.underlying2 wf1) (shut_int Try.underlying2 wf2), rfl, hb.frame _, fun h => by cases h⟩

theorem fnExactRenameFile_holds : Rows.FnExactRenameFileSaid :=
  OpenClaim.holds_of_wide 4 Try.f4 rfl rfl rfl rfl rfl rfl rfl ⟨rfl, rfl, rfl, rfl, rfl⟩ rfl rfl rfl rfl rfl (by kernel_rfl) Try.func4 (by kernel_rfl)
    (of_decide_eq_true (by kernel_rfl)) (by unfold Func.isWrapper; first | (rw [if_pos (by decide +kernel)]; kernel_rfl) | (rw [if_neg (by decide +kernel)]; exact ⟨rfl, rfl⟩))
    (fun os started H enc _ => fnExactRenameFile_lifted os started H enc)
#print axioms fnExactRenameFile_holds
end Go.Proofs.Ytoffjbpnggdgnaa
