/- For every input that can be handed in (a list of files, a number; shared memory allowed): 'FnExactDropFile' returns true, and its arguments read as they did; no condition. Made by program (rowgen.py). -/
import Derived.Test.YtefcfhccbeaieaaLawDropFile
import Derived.Test.YtefcfhccbeaieaaFi10
import Derived.Test.YtefcfhccbeaieaaOpenF
namespace Go.Proofs.Ytefcfhccbeaieaa
open Go.ChangeShapes Go.WideShapes Go.ChangeAt Go.RowKit

set_option maxHeartbeats 2000000 in
theorem lawDropFile_all {S0 : Nat → Prop} {w : World} {y0 : Value} {xs0 : List Oj} (a1 : Int) (hy0 : RdJ S0 w y0 xs0) :
    Calls Try.prog 7 #[y0, .int .i64 a1] w fun e w' => e = .returned (.bool true) ∧ Below w.heap.size w w' := by
  by_cases hs0 : szU xs0 ≤ 1048576
  · skip
    exact lawDropFile_small a1 hy0 (faC xs0 a1) (drR xs0 a1) (drR_tot xs0 a1) (by have := szU_nonneg xs0; omega)  (fun _ w y h => specDropFile a1 h) (fun _ w y h => implDropFile a1 h)
  · skip
    obtain ⟨ay0, cy0, rfl, _⟩ := hy0.shape
    have HZ0 := hide (szv_no (left := (1048576 : Int)) (s := szU xs0) (by omega))
    have hd0 : 0 ≤ (1048576 : Int) ∧ (1048576 : Int) ≤ 1048576 := by have := szU_nonneg xs0; omega
    have HR0 := hide hy0
    have BB := hide (Below.refl w.heap.size w)
    clear hy0
    clear hs0
    go_enter Try.func7, Try.ntmps7
    go_wp2_with fail
    refine (szFiU (HR0.out.later BB.out) hd0.1 hd0.2).mono ?_
    rintro e wz0 ⟨he, hb⟩
    rw [HZ0.out] at he
    subst he
    have BC := hide (below_on BB.out hb)
    clear BB
    have BB := BC
    clear BC hb
    go_wp2
    go_ret
    exact ⟨rfl, BB.out⟩

set_option maxRecDepth 100000 in
theorem fnExactDropFile_lifted (os : Os) (started : os.Started) (H : Type) (enc : TypeId × Value → H) :
    ReturnsInHanded {} Try.checked os 7 .any (Rows.fnExactDropFileSpec.pre6 enc Try.prog Try.f7 Rows.fnExactDropFileRow.domain false) (Rows.fnExactDropFileSpec.post enc Try.prog Try.f7 false true false false) := by
  refine returnsInHanded_of_change (C := Try.checked) Try.own started (by kernel_rfl) Try.func7
    (ChangeSpec.witness6 (enc := enc) (C := Try.checked) false ⟨#[], #[.slice none 0 0, .int .i64 0], []⟩ 8 (by kernel_rfl) (by kernel_rfl) (by kernel_rfl) (by kernel_rfl)) ?_
  intro W base args ds gs before hval0 hW hcnd _
  have hval : ∀ (j : Nat) t v, Try.f7.params[j]? = some t → args[j]? = some v → Value.okWide Try.prog W .any base t v := hval0
  have hW' := hW
  obtain ⟨p, q, hA0, hV, rfl, hfz, hnd⟩ := hW
  have hA : DataW.TrodAll enc Try.prog W 0 (fun _ => true) true Try.f7.params.toList args.toList ds p := hA0
  rw [Try.params7] at hA hval
  obtain ⟨v0, v1, d0, d1, p0, p1, rfl, rfl, rfl, h0, h1⟩ := trodAll_two hA
  obtain ⟨rfl, rfl⟩ := trodVars_none hV
  obtain ⟨xs0, hy0⟩ := rdFiarg_of (hval 0 22 v0 rfl rfl) h0
  obtain ⟨a1, rfl, rfl, rfl, wf1⟩ := open_int Try.underlying2 (hval 1 2 v1 rfl rfl) h1
  clear hA0 hval0
  simp only [List.append_nil] at hW'
  refine (lawDropFile_all a1 hy0).mono fun e W' ⟨he, hb⟩ => ?_
  subst he
  exact ⟨_, rfl, _, _, _, [], p0 ++ [], [], hW', trodAll_mk1 (shut_bool Try.underlying4 _), trodAll_mk2 (Below.trod Try.laidOut (by kernel_rfl) (of_decide_eq_true (by kernel_rfl)) h0 hb (fun x hx => by simpa using hW'.lt x (by simp [hx]))) (shut_int Try.underlying2 wf1), rfl, hb.frame _, fun h => by cases h⟩

theorem fnExactDropFile_holds : Rows.FnExactDropFileSaid :=
  OpenClaim.holds_of_wide 7 Try.f7 rfl rfl rfl rfl rfl rfl rfl ⟨rfl, rfl, rfl, rfl, rfl⟩ rfl rfl rfl rfl rfl (by kernel_rfl) Try.func7 (by kernel_rfl)
    (of_decide_eq_true (by kernel_rfl)) (by unfold Func.isWrapper; first | (rw [if_pos (by decide +kernel)]; kernel_rfl) | (rw [if_neg (by decide +kernel)]; exact ⟨rfl, rfl⟩))
    (fun os started H enc _ => fnExactDropFile_lifted os started H enc)
#print axioms fnExactDropFile_holds
end Go.Proofs.Ytefcfhccbeaieaa
