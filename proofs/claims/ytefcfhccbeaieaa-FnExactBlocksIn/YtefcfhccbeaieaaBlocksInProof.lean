/- For every input that can be handed in (a list of files; shared memory allowed): 'FnExactBlocksIn' returns true, and its arguments read as they did; no condition. Made by program (rowgen.py). -/
import Derived.Test.YtefcfhccbeaieaaLawBlocksIn
import Derived.Test.YtefcfhccbeaieaaFi6
import Derived.Test.YtefcfhccbeaieaaOpenF
namespace Go.Proofs.Ytefcfhccbeaieaa
open Go.ChangeShapes Go.WideShapes Go.ChangeAt Go.RowKit

set_option maxHeartbeats 2000000 in
theorem lawBlocksIn_all {S0 : Nat → Prop} {w : World} {y0 : Value} {xs0 : List Oj} (hy0 : RdJ S0 w y0 xs0) :
    Calls Try.prog 5 #[y0] w fun e w' => e = .returned (.bool true) ∧ Below w.heap.size w w' := by
  by_cases hs0 : szU xs0 ≤ 1048576
  · skip
    exact lawBlocksIn_small  hy0 (pdC xs0) (biR xs0) (biR_len xs0) (by have := szU_nonneg xs0; omega)  (fun _ w y h => specBlocksIn h) (fun _ w y h => implBlocksIn h)
  · skip
    obtain ⟨ay0, cy0, rfl, _⟩ := hy0.shape
    have HZ0 := hide (szv_no (left := (1048576 : Int)) (s := szU xs0) (by omega))
    have hd0 : 0 ≤ (1048576 : Int) ∧ (1048576 : Int) ≤ 1048576 := by have := szU_nonneg xs0; omega
    have HR0 := hide hy0
    have BB := hide (Below.refl w.heap.size w)
    clear hy0
    clear hs0
    go_enter Try.func5, Try.ntmps5
    go_wp2_with fail
    refine (szFiU (HR0.out.later BB.out) hd0.1 hd0.2).mono ?_
    rintro e wz0 ⟨he, hb⟩
    rw [HZ0.out] at he
    subst he
    have BC := hide (below_on BB.out hb)
    clear BB
    have BB := BC
    clear BC hb
    go_wp2
    go_ret
    exact ⟨rfl, BB.out⟩

set_option maxRecDepth 100000 in
theorem fnExactBlocksIn_lifted (os : Os) (started : os.Started) (H : Type) (enc : TypeId × Value → H) :
    ReturnsInHanded {} Try.checked os 5 .any (Rows.fnExactBlocksInSpec.pre6 enc Try.prog Try.f5 Rows.fnExactBlocksInRow.domain false) (Rows.fnExactBlocksInSpec.post enc Try.prog Try.f5 false true false false) := by
  refine returnsInHanded_of_change (C := Try.checked) Try.own started (by kernel_rfl) Try.func5
    (ChangeSpec.witness6 (enc := enc) (C := Try.checked) false ⟨#[], #[.slice none 0 0], []⟩ 8 (by kernel_rfl) (by kernel_rfl) (by kernel_rfl) (by kernel_rfl)) ?_
  intro W base args ds gs before hval0 hW hcnd _
  have hval : ∀ (j : Nat) t v, Try.f5.params[j]? = some t → args[j]? = some v → Value.okWide Try.prog W .any base t v := hval0
  have hW' := hW
  obtain ⟨p, q, hA0, hV, rfl, hfz, hnd⟩ := hW
  have hA : DataW.TrodAll enc Try.prog W 0 (fun _ => true) true Try.f5.params.toList args.toList ds p := hA0
  rw [Try.params5] at hA hval
  obtain ⟨v0, d0, rfl, rfl, h0⟩ := trodAll_one hA
  obtain ⟨rfl, rfl⟩ := trodVars_none hV
  obtain ⟨xs0, hy0⟩ := rdFiarg_of (hval 0 22 v0 rfl rfl) h0
  clear hA0 hval0
  simp only [List.append_nil] at hW'
  refine (lawBlocksIn_all  hy0).mono fun e W' ⟨he, hb⟩ => ?_
  subst he
  exact ⟨_, rfl, _, _, _, [], p, [], hW', trodAll_mk1 (shut_bool Try.underlying4 _), trodAll_mk1 (Below.trod Try.laidOut (by kernel_rfl) (of_decide_eq_true (by kernel_rfl)) h0 hb (fun x hx => by simpa using hW'.lt x (by simp [hx]))), rfl, hb.frame _, fun h => by cases h⟩

theorem fnExactBlocksIn_holds : Rows.FnExactBlocksInSaid :=
  OpenClaim.holds_of_wide 5 Try.f5 rfl rfl rfl rfl rfl rfl rfl ⟨rfl, rfl, rfl, rfl, rfl⟩ rfl rfl rfl rfl rfl (by kernel_rfl) Try.func5 (by kernel_rfl)
    (of_decide_eq_true (by kernel_rfl)) (by unfold Func.isWrapper; first | (rw [if_pos (by decide +kernel)]; kernel_rfl) | (rw [if_neg (by decide +kernel)]; exact ⟨rfl, rfl⟩))
    (fun os started H enc _ => fnExactBlocksIn_lifted os started H enc)
#print axioms fnExactBlocksIn_holds
end Go.Proofs.Ytefcfhccbeaieaa
