/- For every input that can be handed in (a list of numbers, a number; shared memory allowed): 'FnExactTakeBlocks' returns true, and its arguments read as they did; no condition. Made by program (rowgen.py). -/
import Derived.Test.YtolhpjeoagjnjaaLawTakeBlocks
import Derived.Test.YtolhpjeoagjnjaaTk2
import Derived.Test.YtolhpjeoagjnjaaOpen
namespace Go.Proofs.Ytolhpjeoagjnjaa
open Go.ChangeShapes Go.WideShapes Go.ChangeAt Go.RowKit

set_option maxHeartbeats 2000000 in
theorem lawTakeBlocks_all {S0 : Nat → Prop} {w : World} {y0 : Value} {xs0 : List Int} (a1 : Int) (hy0 : RdI S0 w y0 xs0) :
    Calls Try.prog 7 #[y0, .int .i64 a1] w fun e w' => e = .returned (.bool true) ∧ Below w.heap.size w w' := by
  by_cases hl0 : xs0.length ≤ 1048576
  · skip
    exact lawTakeBlocks_small a1 hy0 (tbC xs0 a1) (tbR1 xs0 a1) (tbR2 xs0 a1) (tb_bound xs0 a1)  hl0 (fun _ w y h => specTakeBlocks a1 h) (fun _ w y h => implTakeBlocks a1 h)
  · skip
    obtain ⟨ay0, cy0, rfl⟩ := hy0.shape
    have hbig : 1048576 < xs0.length := by omega
    have hym0 : xs0.length ≤ 9223372036854775807 := by obtain ⟨_, _, _, h, _⟩ := hy0; exact h
    have BB := hide (Below.refl w.heap.size w)
    clear hy0
    go_enter Try.func7, Try.ntmps7
    go_wp2
    go_ret
    exact ⟨rfl, BB.out⟩

set_option maxRecDepth 100000 in
theorem fnExactTakeBlocks_lifted (os : Os) (started : os.Started) (H : Type) (enc : TypeId × Value → H) :
    ReturnsInHanded {} Try.checked os 7 .any (Rows.fnExactTakeBlocksSpec.pre6 enc Try.prog Try.f7 Rows.fnExactTakeBlocksRow.domain false) (Rows.fnExactTakeBlocksSpec.post enc Try.prog Try.f7 false true false false) := by
  refine returnsInHanded_of_change (C := Try.checked) Try.own started (by kernel_rfl) Try.func7
    (ChangeSpec.witness6 (enc := enc) (C := Try.checked) false ⟨#[], #[.slice none 0 0, .int .i64 0], []⟩ 8 (by kernel_rfl) (by kernel_rfl) (by kernel_rfl) (by kernel_rfl)) ?_
  intro W base args ds gs before hval0 hW hcnd _
  have hval : ∀ (j : Nat) t v, Try.f7.params[j]? = some t → args[j]? = some v → Value.okWide Try.prog W .any base t v := hval0
  have hW' := hW
  obtain ⟨p, q, hA0, hV, rfl, hfz, hnd⟩ := hW
  have hA : DataW.TrodAll enc Try.prog W 0 (fun _ => true) true Try.f7.params.toList args.toList ds p := hA0
  rw [Try.params7] at hA hval
  obtain ⟨v0, v1, d0, d1, p0, p1, rfl, rfl, rfl, h0, h1⟩ := trodAll_two hA
  obtain ⟨rfl, rfl⟩ := trodVars_none hV
  obtain ⟨xs0, hy0⟩ := rdIarg_of (hval 0 24 v0 rfl rfl) h0
  obtain ⟨a1, rfl, rfl, rfl, wf1⟩ := open_int Try.underlying2 (hval 1 2 v1 rfl rfl) h1
  clear hA0 hval0
  simp only [List.append_nil] at hW'
  refine (lawTakeBlocks_all a1 hy0).mono fun e W' ⟨he, hb⟩ => ?_
  subst he
  exact ⟨_, rfl, _, _, _, [], p0 ++ [], [], hW', trodAll_mk1 (shut_bool Try.underlying4 _), trodAll_mk2 (Below.trod Try.laidOut (by kernel_rfl) (of_decide_eq_true (by kernel_rfl)) h0 hb (fun x hx => by simpa using hW'.lt x (by simp [hx]))) (shut_int Try.underlying2 wf1), rfl, hb.frame _, fun h => by cases h⟩

theorem fnExactTakeBlocks_holds : Rows.FnExactTakeBlocksSaid :=
  OpenClaim.holds_of_wide 7 Try.f7 rfl rfl rfl rfl rfl rfl rfl ⟨rfl, rfl, rfl, rfl, rfl⟩ rfl rfl rfl rfl rfl (by kernel_rfl) Try.func7 (by kernel_rfl)
    (of_decide_eq_true (by kernel_rfl)) (by unfold Func.isWrapper; first | (rw [if_pos (by decide +kernel)]; kernel_rfl) | (rw [if_neg (by decide +kernel)]; exact ⟨rfl, rfl⟩))
    (fun os started H enc _ => fnExactTakeBlocks_lifted os started H enc)
#print axioms fnExactTakeBlocks_holds
end Go.Proofs.Ytolhpjeoagjnjaa
