/- For every input that can be handed in (a list of numbers, a list of numbers; shared memory allowed): 'FnExactFreeBlocks' returns true, and its arguments read as they did; no condition. Made by program (genproof.py). -/
import Derived.Test.YtolhpjeoagjnjaaLawFreeBlocks
import Derived.Test.YtolhpjeoagjnjaaMp7
import Derived.Test.YtolhpjeoagjnjaaOpen
namespace Go.Proofs.Ytolhpjeoagjnjaa
open Go.ChangeShapes Go.WideShapes Go.ChangeAt Go.RowKit

set_option maxHeartbeats 1000000 in
theorem lawFreeBlocks_all {S0 S1 : Nat → Prop} {w : World} {y0 : Value} {xs0 : List Int} {y1 : Value} {xs1 : List Int} (hy0 : RdI S0 w y0 xs0) (hy1 : RdI S1 w y1 xs1) :
    Calls Try.prog 8 #[y0, y1] w fun e w' => e = .returned (.bool true) ∧ Below w.heap.size w w' := by
  by_cases hl0 : xs0.length ≤ 1048576
  · skip
    by_cases hl1 : xs1.length ≤ 1048576
    · skip
      exact lawFreeBlocks_small  hy0 hy1 (fbC xs0 xs1) (fbR xs0 xs1) (fbR_len xs0 xs1) hl0 hl1 (fun _ _ w y z hy hz => specFreeBlocks hy hz) (fun _ _ w y z hy hz => implFreeBlocks hy hz)
    · obtain ⟨ay1, cy1, hyv1, hym1, _⟩ := hy1
      subst hyv1
      obtain ⟨ay0, cy0, hyv0, hym0, _⟩ := hy0
      subst hyv0
      have hbig : 1048576 < xs1.length := by omega
      clear hl1
      go_enter Try.func8, Try.ntmps8
      go_wp2
      go_ret
      exact ⟨rfl, Below.refl _ _⟩
  · obtain ⟨ay0, cy0, hyv0, hym0, _⟩ := hy0
    subst hyv0
    have hbig : 1048576 < xs0.length := by omega
    clear hl0
    go_enter Try.func8, Try.ntmps8
    go_wp2
    go_ret
    exact ⟨rfl, Below.refl _ _⟩

set_option maxRecDepth 100000 in
theorem fnExactFreeBlocks_lifted (os : Os) (started : os.Started) (H : Type) (enc : TypeId × Value → H) :
    ReturnsInHanded {} Try.checked os 8 .any (Rows.fnExactFreeBlocksSpec.pre6 enc Try.prog Try.f8 Rows.fnExactFreeBlocksRow.domain false) (Rows.fnExactFreeBlocksSpec.post enc Try.prog Try.f8 false true false false) := by
  refine returnsInHanded_of_change (C := Try.checked) Try.own started (by kernel_rfl) Try.func8
    (ChangeSpec.witness6 (enc := enc) (C := Try.checked) false ⟨#[], #[.slice none 0 0, .slice none 0 0], []⟩ 8 (by kernel_rfl) (by kernel_rfl) (by kernel_rfl) (by kernel_rfl)) ?_
  intro W base args ds gs before hval0 hW hcnd _
  have hval : ∀ (j : Nat) t v, Try.f8.params[j]? = some t → args[j]? = some v → Value.okWide Try.prog W .any base t v := hval0
  have hW' := hW
  obtain ⟨p, q, hA0, hV, rfl, hfz, hnd⟩ := hW
  have hA : DataW.TrodAll enc Try.prog W 0 (fun _ => true) true Try.f8.params.toList args.toList ds p := hA0
  rw [Try.params8] at hA hval
  obtain ⟨v0, v1, d0, d1, p0, p1, rfl, rfl, rfl, h0, h1⟩ := trodAll_two hA
  obtain ⟨rfl, rfl⟩ := trodVars_none hV
  obtain ⟨xs0, hy0⟩ := rdIarg_of (hval 0 24 v0 rfl rfl) h0
  obtain ⟨xs1, hy1⟩ := rdIarg_of (hval 1 24 v1 rfl rfl) h1
  clear hA0 hval0
  simp only [List.append_nil] at hW'
  refine (lawFreeBlocks_all hy0 hy1).mono fun e W' ⟨he, hb⟩ => ?_
  subst he
  exact ⟨_, rfl, _, _, _, [], p0 ++ p1, [], hW', trodAll_mk1 (shut_bool Try.underlying4 _), trodAll_mk2 (Below.trod Try.laidOut (by kernel_rfl) (of_decide_eq_true (by kernel_rfl)) h0 hb (fun x hx => by simpa using hW'.lt x (by simp [hx]))) (Below.trod Try.laidOut (by kernel_rfl) (of_decide_eq_true (by kernel_rfl)) h1 hb (fun x hx => by simpa using hW'.lt x (by simp [hx]))), rfl, hb.frame _, fun h => by cases h⟩

theorem fnExactFreeBlocks_holds : Rows.FnExactFreeBlocksSaid :=
  OpenClaim.holds_of_wide 8 Try.f8 rfl rfl rfl rfl rfl rfl rfl ⟨rfl, rfl, rfl, rfl, rfl⟩ rfl rfl rfl rfl rfl (by kernel_rfl) Try.func8 (by kernel_rfl)
    (of_decide_eq_true (by kernel_rfl)) (by unfold Func.isWrapper; first | (rw [if_pos (by decide +kernel)]; kernel_rfl) | (rw [if_neg (by decide +kernel)]; exact ⟨rfl, rfl⟩))
    (fun os started H enc _ => fnExactFreeBlocks_lifted os started H enc)
#print axioms fnExactFreeBlocks_holds
end Go.Proofs.Ytolhpjeoagjnjaa
