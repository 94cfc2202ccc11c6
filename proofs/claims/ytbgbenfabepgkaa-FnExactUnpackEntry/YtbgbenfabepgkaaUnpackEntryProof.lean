/- For every input that can be handed in (a list of numbers; shared memory allowed): 'FnExactUnpackEntry' returns true, and its arguments read as they did; no condition. Made by program (rowgen.py). -/
import Derived.Test.YtbgbenfabepgkaaLawUnpackEntry
import Derived.Test.YtbgbenfabepgkaaEn5c
import Derived.Test.YtbgbenfabepgkaaOpenE
namespace Go.Proofs.Ytbgbenfabepgkaa
open Go.ChangeShapes Go.WideShapes Go.ChangeAt Go.RowKit

set_option maxHeartbeats 2000000 in
theorem lawUnpackEntry_all {S0 : Nat → Prop} {w : World} {y0 : Value} {xs0 : List Int} (hy0 : RdI S0 w y0 xs0) :
    Calls Try.prog 6 #[y0] w fun e w' => e = .returned (.bool true) ∧ Below w.heap.size w w' := by
  by_cases hl0 : xs0.length ≤ 1048576
  · skip
    exact lawUnpackEntry_small  hy0 (ueC xs0) (ueR xs0) (ueR_tot xs0)  hl0 (fun _ w y h => specUnpackEntry h) (fun _ w y h => implUnpackEntry h)
  · skip
    obtain ⟨ay0, cy0, rfl⟩ := hy0.shape
    have hbig : 1048576 < xs0.length := by omega
    have hym0 : xs0.length ≤ 9223372036854775807 := by obtain ⟨_, _, _, h, _⟩ := hy0; exact h
    have BB := hide (Below.refl w.heap.size w)
    clear hy0
    go_enter Try.func6, Try.ntmps6
    go_wp2
    go_ret
    exact ⟨rfl, BB.out⟩

set_option maxRecDepth 100000 in
theorem fnExactUnpackEntry_lifted (os : Os) (started : os.Started) (H : Type) (enc : TypeId × Value → H) :
    ReturnsInHanded {} Try.checked os 6 .any (Rows.fnExactUnpackEntrySpec.pre6 enc Try.prog Try.f6 Rows.fnExactUnpackEntryRow.domain false) (Rows.fnExactUnpackEntrySpec.post enc Try.prog Try.f6 false true false false) := by
  refine returnsInHanded_of_change (C := Try.checked) Try.own started (by kernel_rfl) Try.func6
    (ChangeSpec.witness6 (enc := enc) (C := Try.checked) false ⟨#[], #[.slice none 0 0], []⟩ 8 (by kernel_rfl) (by kernel_rfl) (by kernel_rfl) (by kernel_rfl)) ?_
  intro W base args ds gs before hval0 hW hcnd _
  have hval : ∀ (j : Nat) t v, Try.f6.params[j]? = some t → args[j]? = some v → Value.okWide Try.prog W .any base t v := hval0
  have hW' := hW
  obtain ⟨p, q, hA0, hV, rfl, hfz, hnd⟩ := hW
  have hA : DataW.TrodAll enc Try.prog W 0 (fun _ => true) true Try.f6.params.toList args.toList ds p := hA0
  rw [Try.params6] at hA hval
  obtain ⟨v0, d0, rfl, rfl, h0⟩ := trodAll_one hA
  obtain ⟨rfl, rfl⟩ := trodVars_none hV
  obtain ⟨xs0, hy0⟩ := rdIarg_of (hval 0 22 v0 rfl rfl) h0
  clear hA0 hval0
  simp only [List.append_nil] at hW'
  refine (lawUnpackEntry_all  hy0).mono fun e W' ⟨he, hb⟩ => ?_
  subst he
  exact ⟨_, rfl, _, _, _, [], p, [], hW', trodAll_mk1 (shut_bool Try.underlying4 _), trodAll_mk1 (Below.trod Try.laidOut (by kernel_rfl) (of_decide_eq_true (by kernel_rfl)) h0 hb (fun x hx => by simpa using hW'.lt x (by simp [hx]))), rfl, hb.frame _, fun h => by cases h⟩

theorem fnExactUnpackEntry_holds : Rows.FnExactUnpackEntrySaid :=
  OpenClaim.holds_of_wide 6 Try.f6 rfl rfl rfl rfl rfl rfl rfl ⟨rfl, rfl, rfl, rfl, rfl⟩ rfl rfl rfl rfl rfl (by kernel_rfl) Try.func6 (by kernel_rfl)
    (of_decide_eq_true (by kernel_rfl)) (by unfold Func.isWrapper; first | (rw [if_pos (by decide +kernel)]; kernel_rfl) | (rw [if_neg (by decide +kernel)]; exact ⟨rfl, rfl⟩))
    (fun os started H enc _ => fnExactUnpackEntry_lifted os started H enc)
#print axioms fnExactUnpackEntry_holds
end Go.Proofs.Ytbgbenfabepgkaa
