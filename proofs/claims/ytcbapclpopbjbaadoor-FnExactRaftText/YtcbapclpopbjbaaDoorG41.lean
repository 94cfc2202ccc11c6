/- RaftTextProof in one text: what each says stands at its head below. -/
import Derived.Test.YtcbapclpopbjbaaDoorRows
import Derived.Test.YtcbapclpopbjbaaDoorG40
import Derived.Test.YtcbapclpopbjbaaDoorG35
/- For every store that can be handed in (shared memory allowed), the listed tables as the program's text lays them: 'FnExactRaftText' returns true, and its argument reads as it did. -/
namespace Go.Proofs.YtcbapclpopbjbaaDoor
open Go.ChangeShapes Go.WideShapes Go.ChangeAt Go.RowKit

set_option maxRecDepth 100000 in
theorem fnExactRaftText_lifted (os : Os) (started : os.Started) (H : Type) (enc : TypeId × Value → H) :
    ReturnsInHanded {} Tryd.checked os 5 .any ((OpenSpec.ofChange Rows.fnExactRaftTextSpec).preRow enc Tryd.prog Tryd.f5 [] false laidTx) (Rows.fnExactRaftTextSpec.post enc Tryd.prog Tryd.f5 false true false false) := by
  refine returnsInHanded_of_row (F := fun _ _ _ => 0) (s := OpenSpec.ofChange Rows.fnExactRaftTextSpec) (C := Tryd.checked) Tryd.own started (by kernel_rfl) Tryd.func5
    (ChangeSpec.witness_at (enc := enc) (C := Tryd.checked) (os := os) (X := fun w _ => laidMetH Tryd.prog laidTx w) false (World.laidAll Tryd.prog os laidTx) #[.agg #[.int .i64 0, .int .i64 0, .int .i64 0, .int .i64 0, .slice none 0 0, .slice none 0 0]] 8 (World.laidAll_os _ _ _) (by kernel_rfl) (by kernel_rfl) (by kernel_rfl) (by kernel_rfl) (by kernel_rfl) (laidTx_met os _)) ?_
  intro W base args ds gs before hval0 hW _ _ _ hL _ _
  have hval : ∀ (j : Nat) t v, Tryd.f5.params[j]? = some t → args[j]? = some v → Value.okWide Tryd.prog W .any base t v := hval0
  have hW' := hW
  obtain ⟨p, q, hA0, hV, rfl, hfz, hnd⟩ := hW
  have hA : DataW.TrodAll enc Tryd.prog W 0 (fun _ => true) true Tryd.f5.params.toList args.toList ds p := hA0
  rw [Tryd.params5] at hA hval
  obtain ⟨v0, d0, rfl, rfl, h0⟩ := trodAll_one hA
  obtain ⟨rfl, rfl⟩ := trodVars_none hV
  obtain ⟨r, y, z, rfl, hy, hz⟩ := rdRaft_of (hval 0 45 v0 rfl rfl) h0
  clear hA0 hval0
  have ht := tabP_of_laid hL
  simp only [List.append_nil] at hW'
  refine (lawRaftText r (rfF r) (txV r) hy hz (fun _ _ _ _ _ h k => specRaftText r h k) (fun _ _ _ _ _ hb h k => implRaftText r h k (ht.later hb))).mono fun e W' ⟨he, hb⟩ => ?_
  subst he
  exact ⟨_, rfl, _, _, _, [], p, [], hW', trodAll_mk1 (shut_bool Tryd.underlying4 _), trodAll_mk1 (Below.trod Tryd.laidOut (by kernel_rfl) (of_decide_eq_true (by kernel_rfl)) h0 hb (fun x hx => by simpa using hW'.lt x (by simp [hx]))), rfl, hb.frame _, fun h => by cases h⟩

theorem fnExactRaftText_row : Rows.FnExactRaftTextSaid :=
  OpenClaim.holds_of_wide 5 Tryd.f5 rfl rfl rfl rfl rfl rfl rfl ⟨rfl, rfl, rfl, rfl, rfl⟩ rfl rfl rfl rfl rfl (by kernel_rfl) Tryd.func5 (by kernel_rfl)
    (of_decide_eq_true (by kernel_rfl)) (by unfold Func.isWrapper; first | (rw [if_pos (by decide +kernel)]; kernel_rfl) | (rw [if_neg (by decide +kernel)]; exact ⟨rfl, rfl⟩))
    (fun os started H enc _ => fnExactRaftText_lifted os started H enc)
#print axioms fnExactRaftText_row
end Go.Proofs.YtcbapclpopbjbaaDoor
