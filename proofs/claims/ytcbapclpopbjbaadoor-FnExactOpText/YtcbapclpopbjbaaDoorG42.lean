/- Tabs OpTextProof in one text: what each says stands at its head below. -/
import Derived.Test.YtcbapclpopbjbaaDoorRows
import Derived.Test.YtcbapclpopbjbaaDoorG39
import Derived.LaidLaws
import Derived.LaidHandle
import Derived.Lay
import Derived.Stop.LaidErr
import Derived.Deep.DeepHandedRow
import Derived.Lib.LaidTab
import Derived.Test.YtcbapclpopbjbaaDoorG41
import Derived.Test.YtcbapclpopbjbaaDoorG37
/- What a row that lists the three tables gives a walk, and a world that meets it. -/
namespace Go.Proofs.YtcbapclpopbjbaaDoor
open Go.RowKit

def laidTx : List (String × DataW Unit) := [("math/bits.deBruijn32tab", Rows.laid_math_bits_deBruijn32tab), ("math/bits.deBruijn64tab", Rows.laid_math_bits_deBruijn64tab), ("internal/strconv.uint64pow10", Rows.laid_internal_strconv_uint64pow10)]
theorem laidTx_met (os : Os) (args : Array Value) : laidMetH Tryd.prog laidTx ((World.laidAll Tryd.prog os laidTx).forCall (fun _ _ => 0) ⟨#[], args, []⟩).memory :=
  laidMetH_of_parts (laidMet_laidAll args (by kernel_rfl) (by kernel_rfl)) (by kernel_rfl)
theorem tabP_of_laid {W : World} (h : laidMetH Tryd.prog laidTx W) : TabP W := by
  have h' : laidMet Tryd.prog laidTx W := h
  obtain ⟨ps, ⟨_, _, _, _, _, _, _, _, _, _, ⟨_, _, _, _, _, _, _, _, _, _, ⟨g', t', cs, fuel, p, q, hg', ht', hvar, hd, _, _⟩, _⟩, _⟩, _⟩ := h'
  have hty : ((Tryd.prog.globalNamed "internal/strconv.uint64pow10").bind fun g => (Tryd.prog.globals[g]?).map (·.type)) = some 138 := by kernel_rfl
  rw [hg'] at hty
  obtain rfl := Option.some.inj (hty.symm.trans ht')
  unfold TabP Lib.TabIs
  have hd' : DataW.trod (fun _ => ()) Tryd.prog W 0 (fun _ => true) false fuel 138 cs.toList = some (Lib.tabData .u64 Lib.pow10Tab, p) := hd
  rw [hvar, ← Lib.cells_of_tab Tryd.underlying138 Tryd.underlying125 (by kernel_rfl) (by kernel_rfl) hd']
end Go.Proofs.YtcbapclpopbjbaaDoor
/- For every operation that can be handed in (shared memory allowed), the listed tables as the program's text lays them: 'FnExactOpText' returns true, and its argument reads as it did. -/
namespace Go.Proofs.YtcbapclpopbjbaaDoor
open Go.ChangeShapes Go.WideShapes Go.ChangeAt Go.RowKit

set_option maxRecDepth 100000 in
theorem fnExactOpText_lifted (os : Os) (started : os.Started) (H : Type) (enc : TypeId × Value → H) :
    ReturnsInHanded {} Tryd.checked os 4 .any ((OpenSpec.ofChange Rows.fnExactOpTextSpec).preRow enc Tryd.prog Tryd.f4 [] false laidTx) (Rows.fnExactOpTextSpec.post enc Tryd.prog Tryd.f4 false true false false) := by
  refine returnsInHanded_of_row (F := fun _ _ _ => 0) (s := OpenSpec.ofChange Rows.fnExactOpTextSpec) (C := Tryd.checked) Tryd.own started (by kernel_rfl) Tryd.func4
    (ChangeSpec.witness_at (enc := enc) (C := Tryd.checked) (os := os) (X := fun w _ => laidMetH Tryd.prog laidTx w) false (World.laidAll Tryd.prog os laidTx) #[.agg #[.int .i64 0, .int .i64 0, .int .i64 0, .int .i64 0, .slice none 0 0, .slice none 0 0]] 8 (World.laidAll_os _ _ _) (by kernel_rfl) (by kernel_rfl) (by kernel_rfl) (by kernel_rfl) (by kernel_rfl) (laidTx_met os _)) ?_
  intro W base args ds gs before hval0 hW _ _ _ hL _ _
  have hval : ∀ (j : Nat) t v, Tryd.f4.params[j]? = some t → args[j]? = some v → Value.okWide Tryd.prog W .any base t v := hval0
  have hW' := hW
  obtain ⟨p, q, hA0, hV, rfl, hfz, hnd⟩ := hW
  have hA : DataW.TrodAll enc Tryd.prog W 0 (fun _ => true) true Tryd.f4.params.toList args.toList ds p := hA0
  rw [Tryd.params4] at hA hval
  obtain ⟨v0, d0, rfl, rfl, h0⟩ := trodAll_one hA
  obtain ⟨rfl, rfl⟩ := trodVars_none hV
  obtain ⟨r, y, z, rfl, hy, hz⟩ := rdOp_of (hval 0 32 v0 rfl rfl) h0
  clear hA0 hval0
  have ht := tabP_of_laid hL
  simp only [List.append_nil] at hW'
  refine (lawOpText r (otF r) (otV r) hy hz (fun _ _ _ _ _ h k => specOpText r h k) (fun _ _ _ _ _ hb h k => implOpText r h k (ht.later hb))).mono fun e W' ⟨he, hb⟩ => ?_
  subst he
  exact ⟨_, rfl, _, _, _, [], p, [], hW', trodAll_mk1 (shut_bool Tryd.underlying4 _), trodAll_mk1 (Below.trod Tryd.laidOut (by kernel_rfl) (of_decide_eq_true (by kernel_rfl)) h0 hb (fun x hx => by simpa using hW'.lt x (by simp [hx]))), rfl, hb.frame _, fun h => by cases h⟩

theorem fnExactOpText_row : Rows.FnExactOpTextSaid :=
  OpenClaim.holds_of_wide 4 Tryd.f4 rfl rfl rfl rfl rfl rfl rfl ⟨rfl, rfl, rfl, rfl, rfl⟩ rfl rfl rfl rfl rfl (by kernel_rfl) Tryd.func4 (by kernel_rfl)
    (of_decide_eq_true (by kernel_rfl)) (by unfold Func.isWrapper; first | (rw [if_pos (by decide +kernel)]; kernel_rfl) | (rw [if_neg (by decide +kernel)]; exact ⟨rfl, rfl⟩))
    (fun os started H enc _ => fnExactOpText_lifted os started H enc)
#print axioms fnExactOpText_row
end Go.Proofs.YtcbapclpopbjbaaDoor
