/- Dor FnHardsProof in one text: what each says stands at its head below. -/
import Derived.Test.YtncgpfapepminaaDoorRows
import Derived.Test.YtncgpfapepminaaDoorG15
import Derived.Test.YtncgpfapepminaaDoorG46
import Derived.ChangeVars
import Derived.LaidLaws
import Derived.LaidHandle
import Derived.Stop.LaidErr
import Derived.Stop.LaidTwo
import Derived.Stop.JoinedAt
/- What a row that lists the two package variables gives a walk, and a world that meets it. -/
namespace Go.Proofs.YtncgpfapepminaaDoor
open Go.ChangeShapes Go.WideShapes Go.ChangeAt Go.RowKit
open Go.Extern.Stop Go.Stop Go.Extern

theorem Tryd.gN : Tryd.prog.globalNamed "loop.example/g00311/impl.errNotYet" = some 0 := by kernel_rfl
theorem Tryd.gNType : (Tryd.prog.globals[0]?).map (·.type) = some 59 := by kernel_rfl
theorem Tryd.gE : Tryd.prog.globalNamed "errors.errorType" = some 1 := by kernel_rfl
theorem Tryd.rt : (Tryd.prog.cutTypes.find? (·.1 == "internal/reflectlite.rtype")).map (·.2) = some 133 := by kernel_rfl
theorem Tryd.oneRow : ((List.range 183).filter fun t => Tryd.prog.rowNamed t [101, 114, 114, 111, 114]) = [59] := by kernel_rfl
theorem Tryd.tsize : Tryd.prog.types.size = 183 := by kernel_rfl
theorem Tryd.cellsE : Tryd.prog.cellsOf 171 = 1 := by kernel_rfl
theorem Tryd.cellsStr : Tryd.prog.cellsOf 9 = 1 := by kernel_rfl
theorem starE : "*" ++ "errors.errorString" = "*errors.errorString" := by decide
theorem Tryd.rowE (u : TypeId) (h : Tryd.prog.typeName? 3 u = some "*errors.errorString") : u = 148 :=
  typeName_ptr_named (nm := "errors.errorString") (by rw [starE]; kernel_rfl) (by kernel_rfl) (by decide) u (by rw [starE]; exact h)

def laidL : List (String × DataW Unit) := [("errors.errorType", Rows.laid_errors_errorType), ("loop.example/g00311/impl.errNotYet", Rows.laid_loop_example_g00311_impl_errNotYet)]
/-- What the condition gives a walk. -/
theorem gl_of_laid {W : World} (h : laidMetH Tryd.prog laidL W) : ∃ a, W.var? Tryd.prog "loop.example/g00311/impl.errNotYet" = some #[.iface 148 (.pointer (some a))] ∧ Gl W := by
  have h' : laidMet Tryd.prog [("loop.example/g00311/impl.errNotYet", Rows.laid_loop_example_g00311_impl_errNotYet)] W ∧ handlesMet Tryd.prog [("errors.errorType", Rows.laid_errors_errorType)] W := h
  obtain ⟨name, u, ty, e1, e2, e3, e4, e5⟩ := h'.2 _ (List.mem_singleton.2 rfl)
  have en : name = [101, 114, 114, 111, 114] := (Option.some.inj e1).symm
  subst en
  obtain rfl := Option.some.inj (Tryd.rt.symm.trans e2)
  have hm : ty ∈ (List.range 183).filter fun t => Tryd.prog.rowNamed t [101, 114, 114, 111, 114] := List.mem_filter.2 ⟨List.mem_range.2 (by rw [← Tryd.tsize]; exact e3), e4⟩
  rw [Tryd.oneRow] at hm
  obtain rfl := List.mem_singleton.1 hm
  have hh : typeHandle Tryd.prog 59 = .pointer (some ⟨2, 59, none⟩) := by kernel_rfl
  rw [hh] at e5
  obtain ⟨a, s, hv, _⟩ := laid_sentinel h'.1 Tryd.gN Tryd.gNType Tryd.underlying59 Tryd.rowE Tryd.underlying148 Tryd.underlying171 rfl rfl Tryd.underlying9 Tryd.cellsE Tryd.cellsStr
  exact ⟨a, hv, ⟨a, by simpa using World.var?_cell Tryd.gN hv 0⟩, by simpa using World.var?_cell Tryd.gE e5 0⟩
abbrev yetS : ByteArray := { data := #[110, 111, 116, 104, 105, 110, 103, 32, 105, 115, 32, 116, 104, 101, 114, 101, 32, 121, 101, 116] }
noncomputable def lowW : Nat := (World.holding Tryd.prog default ⟨#[], #[], []⟩).heap.size
noncomputable def laidWorld (os : Os) : World :=
  let w0 := World.holding Tryd.prog os ⟨#[.cells #[.string yetS] 171], #[], []⟩
  { w0 with heap := (w0.heap.modify 0 fun
      | .cells _ t frozen => .cells #[.iface 148 (.pointer (some ⟨lowW, 0, none⟩))] t frozen
      | o => o).modify 1 fun
      | .cells _ t frozen => .cells #[.iface 133 (.agg #[.pointer (some ⟨2, 59, none⟩)])] t frozen
      | o => o }
theorem laidWorld_met (os : Os) (args : Array Value) : laidMetH Tryd.prog laidL ((laidWorld os).forCall (fun _ _ => 0) ⟨#[], args, []⟩).memory :=
  laidMetH_of_parts (laidMet_of_run (ps := [.cell 0 0, .cell lowW 0]) 8 (by kernel_rfl) (by kernel_rfl) (by kernel_rfl)) (by kernel_rfl)
theorem vars_read {H : Type} (enc : TypeId × Value → H) {W : World} {x0 : Value} (h0 : W.var? Tryd.prog "loop.example/g00311/impl.errNotYet" = some #[x0]) (i0 : IsIface x0) (sp : Nat → Bool) :
    DataW.TrodVars enc Tryd.prog W sp ["loop.example/g00311/impl.errNotYet"] [tok enc x0] [.cell 0 0] :=
  ⟨0, 59, #[x0], 1, [], [], Tryd.gN, Tryd.gNType, h0, trod_held Tryd.underlying59 i0 0, rfl, rfl⟩
theorem var_below {W W' : World} {n : String} {cs : Array Value} (h : W.var? Tryd.prog n = some cs) (hb : Below W.heap.size W W') : W'.var? Tryd.prog n = some cs := by
  unfold World.var? at h ⊢
  cases hg : Tryd.prog.globalNamed n with
  | none => simp [hg] at h
  | some g =>
    simp only [hg, Option.bind_some] at h ⊢
    have hlt : g < W.heap.size := by
      rcases Nat.lt_or_ge g W.heap.size with h' | h'
      · exact h'
      · simp [Array.getElem?_eq_none h'] at h
    rw [hb.block g hlt]
    exact h
end Go.Proofs.YtncgpfapepminaaDoor
/- For every list of bytes that can be handed in (shared memory allowed), the two package variables as the program's text lays them: 'FnHards' returns true, and its argument reads as it did. Made by program (genfnd.py). -/
namespace Go.Proofs.YtncgpfapepminaaDoor
open Go.ChangeShapes Go.WideShapes Go.ChangeAt Go.RowKit
open Go.Extern.Stop Go.Stop Go.Extern

set_option maxRecDepth 4000 in
theorem fnHards_big (ao : Option Addr) (n c : Nat) (w : World) (hb : 1048576 < n) (hn : n ≤ 9223372036854775807) :
    Calls Tryd.prog 3 #[.slice ao n c] w fun e w' => e = .returned (.bool true) ∧ Below w.heap.size w w' := by
  go_enter Tryd.func3, Tryd.ntmps3
  go_wp2_with fail
  refine (lwBig ao n c w hn).mono ?_
  rintro e wx ⟨he, hwx⟩
  rw [decide_eq_true hb] at he
  rw [he, hwx]
  clear he hwx
  go_wp2
  go_ret
  exact ⟨rfl, Below.refl _ _⟩

set_option maxRecDepth 100000 in
theorem fnHards_lifted (os : Os) (started : os.Started) (H : Type) (enc : TypeId × Value → H) :
    ReturnsInHanded {} Tryd.checked os 3 .any (fun w args => (Rows.fnHardsSpec.pre enc Tryd.prog Tryd.f3 [] false w args ∧ laidMetH Tryd.prog laidL w) ∧ sizedMet enc Tryd.prog Tryd.f3 (OpenSpec.ofChange Rows.fnHardsSpec) false w args) (Rows.fnHardsSpec.post enc Tryd.prog Tryd.f3 false true false false) := by
  refine returnsInHanded_of_change_and (C := Tryd.checked) (X := fun w _ => laidMetH Tryd.prog laidL w) (fun _ _ _ hh h => h.of_heap hh) Tryd.own started (by kernel_rfl) Tryd.func3
    (ChangeSpec.witness_at (enc := enc) (C := Tryd.checked) (os := os) (X := fun w _ => laidMetH Tryd.prog laidL w) false (laidWorld os) #[.slice none 0 0] 8 rfl (by kernel_rfl) (by kernel_rfl) (by kernel_rfl) (by kernel_rfl) (by kernel_rfl) (laidWorld_met os _)) ?_
  intro W base args ds gs before hval0 hW _ _ hL _
  have hval : ∀ (j : Nat) t v, Tryd.f3.params[j]? = some t → args[j]? = some v → Value.okWide Tryd.prog W .any base t v := hval0
  have hW' := hW
  obtain ⟨p, q, hA0, hV0, rfl, hfz, hnd⟩ := hW
  have hA : DataW.TrodAll enc Tryd.prog W 0 (fun _ => true) true Tryd.f3.params.toList args.toList ds p := hA0
  have hV : DataW.TrodVars enc Tryd.prog W (fun _ => true) ["loop.example/g00311/impl.errNotYet"] gs q := hV0
  rw [Tryd.params3] at hA hval
  obtain ⟨v0, d0, rfl, rfl, h0⟩ := trodAll_one hA
  obtain ⟨a, hv0, hg⟩ := gl_of_laid hL
  obtain ⟨rfl, rfl⟩ := hV.unique (vars_read enc hv0 trivial _)
  have hread := rdB_of (hval 0 22 v0 rfl rfl) h0
  clear hA0 hV0 hval0
  have hcall : Calls Tryd.prog 3 #[v0] W fun e w' => e = .returned (.bool true) ∧ Below W.heap.size W w' := by
    rcases hread with ⟨bs, hsm, hb⟩ | ⟨ao, n, c, rfl, h1, h2⟩
    · exact lawHards hb hsm hg
    · exact fnHards_big ao n c W h1 h2
  refine hcall.mono fun e W' ⟨he, hb⟩ => ?_
  subst he
  exact ⟨_, rfl, _, _, _, [], p, [.cell 0 0], hW', trodAll_mk1 (shut_bool Tryd.underlying4 _), trodAll_mk1 (Below.trod Tryd.laidOut (by kernel_rfl) (of_decide_eq_true (by kernel_rfl)) h0 hb (fun x hx => by simpa using hW'.lt x (by simp [hx]))), vars_read enc (var_below hv0 hb) trivial _, hb.frame _, fun h => by cases h⟩

theorem fnHards_row : Rows.FnHardsSaid :=
  OpenClaim.holds_of_wide 3 Tryd.f3 rfl rfl rfl rfl rfl rfl rfl ⟨rfl, rfl, rfl, rfl, rfl⟩ rfl rfl rfl rfl rfl (by kernel_rfl) Tryd.func3 (by kernel_rfl)
    (of_decide_eq_true (by kernel_rfl)) (by unfold Func.isWrapper; first | (rw [if_pos (by decide +kernel)]; kernel_rfl) | (rw [if_neg (by decide +kernel)]; exact ⟨rfl, rfl⟩))
    (fun os started H enc _ => fnHards_lifted os started H enc)
#print axioms fnHards_row
end Go.Proofs.YtncgpfapepminaaDoor
