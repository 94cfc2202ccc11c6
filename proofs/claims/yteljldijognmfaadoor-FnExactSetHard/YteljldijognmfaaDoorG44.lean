/- Dor in one text: what each says stands at its head below. -/
import Derived.Test.YteljldijognmfaaDoorRows
import Derived.Test.YteljldijognmfaaDoorG34
import Derived.Test.YteljldijognmfaaDoorG43
import Derived.ChangeVars
import Derived.LaidLaws
import Derived.LaidHandle
import Derived.Stop.LaidErr
import Derived.Stop.LaidTwo
import Derived.Stop.JoinedAt
/- What a row that lists the two package variables gives a walk, and a world that meets it. -/
namespace Go.Proofs.YteljldijognmfaaDoor
open Go.ChangeShapes Go.WideShapes Go.ChangeAt Go.RowKit
open Go.Extern.Stop Go.Stop Go.Extern

theorem Tryd.gN : Tryd.prog.globalNamed "loop.example/g00311/impl.errNotYet" = some 0 := by kernel_rfl
theorem Tryd.gNType : (Tryd.prog.globals[0]?).map (·.type) = some 66 := by kernel_rfl
theorem Tryd.gE : Tryd.prog.globalNamed "errors.errorType" = some 1 := by kernel_rfl
theorem Tryd.rt : (Tryd.prog.cutTypes.find? (·.1 == "internal/reflectlite.rtype")).map (·.2) = some 128 := by kernel_rfl
theorem Tryd.oneRow : ((List.range 178).filter fun t => Tryd.prog.rowNamed t [101, 114, 114, 111, 114]) = [66] := by kernel_rfl
theorem Tryd.tsize : Tryd.prog.types.size = 178 := by kernel_rfl
theorem Tryd.cellsE : Tryd.prog.cellsOf 166 = 1 := by kernel_rfl
theorem Tryd.cellsStr : Tryd.prog.cellsOf 9 = 1 := by kernel_rfl
theorem starE : "*" ++ "errors.errorString" = "*errors.errorString" := by decide
theorem Tryd.rowE (u : TypeId) (h : Tryd.prog.typeName? 3 u = some "*errors.errorString") : u = 143 :=
  typeName_ptr_named (nm := "errors.errorString") (by rw [starE]; kernel_rfl) (by kernel_rfl) (by decide) u (by rw [starE]; exact h)

def laidL : List (String × DataW Unit) := [("errors.errorType", Rows.laid_errors_errorType), ("loop.example/g00311/impl.errNotYet", Rows.laid_loop_example_g00311_impl_errNotYet)]
/-- What the condition gives a walk. -/
theorem gl_of_laid {W : World} (h : laidMetH Tryd.prog laidL W) : ∃ a, W.var? Tryd.prog "loop.example/g00311/impl.errNotYet" = some #[.iface 143 (.pointer (some a))] ∧ Gl W := by
  have h' : laidMet Tryd.prog [("loop.example/g00311/impl.errNotYet", Rows.laid_loop_example_g00311_impl_errNotYet)] W ∧ handlesMet Tryd.prog [("errors.errorType", Rows.laid_errors_errorType)] W := h
  obtain ⟨name, u, ty, e1, e2, e3, e4, e5⟩ := h'.2 _ (List.mem_singleton.2 rfl)
  have en : name = [101, 114, 114, 111, 114] := (Option.some.inj e1).symm
  subst en
  obtain rfl := Option.some.inj (Tryd.rt.symm.trans e2)
  have hm : ty ∈ (List.range 178).filter fun t => Tryd.prog.rowNamed t [101, 114, 114, 111, 114] := List.mem_filter.2 ⟨List.mem_range.2 (by rw [← Tryd.tsize]; exact e3), e4⟩
  rw [Tryd.oneRow] at hm
  obtain rfl := List.mem_singleton.1 hm
  have hh : typeHandle Tryd.prog 66 = .pointer (some ⟨2, 66, none⟩) := by kernel_rfl
  rw [hh] at e5
  obtain ⟨a, s, hv, _⟩ := laid_sentinel h'.1 Tryd.gN Tryd.gNType Tryd.underlying66 Tryd.rowE Tryd.underlying143 Tryd.underlying166 rfl rfl Tryd.underlying9 Tryd.cellsE Tryd.cellsStr
  exact ⟨a, hv, ⟨a, by simpa using World.var?_cell Tryd.gN hv 0⟩, by simpa using World.var?_cell Tryd.gE e5 0⟩
abbrev yetS : ByteArray := { data := #[110, 111, 116, 104, 105, 110, 103, 32, 105, 115, 32, 116, 104, 101, 114, 101, 32, 121, 101, 116] }
noncomputable def lowW : Nat := (World.holding Tryd.prog default ⟨#[], #[], []⟩).heap.size
noncomputable def laidWorld (os : Os) : World :=
  let w0 := World.holding Tryd.prog os ⟨#[.cells #[.string yetS] 166], #[], []⟩
  { w0 with heap := (w0.heap.modify 0 fun
      | .cells _ t frozen => .cells #[.iface 143 (.pointer (some ⟨lowW, 0, none⟩))] t frozen
      | o => o).modify 1 fun
      | .cells _ t frozen => .cells #[.iface 128 (.agg #[.pointer (some ⟨2, 66, none⟩)])] t frozen
      | o => o }
theorem laidWorld_met (os : Os) (args : Array Value) : laidMetH Tryd.prog laidL ((laidWorld os).forCall (fun _ _ => 0) ⟨#[], args, []⟩).memory :=
  laidMetH_of_parts (laidMet_of_run (ps := [.cell 0 0, .cell lowW 0]) 8 (by kernel_rfl) (by kernel_rfl) (by kernel_rfl)) (by kernel_rfl)
theorem vars_read {H : Type} (enc : TypeId × Value → H) {W : World} {x0 : Value} (h0 : W.var? Tryd.prog "loop.example/g00311/impl.errNotYet" = some #[x0]) (i0 : IsIface x0) (sp : Nat → Bool) :
    DataW.TrodVars enc Tryd.prog W sp ["loop.example/g00311/impl.errNotYet"] [tok enc x0] [.cell 0 0] :=
  ⟨0, 66, #[x0], 1, [], [], Tryd.gN, Tryd.gNType, h0, trod_held Tryd.underlying66 i0 0, rfl, rfl⟩
theorem var_below {W W' : World} {n : String} {cs : Array Value} (h : W.var? Tryd.prog n = some cs) (hb : Below W.heap.size W W') : W'.var? Tryd.prog n = some cs := by
  unfold World.var? at h ⊢
  cases hg : Tryd.prog.globalNamed n with
  | none => simp [hg] at h
  | some g =>
    simp only [hg, Option.bind_some] at h ⊢
    have hlt : g < W.heap.size := by
      rcases Nat.lt_or_ge g W.heap.size with h' | h'
      · exact h'
      · simp [Array.getElem?_eq_none h'] at h
    rw [hb.block g hlt]
    exact h
end Go.Proofs.YteljldijognmfaaDoor
