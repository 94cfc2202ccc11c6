/- Er in one text: what each says stands at its head below. -/
import Derived.Test.YthemdmefdelmoaaDoorG05
import Derived.LaidEql
import Derived.Stop.Asserts
import Derived.RowKitTokens
/- Chapter 10: errors.As and errors.Is at what the program hands them: no error, what is over, what is not there yet. -/
namespace Go.Proofs.YthemdmefdelmoaaDoor
open Go.RowKit Go.Extern.Stop Go.Stop Go.Extern

/-- What the two package variables hold: the error of what is not there yet, the type of errors. -/
def Gl (w : World) : Prop := (∃ a, w.cell? ⟨0, 0, none⟩ = some (.iface 134 (.pointer (some a)))) ∧ w.cell? ⟨1, 0, none⟩ = some (.iface 119 (.agg #[.pointer (some ⟨2, 65, none⟩)]))
theorem Gl.later {w w' : World} (h : Gl w) (hb : Below w.heap.size w w') : Gl w' := by
  obtain ⟨⟨a, h1⟩, h2⟩ := h
  exact ⟨⟨a, cell_later hb h1⟩, cell_later hb h2⟩

theorem Tryd.eValueOfP (t : Addr) (w : World) : (ReflectliteValue.unpack (.iface 87 (.pointer (some t)))).run Tryd.prog w
    = .ok (.agg #[.pointer (some ⟨2, 87, none⟩), .pointer (some ⟨w.heap.size, 0, none⟩), .int .u64 150]) (w.alloc (.cells #[.pointer (some t)] 87)) := by kernel_rfl
theorem Tryd.eTypeP (a : Addr) (w : World) : (ReflectliteValue.methodAny (ReflectliteValue.valueError "reflectlite.Value.Type" 0) (fun t _ _ _ => ReflectliteType.toType t) #[.agg #[.pointer (some ⟨2, 87, none⟩), .pointer (some a), .int .u64 150]]).run Tryd.prog w
    = .ok (.iface 119 (.agg #[.pointer (some ⟨2, 87, none⟩)])) w := by kernel_rfl
theorem Tryd.eMethodKind (h : Value) (w : World) : (Go.method 269 119 (.agg #[h]) "Kind").run Tryd.prog w = .ok (104, h) w := by kernel_rfl
theorem Tryd.eKindP (w : World) : ((ReflectliteType.abiMethod fun t => (fun a : Nat => Value.int IntKind.u8 (a : Int)) <$> Rtype.kind t) #[.pointer (some ⟨2, 87, none⟩)]).run Tryd.prog w = .ok (.int .u8 22) w := by kernel_rfl
theorem Tryd.eKindS (w : World) : ((ReflectliteType.abiMethod fun t => (fun a : Nat => Value.int IntKind.u8 (a : Int)) <$> Rtype.kind t) #[.pointer (some ⟨2, 85, none⟩)]).run Tryd.prog w = .ok (.int .u8 25) w := by kernel_rfl
theorem rlmE (z : Sem Value) (f : TypeId → Addr → Nat → Nat → Sem Value) (v : Value) :
    ReflectliteValue.method z f #[v] = (do match ← ReflectliteValue.parts v with | none => z | some (t, a, fl) => f t a fl (fl % 32)) := rfl
theorem Tryd.ePartsP (a : Addr) (w : World) : (ReflectliteValue.parts (.agg #[.pointer (some ⟨2, 87, none⟩), .pointer (some a), .int .u64 150])).run Tryd.prog w = .ok (some (87, a, 150)) w := by kernel_rfl
theorem Tryd.eIsNilP (a p : Addr) (W : World) (ha : W.cell? a = some (.pointer (some p))) :
    (ReflectliteValue.method (ReflectliteValue.valueError "reflectlite.Value.IsNil" 0) ReflectliteValue.isNil #[.agg #[.pointer (some ⟨2, 87, none⟩), .pointer (some a), .int .u64 150]]).run Tryd.prog W = .ok (.bool false) W := by
  rw [rlmE]
  simp only [Sem.run_bind, Tryd.ePartsP, Result.andThen]
  simp [ReflectliteValue.isNil, loadVar, isAgg, underlying, Tryd.underlying87, ha, Result.andThen]
theorem Tryd.eMethodElem (h : Value) (w : World) : (Go.method 269 119 (.agg #[h]) "Elem").run Tryd.prog w = .ok (116, .agg #[h]) w := by kernel_rfl
theorem Tryd.eMethodImplements (h : Value) (w : World) : (Go.method 269 119 (.agg #[h]) "Implements").run Tryd.prog w = .ok (117, .agg #[h]) w := by kernel_rfl
theorem Tryd.eMethodAssignableTo (h : Value) (w : World) : (Go.method 269 119 (.agg #[h]) "AssignableTo").run Tryd.prog w = .ok (114, .agg #[h]) w := by kernel_rfl
theorem Tryd.eElemP (w : World) : (ReflectliteType.method ReflectliteType.elem #[.agg #[.pointer (some ⟨2, 87, none⟩)]]).run Tryd.prog w = .ok (.iface 119 (.agg #[.pointer (some ⟨2, 85, none⟩)])) w := by kernel_rfl
theorem Tryd.eImplementsS (w : World) : (ReflectliteType.relation "Implements" ReflectliteType.implements_ #[.agg #[.pointer (some ⟨2, 85, none⟩)], .iface 119 (.agg #[.pointer (some ⟨2, 65, none⟩)])]).run Tryd.prog w = .ok (.bool true) w := by kernel_rfl
theorem Tryd.eTypeOfS (v : Value) (w : World) : (ReflectliteType.typeOf #[.iface 85 v]).run Tryd.prog w = .ok (.iface 119 (.agg #[.pointer (some ⟨2, 85, none⟩)])) w := by kernel_rfl
theorem Tryd.eTypeOfY (v : Value) (w : World) : (ReflectliteType.typeOf #[.iface 134 v]).run Tryd.prog w = .ok (.iface 119 (.agg #[.pointer (some ⟨2, 134, none⟩)])) w := by kernel_rfl
theorem Tryd.eAssignS (w : World) : (ReflectliteType.relation "AssignableTo" ReflectliteType.assignableTo #[.agg #[.pointer (some ⟨2, 85, none⟩)], .iface 119 (.agg #[.pointer (some ⟨2, 85, none⟩)])]).run Tryd.prog w = .ok (.bool true) w := by kernel_rfl
theorem Tryd.eAssignY (w : World) : (ReflectliteType.relation "AssignableTo" ReflectliteType.assignableTo #[.agg #[.pointer (some ⟨2, 134, none⟩)], .iface 119 (.agg #[.pointer (some ⟨2, 85, none⟩)])]).run Tryd.prog w = .ok (.bool false) w := by kernel_rfl
theorem Tryd.eValueOfS (x : Int) (w : World) : (ReflectliteValue.unpack (.iface 85 (.agg #[.int .i64 x]))).run Tryd.prog w
    = .ok (.agg #[.pointer (some ⟨2, 85, none⟩), .pointer (some ⟨w.heap.size, 0, none⟩), .int .u64 153]) (w.alloc (.cells #[.int .i64 x] 85)) := by kernel_rfl
theorem Tryd.eElemOfP (w : World) : (Rtype.elem? 87).run Tryd.prog w = .ok (some 85) w := by kernel_rfl
theorem Tryd.eMkS (p : Addr) (w : World) : (ReflectliteValue.mk 85 p ReflectliteValue.flagAddr).run Tryd.prog w = .ok (.agg #[.pointer (some ⟨2, 85, none⟩), .pointer (some p), .int .u64 409]) w := by kernel_rfl
theorem Tryd.eElemVP (a p : Addr) (W : World) (ha : W.cell? a = some (.pointer (some p))) :
    (ReflectliteValue.method (ReflectliteValue.valueError "reflectlite.Value.Elem" 0) ReflectliteValue.elem #[.agg #[.pointer (some ⟨2, 87, none⟩), .pointer (some a), .int .u64 150]]).run Tryd.prog W
      = .ok (.agg #[.pointer (some ⟨2, 85, none⟩), .pointer (some p), .int .u64 409]) W := by
  rw [rlmE]
  simp only [Sem.run_bind, Tryd.ePartsP, Result.andThen]
  simp [ReflectliteValue.elem, loadVar, isAgg, underlying, Tryd.underlying87, ha, Result.andThen, Tryd.eElemOfP, Tryd.eMkS]
theorem Tryd.ePartsSa (a : Addr) (w : World) : (ReflectliteValue.parts (.agg #[.pointer (some ⟨2, 85, none⟩), .pointer (some a), .int .u64 409])).run Tryd.prog w = .ok (some (85, a, 409)) w := by kernel_rfl
theorem Tryd.ePartsS (a : Addr) (w : World) : (ReflectliteValue.parts (.agg #[.pointer (some ⟨2, 85, none⟩), .pointer (some a), .int .u64 153])).run Tryd.prog w = .ok (some (85, a, 153)) w := by kernel_rfl
theorem Tryd.eDirectS (w : World) : (Rtype.directlyAssignable 85 85).run Tryd.prog w = .ok true w := by kernel_rfl
theorem Tryd.eSizeS (w : World) : (sizeOf 85).run Tryd.prog w = .ok 1 w := by kernel_rfl
set_option linter.unusedSimpArgs false in
theorem Tryd.eLoadS (b : Addr) (x : Int) (W : World) (hb : W.cell? b = some (.int .i64 x)) : (loadVar 85 b).run Tryd.prog W = .ok (.agg #[.int .i64 x]) W := by
  have hb' : W.cell? (b.add 0) = some (.int .i64 x) := by simpa [Addr.add] using hb
  simp [loadVar, isAgg, underlying, Tryd.underlying85, loadCells, loadCellsFrom, hb, hb', Result.andThen, Addr.add, Tryd.eSizeS]
set_option linter.unusedSimpArgs false in
theorem Tryd.eStoreS (ta : Addr) (x : Int) (old : Value) (W : World) (ht : W.cell? ta = some old) (hf : W.frozen? ta = false) : (storeVar 85 ta (.agg #[.int .i64 x])).run Tryd.prog W = .ok () (W.setCell ta (.int .i64 x)) := by
  have ht' : W.cell? (ta.add 0) = some old := by simpa [Addr.add] using ht
  simp [storeVar, Value.cells, storeCells, Addr.add, Tryd.eSizeS, isAgg, underlying, Tryd.underlying85, Result.andThen]
  first | (rw [run_store Tryd.prog W ta _ _ (by rfl)]; simp [ht, hf]) | skip
set_option linter.unusedSimpArgs false in
theorem Tryd.eSetS (ta b : Addr) (x : Int) (old : Value) (W : World) (hb : W.cell? b = some (.int .i64 x)) (ht : W.cell? ta = some old) (hf : W.frozen? ta = false) :
    (ReflectliteValue.set #[.agg #[.pointer (some ⟨2, 85, none⟩), .pointer (some ta), .int .u64 409], .agg #[.pointer (some ⟨2, 85, none⟩), .pointer (some b), .int .u64 153]]).run Tryd.prog W
      = .ok (.tuple #[]) (W.setCell ta (.int .i64 x)) := by
  show Sem.run Tryd.prog (ReflectliteValue.parts (.agg #[.pointer (some ⟨2, 85, none⟩), .pointer (some ta), .int .u64 409]) >>= _) W = _
  rw [Sem.run_bind, Tryd.ePartsSa]
  simp only [Result.andThen]
  show Sem.run Tryd.prog (ReflectliteValue.parts (.agg #[.pointer (some ⟨2, 85, none⟩), .pointer (some b), .int .u64 153]) >>= _) W = _
  rw [Sem.run_bind, Tryd.ePartsS]
  simp only [Result.andThen]
  simp [ReflectliteValue.flagAddr, Tryd.eLoadS b x W hb, Result.andThen, Tryd.eDirectS, Tryd.eStoreS ta x old W ht hf]
end Go.Proofs.YthemdmefdelmoaaDoor
