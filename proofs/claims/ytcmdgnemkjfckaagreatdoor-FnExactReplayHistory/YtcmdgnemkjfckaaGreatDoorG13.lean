/- Er Er2 Built2 Ret Rs in one text: what each says stands at its head below. -/
import Derived.Test.YtcmdgnemkjfckaaGreatDoorG02
import Derived.LaidEql
import Derived.Stop.Asserts
import Derived.RowKitTokens
import Derived.Test.YtcmdgnemkjfckaaGreatDoorG04
import Derived.Deep.RegionLaw
import Derived.Deep.AppendLies
/- Chapter 10: errors.As and errors.Is at what the program hands them: no error, what is over, what is not there yet. -/
namespace Go.Proofs.YtcmdgnemkjfckaaGreatDoor
open Go.RowKit Go.Extern.Stop Go.Stop Go.Extern

/-- What the two package variables hold: the error of what is not there yet, the type of errors. -/
def Gl (w : World) : Prop := (∃ a, w.cell? ⟨0, 0, none⟩ = some (.iface 192 (.pointer (some a)))) ∧ w.cell? ⟨1, 0, none⟩ = some (.iface 177 (.agg #[.pointer (some ⟨2, 134, none⟩)]))
theorem Gl.later {w w' : World} (h : Gl w) (hb : Below w.heap.size w w') : Gl w' := by
  obtain ⟨⟨a, h1⟩, h2⟩ := h
  exact ⟨⟨a, cell_later hb h1⟩, cell_later hb h2⟩

theorem Tryz.eValueOfP (t : Addr) (w : World) : (ReflectliteValue.unpack (.iface 154 (.pointer (some t)))).run Tryz.prog w
    = .ok (.agg #[.pointer (some ⟨2, 154, none⟩), .pointer (some ⟨w.heap.size, 0, none⟩), .int .u64 150]) (w.alloc (.cells #[.pointer (some t)] 154)) := by kernel_rfl
theorem Tryz.eTypeP (a : Addr) (w : World) : (ReflectliteValue.methodAny (ReflectliteValue.valueError "reflectlite.Value.Type" 0) (fun t _ _ _ => ReflectliteType.toType t) #[.agg #[.pointer (some ⟨2, 154, none⟩), .pointer (some a), .int .u64 150]]).run Tryz.prog w
    = .ok (.iface 177 (.agg #[.pointer (some ⟨2, 154, none⟩)])) w := by kernel_rfl
theorem Tryz.eMethodKind (h : Value) (w : World) : (Go.method 327 177 (.agg #[h]) "Kind").run Tryz.prog w = .ok (143, h) w := by kernel_rfl
theorem Tryz.eKindP (w : World) : ((ReflectliteType.abiMethod fun t => (fun a : Nat => Value.int IntKind.u8 (a : Int)) <$> Rtype.kind t) #[.pointer (some ⟨2, 154, none⟩)]).run Tryz.prog w = .ok (.int .u8 22) w := by kernel_rfl
theorem Tryz.eKindS (w : World) : ((ReflectliteType.abiMethod fun t => (fun a : Nat => Value.int IntKind.u8 (a : Int)) <$> Rtype.kind t) #[.pointer (some ⟨2, 152, none⟩)]).run Tryz.prog w = .ok (.int .u8 25) w := by kernel_rfl
theorem rlmE (z : Sem Value) (f : TypeId → Addr → Nat → Nat → Sem Value) (v : Value) :
    ReflectliteValue.method z f #[v] = (do match ← ReflectliteValue.parts v with | none => z | some (t, a, fl) => f t a fl (fl % 32)) := rfl
theorem Tryz.ePartsP (a : Addr) (w : World) : (ReflectliteValue.parts (.agg #[.pointer (some ⟨2, 154, none⟩), .pointer (some a), .int .u64 150])).run Tryz.prog w = .ok (some (154, a, 150)) w := by kernel_rfl
theorem Tryz.eIsNilP (a p : Addr) (W : World) (ha : W.cell? a = some (.pointer (some p))) :
    (ReflectliteValue.method (ReflectliteValue.valueError "reflectlite.Value.IsNil" 0) ReflectliteValue.isNil #[.agg #[.pointer (some ⟨2, 154, none⟩), .pointer (some a), .int .u64 150]]).run Tryz.prog W = .ok (.bool false) W := by
  rw [rlmE]
  simp only [Sem.run_bind, Tryz.ePartsP, Result.andThen]
  simp [ReflectliteValue.isNil, loadVar, isAgg, underlying, Tryz.underlying154, ha, Result.andThen]
theorem Tryz.eMethodElem (h : Value) (w : World) : (Go.method 327 177 (.agg #[h]) "Elem").run Tryz.prog w = .ok (156, .agg #[h]) w := by kernel_rfl
theorem Tryz.eMethodImplements (h : Value) (w : World) : (Go.method 327 177 (.agg #[h]) "Implements").run Tryz.prog w = .ok (157, .agg #[h]) w := by kernel_rfl
theorem Tryz.eMethodAssignableTo (h : Value) (w : World) : (Go.method 327 177 (.agg #[h]) "AssignableTo").run Tryz.prog w = .ok (154, .agg #[h]) w := by kernel_rfl
theorem Tryz.eElemP (w : World) : (ReflectliteType.method ReflectliteType.elem #[.agg #[.pointer (some ⟨2, 154, none⟩)]]).run Tryz.prog w = .ok (.iface 177 (.agg #[.pointer (some ⟨2, 152, none⟩)])) w := by kernel_rfl
theorem Tryz.eImplementsS (w : World) : (ReflectliteType.relation "Implements" ReflectliteType.implements_ #[.agg #[.pointer (some ⟨2, 152, none⟩)], .iface 177 (.agg #[.pointer (some ⟨2, 134, none⟩)])]).run Tryz.prog w = .ok (.bool true) w := by kernel_rfl
theorem Tryz.eTypeOfS (v : Value) (w : World) : (ReflectliteType.typeOf #[.iface 152 v]).run Tryz.prog w = .ok (.iface 177 (.agg #[.pointer (some ⟨2, 152, none⟩)])) w := by kernel_rfl
theorem Tryz.eTypeOfY (v : Value) (w : World) : (ReflectliteType.typeOf #[.iface 192 v]).run Tryz.prog w = .ok (.iface 177 (.agg #[.pointer (some ⟨2, 192, none⟩)])) w := by kernel_rfl
theorem Tryz.eAssignS (w : World) : (ReflectliteType.relation "AssignableTo" ReflectliteType.assignableTo #[.agg #[.pointer (some ⟨2, 152, none⟩)], .iface 177 (.agg #[.pointer (some ⟨2, 152, none⟩)])]).run Tryz.prog w = .ok (.bool true) w := by kernel_rfl
theorem Tryz.eAssignY (w : World) : (ReflectliteType.relation "AssignableTo" ReflectliteType.assignableTo #[.agg #[.pointer (some ⟨2, 192, none⟩)], .iface 177 (.agg #[.pointer (some ⟨2, 152, none⟩)])]).run Tryz.prog w = .ok (.bool false) w := by kernel_rfl
theorem Tryz.eValueOfS (x : Int) (w : World) : (ReflectliteValue.unpack (.iface 152 (.agg #[.int .i64 x]))).run Tryz.prog w
    = .ok (.agg #[.pointer (some ⟨2, 152, none⟩), .pointer (some ⟨w.heap.size, 0, none⟩), .int .u64 153]) (w.alloc (.cells #[.int .i64 x] 152)) := by kernel_rfl
theorem Tryz.eElemOfP (w : World) : (Rtype.elem? 154).run Tryz.prog w = .ok (some 152) w := by kernel_rfl
theorem Tryz.eMkS (p : Addr) (w : World) : (ReflectliteValue.mk 152 p ReflectliteValue.flagAddr).run Tryz.prog w = .ok (.agg #[.pointer (some ⟨2, 152, none⟩), .pointer (some p), .int .u64 409]) w := by kernel_rfl
theorem Tryz.eElemVP (a p : Addr) (W : World) (ha : W.cell? a = some (.pointer (some p))) :
    (ReflectliteValue.method (ReflectliteValue.valueError "reflectlite.Value.Elem" 0) ReflectliteValue.elem #[.agg #[.pointer (some ⟨2, 154, none⟩), .pointer (some a), .int .u64 150]]).run Tryz.prog W
      = .ok (.agg #[.pointer (some ⟨2, 152, none⟩), .pointer (some p), .int .u64 409]) W := by
  rw [rlmE]
  simp only [Sem.run_bind, Tryz.ePartsP, Result.andThen]
  simp [ReflectliteValue.elem, loadVar, isAgg, underlying, Tryz.underlying154, ha, Result.andThen, Tryz.eElemOfP, Tryz.eMkS]
theorem Tryz.ePartsSa (a : Addr) (w : World) : (ReflectliteValue.parts (.agg #[.pointer (some ⟨2, 152, none⟩), .pointer (some a), .int .u64 409])).run Tryz.prog w = .ok (some (152, a, 409)) w := by kernel_rfl
theorem Tryz.ePartsS (a : Addr) (w : World) : (ReflectliteValue.parts (.agg #[.pointer (some ⟨2, 152, none⟩), .pointer (some a), .int .u64 153])).run Tryz.prog w = .ok (some (152, a, 153)) w := by kernel_rfl
theorem Tryz.eDirectS (w : World) : (Rtype.directlyAssignable 152 152).run Tryz.prog w = .ok true w := by kernel_rfl
theorem Tryz.eSizeS (w : World) : (sizeOf 152).run Tryz.prog w = .ok 1 w := by kernel_rfl
set_option linter.unusedSimpArgs false in
theorem Tryz.eLoadS (b : Addr) (x : Int) (W : World) (hb : W.cell? b = some (.int .i64 x)) : (loadVar 152 b).run Tryz.prog W = .ok (.agg #[.int .i64 x]) W := by
  have hb' : W.cell? (b.add 0) = some (.int .i64 x) := by simpa [Addr.add] using hb
  simp [loadVar, isAgg, underlying, Tryz.underlying152, loadCells, loadCellsFrom, hb, hb', Result.andThen, Addr.add, Tryz.eSizeS]
set_option linter.unusedSimpArgs false in
theorem Tryz.eStoreS (ta : Addr) (x : Int) (old : Value) (W : World) (ht : W.cell? ta = some old) (hf : W.frozen? ta = false) : (storeVar 152 ta (.agg #[.int .i64 x])).run Tryz.prog W = .ok () (W.setCell ta (.int .i64 x)) := by
  have ht' : W.cell? (ta.add 0) = some old := by simpa [Addr.add] using ht
  simp [storeVar, Value.cells, storeCells, Addr.add, Tryz.eSizeS, isAgg, underlying, Tryz.underlying152, Result.andThen]
  first | (rw [run_store Tryz.prog W ta _ _ (by rfl)]; simp [ht, hf]) | skip
set_option linter.unusedSimpArgs false in
theorem Tryz.eSetS (ta b : Addr) (x : Int) (old : Value) (W : World) (hb : W.cell? b = some (.int .i64 x)) (ht : W.cell? ta = some old) (hf : W.frozen? ta = false) :
    (ReflectliteValue.set #[.agg #[.pointer (some ⟨2, 152, none⟩), .pointer (some ta), .int .u64 409], .agg #[.pointer (some ⟨2, 152, none⟩), .pointer (some b), .int .u64 153]]).run Tryz.prog W
      = .ok (.tuple #[]) (W.setCell ta (.int .i64 x)) := by
  show Sem.run Tryz.prog (ReflectliteValue.parts (.agg #[.pointer (some ⟨2, 152, none⟩), .pointer (some ta), .int .u64 409]) >>= _) W = _
  rw [Sem.run_bind, Tryz.ePartsSa]
  simp only [Result.andThen]
  show Sem.run Tryz.prog (ReflectliteValue.parts (.agg #[.pointer (some ⟨2, 152, none⟩), .pointer (some b), .int .u64 153]) >>= _) W = _
  rw [Sem.run_bind, Tryz.ePartsS]
  simp only [Result.andThen]
  simp [ReflectliteValue.flagAddr, Tryz.eLoadS b x W hb, Result.andThen, Tryz.eDirectS, Tryz.eStoreS ta x old W ht hf]
end Go.Proofs.YtcmdgnemkjfckaaGreatDoor
/- Chapter 10: errors.As, errors.Is and 'codeOf' walked at what the program hands them. -/
namespace Go.Proofs.YtcmdgnemkjfckaaGreatDoor
open Go.RowKit Go.Extern.Stop Go.Stop Go.Extern

theorem asNil (t : Value) (w : World) :
    Calls Tryz.prog 112 #[.nilIface, t] w fun e w' => e = .returned (.bool false) ∧ w' = w := by
  go_enter Tryz.func112, Tryz.ntmps112
  go_wp2
  go_ret
  exact ⟨rfl, rfl⟩

set_option maxHeartbeats 8000000 in
theorem asOver (x : Int) (t : Addr) (old : Value) (w : World) (hg : w.cell? ⟨1, 0, none⟩ = some (.iface 177 (.agg #[.pointer (some ⟨2, 134, none⟩)]))) (ht0 : w.cell? t = some old) (hf0 : w.frozen? t = false) :
    Calls Tryz.prog 112 #[.iface 152 (.agg #[.int .i64 x]), .iface 154 (.pointer (some t))] w fun ev w' => ev = .returned (.bool true) ∧ w' = ((((w.alloc (.cells #[.pointer (some t)] 154)).alloc (.cells #[.pointer (some ⟨2, 154, none⟩), .pointer (some ⟨w.heap.size, 0, none⟩), .int .u64 150] 162)).alloc (.cells #[.pointer (some ⟨2, 154, none⟩), .pointer (some ⟨w.heap.size, 0, none⟩), .int .u64 150] 162)).alloc (.cells #[.int .i64 x] 152)).setCell t (.int .i64 x) := by
  have h6 := @run_callFunc_extern Tryz.prog 120 _ (fun args => ReflectliteValue.unpack (args.getD 0 (.tuple #[]))) Tryz.func120 (by kernel_rfl) (by kernel_rfl) (by kernel_rfl) (by kernel_rfl)
  have h7 := @run_callFunc_extern Tryz.prog 121 _ (ReflectliteValue.methodAny (ReflectliteValue.valueError "reflectlite.Value.Type" 0) (fun t _ _ _ => ReflectliteType.toType t)) Tryz.func121 (by kernel_rfl) (by kernel_rfl) (by kernel_rfl) (by kernel_rfl)
  have h8 := @run_callFunc_extern Tryz.prog 122 _ (ReflectliteValue.method (ReflectliteValue.valueError "reflectlite.Value.IsNil" 0) ReflectliteValue.isNil) Tryz.func122 (by kernel_rfl) (by kernel_rfl) (by kernel_rfl) (by kernel_rfl)
  have h27 := @run_callFunc_extern Tryz.prog 143 _ (ReflectliteType.abiMethod fun t => do pure (.int .u8 (← Rtype.kind t))) Tryz.func143 (by kernel_rfl) (by kernel_rfl) (by kernel_rfl) (by kernel_rfl)
  have h37 := @run_callFunc_extern Tryz.prog 156 _ (ReflectliteType.method ReflectliteType.elem) Tryz.func156 (by kernel_rfl) (by kernel_rfl) (by kernel_rfl) (by kernel_rfl)
  have h38 := @run_callFunc_extern Tryz.prog 157 _ (ReflectliteType.relation "Implements" ReflectliteType.implements_) Tryz.func157 (by kernel_rfl) (by kernel_rfl) (by kernel_rfl) (by kernel_rfl)
  have h10 := @run_callFunc_extern Tryz.prog 124 _ ReflectliteType.typeOf Tryz.func124 (by kernel_rfl) (by kernel_rfl) (by kernel_rfl) (by kernel_rfl)
  have h35 := @run_callFunc_extern Tryz.prog 154 _ (ReflectliteType.relation "AssignableTo" ReflectliteType.assignableTo) Tryz.func154 (by kernel_rfl) (by kernel_rfl) (by kernel_rfl) (by kernel_rfl)
  have h11 := @run_callFunc_extern Tryz.prog 127 _ (ReflectliteValue.method (ReflectliteValue.valueError "reflectlite.Value.Elem" 0) ReflectliteValue.elem) Tryz.func127 (by kernel_rfl) (by kernel_rfl) (by kernel_rfl) (by kernel_rfl)
  have h12 := @run_callFunc_extern Tryz.prog 128 _ ReflectliteValue.set Tryz.func128 (by kernel_rfl) (by kernel_rfl) (by kernel_rfl) (by kernel_rfl)
  have tO := Tryz.eTypeOfS
  have mA := Tryz.eMethodAssignableTo
  have a25 := Tryz.eAssignS
  have v25 := Tryz.eValueOfS
  have f6 := Tryz.eValueOfP
  have f7 := Tryz.eTypeP
  have mK := Tryz.eMethodKind
  have mE := Tryz.eMethodElem
  have mI := Tryz.eMethodImplements
  have k27 := Tryz.eKindP
  have k25 := Tryz.eKindS
  have e27 := Tryz.eElemP
  have i25 := Tryz.eImplementsS
  have n8 := Tryz.eIsNilP ⟨w.heap.size, 0, none⟩ t ((w.alloc (.cells #[.pointer (some t)] 154)).alloc (.cells #[.pointer (some ⟨2, 154, none⟩), .pointer (some ⟨w.heap.size, 0, none⟩), .int .u64 150] 162)) (by simp)
  have hlt : 1 < w.heap.size := World.block_lt_of_cell? _ _ hg
  have hg2 : ((w.alloc (.cells #[.pointer (some t)] 154)).alloc (.cells #[.pointer (some ⟨2, 154, none⟩), .pointer (some ⟨w.heap.size, 0, none⟩), .int .u64 150] 162)).cell? ⟨1, 0, none⟩ = some (.iface 177 (.agg #[.pointer (some ⟨2, 134, none⟩)])) := by
    rw [World.cell?_alloc_lt _ _ ⟨1, 0, none⟩ (by simp; omega), World.cell?_alloc_lt _ _ ⟨1, 0, none⟩ hlt]; exact hg
  have htl : t.block < w.heap.size := by
    rcases Nat.lt_or_ge t.block w.heap.size with h | h
    · exact h
    · simp [World.cell?, Array.getElem?_eq_none h] at ht0
  have el := Tryz.eElemVP ⟨w.heap.size, 0, none⟩ t (((w.alloc (.cells #[.pointer (some t)] 154)).alloc (.cells #[.pointer (some ⟨2, 154, none⟩), .pointer (some ⟨w.heap.size, 0, none⟩), .int .u64 150] 162)).alloc (.cells #[.pointer (some ⟨2, 154, none⟩), .pointer (some ⟨w.heap.size, 0, none⟩), .int .u64 150] 162)) (by rw [World.cell?_alloc_lt _ _ ⟨w.heap.size, 0, none⟩ (by simp; omega)]; simp)
  have st := Tryz.eSetS t ⟨w.heap.size + 1 + 1 + 1, 0, none⟩ x old ((((w.alloc (.cells #[.pointer (some t)] 154)).alloc (.cells #[.pointer (some ⟨2, 154, none⟩), .pointer (some ⟨w.heap.size, 0, none⟩), .int .u64 150] 162)).alloc (.cells #[.pointer (some ⟨2, 154, none⟩), .pointer (some ⟨w.heap.size, 0, none⟩), .int .u64 150] 162)).alloc (.cells #[.int .i64 x] 152))
    (by rw [World.cell?_alloc_at _ _ _ _ (by simp)]; rfl)
    (by rw [World.cell?_alloc_lt _ _ t (by simp; omega), World.cell?_alloc_lt _ _ t (by simp; omega), World.cell?_alloc_lt _ _ t (by simp; omega), World.cell?_alloc_lt _ _ t htl]; exact ht0)
    (by rw [World.frozen?_alloc_old _ _ t (by simp; omega), World.frozen?_alloc_old _ _ t (by simp; omega), World.frozen?_alloc_old _ _ t (by simp; omega), World.frozen?_alloc_old _ _ t (Nat.ne_of_lt htl)]; exact hf0)
  go_enter Tryz.func112, Tryz.ntmps112
  go_wp2
  refine wp_loop_rounds 1 ?_
  rw [rounds_succ]
  go_wp2
  go_ret
  exact ⟨rfl, rfl⟩

set_option maxHeartbeats 8000000 in
theorem asYet (p : Addr) (t : Addr) (w : World) (hg : w.cell? ⟨1, 0, none⟩ = some (.iface 177 (.agg #[.pointer (some ⟨2, 134, none⟩)]))) :
    Calls Tryz.prog 112 #[.iface 192 (.pointer (some p)), .iface 154 (.pointer (some t))] w fun ev w' => ev = .returned (.bool false) ∧ Below w.heap.size w w' := by
  have h6 := @run_callFunc_extern Tryz.prog 120 _ (fun args => ReflectliteValue.unpack (args.getD 0 (.tuple #[]))) Tryz.func120 (by kernel_rfl) (by kernel_rfl) (by kernel_rfl) (by kernel_rfl)
  have h7 := @run_callFunc_extern Tryz.prog 121 _ (ReflectliteValue.methodAny (ReflectliteValue.valueError "reflectlite.Value.Type" 0) (fun t _ _ _ => ReflectliteType.toType t)) Tryz.func121 (by kernel_rfl) (by kernel_rfl) (by kernel_rfl) (by kernel_rfl)
  have h8 := @run_callFunc_extern Tryz.prog 122 _ (ReflectliteValue.method (ReflectliteValue.valueError "reflectlite.Value.IsNil" 0) ReflectliteValue.isNil) Tryz.func122 (by kernel_rfl) (by kernel_rfl) (by kernel_rfl) (by kernel_rfl)
  have h27 := @run_callFunc_extern Tryz.prog 143 _ (ReflectliteType.abiMethod fun t => do pure (.int .u8 (← Rtype.kind t))) Tryz.func143 (by kernel_rfl) (by kernel_rfl) (by kernel_rfl) (by kernel_rfl)
  have h37 := @run_callFunc_extern Tryz.prog 156 _ (ReflectliteType.method ReflectliteType.elem) Tryz.func156 (by kernel_rfl) (by kernel_rfl) (by kernel_rfl) (by kernel_rfl)
  have h38 := @run_callFunc_extern Tryz.prog 157 _ (ReflectliteType.relation "Implements" ReflectliteType.implements_) Tryz.func157 (by kernel_rfl) (by kernel_rfl) (by kernel_rfl) (by kernel_rfl)
  have h10 := @run_callFunc_extern Tryz.prog 124 _ ReflectliteType.typeOf Tryz.func124 (by kernel_rfl) (by kernel_rfl) (by kernel_rfl) (by kernel_rfl)
  have h35 := @run_callFunc_extern Tryz.prog 154 _ (ReflectliteType.relation "AssignableTo" ReflectliteType.assignableTo) Tryz.func154 (by kernel_rfl) (by kernel_rfl) (by kernel_rfl) (by kernel_rfl)
  have tO := Tryz.eTypeOfY
  have mA := Tryz.eMethodAssignableTo
  have a25 := Tryz.eAssignY
  have f6 := Tryz.eValueOfP
  have f7 := Tryz.eTypeP
  have mK := Tryz.eMethodKind
  have mE := Tryz.eMethodElem
  have mI := Tryz.eMethodImplements
  have k27 := Tryz.eKindP
  have k25 := Tryz.eKindS
  have e27 := Tryz.eElemP
  have i25 := Tryz.eImplementsS
  have nA : ∀ (v : Value) (xT : TypeId) (w : World), (Instr.typeAssert (.iface 192 v) xT 181 true).run Tryz.prog w = .ok (.tuple #[.nilIface, .bool false]) w := fun v xT w => run_typeAssert_lacksB Tryz.underlying181 (by kernel_rfl) (by kernel_rfl) v xT w
  have nU : ∀ (v : Value) (xT : TypeId) (w : World), (Instr.typeAssert (.iface 192 v) xT 184 true).run Tryz.prog w = .ok (.tuple #[.nilIface, .bool false]) w := fun v xT w => run_typeAssert_lacksB Tryz.underlying184 (by kernel_rfl) (by kernel_rfl) v xT w
  have nV : ∀ (v : Value) (xT : TypeId) (w : World), (Instr.typeAssert (.iface 192 v) xT 186 true).run Tryz.prog w = .ok (.tuple #[.nilIface, .bool false]) w := fun v xT w => run_typeAssert_lacksB Tryz.underlying186 (by kernel_rfl) (by kernel_rfl) v xT w
  have n8 := Tryz.eIsNilP ⟨w.heap.size, 0, none⟩ t ((w.alloc (.cells #[.pointer (some t)] 154)).alloc (.cells #[.pointer (some ⟨2, 154, none⟩), .pointer (some ⟨w.heap.size, 0, none⟩), .int .u64 150] 162)) (by simp)
  have hlt : 1 < w.heap.size := World.block_lt_of_cell? _ _ hg
  have hg2 : ((w.alloc (.cells #[.pointer (some t)] 154)).alloc (.cells #[.pointer (some ⟨2, 154, none⟩), .pointer (some ⟨w.heap.size, 0, none⟩), .int .u64 150] 162)).cell? ⟨1, 0, none⟩ = some (.iface 177 (.agg #[.pointer (some ⟨2, 134, none⟩)])) := by
    rw [World.cell?_alloc_lt _ _ ⟨1, 0, none⟩ (by simp; omega), World.cell?_alloc_lt _ _ ⟨1, 0, none⟩ hlt]; exact hg
  go_enter Tryz.func112, Tryz.ntmps112
  go_wp2
  refine wp_loop_rounds 1 ?_
  rw [rounds_succ]
  go_wp2
  go_ret
  exact ⟨rfl, below_on (below_on (below_alloc _ _) (below_alloc _ _)) (below_alloc _ _)⟩

def cmpE : Array Value → Sem Value := ReflectliteType.method fun t => do Rtype.noPackHeld "Comparable" t; pure (.bool (← typeInfo t).comparable)
theorem Tryz.eComparable (w : World) : (cmpE #[.agg #[.pointer (some ⟨2, 192, none⟩)]]).run Tryz.prog w = .ok (.bool true) w := by kernel_rfl
theorem Tryz.eMethodComparable (v : Value) (w : World) : (Go.method 327 177 v "Comparable").run Tryz.prog w = .ok (155, v) w := by kernel_rfl
theorem Tryz.eComp : (Tryz.prog.info? 192).map (·.comparable) = some true := by kernel_rfl
theorem Tryz.eSize : (Tryz.prog.info? 215).map (·.size) = some 1 := by kernel_rfl

theorem isSame (a : Addr) (w : World) :
    Calls Tryz.prog 113 #[.iface 192 (.pointer (some a)), .iface 192 (.pointer (some a))] w fun e w' => e = .returned (.bool true) ∧ w' = w := by
  obtain ⟨i, hi, hcmp⟩ := Option.map_eq_some_iff.1 Tryz.eComp
  obtain ⟨j, hj, hjs⟩ := Option.map_eq_some_iff.1 Tryz.eSize
  have h8 := @run_callFunc_extern Tryz.prog 124 _ Extern.ReflectliteType.typeOf Tryz.func124 (by kernel_rfl) (by kernel_rfl) (by kernel_rfl) (by kernel_rfl)
  have h32 := @run_callFunc_extern Tryz.prog 155 _ cmpE Tryz.func155 (by kernel_rfl) (by kernel_rfl) (by kernel_rfl) (by kernel_rfl)
  have tT := Tryz.eTypeOfY
  have cT := Tryz.eComparable
  have mR := Tryz.eMethodComparable
  have heq := run_eql_iface_ptr_same (P := Tryz.prog) w a Tryz.underlying134 Tryz.underlying192 hi hcmp hj
  go_enter Tryz.func113, Tryz.ntmps113
  go_wp2
  refine wp_loop_rounds 1 ?_
  rw [rounds_succ]
  go_wp2
  go_ret
  exact ⟨rfl, rfl⟩
theorem isNil (b : Addr) (w : World) :
    Calls Tryz.prog 113 #[.nilIface, .iface 192 (.pointer (some b))] w fun e w' => e = .returned (.bool false) ∧ w' = w := by
  have hn := run_eql_iface_nil_left (P := Tryz.prog) w 192 (.pointer (some b)) Tryz.underlying134
  go_enter Tryz.func113, Tryz.ntmps113
  go_wp2
  go_ret
  exact ⟨rfl, rfl⟩

/-- 'codeOf' of no error. -/
theorem codeNil (w : World) (hg : Gl w) : Calls Tryz.prog 99 #[.nilIface] w fun e w' => e = .returned (.int .i64 0) ∧ Below w.heap.size w w' := by
  obtain ⟨⟨a, h1⟩, _⟩ := hg
  have hlt : 0 < w.heap.size := World.block_lt_of_cell? _ _ h1
  have h1' : (w.alloc (.cells #[.int .i64 0] 152)).cell? ⟨0, 0, none⟩ = some (.iface 192 (.pointer (some a))) := by
    rw [World.cell?_alloc_lt _ _ ⟨0, 0, none⟩ hlt]; exact h1
  go_enter Tryz.func99, Tryz.ntmps99
  go_wp2_with fail
  refine (asNil _ _).mono ?_
  rintro e w1 ⟨rfl, rfl⟩
  go_wp2_with fail
  refine (isNil _ _).mono ?_
  rintro e w1 ⟨rfl, rfl⟩
  go_wp2
  go_ret
  exact ⟨rfl, below_alloc _ _⟩
/-- .. of what is over. -/
theorem codeOver (x : Int) (w : World) (hg : Gl w) : Calls Tryz.prog 99 #[.iface 152 (.agg #[.int .i64 x])] w fun e w' => e = .returned (.int .i64 6) ∧ Below w.heap.size w w' := by
  obtain ⟨⟨a, h1⟩, h2⟩ := hg
  have hlt : 1 < w.heap.size := World.block_lt_of_cell? _ _ h2
  have h2' : (w.alloc (.cells #[.int .i64 0] 152)).cell? ⟨1, 0, none⟩ = some (.iface 177 (.agg #[.pointer (some ⟨2, 134, none⟩)])) := by
    rw [World.cell?_alloc_lt _ _ ⟨1, 0, none⟩ hlt]; exact h2
  have HC := hide (asOver x ⟨w.heap.size, 0, none⟩ (.int .i64 0) (w.alloc (.cells #[.int .i64 0] 152)) h2' (by simp) (by simp))
  clear h1 h2 h2'
  go_enter Tryz.func99, Tryz.ntmps99
  go_wp2_with fail
  refine HC.out.mono ?_
  rintro e w1 ⟨rfl, hw⟩
  have hb : Below w.heap.size w w1 := by
    subst hw
    exact Below.setCell (below_on (below_on (below_on (below_on (below_alloc _ _) (below_alloc _ _)) (below_alloc _ _)) (below_alloc _ _)) (below_alloc _ _)) (by simp) _
  have HB := hide hb
  clear hb hw HC
  go_wp2
  go_ret
  exact ⟨rfl, HB.out⟩
/-- .. of what is not there yet. -/
theorem codeYet (a : Addr) (w : World) (hg : Gl w) (ha : w.cell? ⟨0, 0, none⟩ = some (.iface 192 (.pointer (some a)))) : Calls Tryz.prog 99 #[.iface 192 (.pointer (some a))] w fun e w' => e = .returned (.int .i64 4) ∧ Below w.heap.size w w' := by
  obtain ⟨_, h2⟩ := hg
  have hlt : 1 < w.heap.size := World.block_lt_of_cell? _ _ h2
  have h2' : (w.alloc (.cells #[.int .i64 0] 152)).cell? ⟨1, 0, none⟩ = some (.iface 177 (.agg #[.pointer (some ⟨2, 134, none⟩)])) := by
    rw [World.cell?_alloc_lt _ _ ⟨1, 0, none⟩ hlt]; exact h2
  have HC := hide (asYet a ⟨w.heap.size, 0, none⟩ (w.alloc (.cells #[.int .i64 0] 152)) h2')
  clear h2 h2'
  go_enter Tryz.func99, Tryz.ntmps99
  go_wp2_with fail
  refine HC.out.mono ?_
  rintro e w1 ⟨rfl, hb⟩
  have hb' := below_on (below_alloc w (.cells #[.int .i64 0] 152)) hb
  have h1' := cell_later hb' ha
  have HB := hide hb'
  clear hb hb' HC ha
  go_wp2_with fail
  refine (isSame _ _).mono ?_
  rintro e w2 ⟨rfl, hw⟩
  have hw := hw.symm
  subst hw
  go_wp2
  go_ret
  exact ⟨rfl, HB.out⟩
end Go.Proofs.YtcmdgnemkjfckaaGreatDoor
/- Puts that are built by append, one a round. -/
namespace Go.Proofs.YtcmdgnemkjfckaaGreatDoor
open Go.RowKit

/-- The cells of k puts. -/
def cellsP (ps : List (Int × List Int)) (k : Nat) (V : Nat → Value) : List Value :=
  (List.range (k * 2)).map fun t => if t % 2 = 0 then .int .i64 (ps.getD (t / 2) (0, [])).1 else V (t / 2)
theorem cellsP_len (ps : List (Int × List Int)) (k : Nat) (V : Nat → Value) : (cellsP ps k V).length = k * 2 := by simp [cellsP]
theorem cellsP_num (ps : List (Int × List Int)) (k : Nat) (V : Nat → Value) (i : Nat) (h : i < k) : (cellsP ps k V)[i * 2]? = some (.int .i64 (ps.getD i (0, [])).1) := by
  unfold cellsP
  rw [List.getElem?_map, List.getElem?_range (by omega)]
  simp only [Option.map_some]
  rw [if_pos (by omega), show i * 2 / 2 = i by omega]
theorem cellsP_words (ps : List (Int × List Int)) (k : Nat) (V : Nat → Value) (i : Nat) (h : i < k) : (cellsP ps k V)[i * 2 + 1]? = some (V i) := by
  unfold cellsP
  rw [List.getElem?_map, List.getElem?_range (by omega)]
  simp only [Option.map_some]
  rw [if_neg (by omega), show (i * 2 + 1) / 2 = i by omega]
theorem cellsP_succ (ps : List (Int × List Int)) (k : Nat) (V : Nat → Value) (z : Value) : cellsP ps (k + 1) (fun i => if i = k then z else V i) = cellsP ps k V ++ [.int .i64 (ps.getD k (0, [])).1, z] := by
  unfold cellsP
  rw [show (k + 1) * 2 = k * 2 + 1 + 1 by omega, List.range_succ, List.range_succ]
  simp only [List.map_append, List.append_assoc, List.map_cons, List.map_nil, List.singleton_append]
  congr 1
  · refine List.map_congr_left fun i hi => ?_
    have := List.mem_range.1 hi
    by_cases e : i % 2 = 0
    · rw [if_pos e, if_pos e]
    · rw [if_neg e, if_neg e, if_neg (by omega)]
  · rw [if_pos (by omega), if_neg (by omega), show k * 2 / 2 = k by omega, show (k * 2 + 1) / 2 = k by omega, if_pos rfl]

theorem cells2_one {x : Int} {ao : Option Addr} {n c : Nat} : ∀ u ∈ ([.int .i64 x, .slice ao n c] : List Value), u.oneCell' = true := by
  intro u hu
  simp at hu
  rcases hu with rfl | rfl <;> rfl
end Go.Proofs.YtcmdgnemkjfckaaGreatDoor
/- The ends of functions that store a code and what goes with it into their result's variable. -/
namespace Go.Proofs.YtcmdgnemkjfckaaGreatDoor
open Go.RowKit

/-- The end of a function that stores a code and a list into its result's variable. -/
theorem ret_ints {w w3 : World} {B r : Nat} {z : Value} {xs : List Int} {x : Value} (hb : Below w.heap.size w w3) (hr : w.heap.size ≤ r) (ho : OwI B w3 z xs) (hB : r < B) :
    Below w.heap.size w ((w3.setCell ⟨r, 0, none⟩ x).setCell ⟨r, 1, none⟩ z) ∧ OwI w.heap.size ((w3.setCell ⟨r, 0, none⟩ x).setCell ⟨r, 1, none⟩ z) z xs := by
  have hw : Wr (fun y => y = r) w3 ((w3.setCell ⟨r, 0, none⟩ x).setCell ⟨r, 1, none⟩ z) := ((Wr.refl (fun y => y = r) _).setCell (p := ⟨r, 0, none⟩) rfl _).setCell (p := ⟨r, 1, none⟩) rfl _
  exact ⟨(hb.setCell (p := ⟨r, 0, none⟩) hr _).setCell (p := ⟨r, 1, none⟩) hr _, (ho.wr hw (fun b h1 _ e => by omega)).mono (by omega)⟩

theorem OwD_nil (B : Nat) (w : World) : OwD B w (.slice none 0 0) (.slice none 0 0) [] [] :=
  ⟨fun _ => False, fun _ => False, fun _ h => absurd h id, fun _ h => absurd h id, fun _ h => absurd h id, OwII_nil _ _, OwP_nil _ _⟩

/-- The end of a function that stores a code and a disk into its result's variable. -/
theorem ret_disk {w w3 : World} {B r : Nat} {u v x : Value} {xss : List (List Int)} {ps : List (Int × List Int)} (hb : Below w.heap.size w w3) (hr : w.heap.size ≤ r) (ho : OwD B w3 u v xss ps) (hB : r < B) :
    Below w.heap.size w (((w3.setCell ⟨r, 0, none⟩ x).setCell ⟨r, 1, none⟩ u).setCell ⟨r, 2, none⟩ v) ∧ OwD w.heap.size (((w3.setCell ⟨r, 0, none⟩ x).setCell ⟨r, 1, none⟩ u).setCell ⟨r, 2, none⟩ v) u v xss ps := by
  have hw : Wr (fun y => y = r) w3 (((w3.setCell ⟨r, 0, none⟩ x).setCell ⟨r, 1, none⟩ u).setCell ⟨r, 2, none⟩ v) := (((Wr.refl (fun y => y = r) _).setCell (p := ⟨r, 0, none⟩) rfl _).setCell (p := ⟨r, 1, none⟩) rfl _).setCell (p := ⟨r, 2, none⟩) rfl _
  refine ⟨((hb.setCell (p := ⟨r, 0, none⟩) hr _).setCell (p := ⟨r, 1, none⟩) hr _).setCell (p := ⟨r, 2, none⟩) hr _, ?_⟩
  obtain ⟨S, T, h1, h2, h3, h4, h5⟩ := ho
  exact ⟨S, T, fun b hb => by have := h1 b hb; simp; omega, fun b hb => by have := h2 b hb; simp; omega, h3, h4.wr hw fun b hb e => by have := h1 b hb; omega, h5.wr hw fun b hb e => by have := h2 b hb; omega⟩
end Go.Proofs.YtcmdgnemkjfckaaGreatDoor
/- The variable of a result; what append does at a step of a region that draws. -/
namespace Go.Proofs.YtcmdgnemkjfckaaGreatDoor
open Go.RowKit

/-- The variable of the result (a code, a list) as it was made. -/
structure ResF (w wr : World) : Prop where
  below : Below w.heap.size w wr
  c0 : wr.cell? ⟨w.heap.size, 0, none⟩ = some (.int .i64 0)
  c1 : wr.cell? ⟨w.heap.size, 1, none⟩ = some (.slice none 0 0)
  fr : ∀ o, wr.frozen? ⟨w.heap.size, o, none⟩ = false
theorem ResF.lt {w wr : World} (h : ResF w wr) : w.heap.size < wr.heap.size := World.block_lt_of_cell? _ _ h.c0
theorem ResF.later {w wr w1 : World} (h : ResF w wr) (hb : Below wr.heap.size wr w1) : ResF w w1 :=
  ⟨below_on h.below hb, cell_later hb h.c0, cell_later hb h.c1, fun o => ((bcell hb).2 _ _ h.lt).trans (h.fr o)⟩
theorem ResF.start (w : World) (t : TypeId) : ResF w (w.alloc (.cells #[.int .i64 0, .slice none 0 0] t)) :=
  ⟨below_alloc _ _, by simp [go_sem], by simp [go_sem], fun o => by simp [go_sem]⟩
theorem ResF.shut {w wr : World} (h : ResF w wr) (x y : Value) : Below w.heap.size w ((wr.setCell ⟨w.heap.size, 0, none⟩ x).setCell ⟨w.heap.size, 1, none⟩ y) := (h.below.setCell (Nat.le_refl _) _).setCell (Nat.le_refl _) _

theorem owns_shapeR {w : World} {B e s : Nat} {v : Value} {n : Nat} {xs : List Value} (h : w.ownsRow B e s v n xs) : ∃ ao c, v = .slice ao n c := by
  rcases h.2 with ⟨rfl, rfl⟩ | ⟨g, cap, cur, rfl, _⟩
  · exact ⟨_, _, rfl⟩
  · exact ⟨_, _, rfl⟩
theorem ownsRow_fullF (w : World) (cs : List Value) (e : TypeId) (hm : cs.length ≤ 1048576) : (w.alloc (.cells cs.toArray e)).ownsRow w.heap.size e 1 (.slice (some ⟨w.heap.size, 0, none⟩) cs.length cs.length) cs.length cs :=
  ⟨by simp, .inr ⟨w.heap.size, cs.length, cs.toArray, rfl, Nat.le_refl _, heap_alloc_new w _, Nat.le_refl _, by unfold maxLen; omega, by simp, by simp⟩⟩
/-- An append at a step of a region that draws, of a slice of whatever address where it holds nothing. -/
theorem step_append_fi {P : Program} (w : World) {ops : Array Oper} {o : Oper} {a : Act} {K : Act → World → Prop} {Q : Exit → Act → World → Prop} {E : Prop} (hgd : o.guard = none) (s x : Operand) (t : TypeId)
    (ho : o.op = .call { callee := .builtin .append, args := #[s, x], argTypes := #[t, t] })
    (base : Nat) (e : TypeId) (i : TypeInfo) (z : Value) (size bytes : Nat) (ht : P.underlying t = some (.slice e)) (hi : P.info? e = some i) (hz : i.zero = some z)
    (hsize : i.size = size) (hby : i.bytes = bytes) (hzs : z.cells.size = size) (hsz : 0 < size)
    (v : Value) (n : Nat) (xs : List Value) (hs : a.eval s = v) (hown : w.ownsRow base e size v n xs)
    (ao : Option Addr) (m c : Nat) (news : List Value) (hx : a.eval x = .slice ao m c) (hl : news.length = m * size)
    (hnews : m ≠ 0 → ∃ ad, ao = some ad ∧ ∀ j u, news[j]? = some u → w.cell? (ad.add j) = some u) (h1 : ∀ u ∈ news, u.oneCell' = true)
    (h63 : n + m ≤ maxLen) (hbytes : (n + m) * bytes ≤ 140737488355328) (hbase : base ≤ w.heap.size)
    (h : ∀ v' w', w'.ownsRow base e size v' (n + m) (xs ++ news) → w.grownBy w' v.ownBlock → K (a.put o.dst v') w') :
    if Region.wanted o (yielded ops a.tmps) = true then Oper.wp P o a w K Q else E := by
  by_cases hm : m = 0
  · subst hm
    have hn : news = [] := List.eq_nil_of_length_eq_zero (by simpa using hl)
    subst hn
    have hw : Region.wanted o (yielded ops a.tmps) = true := by simp [Region.wanted, hgd]
    rw [if_pos hw]
    have hv : ∃ ad k, v = .slice ad n k ∧ n ≤ k := by
      rcases hown.2 with ⟨rfl, rfl⟩ | ⟨g, cap, cur, rfl, _, _, hnc, _⟩
      · exact ⟨_, _, rfl, Nat.le_refl _⟩
      · exact ⟨_, _, rfl, hnc⟩
    obtain ⟨ad, k, rfl, hk⟩ := hv
    have hrun := run_append_zero (P := P) w t o.type e i ht hi ad n k hk ao c
    have hh := h _ w (by simpa using hown) (World.grownBy.refl _ _)
    unfold Oper.wp execOp
    simp only [ho, resolve, invoke, builtin, Sem.run_bind, Sem.run_pure, Result.andThen_ok, List.map_toArray, List.map_cons, List.map_nil, hs, hx, hrun]
    exact hh
  · obtain ⟨ad, rfl, hc⟩ := hnews hm
    exact step_append_lies w hgd s x t ho base e i z size bytes ht hi hz hsize hby hzs hsz v n xs hs hown ad m c news hx hl hc h1 (by omega) h63 hbytes hbase _ rfl (fun g cap w' h2 h3 _ _ => h _ w' h2 h3)
end Go.Proofs.YtcmdgnemkjfckaaGreatDoor
