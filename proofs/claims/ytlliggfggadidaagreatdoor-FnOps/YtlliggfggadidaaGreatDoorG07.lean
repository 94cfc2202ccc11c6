/- Er2 Rs Rt in one text: what each says stands at its head below. -/
import Derived.Test.YtlliggfggadidaaGreatDoorG06
import Derived.Test.YtlliggfggadidaaGreatDoorG02
import Derived.Deep.RegionLaw
import Derived.Deep.AppendLies
namespace Go.Proofs.YtlliggfggadidaaGreatDoor
open Go.RowKit Go.Extern.Stop Go.Stop Go.Extern
theorem asNil (t : Value) (w : World) :
    Calls Tryz.prog 117 #[.nilIface, t] w fun e w' => e = .returned (.bool false) ∧ w' = w := by
  go_enter Tryz.func117, Tryz.ntmps117
  go_wp2
  go_ret
  exact ⟨rfl, rfl⟩
set_option maxHeartbeats 8000000 in
theorem asOver (x : Int) (t : Addr) (old : Value) (w : World) (hg : w.cell? ⟨1, 0, none⟩ = some (.iface 176 (.agg #[.pointer (some ⟨2, 72, none⟩)]))) (ht0 : w.cell? t = some old) (hf0 : w.frozen? t = false) :
    Calls Tryz.prog 117 #[.iface 107 (.agg #[.int .i64 x]), .iface 150 (.pointer (some t))] w fun ev w' => ev = .returned (.bool true) ∧ w' = ((((w.alloc (.cells #[.pointer (some t)] 150)).alloc (.cells #[.pointer (some ⟨2, 150, none⟩), .pointer (some ⟨w.heap.size, 0, none⟩), .int .u64 150] 161)).alloc (.cells #[.pointer (some ⟨2, 150, none⟩), .pointer (some ⟨w.heap.size, 0, none⟩), .int .u64 150] 161)).alloc (.cells #[.int .i64 x] 107)).setCell t (.int .i64 x) := by
  have h6 := @run_callFunc_extern Tryz.prog 126 _ (fun args => ReflectliteValue.unpack (args.getD 0 (.tuple #[]))) Tryz.func126 (by kernel_rfl) (by kernel_rfl) (by kernel_rfl) (by kernel_rfl)
  have h7 := @run_callFunc_extern Tryz.prog 127 _ (ReflectliteValue.methodAny (ReflectliteValue.valueError "reflectlite.Value.Type" 0) (fun t _ _ _ => ReflectliteType.toType t)) Tryz.func127 (by kernel_rfl) (by kernel_rfl) (by kernel_rfl) (by kernel_rfl)
  have h8 := @run_callFunc_extern Tryz.prog 128 _ (ReflectliteValue.method (ReflectliteValue.valueError "reflectlite.Value.IsNil" 0) ReflectliteValue.isNil) Tryz.func128 (by kernel_rfl) (by kernel_rfl) (by kernel_rfl) (by kernel_rfl)
  have h27 := @run_callFunc_extern Tryz.prog 149 _ (ReflectliteType.abiMethod fun t => do pure (.int .u8 (← Rtype.kind t))) Tryz.func149 (by kernel_rfl) (by kernel_rfl) (by kernel_rfl) (by kernel_rfl)
  have h37 := @run_callFunc_extern Tryz.prog 161 _ (ReflectliteType.method ReflectliteType.elem) Tryz.func161 (by kernel_rfl) (by kernel_rfl) (by kernel_rfl) (by kernel_rfl)
  have h38 := @run_callFunc_extern Tryz.prog 162 _ (ReflectliteType.relation "Implements" ReflectliteType.implements_) Tryz.func162 (by kernel_rfl) (by kernel_rfl) (by kernel_rfl) (by kernel_rfl)
  have h10 := @run_callFunc_extern Tryz.prog 130 _ ReflectliteType.typeOf Tryz.func130 (by kernel_rfl) (by kernel_rfl) (by kernel_rfl) (by kernel_rfl)
  have h35 := @run_callFunc_extern Tryz.prog 159 _ (ReflectliteType.relation "AssignableTo" ReflectliteType.assignableTo) Tryz.func159 (by kernel_rfl) (by kernel_rfl) (by kernel_rfl) (by kernel_rfl)
  have h11 := @run_callFunc_extern Tryz.prog 133 _ (ReflectliteValue.method (ReflectliteValue.valueError "reflectlite.Value.Elem" 0) ReflectliteValue.elem) Tryz.func133 (by kernel_rfl) (by kernel_rfl) (by kernel_rfl) (by kernel_rfl)
  have h12 := @run_callFunc_extern Tryz.prog 134 _ ReflectliteValue.set Tryz.func134 (by kernel_rfl) (by kernel_rfl) (by kernel_rfl) (by kernel_rfl)
  have tO := Tryz.eTypeOfS
  have mA := Tryz.eMethodAssignableTo
  have a25 := Tryz.eAssignS
  have v25 := Tryz.eValueOfS
  have f6 := Tryz.eValueOfP
  have f7 := Tryz.eTypeP
  have mK := Tryz.eMethodKind
  have mE := Tryz.eMethodElem
  have mI := Tryz.eMethodImplements
  have k27 := Tryz.eKindP
  have k25 := Tryz.eKindS
  have e27 := Tryz.eElemP
  have i25 := Tryz.eImplementsS
  have n8 := Tryz.eIsNilP ⟨w.heap.size, 0, none⟩ t ((w.alloc (.cells #[.pointer (some t)] 150)).alloc (.cells #[.pointer (some ⟨2, 150, none⟩), .pointer (some ⟨w.heap.size, 0, none⟩), .int .u64 150] 161)) (by simp)
  have hlt : 1 < w.heap.size := World.block_lt_of_cell? _ _ hg
  have hg2 : ((w.alloc (.cells #[.pointer (some t)] 150)).alloc (.cells #[.pointer (some ⟨2, 150, none⟩), .pointer (some ⟨w.heap.size, 0, none⟩), .int .u64 150] 161)).cell? ⟨1, 0, none⟩ = some (.iface 176 (.agg #[.pointer (some ⟨2, 72, none⟩)])) := by
    rw [World.cell?_alloc_lt _ _ ⟨1, 0, none⟩ (by simp; omega), World.cell?_alloc_lt _ _ ⟨1, 0, none⟩ hlt]; exact hg
  have htl : t.block < w.heap.size := by
    rcases Nat.lt_or_ge t.block w.heap.size with h | h
    · exact h
    · simp [World.cell?, Array.getElem?_eq_none h] at ht0
  have el := Tryz.eElemVP ⟨w.heap.size, 0, none⟩ t (((w.alloc (.cells #[.pointer (some t)] 150)).alloc (.cells #[.pointer (some ⟨2, 150, none⟩), .pointer (some ⟨w.heap.size, 0, none⟩), .int .u64 150] 161)).alloc (.cells #[.pointer (some ⟨2, 150, none⟩), .pointer (some ⟨w.heap.size, 0, none⟩), .int .u64 150] 161)) (by rw [World.cell?_alloc_lt _ _ ⟨w.heap.size, 0, none⟩ (by simp; omega)]; simp)
  have st := Tryz.eSetS t ⟨w.heap.size + 1 + 1 + 1, 0, none⟩ x old ((((w.alloc (.cells #[.pointer (some t)] 150)).alloc (.cells #[.pointer (some ⟨2, 150, none⟩), .pointer (some ⟨w.heap.size, 0, none⟩), .int .u64 150] 161)).alloc (.cells #[.pointer (some ⟨2, 150, none⟩), .pointer (some ⟨w.heap.size, 0, none⟩), .int .u64 150] 161)).alloc (.cells #[.int .i64 x] 107))
    (by rw [World.cell?_alloc_at _ _ _ _ (by simp)]; rfl)
    (by rw [World.cell?_alloc_lt _ _ t (by simp; omega), World.cell?_alloc_lt _ _ t (by simp; omega), World.cell?_alloc_lt _ _ t (by simp; omega), World.cell?_alloc_lt _ _ t htl]; exact ht0)
    (by rw [World.frozen?_alloc_old _ _ t (by simp; omega), World.frozen?_alloc_old _ _ t (by simp; omega), World.frozen?_alloc_old _ _ t (by simp; omega), World.frozen?_alloc_old _ _ t (Nat.ne_of_lt htl)]; exact hf0)
  go_enter Tryz.func117, Tryz.ntmps117
  go_wp2
  refine wp_loop_rounds 1 ?_
  rw [rounds_succ]
  go_wp2
  go_ret
  exact ⟨rfl, rfl⟩
set_option maxHeartbeats 8000000 in
theorem asYet (p : Addr) (t : Addr) (w : World) (hg : w.cell? ⟨1, 0, none⟩ = some (.iface 176 (.agg #[.pointer (some ⟨2, 72, none⟩)]))) :
    Calls Tryz.prog 117 #[.iface 191 (.pointer (some p)), .iface 150 (.pointer (some t))] w fun ev w' => ev = .returned (.bool false) ∧ Below w.heap.size w w' := by
  have h6 := @run_callFunc_extern Tryz.prog 126 _ (fun args => ReflectliteValue.unpack (args.getD 0 (.tuple #[]))) Tryz.func126 (by kernel_rfl) (by kernel_rfl) (by kernel_rfl) (by kernel_rfl)
  have h7 := @run_callFunc_extern Tryz.prog 127 _ (ReflectliteValue.methodAny (ReflectliteValue.valueError "reflectlite.Value.Type" 0) (fun t _ _ _ => ReflectliteType.toType t)) Tryz.func127 (by kernel_rfl) (by kernel_rfl) (by kernel_rfl) (by kernel_rfl)
  have h8 := @run_callFunc_extern Tryz.prog 128 _ (ReflectliteValue.method (ReflectliteValue.valueError "reflectlite.Value.IsNil" 0) ReflectliteValue.isNil) Tryz.func128 (by kernel_rfl) (by kernel_rfl) (by kernel_rfl) (by kernel_rfl)
  have h27 := @run_callFunc_extern Tryz.prog 149 _ (ReflectliteType.abiMethod fun t => do pure (.int .u8 (← Rtype.kind t))) Tryz.func149 (by kernel_rfl) (by kernel_rfl) (by kernel_rfl) (by kernel_rfl)
  have h37 := @run_callFunc_extern Tryz.prog 161 _ (ReflectliteType.method ReflectliteType.elem) Tryz.func161 (by kernel_rfl) (by kernel_rfl) (by kernel_rfl) (by kernel_rfl)
  have h38 := @run_callFunc_extern Tryz.prog 162 _ (ReflectliteType.relation "Implements" ReflectliteType.implements_) Tryz.func162 (by kernel_rfl) (by kernel_rfl) (by kernel_rfl) (by kernel_rfl)
  have h10 := @run_callFunc_extern Tryz.prog 130 _ ReflectliteType.typeOf Tryz.func130 (by kernel_rfl) (by kernel_rfl) (by kernel_rfl) (by kernel_rfl)
  have h35 := @run_callFunc_extern Tryz.prog 159 _ (ReflectliteType.relation "AssignableTo" ReflectliteType.assignableTo) Tryz.func159 (by kernel_rfl) (by kernel_rfl) (by kernel_rfl) (by kernel_rfl)
  have tO := Tryz.eTypeOfY
  have mA := Tryz.eMethodAssignableTo
  have a25 := Tryz.eAssignY
  have f6 := Tryz.eValueOfP
  have f7 := Tryz.eTypeP
  have mK := Tryz.eMethodKind
  have mE := Tryz.eMethodElem
  have mI := Tryz.eMethodImplements
  have k27 := Tryz.eKindP
  have k25 := Tryz.eKindS
  have e27 := Tryz.eElemP
  have i25 := Tryz.eImplementsS
  have nA : ∀ (v : Value) (xT : TypeId) (w : World), (Instr.typeAssert (.iface 191 v) xT 180 true).run Tryz.prog w = .ok (.tuple #[.nilIface, .bool false]) w := fun v xT w => run_typeAssert_lacksB Tryz.underlying180 (by kernel_rfl) (by kernel_rfl) v xT w
  have nU : ∀ (v : Value) (xT : TypeId) (w : World), (Instr.typeAssert (.iface 191 v) xT 183 true).run Tryz.prog w = .ok (.tuple #[.nilIface, .bool false]) w := fun v xT w => run_typeAssert_lacksB Tryz.underlying183 (by kernel_rfl) (by kernel_rfl) v xT w
  have nV : ∀ (v : Value) (xT : TypeId) (w : World), (Instr.typeAssert (.iface 191 v) xT 185 true).run Tryz.prog w = .ok (.tuple #[.nilIface, .bool false]) w := fun v xT w => run_typeAssert_lacksB Tryz.underlying185 (by kernel_rfl) (by kernel_rfl) v xT w
  have n8 := Tryz.eIsNilP ⟨w.heap.size, 0, none⟩ t ((w.alloc (.cells #[.pointer (some t)] 150)).alloc (.cells #[.pointer (some ⟨2, 150, none⟩), .pointer (some ⟨w.heap.size, 0, none⟩), .int .u64 150] 161)) (by simp)
  have hlt : 1 < w.heap.size := World.block_lt_of_cell? _ _ hg
  have hg2 : ((w.alloc (.cells #[.pointer (some t)] 150)).alloc (.cells #[.pointer (some ⟨2, 150, none⟩), .pointer (some ⟨w.heap.size, 0, none⟩), .int .u64 150] 161)).cell? ⟨1, 0, none⟩ = some (.iface 176 (.agg #[.pointer (some ⟨2, 72, none⟩)])) := by
    rw [World.cell?_alloc_lt _ _ ⟨1, 0, none⟩ (by simp; omega), World.cell?_alloc_lt _ _ ⟨1, 0, none⟩ hlt]; exact hg
  go_enter Tryz.func117, Tryz.ntmps117
  go_wp2
  refine wp_loop_rounds 1 ?_
  rw [rounds_succ]
  go_wp2
  go_ret
  exact ⟨rfl, below_on (below_on (below_alloc _ _) (below_alloc _ _)) (below_alloc _ _)⟩
def cmpE : Array Value → Sem Value := ReflectliteType.method fun t => do Rtype.noPackHeld "Comparable" t; pure (.bool (← typeInfo t).comparable)
theorem Tryz.eComparable (w : World) : (cmpE #[.agg #[.pointer (some ⟨2, 191, none⟩)]]).run Tryz.prog w = .ok (.bool true) w := by kernel_rfl
theorem Tryz.eMethodComparable (v : Value) (w : World) : (Go.method 325 176 v "Comparable").run Tryz.prog w = .ok (160, v) w := by kernel_rfl
theorem Tryz.eComp : (Tryz.prog.info? 191).map (·.comparable) = some true := by kernel_rfl
theorem Tryz.eSize : (Tryz.prog.info? 213).map (·.size) = some 1 := by kernel_rfl
theorem isSame (a : Addr) (w : World) :
    Calls Tryz.prog 118 #[.iface 191 (.pointer (some a)), .iface 191 (.pointer (some a))] w fun e w' => e = .returned (.bool true) ∧ w' = w := by
  obtain ⟨i, hi, hcmp⟩ := Option.map_eq_some_iff.1 Tryz.eComp
  obtain ⟨j, hj, hjs⟩ := Option.map_eq_some_iff.1 Tryz.eSize
  have h8 := @run_callFunc_extern Tryz.prog 130 _ Extern.ReflectliteType.typeOf Tryz.func130 (by kernel_rfl) (by kernel_rfl) (by kernel_rfl) (by kernel_rfl)
  have h32 := @run_callFunc_extern Tryz.prog 160 _ cmpE Tryz.func160 (by kernel_rfl) (by kernel_rfl) (by kernel_rfl) (by kernel_rfl)
  have tT := Tryz.eTypeOfY
  have cT := Tryz.eComparable
  have mR := Tryz.eMethodComparable
  have heq := run_eql_iface_ptr_same (P := Tryz.prog) w a Tryz.underlying72 Tryz.underlying191 hi hcmp hj
  go_enter Tryz.func118, Tryz.ntmps118
  go_wp2
  refine wp_loop_rounds 1 ?_
  rw [rounds_succ]
  go_wp2
  go_ret
  exact ⟨rfl, rfl⟩
theorem isNil (b : Addr) (w : World) :
    Calls Tryz.prog 118 #[.nilIface, .iface 191 (.pointer (some b))] w fun e w' => e = .returned (.bool false) ∧ w' = w := by
  have hn := run_eql_iface_nil_left (P := Tryz.prog) w 191 (.pointer (some b)) Tryz.underlying72
  go_enter Tryz.func118, Tryz.ntmps118
  go_wp2
  go_ret
  exact ⟨rfl, rfl⟩
theorem codeNil (w : World) (hg : Gl w) : Calls Tryz.prog 100 #[.nilIface] w fun e w' => e = .returned (.int .i64 0) ∧ Below w.heap.size w w' := by
  obtain ⟨⟨a, h1⟩, _⟩ := hg
  have hlt : 0 < w.heap.size := World.block_lt_of_cell? _ _ h1
  have h1' : (w.alloc (.cells #[.int .i64 0] 107)).cell? ⟨0, 0, none⟩ = some (.iface 191 (.pointer (some a))) := by
    rw [World.cell?_alloc_lt _ _ ⟨0, 0, none⟩ hlt]; exact h1
  go_enter Tryz.func100, Tryz.ntmps100
  go_wp2_with fail
  refine (asNil _ _).mono ?_
  rintro e w1 ⟨rfl, rfl⟩
  go_wp2_with fail
  refine (isNil _ _).mono ?_
  rintro e w1 ⟨rfl, rfl⟩
  go_wp2
  go_ret
  exact ⟨rfl, below_alloc _ _⟩
theorem codeOver (x : Int) (w : World) (hg : Gl w) : Calls Tryz.prog 100 #[.iface 107 (.agg #[.int .i64 x])] w fun e w' => e = .returned (.int .i64 6) ∧ Below w.heap.size w w' := by
  obtain ⟨⟨a, h1⟩, h2⟩ := hg
  have hlt : 1 < w.heap.size := World.block_lt_of_cell? _ _ h2
  have h2' : (w.alloc (.cells #[.int .i64 0] 107)).cell? ⟨1, 0, none⟩ = some (.iface 176 (.agg #[.pointer (some ⟨2, 72, none⟩)])) := by
    rw [World.cell?_alloc_lt _ _ ⟨1, 0, none⟩ hlt]; exact h2
  have HC := hide (asOver x ⟨w.heap.size, 0, none⟩ (.int .i64 0) (w.alloc (.cells #[.int .i64 0] 107)) h2' (by simp) (by simp))
  clear h1 h2 h2'
  go_enter Tryz.func100, Tryz.ntmps100
  go_wp2_with fail
  refine HC.out.mono ?_
  rintro e w1 ⟨rfl, hw⟩
  have hb : Below w.heap.size w w1 := by
    subst hw
    exact Below.setCell (below_on (below_on (below_on (below_on (below_alloc _ _) (below_alloc _ _)) (below_alloc _ _)) (below_alloc _ _)) (below_alloc _ _)) (by simp) _
  have HB := hide hb
  clear hb hw HC
  go_wp2
  go_ret
  exact ⟨rfl, HB.out⟩
theorem codeYet (a : Addr) (w : World) (hg : Gl w) (ha : w.cell? ⟨0, 0, none⟩ = some (.iface 191 (.pointer (some a)))) : Calls Tryz.prog 100 #[.iface 191 (.pointer (some a))] w fun e w' => e = .returned (.int .i64 4) ∧ Below w.heap.size w w' := by
  obtain ⟨_, h2⟩ := hg
  have hlt : 1 < w.heap.size := World.block_lt_of_cell? _ _ h2
  have h2' : (w.alloc (.cells #[.int .i64 0] 107)).cell? ⟨1, 0, none⟩ = some (.iface 176 (.agg #[.pointer (some ⟨2, 72, none⟩)])) := by
    rw [World.cell?_alloc_lt _ _ ⟨1, 0, none⟩ hlt]; exact h2
  have HC := hide (asYet a ⟨w.heap.size, 0, none⟩ (w.alloc (.cells #[.int .i64 0] 107)) h2')
  clear h2 h2'
  go_enter Tryz.func100, Tryz.ntmps100
  go_wp2_with fail
  refine HC.out.mono ?_
  rintro e w1 ⟨rfl, hb⟩
  have hb' := below_on (below_alloc w (.cells #[.int .i64 0] 107)) hb
  have h1' := cell_later hb' ha
  have HB := hide hb'
  clear hb hb' HC ha
  go_wp2_with fail
  refine (isSame _ _).mono ?_
  rintro e w2 ⟨rfl, hw⟩
  have hw := hw.symm
  subst hw
  go_wp2
  go_ret
  exact ⟨rfl, HB.out⟩
end Go.Proofs.YtlliggfggadidaaGreatDoor
namespace Go.Proofs.YtlliggfggadidaaGreatDoor
open Go.RowKit
theorem owns_shapeR {w : World} {B e s : Nat} {v : Value} {n : Nat} {xs : List Value} (h : w.ownsRow B e s v n xs) : ∃ ao c, v = .slice ao n c := by
  rcases h.2 with ⟨rfl, rfl⟩ | ⟨g, cap, cur, rfl, _⟩
  · exact ⟨_, _, rfl⟩
  · exact ⟨_, _, rfl⟩
theorem ownsRow_fullF (w : World) (cs : List Value) (e : TypeId) (hm : cs.length ≤ 1048576) : (w.alloc (.cells cs.toArray e)).ownsRow w.heap.size e 1 (.slice (some ⟨w.heap.size, 0, none⟩) cs.length cs.length) cs.length cs :=
  ⟨by simp, .inr ⟨w.heap.size, cs.length, cs.toArray, rfl, Nat.le_refl _, heap_alloc_new w _, Nat.le_refl _, by unfold maxLen; omega, by simp, by simp⟩⟩
theorem step_append_fi {P : Program} (w : World) {ops : Array Oper} {o : Oper} {a : Act} {K : Act → World → Prop} {Q : Exit → Act → World → Prop} {E : Prop} (hgd : o.guard = none) (s x : Operand) (t : TypeId)
    (ho : o.op = .call { callee := .builtin .append, args := #[s, x], argTypes := #[t, t] })
    (base : Nat) (e : TypeId) (i : TypeInfo) (z : Value) (size bytes : Nat) (ht : P.underlying t = some (.slice e)) (hi : P.info? e = some i) (hz : i.zero = some z)
    (hsize : i.size = size) (hby : i.bytes = bytes) (hzs : z.cells.size = size) (hsz : 0 < size)
    (v : Value) (n : Nat) (xs : List Value) (hs : a.eval s = v) (hown : w.ownsRow base e size v n xs)
    (ao : Option Addr) (m c : Nat) (news : List Value) (hx : a.eval x = .slice ao m c) (hl : news.length = m * size)
    (hnews : m ≠ 0 → ∃ ad, ao = some ad ∧ ∀ j u, news[j]? = some u → w.cell? (ad.add j) = some u) (h1 : ∀ u ∈ news, u.oneCell' = true)
    (h63 : n + m ≤ maxLen) (hbytes : (n + m) * bytes ≤ 140737488355328) (hbase : base ≤ w.heap.size)
    (h : ∀ v' w', w'.ownsRow base e size v' (n + m) (xs ++ news) → w.grownBy w' v.ownBlock → K (a.put o.dst v') w') :
    if Region.wanted o (yielded ops a.tmps) = true then Oper.wp P o a w K Q else E := by
  by_cases hm : m = 0
  · subst hm
    have hn : news = [] := List.eq_nil_of_length_eq_zero (by simpa using hl)
    subst hn
    have hw : Region.wanted o (yielded ops a.tmps) = true := by simp [Region.wanted, hgd]
    rw [if_pos hw]
    have hv : ∃ ad k, v = .slice ad n k ∧ n ≤ k := by
      rcases hown.2 with ⟨rfl, rfl⟩ | ⟨g, cap, cur, rfl, _, _, hnc, _⟩
      · exact ⟨_, _, rfl, Nat.le_refl _⟩
      · exact ⟨_, _, rfl, hnc⟩
    obtain ⟨ad, k, rfl, hk⟩ := hv
    have hrun := run_append_zero (P := P) w t o.type e i ht hi ad n k hk ao c
    have hh := h _ w (by simpa using hown) (World.grownBy.refl _ _)
    unfold Oper.wp execOp
    simp only [ho, resolve, invoke, builtin, Sem.run_bind, Sem.run_pure, Result.andThen_ok, List.map_toArray, List.map_cons, List.map_nil, hs, hx, hrun]
    exact hh
  · obtain ⟨ad, rfl, hc⟩ := hnews hm
    exact step_append_lies w hgd s x t ho base e i z size bytes ht hi hz hsize hby hzs hsz v n xs hs hown ad m c news hx hl hc h1 (by omega) h63 hbytes hbase _ rfl (fun g cap w' h2 h3 _ _ => h _ w' h2 h3)
end Go.Proofs.YtlliggfggadidaaGreatDoor
namespace Go.Proofs.YtlliggfggadidaaGreatDoor
open Go.RowKit
def trmL (r : Rf) : List Int := r.st :: r.lg.map fun p => p.2.1
theorem trm_take {ps : List Oj} {k : Nat} (h : k < ps.length) : (ps.take (k + 1)).map (fun p => p.2.1) = (ps.take k).map (fun p => p.2.1) ++ [(ps.getD k oj0).2.1] := by
  rw [List.take_succ_eq_append_getElem h, List.map_append]
  simp [List.getD, h]
set_option maxHeartbeats 4000000 in
set_option maxRecDepth 4000 in
theorem termsOfI {S T : Nat → Prop} {w : World} {y z : Value} (r : Rf) (hy : RdI S w y r.sn) (hz : RdJ T w z r.lg) (hm : r.lg.length ≤ 14) :
    Calls Tryz.prog 108 #[.agg #[.int .i64 r.tm, .int .i64 r.vt, .int .i64 r.si, .int .i64 r.st, y, z]] w fun e w' => ∃ u, e = .returned (.agg #[.int .i64 r.si, u]) ∧ Below w.heap.size w w' ∧ RdI (fun _ => True) w' u (trmL r) := by
  obtain ⟨ay, cy, rfl⟩ := hy.shape
  obtain ⟨az, cz, rfl, _⟩ := hz.shape
  have HZ := hide hz
  have HT : Hid (trmL r = r.st :: r.lg.map fun p => p.2.1) := rfl
  rw [HT.out]
  clear hy hz HT
  obtain ⟨l, hl⟩ : ∃ l, r.sn.length = l := ⟨_, rfl⟩
  obtain ⟨m, hme⟩ : ∃ m, r.lg.length = m := ⟨_, rfl⟩
  have HME := hide hme
  rw [hl]
  rw [hme] at HZ hm ⊢
  clear hl hme
  obtain ⟨ps, hps⟩ : ∃ ps, r.lg = ps := ⟨_, rfl⟩
  rw [hps] at HZ HME ⊢
  clear hps
  generalize r.tm = a at *
  generalize r.vt = b at *
  generalize r.si = c at *
  generalize r.st = d at *
  obtain ⟨i0, hi, hz0, hz1, hz2⟩ := info_parts Tryz.infoInt
  obtain ⟨W2, hW2⟩ : ∃ W2, (w.alloc (.cells #[.int .i64 a, .int .i64 b, .int .i64 c, .int .i64 d, .slice ay l cy, .slice az m cz] 27)).alloc (.cells #[.int .i64 0, .slice none 0 0] 140) = W2 := ⟨_, rfl⟩
  have hs2 : W2.heap.size = w.heap.size + 2 := by rw [← hW2]; simp
  have c2 : W2.cell? ⟨w.heap.size, 2, none⟩ = some (.int .i64 c) := by rw [← hW2]; simp [go_sem]
  have c3 : W2.cell? ⟨w.heap.size, 3, none⟩ = some (.int .i64 d) := by rw [← hW2]; simp [go_sem]
  have c5 : W2.cell? ⟨w.heap.size, 5, none⟩ = some (.slice az m cz) := by rw [← hW2]; simp [go_sem]
  have r0 : W2.cell? ⟨w.heap.size + 1, 0, none⟩ = some (.int .i64 0) := by rw [← hW2]; simp [go_sem]
  have r1 : W2.cell? ⟨w.heap.size + 1, 1, none⟩ = some (.slice none 0 0) := by rw [← hW2]; simp [go_sem]
  have f0 : W2.frozen? ⟨w.heap.size + 1, 0, none⟩ = false := by rw [← hW2]; simp [go_sem]
  have f1 : W2.frozen? ⟨w.heap.size + 1, 1, none⟩ = false := by rw [← hW2]; simp [go_sem]
  have BW := hide (show Below w.heap.size w W2 by rw [← hW2]; exact below_on (below_alloc _ _) (below_alloc _ _))
  have HW2 := hide hW2
  have HR0 := hide r0
  have HR1 := hide r1
  have HC2 := hide c2
  have HF0 := hide f0
  have HF1 := hide f1
  have HS2 := hide hs2
  go_enter Tryz.func108, Tryz.ntmps108
  go_wp2_with fail
  clear hW2 hs2
  have HRow0 : Hid ((W2.alloc (.cells #[.int .i64 d] 2)).ownsRow W2.heap.size 2 1 (.slice (some ⟨w.heap.size + 2, 0, none⟩) 1 1) 1 ([d].map (Value.int .i64))) := by rw [Hid, ← HS2.out]; exact ownsRow_fullF W2 [.int .i64 d] 2 (by simp)
  go_loopw [3, 12] (fun v i wr => ∃ k : Nat, k ≤ m ∧ i = .int .i64 k ∧ Hid (wr.ownsRow W2.heap.size 2 1 v (k + 1) ((d :: (ps.take k).map fun p => p.2.1).map (Value.int .i64))) ∧ Hid (Below W2.heap.size W2 wr)) (fun _ i _ => m - (RowKit.intOf i).toNat)
  case atStart => exact ⟨0, Nat.zero_le _, rfl, by simpa [Hid] using HRow0.out, below_alloc _ _⟩
  case round =>
    obtain ⟨k, hk, rfl, HRow, HB⟩ := hrel
    by_cases hlt : k < m
    · obtain ⟨bb, off, rfl, y0, q0, q1, q2, q3⟩ := HZ.out.file (k := k) (by rw [HME.out]; exact hlt)
      have hk0 : (0 : Int) ≤ (k : Int) := by omega
      have hk1 : (k : Int) < (m : Int) := by omega
      have HSn := hide (trm_take (ps := ps) (k := k) (by rw [HME.out]; exact hlt))
      obtain ⟨x, hx⟩ : ∃ x, ps.getD k oj0 = x := ⟨_, rfl⟩
      rw [hx] at q0 q1 q3 HSn
      clear hx
      obtain ⟨e0, t0, xs0⟩ := x
      dsimp only at q0 q1 q3 HSn
      obtain ⟨a3, c3', rfl⟩ := q3.shape
      have g0 := cell_later HB.out (cell_later BW.out q0)
      have g1 := cell_later HB.out (cell_later BW.out q1)
      have g2 := cell_later HB.out (cell_later BW.out q2)
      generalize xs0.length = l0 at g2
      have hbl := World.block_lt_of_cell? _ _ g0
      have hzz := HB.out.size
      clear q0 q1 q2 q3
      obtain ⟨P, hP⟩ : ∃ P, (ps.take k).map (fun p => p.2.1) = P := ⟨_, rfl⟩
      rw [hP] at HRow HSn
      clear hP
      go_wp2_with (at_builtin; refine wpList_append_lies _ rfl _ _ _ rfl W2.heap.size 2 i0 (.int .i64 0) 1 8 Tryz.underlying24 hi hz0 hz1 hz2 rfl (by omega) _ (k + 1) _ (by rfl) ((HRow.out.alloc (.cells #[.int .i64 e0, .int .i64 t0, .slice a3 l0 c3'] 58)).alloc (.cells #[.int .i64 t0] 2)) ⟨wr.heap.size + 1, 0, none⟩ 1 1 [.int .i64 t0] (by rfl) (by rfl) (World.news_of_block (cs := #[.int .i64 t0]) (t := 2) (fr := (0, 0)) (by have h := heap_alloc_new (wr.alloc (.cells #[.int .i64 e0, .int .i64 t0, .slice a3 l0 c3'] 58)) (.cells #[.int .i64 t0] 2); simpa using h)) (by simp [Value.oneCell']) (by omega) (by unfold maxLen; omega) (by omega) (by simp; omega) (wr.heap.size + 1 + 1) (by simp) ?_; intro g cap w4 hown3 hgrow hat hlt3)
      have HRow4 : Hid (w4.ownsRow W2.heap.size 2 1 (.slice (some ⟨g, 0, none⟩) (k + 1 + 1) cap) (k + 1 + 1) ((d :: (ps.take (k + 1)).map fun p => p.2.1).map (Value.int .i64))) := by
        rw [Hid, HSn.out]
        simpa using hown3
      have HB4 := hide ((below_on (below_on HB.out (below_alloc wr (.cells #[.int .i64 e0, .int .i64 t0, .slice a3 l0 c3'] 58))) (below_alloc _ (.cells #[.int .i64 t0] 2))).grown hgrow (by simp; omega) (fun r hr => (HRow.out.lt r hr).1))
      clear hown3 hgrow hat hlt3
      go_wp2
      go_roundw
      case rel => exact ⟨k + 1, by omega, by go_num, HRow4.out, HB4.out⟩
      case measure => simp [RowKit.intOf]; omega
    · have hkm : k = m := by omega
      subst hkm
      have hk1 : ¬ (k : Int) < (k : Int) := by omega
      have c2 := cell_later HB.out HC2.out
      have r0 := cell_later HB.out HR0.out
      have r1 := cell_later HB.out HR1.out
      have hs2 := HS2.out
      have f0 := ((bcell HB.out).2 _ _ (by omega)).trans HF0.out
      have f1 := ((bcell HB.out).2 _ _ (by omega)).trans HF1.out
      have ho := ow_of_owns (xs := d :: ps.map fun p => p.2.1) (n := k + 1) (by simp [HME.out]) (by have h := HRow.out; rw [List.take_of_length_le (by rw [HME.out]; omega)] at h; exact h) (by simp [HME.out]; omega)
      obtain ⟨au, cu, rfl⟩ := ho.shape
      have HFn := hide (ret_ints (x := .int .i64 c) (below_on BW.out HB.out) (Nat.le_succ w.heap.size) ho (by omega))
      clear hs2
      obtain ⟨lu, hlu⟩ : ∃ l, (d :: ps.map fun p => p.2.1).length = l := ⟨_, rfl⟩
      rw [hlu] at HFn ⊢
      clear ho hlu HRow
      go_wp2
      refine bodyPost_ret (v := .agg #[.int .i64 c, .slice au lu cu]) (by simp [results, Tryz.results108, go_sem, r0, r1]) rfl ⟨_, rfl, HFn.out.1, HFn.out.2.rd.narrow fun _ _ _ => trivial⟩
end Go.Proofs.YtlliggfggadidaaGreatDoor
