/- Ra4 Er in one text: what each says stands at its head below. -/
import Derived.Test.YtncgpfapepminaaDoorG12
import Derived.Test.YtncgpfapepminaaDoorG04
import Derived.LaidEql
import Derived.Stop.Asserts
import Derived.RowKitTokens
/- Chapter 10: the fault of a store, of the program, walked. Made by program (genra4.py). -/
namespace Go.Proofs.YtncgpfapepminaaDoor
open Go.RowKit

set_option maxHeartbeats 4000000 in
set_option maxRecDepth 4000 in
theorem implRaftFault {S T : Nat → Prop} {w : World} {y z : Value} (r : Rf) (hy : RdI S w y r.sn) (hz : RdJ T w z r.lg) :
    Calls Tryd.prog 10 #[.agg #[.int .i64 r.tm, .int .i64 r.vt, .int .i64 r.si, .int .i64 r.st, y, z]] w fun e w' => e = .returned (.int .i64 (rfF r)) ∧ Below w.heap.size w w' := by
  obtain ⟨ay, cy, rfl⟩ := hy.shape
  obtain ⟨az, cz, rfl, _⟩ := hz.shape
  have hym := hy.maxR
  have hlk := gon_link r
  have hrg : rgR r ↔ ((0 ≤ r.tm ∧ r.tm ≤ 999) ∧ (0 ≤ r.vt ∧ r.vt ≤ 9)) ∧ (0 ≤ r.si ∧ r.si ≤ 9999) ∧ 0 ≤ r.st ∧ r.st ≤ r.tm := Iff.rfl
  have hfm : fmR r ↔ ((r.si = 0 ↔ r.st = 0) ∧ (r.si = 0 → r.sn.length = 0)) := by unfold fmR; simp only [List.length_eq_zero_iff]
  have HF := hide (@rfF_range r)
  have HF1 := hide (@rfF_data r)
  have HF2 := hide (@rfF_form r)
  have HF3 := hide (@rfF_log r)
  have HF4 := hide (@rfF_link r)
  have HF5 := hide (@rfF_ok r)
  obtain ⟨Z, hZ⟩ : ∃ Z, rfF r = Z := ⟨_, rfl⟩
  rw [hZ] at HF HF1 HF2 HF3 HF4 HF5 ⊢
  have H3 := hide (fun (w' : World) (hb : Below w.heap.size w w') => snapFaultI (hy.later hb))
  have H5 := hide (fun (w' : World) (hb : Below w.heap.size w w') => implLogFault (hz.later hb))
  have H6 := hide (fun (w' : World) (hb : Below w.heap.size w w') (h : logF r.lg = 0) => goesOnB r.si r.st r.tm (hz.later hb) (fun hne => (entF_zero ((logF_iff.1 h).2.1 0 (List.length_pos_iff.2 hne))).1.1))
  have HRG := hide hrg
  have HFM := hide hfm
  have HLK := hide hlk
  obtain ⟨l, hl⟩ : ∃ l, r.sn.length = l := ⟨_, rfl⟩
  obtain ⟨m, hm⟩ : ∃ m, r.lg.length = m := ⟨_, rfl⟩
  rw [hl] at H3 HFM hym ⊢
  rw [hm] at H5 H6 ⊢
  obtain ⟨D, hD⟩ : ∃ D, daF r.sn = D := ⟨_, rfl⟩
  obtain ⟨G, hG⟩ : ∃ G, logF r.lg = G := ⟨_, rfl⟩
  rw [hD] at H3 HF1 HF2 HF3 HF4 HF5
  rw [hG] at H5 H6 HF3 HF4 HF5
  clear hy hz hlk hrg hfm hZ hl hm hD hG
  generalize r.tm = a at *
  generalize r.vt = b at *
  generalize r.si = c at *
  generalize r.st = d at *
  have H1 := hide (isHardB a b)
  have H2 := hide (isSnapRangeB a b c d ay az l m cy cz)
  have H4 := hide (isSnapWholeB a b c d ay az l m cy cz hym)
  obtain ⟨B1, hB1⟩ : ∃ B, decide ((0 ≤ a ∧ a ≤ 999) ∧ (0 ≤ b ∧ b ≤ 9)) = B := ⟨_, rfl⟩
  obtain ⟨B2, hB2⟩ : ∃ B, decide ((0 ≤ c ∧ c ≤ 9999) ∧ 0 ≤ d ∧ d ≤ a) = B := ⟨_, rfl⟩
  obtain ⟨B4, hB4⟩ : ∃ B, decide ((c = 0 ↔ d = 0) ∧ (c = 0 → l = 0)) = B := ⟨_, rfl⟩
  obtain ⟨B6, hB6⟩ : ∃ B, decide (gon r.lg c d a) = B := ⟨_, rfl⟩
  rw [hB1] at H1
  rw [hB2] at H2
  rw [hB4] at H4
  rw [hB6] at H6
  have K1 := hide hB1
  have K2 := hide hB2
  have K4 := hide hB4
  have K6 := hide hB6
  clear hB1 hB2 hB4 hB6
  have BA := hide (below_alloc w (.cells #[.int .i64 a, .int .i64 b, .int .i64 c, .int .i64 d, .slice ay l cy, .slice az m cz] 27))
  have VA := hide (Var6_new w (.int .i64 a) (.int .i64 b) (.int .i64 c) (.int .i64 d) (.slice ay l cy) (.slice az m cz) 27)
  go_enter Tryd.func10, Tryd.ntmps10
  go_wp2_with fail
  refine (H1.out _).mono ?_
  rintro e w1 ⟨rfl, hw1⟩
  have hw1 := hw1.symm
  subst hw1
  cases B1
  · have HZ : Hid ((3 : Int) = Z) := (HF.out (fun h => by have := of_decide_eq_false K1.out; exact this (HRG.out.1 h).1)).symm
    go_wp2
    go_ret
    exact ⟨ret_int HZ.out, BA.out⟩
  · go_wp2_with fail
    refine (H2.out _).mono ?_
    rintro e w2 ⟨rfl, hb⟩
    have BA2 := hide (below_on BA.out hb)
    have VA2 := hide (VA.out.later hb)
    clear hb
    cases B2
    · have HZ : Hid ((3 : Int) = Z) := (HF.out (fun h => by have := of_decide_eq_false K2.out; exact this (HRG.out.1 h).2)).symm
      go_wp2
      go_ret
      exact ⟨ret_int HZ.out, BA2.out⟩
    · have KR : Hid (rgR r) := HRG.out.2 ⟨of_decide_eq_true K1.out, of_decide_eq_true K2.out⟩
      obtain ⟨c0, c1, c2, c3, c4, c5⟩ := VA2.out
      go_wp2_with fail
      refine (H3.out _ BA2.out).mono ?_
      rintro e w3 ⟨rfl, q, rfl⟩
      by_cases hD : D = 0
      · subst hD
        go_wp2_with fail
        refine (H4.out _).mono ?_
        rintro e w4 ⟨rfl, hb⟩
        have BA4 := hide (below_on (below_on BA2.out (below_drewN _ q)) hb)
        have VA4 := hide ((VA2.out.later (below_drewN _ q)).later hb)
        clear hb c0 c1 c2 c3 c4 c5
        cases B4
        · have HZ : Hid ((1 : Int) = Z) := (HF2.out KR.out (by first | trivial | rfl) (fun h => by have := of_decide_eq_false K4.out; exact this (HFM.out.1 h))).symm
          go_wp2
          go_ret
          exact ⟨ret_int HZ.out, BA4.out⟩
        · have KF : Hid (fmR r) := HFM.out.2 (of_decide_eq_true K4.out)
          obtain ⟨c0, c1, c2, c3, c4, c5⟩ := VA4.out
          go_wp2_with fail
          refine (H5.out _ BA4.out).mono ?_
          rintro e w5 ⟨rfl, hb⟩
          have BA5 := hide (below_on BA4.out hb)
          have VA5 := hide (VA4.out.later hb)
          clear hb c0 c1 c2 c3 c4 c5
          by_cases hG : G = 0
          · subst hG
            obtain ⟨c0, c1, c2, c3, c4, c5⟩ := VA5.out
            go_wp2_with fail
            refine (H6.out _ BA5.out (by first | trivial | rfl)).mono ?_
            rintro e w6 ⟨rfl, hb⟩
            have BA6 := hide (below_on BA5.out hb)
            clear hb c0 c1 c2 c3 c4 c5
            cases B6
            · have HZ : Hid ((1 : Int) = Z) := (HF4.out KR.out (by first | trivial | rfl) KF.out (by first | trivial | rfl) (fun h => by have := of_decide_eq_false K6.out; exact this (HLK.out.2 h))).symm
              go_wp2
              go_ret
              exact ⟨ret_int HZ.out, BA6.out⟩
            · have HZ : Hid ((0 : Int) = Z) := (HF5.out KR.out (by first | trivial | rfl) KF.out (by first | trivial | rfl) (HLK.out.1 (of_decide_eq_true K6.out))).symm
              go_wp2
              go_ret
              exact ⟨ret_int HZ.out, BA6.out⟩
          · have HZ : Hid (G = Z) := (HF3.out KR.out (by first | trivial | rfl) KF.out hG).symm
            have hG' : (G == 0) = false := by simpa using hG
            go_wp2
            go_ret
            exact ⟨ret_int HZ.out, BA5.out⟩
      · have HZ : Hid (D = Z) := (HF1.out KR.out hD).symm
        have hD' : (D == 0) = false := by simpa using hD
        go_wp2
        go_ret
        exact ⟨ret_int HZ.out, below_on BA2.out (below_drewN _ q)⟩
end Go.Proofs.YtncgpfapepminaaDoor
/- Chapter 10: errors.As and errors.Is at what the program hands them: no error, what is over, what is not there yet. -/
namespace Go.Proofs.YtncgpfapepminaaDoor
open Go.RowKit Go.Extern.Stop Go.Stop Go.Extern

/-- What the two package variables hold: the error of what is not there yet, the type of errors. -/
def Gl (w : World) : Prop := (∃ a, w.cell? ⟨0, 0, none⟩ = some (.iface 148 (.pointer (some a)))) ∧ w.cell? ⟨1, 0, none⟩ = some (.iface 133 (.agg #[.pointer (some ⟨2, 59, none⟩)]))
theorem Gl.later {w w' : World} (h : Gl w) (hb : Below w.heap.size w w') : Gl w' := by
  obtain ⟨⟨a, h1⟩, h2⟩ := h
  exact ⟨⟨a, cell_later hb h1⟩, cell_later hb h2⟩

theorem Tryd.eValueOfP (t : Addr) (w : World) : (ReflectliteValue.unpack (.iface 106 (.pointer (some t)))).run Tryd.prog w
    = .ok (.agg #[.pointer (some ⟨2, 106, none⟩), .pointer (some ⟨w.heap.size, 0, none⟩), .int .u64 150]) (w.alloc (.cells #[.pointer (some t)] 106)) := by kernel_rfl
theorem Tryd.eTypeP (a : Addr) (w : World) : (ReflectliteValue.methodAny (ReflectliteValue.valueError "reflectlite.Value.Type" 0) (fun t _ _ _ => ReflectliteType.toType t) #[.agg #[.pointer (some ⟨2, 106, none⟩), .pointer (some a), .int .u64 150]]).run Tryd.prog w
    = .ok (.iface 133 (.agg #[.pointer (some ⟨2, 106, none⟩)])) w := by kernel_rfl
theorem Tryd.eMethodKind (h : Value) (w : World) : (Go.method 283 133 (.agg #[h]) "Kind").run Tryd.prog w = .ok (110, h) w := by kernel_rfl
theorem Tryd.eKindP (w : World) : ((ReflectliteType.abiMethod fun t => (fun a : Nat => Value.int IntKind.u8 (a : Int)) <$> Rtype.kind t) #[.pointer (some ⟨2, 106, none⟩)]).run Tryd.prog w = .ok (.int .u8 22) w := by kernel_rfl
theorem Tryd.eKindS (w : World) : ((ReflectliteType.abiMethod fun t => (fun a : Nat => Value.int IntKind.u8 (a : Int)) <$> Rtype.kind t) #[.pointer (some ⟨2, 104, none⟩)]).run Tryd.prog w = .ok (.int .u8 25) w := by kernel_rfl
theorem rlmE (z : Sem Value) (f : TypeId → Addr → Nat → Nat → Sem Value) (v : Value) :
    ReflectliteValue.method z f #[v] = (do match ← ReflectliteValue.parts v with | none => z | some (t, a, fl) => f t a fl (fl % 32)) := rfl
theorem Tryd.ePartsP (a : Addr) (w : World) : (ReflectliteValue.parts (.agg #[.pointer (some ⟨2, 106, none⟩), .pointer (some a), .int .u64 150])).run Tryd.prog w = .ok (some (106, a, 150)) w := by kernel_rfl
theorem Tryd.eIsNilP (a p : Addr) (W : World) (ha : W.cell? a = some (.pointer (some p))) :
    (ReflectliteValue.method (ReflectliteValue.valueError "reflectlite.Value.IsNil" 0) ReflectliteValue.isNil #[.agg #[.pointer (some ⟨2, 106, none⟩), .pointer (some a), .int .u64 150]]).run Tryd.prog W = .ok (.bool false) W := by
  rw [rlmE]
  simp only [Sem.run_bind, Tryd.ePartsP, Result.andThen]
  simp [ReflectliteValue.isNil, loadVar, isAgg, underlying, Tryd.underlying106, ha, Result.andThen]
theorem Tryd.eMethodElem (h : Value) (w : World) : (Go.method 283 133 (.agg #[h]) "Elem").run Tryd.prog w = .ok (122, .agg #[h]) w := by kernel_rfl
theorem Tryd.eMethodImplements (h : Value) (w : World) : (Go.method 283 133 (.agg #[h]) "Implements").run Tryd.prog w = .ok (123, .agg #[h]) w := by kernel_rfl
theorem Tryd.eMethodAssignableTo (h : Value) (w : World) : (Go.method 283 133 (.agg #[h]) "AssignableTo").run Tryd.prog w = .ok (120, .agg #[h]) w := by kernel_rfl
theorem Tryd.eElemP (w : World) : (ReflectliteType.method ReflectliteType.elem #[.agg #[.pointer (some ⟨2, 106, none⟩)]]).run Tryd.prog w = .ok (.iface 133 (.agg #[.pointer (some ⟨2, 104, none⟩)])) w := by kernel_rfl
theorem Tryd.eImplementsS (w : World) : (ReflectliteType.relation "Implements" ReflectliteType.implements_ #[.agg #[.pointer (some ⟨2, 104, none⟩)], .iface 133 (.agg #[.pointer (some ⟨2, 59, none⟩)])]).run Tryd.prog w = .ok (.bool true) w := by kernel_rfl
theorem Tryd.eTypeOfS (v : Value) (w : World) : (ReflectliteType.typeOf #[.iface 104 v]).run Tryd.prog w = .ok (.iface 133 (.agg #[.pointer (some ⟨2, 104, none⟩)])) w := by kernel_rfl
theorem Tryd.eTypeOfY (v : Value) (w : World) : (ReflectliteType.typeOf #[.iface 148 v]).run Tryd.prog w = .ok (.iface 133 (.agg #[.pointer (some ⟨2, 148, none⟩)])) w := by kernel_rfl
theorem Tryd.eAssignS (w : World) : (ReflectliteType.relation "AssignableTo" ReflectliteType.assignableTo #[.agg #[.pointer (some ⟨2, 104, none⟩)], .iface 133 (.agg #[.pointer (some ⟨2, 104, none⟩)])]).run Tryd.prog w = .ok (.bool true) w := by kernel_rfl
theorem Tryd.eAssignY (w : World) : (ReflectliteType.relation "AssignableTo" ReflectliteType.assignableTo #[.agg #[.pointer (some ⟨2, 148, none⟩)], .iface 133 (.agg #[.pointer (some ⟨2, 104, none⟩)])]).run Tryd.prog w = .ok (.bool false) w := by kernel_rfl
theorem Tryd.eValueOfS (x : Int) (w : World) : (ReflectliteValue.unpack (.iface 104 (.agg #[.int .i64 x]))).run Tryd.prog w
    = .ok (.agg #[.pointer (some ⟨2, 104, none⟩), .pointer (some ⟨w.heap.size, 0, none⟩), .int .u64 153]) (w.alloc (.cells #[.int .i64 x] 104)) := by kernel_rfl
theorem Tryd.eElemOfP (w : World) : (Rtype.elem? 106).run Tryd.prog w = .ok (some 104) w := by kernel_rfl
theorem Tryd.eMkS (p : Addr) (w : World) : (ReflectliteValue.mk 104 p ReflectliteValue.flagAddr).run Tryd.prog w = .ok (.agg #[.pointer (some ⟨2, 104, none⟩), .pointer (some p), .int .u64 409]) w := by kernel_rfl
theorem Tryd.eElemVP (a p : Addr) (W : World) (ha : W.cell? a = some (.pointer (some p))) :
    (ReflectliteValue.method (ReflectliteValue.valueError "reflectlite.Value.Elem" 0) ReflectliteValue.elem #[.agg #[.pointer (some ⟨2, 106, none⟩), .pointer (some a), .int .u64 150]]).run Tryd.prog W
      = .ok (.agg #[.pointer (some ⟨2, 104, none⟩), .pointer (some p), .int .u64 409]) W := by
  rw [rlmE]
  simp only [Sem.run_bind, Tryd.ePartsP, Result.andThen]
  simp [ReflectliteValue.elem, loadVar, isAgg, underlying, Tryd.underlying106, ha, Result.andThen, Tryd.eElemOfP, Tryd.eMkS]
theorem Tryd.ePartsSa (a : Addr) (w : World) : (ReflectliteValue.parts (.agg #[.pointer (some ⟨2, 104, none⟩), .pointer (some a), .int .u64 409])).run Tryd.prog w = .ok (some (104, a, 409)) w := by kernel_rfl
theorem Tryd.ePartsS (a : Addr) (w : World) : (ReflectliteValue.parts (.agg #[.pointer (some ⟨2, 104, none⟩), .pointer (some a), .int .u64 153])).run Tryd.prog w = .ok (some (104, a, 153)) w := by kernel_rfl
theorem Tryd.eDirectS (w : World) : (Rtype.directlyAssignable 104 104).run Tryd.prog w = .ok true w := by kernel_rfl
theorem Tryd.eSizeS (w : World) : (sizeOf 104).run Tryd.prog w = .ok 1 w := by kernel_rfl
set_option linter.unusedSimpArgs false in
theorem Tryd.eLoadS (b : Addr) (x : Int) (W : World) (hb : W.cell? b = some (.int .i64 x)) : (loadVar 104 b).run Tryd.prog W = .ok (.agg #[.int .i64 x]) W := by
  have hb' : W.cell? (b.add 0) = some (.int .i64 x) := by simpa [Addr.add] using hb
  simp [loadVar, isAgg, underlying, Tryd.underlying104, loadCells, loadCellsFrom, hb, hb', Result.andThen, Addr.add, Tryd.eSizeS]
set_option linter.unusedSimpArgs false in
theorem Tryd.eStoreS (ta : Addr) (x : Int) (old : Value) (W : World) (ht : W.cell? ta = some old) (hf : W.frozen? ta = false) : (storeVar 104 ta (.agg #[.int .i64 x])).run Tryd.prog W = .ok () (W.setCell ta (.int .i64 x)) := by
  have ht' : W.cell? (ta.add 0) = some old := by simpa [Addr.add] using ht
  simp [storeVar, Value.cells, storeCells, Addr.add, Tryd.eSizeS, isAgg, underlying, Tryd.underlying104, Result.andThen]
  first | (rw [run_store Tryd.prog W ta _ _ (by rfl)]; simp [ht, hf]) | skip
set_option linter.unusedSimpArgs false in
theorem Tryd.eSetS (ta b : Addr) (x : Int) (old : Value) (W : World) (hb : W.cell? b = some (.int .i64 x)) (ht : W.cell? ta = some old) (hf : W.frozen? ta = false) :
    (ReflectliteValue.set #[.agg #[.pointer (some ⟨2, 104, none⟩), .pointer (some ta), .int .u64 409], .agg #[.pointer (some ⟨2, 104, none⟩), .pointer (some b), .int .u64 153]]).run Tryd.prog W
      = .ok (.tuple #[]) (W.setCell ta (.int .i64 x)) := by
  show Sem.run Tryd.prog (ReflectliteValue.parts (.agg #[.pointer (some ⟨2, 104, none⟩), .pointer (some ta), .int .u64 409]) >>= _) W = _
  rw [Sem.run_bind, Tryd.ePartsSa]
  simp only [Result.andThen]
  show Sem.run Tryd.prog (ReflectliteValue.parts (.agg #[.pointer (some ⟨2, 104, none⟩), .pointer (some b), .int .u64 153]) >>= _) W = _
  rw [Sem.run_bind, Tryd.ePartsS]
  simp only [Result.andThen]
  simp [ReflectliteValue.flagAddr, Tryd.eLoadS b x W hb, Result.andThen, Tryd.eDirectS, Tryd.eStoreS ta x old W ht hf]
end Go.Proofs.YtncgpfapepminaaDoor
