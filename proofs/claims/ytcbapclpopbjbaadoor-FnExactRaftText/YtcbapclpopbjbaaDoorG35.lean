/- Ra4 Open OpenP in one text: what each says stands at its head below. -/
import Derived.Test.YtcbapclpopbjbaaDoorG24
import Derived.Test.YtcbapclpopbjbaaDoorG01
import Derived.ProofKit
import Derived.Lib.SmallJoins
import Derived.Deep.SlicePairs
/- Chapter 10: the fault of a store, of the program, walked. Made by program (genra4.py). -/
namespace Go.Proofs.YtcbapclpopbjbaaDoor
open Go.RowKit

set_option maxHeartbeats 4000000 in
set_option maxRecDepth 4000 in
theorem implRaftFault {S T : Nat → Prop} {w : World} {y z : Value} (r : Rf) (hy : RdI S w y r.sn) (hz : RdJ T w z r.lg) :
    Calls Tryd.prog 41 #[.agg #[.int .i64 r.tm, .int .i64 r.vt, .int .i64 r.si, .int .i64 r.st, y, z]] w fun e w' => e = .returned (.int .i64 (rfF r)) ∧ Below w.heap.size w w' := by
  obtain ⟨ay, cy, rfl⟩ := hy.shape
  obtain ⟨az, cz, rfl, _⟩ := hz.shape
  have hym := hy.maxR
  have hlk := gon_link r
  have hrg : rgR r ↔ ((0 ≤ r.tm ∧ r.tm ≤ 999) ∧ (0 ≤ r.vt ∧ r.vt ≤ 9)) ∧ (0 ≤ r.si ∧ r.si ≤ 9999) ∧ 0 ≤ r.st ∧ r.st ≤ r.tm := Iff.rfl
  have hfm : fmR r ↔ ((r.si = 0 ↔ r.st = 0) ∧ (r.si = 0 → r.sn.length = 0)) := by unfold fmR; simp only [List.length_eq_zero_iff]
  have HF := hide (@rfF_range r)
  have HF1 := hide (@rfF_data r)
  have HF2 := hide (@rfF_form r)
  have HF3 := hide (@rfF_log r)
  have HF4 := hide (@rfF_link r)
  have HF5 := hide (@rfF_ok r)
  obtain ⟨Z, hZ⟩ : ∃ Z, rfF r = Z := ⟨_, rfl⟩
  rw [hZ] at HF HF1 HF2 HF3 HF4 HF5 ⊢
  have H3 := hide (fun (w' : World) (hb : Below w.heap.size w w') => snapFaultI (hy.later hb))
  have H5 := hide (fun (w' : World) (hb : Below w.heap.size w w') => implLogFault (hz.later hb))
  have H6 := hide (fun (w' : World) (hb : Below w.heap.size w w') (h : logF r.lg = 0) => goesOnB r.si r.st r.tm (hz.later hb) (fun hne => (entF_zero ((logF_iff.1 h).2.1 0 (List.length_pos_iff.2 hne))).1.1))
  have HRG := hide hrg
  have HFM := hide hfm
  have HLK := hide hlk
  obtain ⟨l, hl⟩ : ∃ l, r.sn.length = l := ⟨_, rfl⟩
  obtain ⟨m, hm⟩ : ∃ m, r.lg.length = m := ⟨_, rfl⟩
  rw [hl] at H3 HFM hym ⊢
  rw [hm] at H5 H6 ⊢
  obtain ⟨D, hD⟩ : ∃ D, daF r.sn = D := ⟨_, rfl⟩
  obtain ⟨G, hG⟩ : ∃ G, logF r.lg = G := ⟨_, rfl⟩
  rw [hD] at H3 HF1 HF2 HF3 HF4 HF5
  rw [hG] at H5 H6 HF3 HF4 HF5
  clear hy hz hlk hrg hfm hZ hl hm hD hG
  generalize r.tm = a at *
  generalize r.vt = b at *
  generalize r.si = c at *
  generalize r.st = d at *
  have H1 := hide (isHardB a b)
  have H2 := hide (isSnapRangeB a b c d ay az l m cy cz)
  have H4 := hide (isSnapWholeB a b c d ay az l m cy cz hym)
  obtain ⟨B1, hB1⟩ : ∃ B, decide ((0 ≤ a ∧ a ≤ 999) ∧ (0 ≤ b ∧ b ≤ 9)) = B := ⟨_, rfl⟩
  obtain ⟨B2, hB2⟩ : ∃ B, decide ((0 ≤ c ∧ c ≤ 9999) ∧ 0 ≤ d ∧ d ≤ a) = B := ⟨_, rfl⟩
  obtain ⟨B4, hB4⟩ : ∃ B, decide ((c = 0 ↔ d = 0) ∧ (c = 0 → l = 0)) = B := ⟨_, rfl⟩
  obtain ⟨B6, hB6⟩ : ∃ B, decide (gon r.lg c d a) = B := ⟨_, rfl⟩
  rw [hB1] at H1
  rw [hB2] at H2
  rw [hB4] at H4
  rw [hB6] at H6
  have K1 := hide hB1
  have K2 := hide hB2
  have K4 := hide hB4
  have K6 := hide hB6
  clear hB1 hB2 hB4 hB6
  have BA := hide (below_alloc w (.cells #[.int .i64 a, .int .i64 b, .int .i64 c, .int .i64 d, .slice ay l cy, .slice az m cz] 49))
  have VA := hide (Var6_new w (.int .i64 a) (.int .i64 b) (.int .i64 c) (.int .i64 d) (.slice ay l cy) (.slice az m cz) 49)
  go_enter Tryd.func41, Tryd.ntmps41
  go_wp2_with fail
  refine (H1.out _).mono ?_
  rintro e w1 ⟨rfl, hw1⟩
  have hw1 := hw1.symm
  subst hw1
  cases B1
  · have HZ : Hid ((3 : Int) = Z) := (HF.out (fun h => by have := of_decide_eq_false K1.out; exact this (HRG.out.1 h).1)).symm
    go_wp2
    go_ret
    exact ⟨ret_int HZ.out, BA.out⟩
  · go_wp2_with fail
    refine (H2.out _).mono ?_
    rintro e w2 ⟨rfl, hb⟩
    have BA2 := hide (below_on BA.out hb)
    have VA2 := hide (VA.out.later hb)
    clear hb
    cases B2
    · have HZ : Hid ((3 : Int) = Z) := (HF.out (fun h => by have := of_decide_eq_false K2.out; exact this (HRG.out.1 h).2)).symm
      go_wp2
      go_ret
      exact ⟨ret_int HZ.out, BA2.out⟩
    · have KR : Hid (rgR r) := HRG.out.2 ⟨of_decide_eq_true K1.out, of_decide_eq_true K2.out⟩
      obtain ⟨c0, c1, c2, c3, c4, c5⟩ := VA2.out
      go_wp2_with fail
      refine (H3.out _ BA2.out).mono ?_
      rintro e w3 ⟨rfl, q, rfl⟩
      by_cases hD : D = 0
      · subst hD
        go_wp2_with fail
        refine (H4.out _).mono ?_
        rintro e w4 ⟨rfl, hb⟩
        have BA4 := hide (below_on (below_on BA2.out (below_drewN _ q)) hb)
        have VA4 := hide ((VA2.out.later (below_drewN _ q)).later hb)
        clear hb c0 c1 c2 c3 c4 c5
        cases B4
        · have HZ : Hid ((1 : Int) = Z) := (HF2.out KR.out (by first | trivial | rfl) (fun h => by have := of_decide_eq_false K4.out; exact this (HFM.out.1 h))).symm
          go_wp2
          go_ret
          exact ⟨ret_int HZ.out, BA4.out⟩
        · have KF : Hid (fmR r) := HFM.out.2 (of_decide_eq_true K4.out)
          obtain ⟨c0, c1, c2, c3, c4, c5⟩ := VA4.out
          go_wp2_with fail
          refine (H5.out _ BA4.out).mono ?_
          rintro e w5 ⟨rfl, hb⟩
          have BA5 := hide (below_on BA4.out hb)
          have VA5 := hide (VA4.out.later hb)
          clear hb c0 c1 c2 c3 c4 c5
          by_cases hG : G = 0
          · subst hG
            obtain ⟨c0, c1, c2, c3, c4, c5⟩ := VA5.out
            go_wp2_with fail
            refine (H6.out _ BA5.out (by first | trivial | rfl)).mono ?_
            rintro e w6 ⟨rfl, hb⟩
            have BA6 := hide (below_on BA5.out hb)
            clear hb c0 c1 c2 c3 c4 c5
            cases B6
            · have HZ : Hid ((1 : Int) = Z) := (HF4.out KR.out (by first | trivial | rfl) KF.out (by first | trivial | rfl) (fun h => by have := of_decide_eq_false K6.out; exact this (HLK.out.2 h))).symm
              go_wp2
              go_ret
              exact ⟨ret_int HZ.out, BA6.out⟩
            · have HZ : Hid ((0 : Int) = Z) := (HF5.out KR.out (by first | trivial | rfl) KF.out (by first | trivial | rfl) (HLK.out.1 (of_decide_eq_true K6.out))).symm
              go_wp2
              go_ret
              exact ⟨ret_int HZ.out, BA6.out⟩
          · have HZ : Hid (G = Z) := (HF3.out KR.out (by first | trivial | rfl) KF.out hG).symm
            have hG' : (G == 0) = false := by simpa using hG
            go_wp2
            go_ret
            exact ⟨ret_int HZ.out, BA5.out⟩
      · have HZ : Hid (D = Z) := (HF1.out KR.out hD).symm
        have hD' : (D == 0) = false := by simpa using hD
        go_wp2
        go_ret
        exact ⟨ret_int HZ.out, below_on BA2.out (below_drewN _ q)⟩
end Go.Proofs.YtcbapclpopbjbaaDoor
/- From the form's readings of arguments to the readings that the walks take. -/
namespace Go.Proofs.YtcbapclpopbjbaaDoor
open Go.ChangeShapes Go.WideShapes Go.ChangeAt Go.RowKit Go.Deep

theorem Tryd.own : ownKnob Tryd.prog.godebug = none := by kernel_rfl
theorem Tryd.laidOut : laidOutB Tryd.prog = true := by kernel_rfl
theorem Tryd.cellsInt : Tryd.prog.cellsOf 2 = 1 := by kernel_rfl
theorem Tryd.cellsInts : Tryd.prog.cellsOf 29 = 1 := by kernel_rfl

theorem addr_plain {w : World} {a : Addr} {v : Value} (h : w.cell? a = some v) : a = ⟨a.block, a.off, none⟩ := by
  obtain ⟨b, o, s⟩ := a
  cases s with
  | none => rfl
  | some k =>
    unfold World.cell? at h
    revert h
    cases w.heap[(⟨b, o, some k⟩ : Addr).block]? with
    | none => intro h; cases h
    | some ob => cases ob <;> intro h <;> simp at h

theorem addr_add (b o i : Nat) : (⟨b, o, none⟩ : Addr).add i = ⟨b, o + i, none⟩ := Addr.add_lit ..

section
variable {H : Type} {enc : TypeId × Value → H} {w : World}

theorem rdI_of {fuel : Nat} {held : Bool} {v : Value} {x : DataW H × List MemPlace} (h : DataW.trod enc Tryd.prog w 0 (fun _ => true) held fuel 29 [v] = some x) : ∃ xs, RdI (fun _ => True) w v xs := by
  rcases open_ints Tryd.underlying29 Tryd.underlying2 Tryd.cellsInt h with ⟨hcs, _⟩ | ⟨a, len, cap, zs, hcs, _, hl, hm, hz, _, hcell, _⟩
  · simp at hcs
    exact ⟨[], none, 0, by simp [hcs], by simp, fun h => absurd rfl h⟩
  · simp at hcs
    simp only [if_true] at hz
    unfold maxLen at hm
    have hlen : (zs.take len).length = len := by simp; omega
    refine ⟨zs.take len, some a, cap - len, by rw [hcs, hlen, Nat.add_sub_cancel' hl], by rw [hlen]; omega, fun hne => ?_⟩
    have hpos : 0 < len := by rw [← hlen]; exact List.length_pos_iff.2 hne
    have e := addr_plain (hcell 0 (by omega))
    have e0 : a.add 0 = a := by simp [Addr.add]
    rw [e0] at e
    refine ⟨a.block, a.off, by rw [← e], trivial, fun i hi => ?_⟩
    rw [hlen] at hi
    rw [← addr_add, ← e, hcell i (by omega)]
    simp [List.getD, hi]

set_option maxRecDepth 100000 in
/-- A list of numbers among the arguments. -/
theorem rdIarg_of {r : Reach} {b0 : Nat} {v : Value} {d : DataW H} {p : List MemPlace} (hv : Value.okWide Tryd.prog w r b0 29 v) (h : DataW.Trod enc Tryd.prog w 0 (fun _ => true) true 29 v d p) : ∃ xs, RdI (fun _ => True) w v xs := by
  obtain ⟨a0, len, cap, rfl⟩ := okWide_slice Tryd.underlying29 hv
  obtain ⟨fuel, hf⟩ := h
  exact rdI_of (by simpa [Value.cells] using hf)

end
end Go.Proofs.YtcbapclpopbjbaaDoor
/- Puts among the arguments. -/
namespace Go.Proofs.YtcbapclpopbjbaaDoor
open Go.ChangeShapes Go.WideShapes Go.ChangeAt Go.RowKit
end Go.Proofs.YtcbapclpopbjbaaDoor
