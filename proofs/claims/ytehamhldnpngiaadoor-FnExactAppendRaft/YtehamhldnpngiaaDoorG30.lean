/- Rt3 in one text: what each says stands at its head below. -/
import Derived.Test.YtehamhldnpngiaaDoorG29
/- Chapter 10: the term at an index, of the program and of the model, walked. Made by program (genrt3.py). -/
namespace Go.Proofs.YtehamhldnpngiaaDoor
open Go.RowKit

theorem trm_at {r : Rf} {i : Int} (h1 : r.si ≤ i) (h2 : i ≤ lastR r) : (trmL r).getD (i - r.si).toNat 0 = tmV r i := by
  have hc : tmC r i = 0 := by unfold tmC; rw [if_neg (by omega), if_neg (by omega)]
  unfold tmV trmL
  rw [if_pos hc]
  by_cases h : i = r.si
  · rw [if_pos h, h]; simp
  · rw [if_neg h]
    obtain ⟨k, hk⟩ : ∃ k, (i - r.si).toNat = k + 1 := ⟨(i - r.si).toNat - 1, by omega⟩
    have hl : lastR r = r.si + (r.lg.length : Int) := rfl
    have hk2 : (i - r.si - 1).toNat = k := by omega
    have hkl : k < r.lg.length := by omega
    rw [hk, hk2]
    simp [List.getD, hkl]
theorem ta_bad {r : Rf} {i : Int} (h : rfF r ≠ 0) : taC r i = rfF r ∧ taV r i = 0 := by unfold taC taV; rw [if_neg h, if_neg h]; exact ⟨rfl, rfl⟩
theorem ta_ok {r : Rf} {i : Int} (h : rfF r = 0) : taC r i = tmC r i ∧ taV r i = tmV r i := by unfold taC taV; rw [if_pos h, if_pos h]; exact ⟨rfl, rfl⟩
theorem tm_lo {r : Rf} {i : Int} (h : i < r.si) : tmC r i = 6 ∧ tmV r i = 0 := by
  have hc : tmC r i = 6 := by unfold tmC; rw [if_pos h]
  refine ⟨hc, ?_⟩
  unfold tmV; rw [hc]; rfl
theorem tm_hi {r : Rf} {i : Int} (h0 : ¬ i < r.si) (h : lastR r < i) : tmC r i = 4 ∧ tmV r i = 0 := by
  have hc : tmC r i = 4 := by unfold tmC; rw [if_neg h0, if_pos h]
  refine ⟨hc, ?_⟩
  unfold tmV; rw [hc]; rfl
theorem tm_in {r : Rf} {i : Int} (h0 : ¬ i < r.si) (h : ¬ lastR r < i) : tmC r i = 0 := by unfold tmC; rw [if_neg h0, if_neg h]

/-- A code with a number, laid down in the variable of the result. -/
theorem ret_two {w w3 : World} {r : Nat} {x y : Value} (hb : Below w.heap.size w w3) (hr : w.heap.size ≤ r) : Below w.heap.size w ((w3.setCell ⟨r, 0, none⟩ x).setCell ⟨r, 1, none⟩ y) :=
  (hb.setCell (p := ⟨r, 0, none⟩) hr _).setCell (p := ⟨r, 1, none⟩) hr _

set_option maxHeartbeats 1000000 in
theorem l10LastI {w : World} {bk : Nat} {a b c d : Int} {ay az : Option Addr} {l m cy cz : Nat} (hv : Var6 w bk (.int .i64 a) (.int .i64 b) (.int .i64 c) (.int .i64 d) (.slice ay l cy) (.slice az m cz)) (h0 : 0 ≤ c) (h1 : c ≤ 9999) (h2 : m ≤ 14) :
    Calls Tryd.prog 39 #[.pointer (some ⟨bk, 0, none⟩)] w fun e w' => e = .returned (.int .i64 (c + m)) ∧ ∃ q, w' = w.drewN q := by
  obtain ⟨v0, v1, v2, v3, v4, v5⟩ := hv
  have hw : IntKind.i64.wrap (c + (m : Int)) = c + m := by simp [IntKind.wrap, IntKind.bits, IntKind.signed]; omega
  go_enter Tryd.func39, Tryd.ntmps39
  go_wp2_with fail
  go_quiet (fail)
  go_wp2
  go_ret
  exact ⟨rfl, nq, rfl⟩
set_option maxHeartbeats 4000000 in
set_option maxRecDepth 4000 in
/-- 'spec.l10Term' of a store without a fault. -/
theorem l10TermI {T : Nat → Prop} {w : World} {bk : Nat} {y z : Value} (r : Rf) (i : Int) (hr : IsRf r) (hv : Var6 w bk (.int .i64 r.tm) (.int .i64 r.vt) (.int .i64 r.si) (.int .i64 r.st) y z) (hyl : ∃ ao l c, y = .slice ao l c) (hz : RdJ T w z r.lg) :
    Calls Tryd.prog 23 #[.pointer (some ⟨bk, 0, none⟩), .int .i64 i] w fun e w' => e = .returned (.tuple #[.int .i64 (tmV r i), .int .i64 (tmC r i)]) ∧ ∃ q, w' = w.drewN q := by
  obtain ⟨ay, l, cy, rfl⟩ := hyl
  have HZ := hide hz
  have hml : r.lg.length ≤ 14 := (logF_iff.1 hr.lo).1
  have hsi := hr.rg.2.1
  have HLo := hide (@tm_lo r i)
  have HHi := hide (@tm_hi r i)
  have HIn := hide (@tm_in r i)
  have HAt : Hid (tmC r i = 0 → tmV r i = if i = r.si then r.st else (r.lg.getD (i - r.si - 1).toNat oj0).2.1) := fun h => by unfold tmV; rw [if_pos h]
  have HLast : Hid (lastR r = r.si + (r.lg.length : Int)) := rfl
  obtain ⟨az, cz, rfl, _⟩ := hz.shape
  obtain ⟨C, hC⟩ : ∃ C, tmC r i = C := ⟨_, rfl⟩
  obtain ⟨V, hV⟩ : ∃ V, tmV r i = V := ⟨_, rfl⟩
  rw [hC] at HLo HHi HIn HAt
  rw [hV] at HLo HHi HAt
  rw [hC, hV]
  obtain ⟨m, hm⟩ : ∃ m, r.lg.length = m := ⟨_, rfl⟩
  rw [hm] at hv hml HLast HZ
  have HM := hide hm
  have VA := hide hv
  clear hm hv hz hC hV hr
  obtain ⟨c, hc⟩ : ∃ c, r.si = c := ⟨_, rfl⟩
  rw [hc] at VA HLo HHi HIn HAt HLast hsi
  clear hc
  generalize r.tm = a at *
  generalize r.vt = b at *
  obtain ⟨d, hd⟩ : ∃ d, r.st = d := ⟨_, rfl⟩
  rw [hd] at VA HAt
  clear hd
  have HL := hide (fun (w' : World) (hb : Below w.heap.size w w') => l10LastI (VA.out.later hb) hsi.1 hsi.2 hml)
  obtain ⟨v0, v1, v2, v3, v4, v5⟩ := VA.out
  by_cases hlo : i < c
  · have hCV : (6 : Int) = C ∧ (0 : Int) = V := ⟨(HLo.out hlo).1.symm, (HLo.out hlo).2.symm⟩
    obtain ⟨rfl, rfl⟩ := hCV
    go_enter Tryd.func23, Tryd.ntmps23
    go_wp2
    refine bodyPost_ret (v := .tuple #[.int .i64 0, .int .i64 6]) (by simp [results, Tryd.results23, go_sem]) rfl ⟨rfl, 0, rfl⟩
  · obtain ⟨s, hs⟩ : ∃ s, c + (m : Int) = s := ⟨_, rfl⟩
    rw [hs] at HL HLast
    by_cases hhi : s < i
    · have hCV : (4 : Int) = C ∧ (0 : Int) = V := ⟨(HHi.out hlo (by rw [HLast.out]; exact hhi)).1.symm, (HHi.out hlo (by rw [HLast.out]; exact hhi)).2.symm⟩
      obtain ⟨rfl, rfl⟩ := hCV
      go_enter Tryd.func23, Tryd.ntmps23
      go_wp2_with fail
      refine (HL.out _ (Below.refl _ _)).mono ?_
      rintro e w1 ⟨rfl, q, rfl⟩
      go_wp2
      refine bodyPost_ret (v := .tuple #[.int .i64 0, .int .i64 4]) (by simp [results, Tryd.results23, go_sem]) rfl ⟨rfl, q, rfl⟩
    · have hC0 : (0 : Int) = C := (HIn.out hlo (by rw [HLast.out]; exact hhi)).symm
      subst hC0
      have hVe := HAt.out rfl
      by_cases he : i = c
      · rw [if_pos he] at hVe
        subst hVe
        subst he
        go_enter Tryd.func23, Tryd.ntmps23
        go_wp2_with fail
        refine (HL.out _ (Below.refl _ _)).mono ?_
        rintro e w1 ⟨rfl, q, rfl⟩
        go_wp2
        refine bodyPost_ret (v := .tuple #[.int .i64 V, .int .i64 0]) (by simp [results, Tryd.results23, go_sem]) rfl ⟨rfl, q, rfl⟩
      · rw [if_neg he] at hVe
        obtain ⟨j, hj⟩ : ∃ j, (i - c - 1).toNat = j := ⟨_, rfl⟩
        have hjm : j < m := by omega
        obtain ⟨bb, off, rfl, y0, q0, q1, q2, q3⟩ := HZ.out.file (k := j) (by rw [HM.out]; exact hjm)
        rw [hj] at hVe
        rw [← hVe] at q1
        have hw1 : IntKind.i64.wrap (i - c) = i - c := by simp [IntKind.wrap, IntKind.bits, IntKind.signed]; omega
        have hw2 : IntKind.i64.wrap (i - c - 1) = (j : Int) := by simp [IntKind.wrap, IntKind.bits, IntKind.signed]; omega
        have hj0 : (0 : Int) ≤ (j : Int) := by omega
        have hj1 : (j : Int) < (m : Int) := by omega
        have heb : (i == c) = false := by simpa using he
        have hec : decide (i = c) = false := by simpa using he
        clear q0 q2 q3 hVe hj hjm he hsi hml
        go_enter Tryd.func23, Tryd.ntmps23
        go_wp2_with fail
        refine (HL.out _ (Below.refl _ _)).mono ?_
        rintro e w1 ⟨rfl, q, rfl⟩
        go_wp2_with fail
        go_quiet (fail)
        go_wp2
        refine bodyPost_ret (v := .tuple #[.int .i64 V, .int .i64 0]) (by simp [results, Tryd.results23, go_sem]) rfl ⟨rfl, _, World.drewN_drewN _ _ _⟩

end Go.Proofs.YtehamhldnpngiaaDoor
