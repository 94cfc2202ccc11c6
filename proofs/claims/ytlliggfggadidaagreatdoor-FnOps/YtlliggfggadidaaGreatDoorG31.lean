/- Op2 Op Dr in one text: what each says stands at its head below. -/
import Derived.Test.YtlliggfggadidaaGreatDoorG06
import Derived.Test.YtlliggfggadidaaGreatDoorG08
import Derived.Test.YtlliggfggadidaaGreatDoorG03
import Derived.Test.YtlliggfggadidaaGreatDoorG10
namespace Go.Proofs.YtlliggfggadidaaGreatDoor
open Go.RowKit
def Vat6 (w : World) (b o : Nat) (x0 x1 x2 x3 x4 x5 : Value) : Prop := w.cell? ⟨b, o, none⟩ = some x0 ∧ w.cell? ⟨b, o + 1, none⟩ = some x1 ∧ w.cell? ⟨b, o + 2, none⟩ = some x2 ∧ w.cell? ⟨b, o + 3, none⟩ = some x3 ∧ w.cell? ⟨b, o + 4, none⟩ = some x4 ∧ w.cell? ⟨b, o + 5, none⟩ = some x5
theorem Vat6.later {w w' : World} {b o : Nat} {x0 x1 x2 x3 x4 x5 : Value} (h : Vat6 w b o x0 x1 x2 x3 x4 x5) (hb : Below w.heap.size w w') : Vat6 w' b o x0 x1 x2 x3 x4 x5 :=
  ⟨cell_later hb h.1, cell_later hb h.2.1, cell_later hb h.2.2.1, cell_later hb h.2.2.2.1, cell_later hb h.2.2.2.2.1, cell_later hb h.2.2.2.2.2⟩
theorem Vat6.lt {w : World} {b o : Nat} {x0 x1 x2 x3 x4 x5 : Value} (h : Vat6 w b o x0 x1 x2 x3 x4 x5) : b < w.heap.size := World.block_lt_of_cell? _ _ h.1
theorem Var6.vat {w : World} {b : Nat} {x0 x1 x2 x3 x4 x5 : Value} (h : Var6 w b x0 x1 x2 x3 x4 x5) : Vat6 w b 0 x0 x1 x2 x3 x4 x5 := h
def fmO (a b c d : Int) (l m : Nat) : Prop := (a = 5 ∧ l = 0 ∧ c = 0 ∧ d = 0 ∧ m = 0) ∨ (a = 3 ∧ c = 0 ∧ d = 0 ∧ m = 0) ∨ (a = 4 ∧ d = 0 ∧ m = 0) ∨ (a = 2 ∧ d = 0 ∧ l = 0) ∨ (a = 1 ∧ b = 0 ∧ l = 0 ∧ m = 0)
instance (a b c d : Int) (l m : Nat) : Decidable (fmO a b c d l m) := by unfold fmO; infer_instance
def opF (r : Rf) : Int := if ¬ fmO r.tm r.vt r.si r.st r.sn.length r.lg.length then 1 else if 4 < r.lg.length then 2 else if daF r.sn ≠ 0 then daF r.sn else logF r.lg
theorem opF_form {r : Rf} (h : ¬ fmO r.tm r.vt r.si r.st r.sn.length r.lg.length) : opF r = 1 := by unfold opF; rw [if_pos h]
theorem opF_many {r : Rf} (h : fmO r.tm r.vt r.si r.st r.sn.length r.lg.length) (h1 : 4 < r.lg.length) : opF r = 2 := by unfold opF; rw [if_neg (fun k => k h), if_pos h1]
theorem opF_data {r : Rf} (h : fmO r.tm r.vt r.si r.st r.sn.length r.lg.length) (h1 : ¬ 4 < r.lg.length) (h2 : daF r.sn ≠ 0) : opF r = daF r.sn := by unfold opF; rw [if_neg (fun k => k h), if_neg h1, if_pos h2]
theorem opF_log {r : Rf} (h : fmO r.tm r.vt r.si r.st r.sn.length r.lg.length) (h1 : ¬ 4 < r.lg.length) (h2 : daF r.sn = 0) : opF r = logF r.lg := by unfold opF; rw [if_neg (fun k => k h), if_neg h1, if_neg (fun k => k h2)]
theorem opF_ok {r : Rf} (h : opF r = 0) : fmO r.tm r.vt r.si r.st r.sn.length r.lg.length ∧ r.lg.length ≤ 4 ∧ daF r.sn = 0 ∧ logF r.lg = 0 := by
  unfold opF at h
  by_cases h0 : fmO r.tm r.vt r.si r.st r.sn.length r.lg.length
  · rw [if_neg (fun k => k h0)] at h
    by_cases h1 : 4 < r.lg.length
    · rw [if_pos h1] at h; cases h
    · rw [if_neg h1] at h
      by_cases h2 : daF r.sn = 0
      · rw [if_neg (fun k => k h2)] at h; exact ⟨h0, by omega, h2, h⟩
      · rw [if_pos h2] at h; exact absurd h h2
  · rw [if_pos h0] at h; cases h
set_option maxHeartbeats 8000000 in
set_option maxRecDepth 4000 in
theorem isFormedB (a b c d : Int) (ay az : Option Addr) (l m cy cz : Nat) (hl : l ≤ 9223372036854775807) (hm' : m ≤ 9223372036854775807) (w : World) : Calls Tryz.prog 36 #[.agg #[.int .i64 a, .int .i64 b, .int .i64 c, .int .i64 d, .slice ay l cy, .slice az m cz]] w fun e w' => e = .returned (.bool (decide (fmO a b c d l m))) ∧ Below w.heap.size w w' := by
  by_cases h5 : a = 5
  · subst h5
    by_cases hl : l = 0
    · subst hl
      by_cases hc : c = 0
      · subst hc
        by_cases hd : d = 0
        · subst hd
          by_cases hm : m = 0
          · subst hm
            rw [decide_eq_true (by unfold fmO; omega)]
            go_enter Tryz.func36, Tryz.ntmps36
            go_wp2
            go_ret
            exact ⟨by first | rfl | simp [*], below_alloc _ _⟩
          · have hm1 : ((m : Int) == 0) = false := by simp; omega
            have hm2 : ((m : Int) != 0) = true := by simp; omega
            rw [decide_eq_false (by unfold fmO; omega)]
            go_enter Tryz.func36, Tryz.ntmps36
            go_wp2
            go_ret
            exact ⟨by first | rfl | simp [*], below_alloc _ _⟩
        · have hd1 : (d == 0) = false := by simpa using hd
          have hd2 : (d != 0) = true := by simp [hd]
          rw [decide_eq_false (by unfold fmO; omega)]
          go_enter Tryz.func36, Tryz.ntmps36
          go_wp2
          go_ret
          exact ⟨by first | rfl | simp [*], below_alloc _ _⟩
      · have hc1 : (c == 0) = false := by simpa using hc
        have hc2 : (c != 0) = true := by simp [hc]
        rw [decide_eq_false (by unfold fmO; omega)]
        go_enter Tryz.func36, Tryz.ntmps36
        go_wp2
        go_ret
        exact ⟨by first | rfl | simp [*], below_alloc _ _⟩
    · have hl1 : ((l : Int) == 0) = false := by simp; omega
      have hl2 : ((l : Int) != 0) = true := by simp; omega
      rw [decide_eq_false (by unfold fmO; omega)]
      go_enter Tryz.func36, Tryz.ntmps36
      go_wp2
      go_ret
      exact ⟨by first | rfl | simp [*], below_alloc _ _⟩
  · have g5 : (a == 5) = false := by simpa using h5
    have g5' : (a != 5) = true := by simp [h5]
    by_cases h3 : a = 3
    · subst h3
      by_cases hc : c = 0
      · subst hc
        by_cases hd : d = 0
        · subst hd
          by_cases hm : m = 0
          · subst hm
            rw [decide_eq_true (by unfold fmO; omega)]
            go_enter Tryz.func36, Tryz.ntmps36
            go_wp2
            go_ret
            exact ⟨by first | rfl | simp [*], below_alloc _ _⟩
          · have hm1 : ((m : Int) == 0) = false := by simp; omega
            have hm2 : ((m : Int) != 0) = true := by simp; omega
            rw [decide_eq_false (by unfold fmO; omega)]
            go_enter Tryz.func36, Tryz.ntmps36
            go_wp2
            go_ret
            exact ⟨by first | rfl | simp [*], below_alloc _ _⟩
        · have hd1 : (d == 0) = false := by simpa using hd
          have hd2 : (d != 0) = true := by simp [hd]
          rw [decide_eq_false (by unfold fmO; omega)]
          go_enter Tryz.func36, Tryz.ntmps36
          go_wp2
          go_ret
          exact ⟨by first | rfl | simp [*], below_alloc _ _⟩
      · have hc1 : (c == 0) = false := by simpa using hc
        have hc2 : (c != 0) = true := by simp [hc]
        rw [decide_eq_false (by unfold fmO; omega)]
        go_enter Tryz.func36, Tryz.ntmps36
        go_wp2
        go_ret
        exact ⟨by first | rfl | simp [*], below_alloc _ _⟩
    · have g3 : (a == 3) = false := by simpa using h3
      have g3' : (a != 3) = true := by simp [h3]
      by_cases h4 : a = 4
      · subst h4
        by_cases hd : d = 0
        · subst hd
          by_cases hm : m = 0
          · subst hm
            rw [decide_eq_true (by unfold fmO; omega)]
            go_enter Tryz.func36, Tryz.ntmps36
            go_wp2
            go_ret
            exact ⟨by first | rfl | simp [*], below_alloc _ _⟩
          · have hm1 : ((m : Int) == 0) = false := by simp; omega
            have hm2 : ((m : Int) != 0) = true := by simp; omega
            rw [decide_eq_false (by unfold fmO; omega)]
            go_enter Tryz.func36, Tryz.ntmps36
            go_wp2
            go_ret
            exact ⟨by first | rfl | simp [*], below_alloc _ _⟩
        · have hd1 : (d == 0) = false := by simpa using hd
          have hd2 : (d != 0) = true := by simp [hd]
          rw [decide_eq_false (by unfold fmO; omega)]
          go_enter Tryz.func36, Tryz.ntmps36
          go_wp2
          go_ret
          exact ⟨by first | rfl | simp [*], below_alloc _ _⟩
      · have g4 : (a == 4) = false := by simpa using h4
        have g4' : (a != 4) = true := by simp [h4]
        by_cases h2 : a = 2
        · subst h2
          by_cases hd : d = 0
          · subst hd
            by_cases hl : l = 0
            · subst hl
              rw [decide_eq_true (by unfold fmO; omega)]
              go_enter Tryz.func36, Tryz.ntmps36
              go_wp2
              go_ret
              exact ⟨by first | rfl | simp [*], below_alloc _ _⟩
            · have hl1 : ((l : Int) == 0) = false := by simp; omega
              have hl2 : ((l : Int) != 0) = true := by simp; omega
              rw [decide_eq_false (by unfold fmO; omega)]
              go_enter Tryz.func36, Tryz.ntmps36
              go_wp2
              go_ret
              exact ⟨by first | rfl | simp [*], below_alloc _ _⟩
          · have hd1 : (d == 0) = false := by simpa using hd
            have hd2 : (d != 0) = true := by simp [hd]
            rw [decide_eq_false (by unfold fmO; omega)]
            go_enter Tryz.func36, Tryz.ntmps36
            go_wp2
            go_ret
            exact ⟨by first | rfl | simp [*], below_alloc _ _⟩
        · have g2 : (a == 2) = false := by simpa using h2
          have g2' : (a != 2) = true := by simp [h2]
          by_cases h1 : a = 1
          · subst h1
            by_cases hb : b = 0
            · subst hb
              by_cases hl : l = 0
              · subst hl
                by_cases hm : m = 0
                · subst hm
                  rw [decide_eq_true (by unfold fmO; omega)]
                  go_enter Tryz.func36, Tryz.ntmps36
                  go_wp2
                  go_ret
                  exact ⟨by first | rfl | simp [*], below_alloc _ _⟩
                · have hm1 : ((m : Int) == 0) = false := by simp; omega
                  have hm2 : ((m : Int) != 0) = true := by simp; omega
                  rw [decide_eq_false (by unfold fmO; omega)]
                  go_enter Tryz.func36, Tryz.ntmps36
                  go_wp2
                  go_ret
                  exact ⟨by first | rfl | simp [*], below_alloc _ _⟩
              · have hl1 : ((l : Int) == 0) = false := by simp; omega
                have hl2 : ((l : Int) != 0) = true := by simp; omega
                rw [decide_eq_false (by unfold fmO; omega)]
                go_enter Tryz.func36, Tryz.ntmps36
                go_wp2
                go_ret
                exact ⟨by first | rfl | simp [*], below_alloc _ _⟩
            · have hb1 : (b == 0) = false := by simpa using hb
              have hb2 : (b != 0) = true := by simp [hb]
              rw [decide_eq_false (by unfold fmO; omega)]
              go_enter Tryz.func36, Tryz.ntmps36
              go_wp2
              go_ret
              exact ⟨by first | rfl | simp [*], below_alloc _ _⟩
          · have g1 : (a == 1) = false := by simpa using h1
            have g1' : (a != 1) = true := by simp [h1]
            rw [decide_eq_false (by unfold fmO; omega)]
            go_enter Tryz.func36, Tryz.ntmps36
            go_wp2
            go_ret
            exact ⟨by first | rfl | simp [*], below_alloc _ _⟩
set_option maxHeartbeats 8000000 in
set_option maxRecDepth 4000 in
theorem l12BareB {w : World} {bk ob : Nat} {a b c d : Int} {ay az : Option Addr} {l m cy cz : Nat} (hv : Vat6 w bk ob (.int .i64 a) (.int .i64 b) (.int .i64 c) (.int .i64 d) (.slice ay l cy) (.slice az m cz)) (ha : 1 ≤ a ∧ a ≤ 5) (hl : l ≤ 9223372036854775807) (hm' : m ≤ 9223372036854775807) : Calls Tryz.prog 59 #[.pointer (some ⟨bk, ob, none⟩)] w fun e w' => e = .returned (.bool (decide (fmO a b c d l m))) ∧ Below w.heap.size w w' := by
  obtain ⟨v0, v1, v2, v3, v4, v5⟩ := hv
  by_cases h1 : a = 1
  · subst h1
    by_cases hb : b = 0
    · subst hb
      by_cases hl : l = 0
      · subst hl
        by_cases hm : m = 0
        · subst hm
          rw [decide_eq_true (by unfold fmO; omega)]
          go_enter Tryz.func59, Tryz.ntmps59
          go_wp2
          go_ret
          exact ⟨by first | rfl | simp [*], Below.refl _ _⟩
        · have hm1 : ((m : Int) == 0) = false := by simp; omega
          have hm2 : ((m : Int) != 0) = true := by simp; omega
          rw [decide_eq_false (by unfold fmO; omega)]
          go_enter Tryz.func59, Tryz.ntmps59
          go_wp2
          go_ret
          exact ⟨by first | rfl | simp [*], Below.refl _ _⟩
      · have hl1 : ((l : Int) == 0) = false := by simp; omega
        have hl2 : ((l : Int) != 0) = true := by simp; omega
        rw [decide_eq_false (by unfold fmO; omega)]
        go_enter Tryz.func59, Tryz.ntmps59
        go_wp2
        go_ret
        exact ⟨by first | rfl | simp [*], Below.refl _ _⟩
    · have hb1 : (b == 0) = false := by simpa using hb
      have hb2 : (b != 0) = true := by simp [hb]
      rw [decide_eq_false (by unfold fmO; omega)]
      go_enter Tryz.func59, Tryz.ntmps59
      go_wp2
      go_ret
      exact ⟨by first | rfl | simp [*], Below.refl _ _⟩
  · have g1 : (a == 1) = false := by simpa using h1
    have g1' : (a != 1) = true := by simp [h1]
    by_cases h2 : a = 2
    · subst h2
      by_cases hd : d = 0
      · subst hd
        by_cases hl : l = 0
        · subst hl
          rw [decide_eq_true (by unfold fmO; omega)]
          go_enter Tryz.func59, Tryz.ntmps59
          go_wp2
          go_ret
          exact ⟨by first | rfl | simp [*], Below.refl _ _⟩
        · have hl1 : ((l : Int) == 0) = false := by simp; omega
          have hl2 : ((l : Int) != 0) = true := by simp; omega
          rw [decide_eq_false (by unfold fmO; omega)]
          go_enter Tryz.func59, Tryz.ntmps59
          go_wp2
          go_ret
          exact ⟨by first | rfl | simp [*], Below.refl _ _⟩
      · have hd1 : (d == 0) = false := by simpa using hd
        have hd2 : (d != 0) = true := by simp [hd]
        rw [decide_eq_false (by unfold fmO; omega)]
        go_enter Tryz.func59, Tryz.ntmps59
        go_wp2
        go_ret
        exact ⟨by first | rfl | simp [*], Below.refl _ _⟩
    · have g2 : (a == 2) = false := by simpa using h2
      have g2' : (a != 2) = true := by simp [h2]
      by_cases h3 : a = 3
      · subst h3
        by_cases hc : c = 0
        · subst hc
          by_cases hd : d = 0
          · subst hd
            by_cases hm : m = 0
            · subst hm
              rw [decide_eq_true (by unfold fmO; omega)]
              go_enter Tryz.func59, Tryz.ntmps59
              go_wp2
              go_ret
              exact ⟨by first | rfl | simp [*], Below.refl _ _⟩
            · have hm1 : ((m : Int) == 0) = false := by simp; omega
              have hm2 : ((m : Int) != 0) = true := by simp; omega
              rw [decide_eq_false (by unfold fmO; omega)]
              go_enter Tryz.func59, Tryz.ntmps59
              go_wp2
              go_ret
              exact ⟨by first | rfl | simp [*], Below.refl _ _⟩
          · have hd1 : (d == 0) = false := by simpa using hd
            have hd2 : (d != 0) = true := by simp [hd]
            rw [decide_eq_false (by unfold fmO; omega)]
            go_enter Tryz.func59, Tryz.ntmps59
            go_wp2
            go_ret
            exact ⟨by first | rfl | simp [*], Below.refl _ _⟩
        · have hc1 : (c == 0) = false := by simpa using hc
          have hc2 : (c != 0) = true := by simp [hc]
          rw [decide_eq_false (by unfold fmO; omega)]
          go_enter Tryz.func59, Tryz.ntmps59
          go_wp2
          go_ret
          exact ⟨by first | rfl | simp [*], Below.refl _ _⟩
      · have g3 : (a == 3) = false := by simpa using h3
        have g3' : (a != 3) = true := by simp [h3]
        by_cases h4 : a = 4
        · subst h4
          by_cases hd : d = 0
          · subst hd
            by_cases hm : m = 0
            · subst hm
              rw [decide_eq_true (by unfold fmO; omega)]
              go_enter Tryz.func59, Tryz.ntmps59
              go_wp2
              go_ret
              exact ⟨by first | rfl | simp [*], Below.refl _ _⟩
            · have hm1 : ((m : Int) == 0) = false := by simp; omega
              have hm2 : ((m : Int) != 0) = true := by simp; omega
              rw [decide_eq_false (by unfold fmO; omega)]
              go_enter Tryz.func59, Tryz.ntmps59
              go_wp2
              go_ret
              exact ⟨by first | rfl | simp [*], Below.refl _ _⟩
          · have hd1 : (d == 0) = false := by simpa using hd
            have hd2 : (d != 0) = true := by simp [hd]
            rw [decide_eq_false (by unfold fmO; omega)]
            go_enter Tryz.func59, Tryz.ntmps59
            go_wp2
            go_ret
            exact ⟨by first | rfl | simp [*], Below.refl _ _⟩
        · have g4 : (a == 4) = false := by simpa using h4
          have g4' : (a != 4) = true := by simp [h4]
          by_cases h5 : a = 5
          · subst h5
            by_cases hc : c = 0
            · subst hc
              by_cases hd : d = 0
              · subst hd
                by_cases hl : l = 0
                · subst hl
                  by_cases hm : m = 0
                  · subst hm
                    rw [decide_eq_true (by unfold fmO; omega)]
                    go_enter Tryz.func59, Tryz.ntmps59
                    go_wp2
                    go_ret
                    exact ⟨by first | rfl | simp [*], Below.refl _ _⟩
                  · have hm1 : ((m : Int) == 0) = false := by simp; omega
                    have hm2 : ((m : Int) != 0) = true := by simp; omega
                    rw [decide_eq_false (by unfold fmO; omega)]
                    go_enter Tryz.func59, Tryz.ntmps59
                    go_wp2
                    go_ret
                    exact ⟨by first | rfl | simp [*], Below.refl _ _⟩
                · have hl1 : ((l : Int) == 0) = false := by simp; omega
                  have hl2 : ((l : Int) != 0) = true := by simp; omega
                  rw [decide_eq_false (by unfold fmO; omega)]
                  go_enter Tryz.func59, Tryz.ntmps59
                  go_wp2
                  go_ret
                  exact ⟨by first | rfl | simp [*], Below.refl _ _⟩
              · have hd1 : (d == 0) = false := by simpa using hd
                have hd2 : (d != 0) = true := by simp [hd]
                rw [decide_eq_false (by unfold fmO; omega)]
                go_enter Tryz.func59, Tryz.ntmps59
                go_wp2
                go_ret
                exact ⟨by first | rfl | simp [*], Below.refl _ _⟩
            · have hc1 : (c == 0) = false := by simpa using hc
              have hc2 : (c != 0) = true := by simp [hc]
              rw [decide_eq_false (by unfold fmO; omega)]
              go_enter Tryz.func59, Tryz.ntmps59
              go_wp2
              go_ret
              exact ⟨by first | rfl | simp [*], Below.refl _ _⟩
          · have g5 : (a == 5) = false := by simpa using h5
            have g5' : (a != 5) = true := by simp [h5]
            omega
set_option maxHeartbeats 4000000 in
set_option maxRecDepth 4000 in
theorem implOpFault {S T : Nat → Prop} {w : World} {y z : Value} (r : Rf) (hy : RdI S w y r.sn) (hz : RdJ T w z r.lg) :
    Calls Tryz.prog 11 #[.agg #[.int .i64 r.tm, .int .i64 r.vt, .int .i64 r.si, .int .i64 r.st, y, z]] w fun e w' => e = .returned (.int .i64 (opF r)) ∧ Below w.heap.size w w' := by
  obtain ⟨ay, cy, rfl⟩ := hy.shape
  obtain ⟨az, cz, rfl, hzm⟩ := hz.shape
  have hym := hy.maxR
  have HF1 := hide (@opF_form r)
  have HF2 := hide (@opF_many r)
  have HF3 := hide (@opF_data r)
  have HF4 := hide (@opF_log r)
  obtain ⟨Z, hZ⟩ : ∃ Z, opF r = Z := ⟨_, rfl⟩
  rw [hZ] at HF1 HF2 HF3 HF4 ⊢
  have H3 := hide (fun (w' : World) (hb : Below w.heap.size w w') => snapFaultI (hy.later hb))
  have H5 := hide (fun (w' : World) (hb : Below w.heap.size w w') => implLogFault (hz.later hb))
  obtain ⟨l, hl⟩ : ∃ l, r.sn.length = l := ⟨_, rfl⟩
  obtain ⟨m, hm⟩ : ∃ m, r.lg.length = m := ⟨_, rfl⟩
  rw [hl] at H3 hym HF1 HF2 HF3 HF4 ⊢
  rw [hm] at H5 hzm HF1 HF2 HF3 HF4 ⊢
  obtain ⟨D, hD⟩ : ∃ D, daF r.sn = D := ⟨_, rfl⟩
  obtain ⟨G, hG⟩ : ∃ G, logF r.lg = G := ⟨_, rfl⟩
  rw [hD] at H3 HF3 HF4
  rw [hG] at H5 HF4
  clear hy hz hZ hl hm hD hG
  generalize r.tm = a at *
  generalize r.vt = b at *
  generalize r.si = c at *
  generalize r.st = d at *
  have H1 := hide (isFormedB a b c d ay az l m cy cz hym hzm)
  obtain ⟨B, hB⟩ : ∃ B, decide (fmO a b c d l m) = B := ⟨_, rfl⟩
  rw [hB] at H1
  have K := hide hB
  clear hB
  have BA := hide (below_alloc w (.cells #[.int .i64 a, .int .i64 b, .int .i64 c, .int .i64 d, .slice ay l cy, .slice az m cz] 29))
  have VA := hide (Var6_new w (.int .i64 a) (.int .i64 b) (.int .i64 c) (.int .i64 d) (.slice ay l cy) (.slice az m cz) 29)
  go_enter Tryz.func11, Tryz.ntmps11
  go_wp2_with fail
  refine (H1.out _).mono ?_
  rintro e w1 ⟨rfl, hb⟩
  have BB := hide (below_on BA.out hb)
  have VB := hide (VA.out.later hb)
  clear hb BA VA H1
  cases B
  · have HZ := hide (HF1.out (of_decide_eq_false K.out)).symm
    go_wp2
    go_ret
    exact ⟨ret_int HZ.out, BB.out⟩
  · have hf := of_decide_eq_true K.out
    have HK := hide hf
    clear hf K
    obtain ⟨v0, v1, v2, v3, v4, v5⟩ := VB.out
    by_cases h4 : 4 < m
    · have h4' : (4 : Int) < (m : Int) := by omega
      have HZ := hide (HF2.out HK.out h4).symm
      go_wp2
      go_ret
      exact ⟨ret_int HZ.out, BB.out⟩
    · have h4' : ¬ (4 : Int) < (m : Int) := by omega
      have HDd := hide (H3.out _ BB.out)
      go_wp2_with fail
      refine HDd.out.mono ?_
      rintro e w2 ⟨rfl, q, hw2⟩
      have hb : Below w1.heap.size w1 w2 := by rw [hw2]; exact below_drewN _ _
      clear hw2
      have BC := hide (below_on BB.out hb)
      have VC := hide (VB.out.later hb)
      clear hb BB VB HDd v0 v1 v2 v3 v4 v5
      obtain ⟨v0, v1, v2, v3, v4, v5⟩ := VC.out
      by_cases hd : D = 0
      · subst hd
        have HLg := hide (H5.out _ BC.out)
        have HZ := hide (HF4.out HK.out h4 rfl).symm
        go_wp2_with fail
        refine HLg.out.mono ?_
        rintro e w3 ⟨rfl, hb⟩
        have BD := hide (below_on BC.out hb)
        clear hb
        go_wp2
        go_ret
        exact ⟨ret_int HZ.out, BD.out⟩
      · have HZ := hide (HF3.out HK.out h4 hd).symm
        have hd1 : (D == 0) = false := by simpa using hd
        have hd2 : (D != 0) = true := by simp [hd]
        go_wp2
        go_ret
        exact ⟨ret_int HZ.out, BC.out⟩
set_option maxHeartbeats 4000000 in
set_option maxRecDepth 4000 in
theorem l12Fault {S T : Nat → Prop} {w : World} {bk ob : Nat} {y z : Value} (r : Rf) (hv : Vat6 w bk ob (.int .i64 r.tm) (.int .i64 r.vt) (.int .i64 r.si) (.int .i64 r.st) y z) (hy : RdI S w y r.sn) (hz : RdJ T w z r.lg) :
    Calls Tryz.prog 26 #[.pointer (some ⟨bk, ob, none⟩)] w fun e w' => e = .returned (.int .i64 (opF r)) ∧ Below w.heap.size w w' := by
  obtain ⟨ay, cy, rfl⟩ := hy.shape
  obtain ⟨az, cz, rfl, hzm⟩ := hz.shape
  have hym := hy.maxR
  have HF1 := hide (@opF_form r)
  have HF2 := hide (@opF_many r)
  have HF3 := hide (@opF_data r)
  have HF4 := hide (@opF_log r)
  obtain ⟨Z, hZ⟩ : ∃ Z, opF r = Z := ⟨_, rfl⟩
  rw [hZ] at HF1 HF2 HF3 HF4 ⊢
  have H3 := hide (fun (w' : World) (hb : Below w.heap.size w w') => l10DataI (hy.later hb))
  have H5 := hide (fun (w' : World) (hb : Below w.heap.size w w') => l9Log (hz.later hb))
  obtain ⟨l, hl⟩ : ∃ l, r.sn.length = l := ⟨_, rfl⟩
  obtain ⟨m, hm⟩ : ∃ m, r.lg.length = m := ⟨_, rfl⟩
  rw [hl] at hv H3 hym HF1 HF2 HF3 HF4
  rw [hm] at hv H5 hzm HF1 HF2 HF3 HF4
  obtain ⟨D, hD⟩ : ∃ D, daF r.sn = D := ⟨_, rfl⟩
  obtain ⟨G, hG⟩ : ∃ G, logF r.lg = G := ⟨_, rfl⟩
  rw [hD] at H3 HF3 HF4
  rw [hG] at H5 HF4
  clear hy hz hZ hl hm hD hG
  generalize r.tm = a at *
  generalize r.vt = b at *
  generalize r.si = c at *
  generalize r.st = d at *
  have BA := hide (Below.refl w.heap.size w)
  have VA := hide hv
  clear hv
  obtain ⟨v0, v1, v2, v3, v4, v5⟩ := VA.out
  go_enter Tryz.func26, Tryz.ntmps26
  go_wp2_with fail
  refine (l1InB _ _ _ _).mono ?_
  rintro e w0 ⟨rfl, hw⟩
  have hw := hw.symm
  subst hw
  by_cases hin : 1 ≤ a ∧ a ≤ 5
  · have HB := hide (l12BareB VA.out hin hym hzm)
    obtain ⟨B, hB⟩ : ∃ B, decide (fmO a b c d l m) = B := ⟨_, rfl⟩
    rw [hB] at HB
    have K := hide hB
    have hi := inBq_yes hin
    clear hB
    go_wp2_with fail
    refine HB.out.mono ?_
    rintro e w1 ⟨rfl, hb⟩
    have BB := hide (below_on BA.out hb)
    have VB := hide (VA.out.later hb)
    clear hb BA VA HB v0 v1 v2 v3 v4 v5 hi
    obtain ⟨v0, v1, v2, v3, v4, v5⟩ := VB.out
    cases B
    · have HZ := hide (HF1.out (of_decide_eq_false K.out)).symm
      go_wp2
      go_ret
      exact ⟨ret_int HZ.out, BB.out⟩
    · have hf := of_decide_eq_true K.out
      have HK := hide hf
      clear hf K hin v0 v1 v2 v3 v4 v5
      obtain ⟨v0, v1, v2, v3, v4, v5⟩ := VB.out
      by_cases h4 : 4 < m
      · have h4' : (4 : Int) < (m : Int) := by omega
        have HZ := hide (HF2.out HK.out h4).symm
        go_wp2
        go_ret
        exact ⟨ret_int HZ.out, BB.out⟩
      · have h4' : ¬ (4 : Int) < (m : Int) := by omega
        have HDd := hide (H3.out _ BB.out)
        go_wp2_with fail
        refine HDd.out.mono ?_
        rintro e w2 ⟨rfl, q, hw2⟩
        have hb : Below w1.heap.size w1 w2 := by rw [hw2]; exact below_drewN _ _
        clear hw2
        have BC := hide (below_on BB.out hb)
        have VC := hide (VB.out.later hb)
        clear hb BB VB HDd v0 v1 v2 v3 v4 v5
        obtain ⟨v0, v1, v2, v3, v4, v5⟩ := VC.out
        by_cases hd : D = 0
        · subst hd
          have HLg := hide (H5.out _ BC.out)
          have HZ := hide (HF4.out HK.out h4 rfl).symm
          go_wp2_with fail
          refine HLg.out.mono ?_
          rintro e w3 ⟨rfl, hb⟩
          have BD := hide (below_on BC.out hb)
          clear hb
          go_wp2
          go_ret
          exact ⟨ret_int HZ.out, BD.out⟩
        · have HZ := hide (HF3.out HK.out h4 hd).symm
          have hd1 : (D == 0) = false := by simpa using hd
          have hd2 : (D != 0) = true := by simp [hd]
          go_wp2
          go_ret
          exact ⟨ret_int HZ.out, BC.out⟩
  · have hi := inBq_no hin
    have HZ := hide (HF1.out (fun h => hin (by unfold fmO at h; omega))).symm
    go_wp2
    go_ret
    exact ⟨ret_int HZ.out, BA.out⟩
end Go.Proofs.YtlliggfggadidaaGreatDoor
namespace Go.Proofs.YtlliggfggadidaaGreatDoor
open Go.RowKit
end Go.Proofs.YtlliggfggadidaaGreatDoor
namespace Go.Proofs.YtlliggfggadidaaGreatDoor
open Go.RowKit
def Var9 (w : World) (b : Nat) (x0 x1 x2 x3 x4 x5 x6 x7 x8 : Value) : Prop := w.cell? ⟨b, 0, none⟩ = some x0 ∧ w.cell? ⟨b, 1, none⟩ = some x1 ∧ w.cell? ⟨b, 2, none⟩ = some x2 ∧ w.cell? ⟨b, 3, none⟩ = some x3 ∧ w.cell? ⟨b, 4, none⟩ = some x4 ∧ w.cell? ⟨b, 5, none⟩ = some x5 ∧ w.cell? ⟨b, 6, none⟩ = some x6 ∧ w.cell? ⟨b, 7, none⟩ = some x7 ∧ w.cell? ⟨b, 8, none⟩ = some x8
theorem Var9.later {w w' : World} {b : Nat} {x0 x1 x2 x3 x4 x5 x6 x7 x8 : Value} (h : Var9 w b x0 x1 x2 x3 x4 x5 x6 x7 x8) (hb : Below w.heap.size w w') : Var9 w' b x0 x1 x2 x3 x4 x5 x6 x7 x8 :=
  ⟨cell_later hb h.1, cell_later hb h.2.1, cell_later hb h.2.2.1, cell_later hb h.2.2.2.1, cell_later hb h.2.2.2.2.1, cell_later hb h.2.2.2.2.2.1, cell_later hb h.2.2.2.2.2.2.1, cell_later hb h.2.2.2.2.2.2.2.1, cell_later hb h.2.2.2.2.2.2.2.2⟩
theorem Var9.wr {S : Nat → Prop} {w w' : World} {b : Nat} {x0 x1 x2 x3 x4 x5 x6 x7 x8 : Value} (h : Var9 w b x0 x1 x2 x3 x4 x5 x6 x7 x8) (hb : Wr S w w') (hd : ¬ S b) : Var9 w' b x0 x1 x2 x3 x4 x5 x6 x7 x8 :=
  ⟨cell_wr hb h.1 hd, cell_wr hb h.2.1 hd, cell_wr hb h.2.2.1 hd, cell_wr hb h.2.2.2.1 hd, cell_wr hb h.2.2.2.2.1 hd, cell_wr hb h.2.2.2.2.2.1 hd, cell_wr hb h.2.2.2.2.2.2.1 hd, cell_wr hb h.2.2.2.2.2.2.2.1 hd, cell_wr hb h.2.2.2.2.2.2.2.2 hd⟩
theorem Var9.lt {w : World} {b : Nat} {x0 x1 x2 x3 x4 x5 x6 x7 x8 : Value} (h : Var9 w b x0 x1 x2 x3 x4 x5 x6 x7 x8) : b < w.heap.size := World.block_lt_of_cell? _ _ h.1
theorem Var9_new (w : World) (x0 x1 x2 x3 x4 x5 x6 x7 x8 : Value) (t : TypeId) : Var9 (w.alloc (.cells #[x0, x1, x2, x3, x4, x5, x6, x7, x8] t)) w.heap.size x0 x1 x2 x3 x4 x5 x6 x7 x8 := by
  refine ⟨?_, ?_, ?_, ?_, ?_, ?_, ?_, ?_, ?_⟩ <;> simp [go_sem]
theorem set9_other {w : World} {b h o : Nat} {x0 x1 x2 x3 x4 x5 x6 x7 x8 : Value} (hb : b ≠ h) : (((((((((w.setCell ⟨h, 0, none⟩ x0).setCell ⟨h, 1, none⟩ x1).setCell ⟨h, 2, none⟩ x2).setCell ⟨h, 3, none⟩ x3).setCell ⟨h, 4, none⟩ x4).setCell ⟨h, 5, none⟩ x5).setCell ⟨h, 6, none⟩ x6).setCell ⟨h, 7, none⟩ x7).setCell ⟨h, 8, none⟩ x8).cell? ⟨b, o, none⟩ = w.cell? ⟨b, o, none⟩ := by
  rw [World.cell?_setCell_other _ _ _ _ (by intro e; injection e with e1 _; exact hb e1.symm), World.cell?_setCell_other _ _ _ _ (by intro e; injection e with e1 _; exact hb e1.symm), World.cell?_setCell_other _ _ _ _ (by intro e; injection e with e1 _; exact hb e1.symm), World.cell?_setCell_other _ _ _ _ (by intro e; injection e with e1 _; exact hb e1.symm), World.cell?_setCell_other _ _ _ _ (by intro e; injection e with e1 _; exact hb e1.symm), World.cell?_setCell_other _ _ _ _ (by intro e; injection e with e1 _; exact hb e1.symm), World.cell?_setCell_other _ _ _ _ (by intro e; injection e with e1 _; exact hb e1.symm), World.cell?_setCell_other _ _ _ _ (by intro e; injection e with e1 _; exact hb e1.symm), World.cell?_setCell_other _ _ _ _ (by intro e; injection e with e1 _; exact hb e1.symm)]
def EndsO8 (x x1 x2 q0 q1 q2 q3 : Int) (rs : List Int) (rp : List Oj) (w : World) (e : Ending) (w' : World) : Prop :=
  ∃ y z, e = .returned (.agg #[.int .i64 x, .int .i64 x1, .int .i64 x2, .int .i64 q0, .int .i64 q1, .int .i64 q2, .int .i64 q3, y, z]) ∧ Below w.heap.size w w' ∧ IvR w.heap.size w'.heap.size w' y z rs rp
structure Res9 (w wr : World) (r : Nat) : Prop where
  below : Below w.heap.size w wr
  v : Var9 wr r (.int .i64 0) (.int .i64 0) (.int .i64 0) (.int .i64 0) (.int .i64 0) (.int .i64 0) (.int .i64 0) (.slice none 0 0) (.slice none 0 0)
  fr : ∀ o, wr.frozen? ⟨r, o, none⟩ = false
  ge : w.heap.size ≤ r
theorem Res9.lt {w wr : World} {r : Nat} (h : Res9 w wr r) : r < wr.heap.size := h.v.lt
theorem Res9.later {w wr w1 : World} {r : Nat} (h : Res9 w wr r) (hb : Below wr.heap.size wr w1) : Res9 w w1 r := ⟨below_on h.below hb, h.v.later hb, fun o => ((bcell hb).2 _ _ h.lt).trans (h.fr o), h.ge⟩
theorem Res9.wr {w wr w1 : World} {r : Nat} {T : Nat → Prop} (h : Res9 w wr r) (hw : Wr T wr w1) (hr : ¬ T r) (hT : ∀ b, T b → w.heap.size ≤ b) : Res9 w w1 r := ⟨h.below.trans (hw.below h.below.size hT), h.v.wr hw hr, fun o => (hw.frz _ _ h.lt).trans (h.fr o), h.ge⟩
theorem Res9.new {w w1 : World} (hb : Below w.heap.size w w1) (t : TypeId) : Res9 w (w1.alloc (.cells #[.int .i64 0, .int .i64 0, .int .i64 0, .int .i64 0, .int .i64 0, .int .i64 0, .int .i64 0, .slice none 0 0, .slice none 0 0] t)) w1.heap.size := ⟨below_on hb (below_alloc _ _), Var9_new _ _ _ _ _ _ _ _ _ _ _, fun o => by simp [go_sem], hb.size⟩
theorem ret_op {w w3 : World} {r lo : Nat} {x0 x1 x2 x3 x4 x5 x6 y z : Value} {xs : List Int} {ps : List Oj} (hb : Below w.heap.size w w3) (hr : w.heap.size ≤ r) (ho : IvR lo w3.heap.size w3 y z xs ps) (hlo : r < lo) :
    Below w.heap.size w (((((((((w3.setCell ⟨r, 0, none⟩ x0).setCell ⟨r, 1, none⟩ x1).setCell ⟨r, 2, none⟩ x2).setCell ⟨r, 3, none⟩ x3).setCell ⟨r, 4, none⟩ x4).setCell ⟨r, 5, none⟩ x5).setCell ⟨r, 6, none⟩ x6).setCell ⟨r, 7, none⟩ y).setCell ⟨r, 8, none⟩ z) ∧ IvR w.heap.size (((((((((w3.setCell ⟨r, 0, none⟩ x0).setCell ⟨r, 1, none⟩ x1).setCell ⟨r, 2, none⟩ x2).setCell ⟨r, 3, none⟩ x3).setCell ⟨r, 4, none⟩ x4).setCell ⟨r, 5, none⟩ x5).setCell ⟨r, 6, none⟩ x6).setCell ⟨r, 7, none⟩ y).setCell ⟨r, 8, none⟩ z).heap.size (((((((((w3.setCell ⟨r, 0, none⟩ x0).setCell ⟨r, 1, none⟩ x1).setCell ⟨r, 2, none⟩ x2).setCell ⟨r, 3, none⟩ x3).setCell ⟨r, 4, none⟩ x4).setCell ⟨r, 5, none⟩ x5).setCell ⟨r, 6, none⟩ x6).setCell ⟨r, 7, none⟩ y).setCell ⟨r, 8, none⟩ z) y z xs ps := by
  have hw : Wr (fun q => q = r) w3 (((((((((w3.setCell ⟨r, 0, none⟩ x0).setCell ⟨r, 1, none⟩ x1).setCell ⟨r, 2, none⟩ x2).setCell ⟨r, 3, none⟩ x3).setCell ⟨r, 4, none⟩ x4).setCell ⟨r, 5, none⟩ x5).setCell ⟨r, 6, none⟩ x6).setCell ⟨r, 7, none⟩ y).setCell ⟨r, 8, none⟩ z) := ((((((((((Wr.refl (fun q => q = r) _).setCell (p := ⟨r, 0, none⟩) rfl _).setCell (p := ⟨r, 1, none⟩) rfl _).setCell (p := ⟨r, 2, none⟩) rfl _).setCell (p := ⟨r, 3, none⟩) rfl _).setCell (p := ⟨r, 4, none⟩) rfl _).setCell (p := ⟨r, 5, none⟩) rfl _).setCell (p := ⟨r, 6, none⟩) rfl _).setCell (p := ⟨r, 7, none⟩) rfl _).setCell (p := ⟨r, 8, none⟩) rfl _)
  exact ⟨(((((((((hb.setCell (p := ⟨r, 0, none⟩) hr _).setCell (p := ⟨r, 1, none⟩) hr _).setCell (p := ⟨r, 2, none⟩) hr _).setCell (p := ⟨r, 3, none⟩) hr _).setCell (p := ⟨r, 4, none⟩) hr _).setCell (p := ⟨r, 5, none⟩) hr _).setCell (p := ⟨r, 6, none⟩) hr _).setCell (p := ⟨r, 7, none⟩) hr _).setCell (p := ⟨r, 8, none⟩) hr _), IvR.up (ho.wr hw (fun b h1 _ e => by omega)) (by omega) hw.size⟩
end Go.Proofs.YtlliggfggadidaaGreatDoor
