/- Op2 Ra4 in one text: what each says stands at its head below. -/
import Derived.Test.YtlljcajfdeiigaaGreatDoorG13
import Derived.Test.YtlljcajfdeiigaaGreatDoorG14
/- Chapter 12: the fault of an operation, of the program and of the model, walked. Made by program (genop2.py). -/
namespace Go.Proofs.YtlljcajfdeiigaaGreatDoor
open Go.RowKit

/-- Nothing stands in an operation that its kind has not. -/
def fmO (a b c d : Int) (l m : Nat) : Prop := (a = 5 ∧ l = 0 ∧ c = 0 ∧ d = 0 ∧ m = 0) ∨ (a = 3 ∧ c = 0 ∧ d = 0 ∧ m = 0) ∨ (a = 4 ∧ d = 0 ∧ m = 0) ∨ (a = 2 ∧ d = 0 ∧ l = 0) ∨ (a = 1 ∧ b = 0 ∧ l = 0 ∧ m = 0)
instance (a b c d : Int) (l m : Nat) : Decidable (fmO a b c d l m) := by unfold fmO; infer_instance
/-- The fault of an operation (kind, index, term, vote, data, list). -/
def opF (r : Rf) : Int := if ¬ fmO r.tm r.vt r.si r.st r.sn.length r.lg.length then 1 else if 4 < r.lg.length then 2 else if daF r.sn ≠ 0 then daF r.sn else logF r.lg
theorem opF_form {r : Rf} (h : ¬ fmO r.tm r.vt r.si r.st r.sn.length r.lg.length) : opF r = 1 := by unfold opF; rw [if_pos h]
theorem opF_many {r : Rf} (h : fmO r.tm r.vt r.si r.st r.sn.length r.lg.length) (h1 : 4 < r.lg.length) : opF r = 2 := by unfold opF; rw [if_neg (fun k => k h), if_pos h1]
theorem opF_data {r : Rf} (h : fmO r.tm r.vt r.si r.st r.sn.length r.lg.length) (h1 : ¬ 4 < r.lg.length) (h2 : daF r.sn ≠ 0) : opF r = daF r.sn := by unfold opF; rw [if_neg (fun k => k h), if_neg h1, if_pos h2]
theorem opF_log {r : Rf} (h : fmO r.tm r.vt r.si r.st r.sn.length r.lg.length) (h1 : ¬ 4 < r.lg.length) (h2 : daF r.sn = 0) : opF r = logF r.lg := by unfold opF; rw [if_neg (fun k => k h), if_neg h1, if_neg (fun k => k h2)]
theorem opF_ok {r : Rf} (h : opF r = 0) : fmO r.tm r.vt r.si r.st r.sn.length r.lg.length ∧ r.lg.length ≤ 4 ∧ daF r.sn = 0 ∧ logF r.lg = 0 := by
  unfold opF at h
  by_cases h0 : fmO r.tm r.vt r.si r.st r.sn.length r.lg.length
  · rw [if_neg (fun k => k h0)] at h
    by_cases h1 : 4 < r.lg.length
    · rw [if_pos h1] at h; cases h
    · rw [if_neg h1] at h
      by_cases h2 : daF r.sn = 0
      · rw [if_neg (fun k => k h2)] at h; exact ⟨h0, by omega, h2, h⟩
      · rw [if_pos h2] at h; exact absurd h h2
  · rw [if_pos h0] at h; cases h

set_option maxHeartbeats 8000000 in
set_option maxRecDepth 4000 in
theorem isFormedB (a b c d : Int) (ay az : Option Addr) (l m cy cz : Nat) (hl : l ≤ 9223372036854775807) (hm' : m ≤ 9223372036854775807) (w : World) : Calls Tryz.prog 58 #[.agg #[.int .i64 a, .int .i64 b, .int .i64 c, .int .i64 d, .slice ay l cy, .slice az m cz]] w fun e w' => e = .returned (.bool (decide (fmO a b c d l m))) ∧ Below w.heap.size w w' := by
  by_cases h5 : a = 5
  · subst h5
    by_cases hl : l = 0
    · subst hl
      by_cases hc : c = 0
      · subst hc
        by_cases hd : d = 0
        · subst hd
          by_cases hm : m = 0
          · subst hm
            rw [decide_eq_true (by unfold fmO; omega)]
            go_enter Tryz.func58, Tryz.ntmps58
            go_wp2
            go_ret
            exact ⟨by first | rfl | simp [*], below_alloc _ _⟩
          · have hm1 : ((m : Int) == 0) = false := by simp; omega
            have hm2 : ((m : Int) != 0) = true := by simp; omega
            rw [decide_eq_false (by unfold fmO; omega)]
            go_enter Tryz.func58, Tryz.ntmps58
            go_wp2
            go_ret
            exact ⟨by first | rfl | simp [*], below_alloc _ _⟩
        · have hd1 : (d == 0) = false := by simpa using hd
          have hd2 : (d != 0) = true := by simp [hd]
          rw [decide_eq_false (by unfold fmO; omega)]
          go_enter Tryz.func58, Tryz.ntmps58
          go_wp2
          go_ret
          exact ⟨by first | rfl | simp [*], below_alloc _ _⟩
      · have hc1 : (c == 0) = false := by simpa using hc
        have hc2 : (c != 0) = true := by simp [hc]
        rw [decide_eq_false (by unfold fmO; omega)]
        go_enter Tryz.func58, Tryz.ntmps58
        go_wp2
        go_ret
        exact ⟨by first | rfl | simp [*], below_alloc _ _⟩
    · have hl1 : ((l : Int) == 0) = false := by simp; omega
      have hl2 : ((l : Int) != 0) = true := by simp; omega
      rw [decide_eq_false (by unfold fmO; omega)]
      go_enter Tryz.func58, Tryz.ntmps58
      go_wp2
      go_ret
      exact ⟨by first | rfl | simp [*], below_alloc _ _⟩
  · have g5 : (a == 5) = false := by simpa using h5
    have g5' : (a != 5) = true := by simp [h5]
    by_cases h3 : a = 3
    · subst h3
      by_cases hc : c = 0
      · subst hc
        by_cases hd : d = 0
        · subst hd
          by_cases hm : m = 0
          · subst hm
            rw [decide_eq_true (by unfold fmO; omega)]
            go_enter Tryz.func58, Tryz.ntmps58
            go_wp2
            go_ret
            exact ⟨by first | rfl | simp [*], below_alloc _ _⟩
          · have hm1 : ((m : Int) == 0) = false := by simp; omega
            have hm2 : ((m : Int) != 0) = true := by simp; omega
            rw [decide_eq_false (by unfold fmO; omega)]
            go_enter Tryz.func58, Tryz.ntmps58
            go_wp2
            go_ret
            exact ⟨by first | rfl | simp [*], below_alloc _ _⟩
        · have hd1 : (d == 0) = false := by simpa using hd
          have hd2 : (d != 0) = true := by simp [hd]
          rw [decide_eq_false (by unfold fmO; omega)]
          go_enter Tryz.func58, Tryz.ntmps58
          go_wp2
          go_ret
          exact ⟨by first | rfl | simp [*], below_alloc _ _⟩
      · have hc1 : (c == 0) = false := by simpa using hc
        have hc2 : (c != 0) = true := by simp [hc]
        rw [decide_eq_false (by unfold fmO; omega)]
        go_enter Tryz.func58, Tryz.ntmps58
        go_wp2
        go_ret
        exact ⟨by first | rfl | simp [*], below_alloc _ _⟩
    · have g3 : (a == 3) = false := by simpa using h3
      have g3' : (a != 3) = true := by simp [h3]
      by_cases h4 : a = 4
      · subst h4
        by_cases hd : d = 0
        · subst hd
          by_cases hm : m = 0
          · subst hm
            rw [decide_eq_true (by unfold fmO; omega)]
            go_enter Tryz.func58, Tryz.ntmps58
            go_wp2
            go_ret
            exact ⟨by first | rfl | simp [*], below_alloc _ _⟩
          · have hm1 : ((m : Int) == 0) = false := by simp; omega
            have hm2 : ((m : Int) != 0) = true := by simp; omega
            rw [decide_eq_false (by unfold fmO; omega)]
            go_enter Tryz.func58, Tryz.ntmps58
            go_wp2
            go_ret
            exact ⟨by first | rfl | simp [*], below_alloc _ _⟩
        · have hd1 : (d == 0) = false := by simpa using hd
          have hd2 : (d != 0) = true := by simp [hd]
          rw [decide_eq_false (by unfold fmO; omega)]
          go_enter Tryz.func58, Tryz.ntmps58
          go_wp2
          go_ret
          exact ⟨by first | rfl | simp [*], below_alloc _ _⟩
      · have g4 : (a == 4) = false := by simpa using h4
        have g4' : (a != 4) = true := by simp [h4]
        by_cases h2 : a = 2
        · subst h2
          by_cases hd : d = 0
          · subst hd
            by_cases hl : l = 0
            · subst hl
              rw [decide_eq_true (by unfold fmO; omega)]
              go_enter Tryz.func58, Tryz.ntmps58
              go_wp2
              go_ret
              exact ⟨by first | rfl | simp [*], below_alloc _ _⟩
            · have hl1 : ((l : Int) == 0) = false := by simp; omega
              have hl2 : ((l : Int) != 0) = true := by simp; omega
              rw [decide_eq_false (by unfold fmO; omega)]
              go_enter Tryz.func58, Tryz.ntmps58
              go_wp2
              go_ret
              exact ⟨by first | rfl | simp [*], below_alloc _ _⟩
          · have hd1 : (d == 0) = false := by simpa using hd
            have hd2 : (d != 0) = true := by simp [hd]
            rw [decide_eq_false (by unfold fmO; omega)]
            go_enter Tryz.func58, Tryz.ntmps58
            go_wp2
            go_ret
            exact ⟨by first | rfl | simp [*], below_alloc _ _⟩
        · have g2 : (a == 2) = false := by simpa using h2
          have g2' : (a != 2) = true := by simp [h2]
          by_cases h1 : a = 1
          · subst h1
            by_cases hb : b = 0
            · subst hb
              by_cases hl : l = 0
              · subst hl
                by_cases hm : m = 0
                · subst hm
                  rw [decide_eq_true (by unfold fmO; omega)]
                  go_enter Tryz.func58, Tryz.ntmps58
                  go_wp2
                  go_ret
                  exact ⟨by first | rfl | simp [*], below_alloc _ _⟩
                · have hm1 : ((m : Int) == 0) = false := by simp; omega
                  have hm2 : ((m : Int) != 0) = true := by simp; omega
                  rw [decide_eq_false (by unfold fmO; omega)]
                  go_enter Tryz.func58, Tryz.ntmps58
                  go_wp2
                  go_ret
                  exact ⟨by first | rfl | simp [*], below_alloc _ _⟩
              · have hl1 : ((l : Int) == 0) = false := by simp; omega
                have hl2 : ((l : Int) != 0) = true := by simp; omega
                rw [decide_eq_false (by unfold fmO; omega)]
                go_enter Tryz.func58, Tryz.ntmps58
                go_wp2
                go_ret
                exact ⟨by first | rfl | simp [*], below_alloc _ _⟩
            · have hb1 : (b == 0) = false := by simpa using hb
              have hb2 : (b != 0) = true := by simp [hb]
              rw [decide_eq_false (by unfold fmO; omega)]
              go_enter Tryz.func58, Tryz.ntmps58
              go_wp2
              go_ret
              exact ⟨by first | rfl | simp [*], below_alloc _ _⟩
          · have g1 : (a == 1) = false := by simpa using h1
            have g1' : (a != 1) = true := by simp [h1]
            rw [decide_eq_false (by unfold fmO; omega)]
            go_enter Tryz.func58, Tryz.ntmps58
            go_wp2
            go_ret
            exact ⟨by first | rfl | simp [*], below_alloc _ _⟩

set_option maxHeartbeats 8000000 in
set_option maxRecDepth 4000 in
theorem l12BareB {w : World} {bk : Nat} {a b c d : Int} {ay az : Option Addr} {l m cy cz : Nat} (hv : Var6 w bk (.int .i64 a) (.int .i64 b) (.int .i64 c) (.int .i64 d) (.slice ay l cy) (.slice az m cz)) (ha : 1 ≤ a ∧ a ≤ 5) (hl : l ≤ 9223372036854775807) (hm' : m ≤ 9223372036854775807) : Calls Tryz.prog 45 #[.pointer (some ⟨bk, 0, none⟩)] w fun e w' => e = .returned (.bool (decide (fmO a b c d l m))) ∧ Below w.heap.size w w' := by
  obtain ⟨v0, v1, v2, v3, v4, v5⟩ := hv
  by_cases h1 : a = 1
  · subst h1
    by_cases hb : b = 0
    · subst hb
      by_cases hl : l = 0
      · subst hl
        by_cases hm : m = 0
        · subst hm
          rw [decide_eq_true (by unfold fmO; omega)]
          go_enter Tryz.func45, Tryz.ntmps45
          go_wp2
          go_ret
          exact ⟨by first | rfl | simp [*], Below.refl _ _⟩
        · have hm1 : ((m : Int) == 0) = false := by simp; omega
          have hm2 : ((m : Int) != 0) = true := by simp; omega
          rw [decide_eq_false (by unfold fmO; omega)]
          go_enter Tryz.func45, Tryz.ntmps45
          go_wp2
          go_ret
          exact ⟨by first | rfl | simp [*], Below.refl _ _⟩
      · have hl1 : ((l : Int) == 0) = false := by simp; omega
        have hl2 : ((l : Int) != 0) = true := by simp; omega
        rw [decide_eq_false (by unfold fmO; omega)]
        go_enter Tryz.func45, Tryz.ntmps45
        go_wp2
        go_ret
        exact ⟨by first | rfl | simp [*], Below.refl _ _⟩
    · have hb1 : (b == 0) = false := by simpa using hb
      have hb2 : (b != 0) = true := by simp [hb]
      rw [decide_eq_false (by unfold fmO; omega)]
      go_enter Tryz.func45, Tryz.ntmps45
      go_wp2
      go_ret
      exact ⟨by first | rfl | simp [*], Below.refl _ _⟩
  · have g1 : (a == 1) = false := by simpa using h1
    have g1' : (a != 1) = true := by simp [h1]
    by_cases h2 : a = 2
    · subst h2
      by_cases hd : d = 0
      · subst hd
        by_cases hl : l = 0
        · subst hl
          rw [decide_eq_true (by unfold fmO; omega)]
          go_enter Tryz.func45, Tryz.ntmps45
          go_wp2
          go_ret
          exact ⟨by first | rfl | simp [*], Below.refl _ _⟩
        · have hl1 : ((l : Int) == 0) = false := by simp; omega
          have hl2 : ((l : Int) != 0) = true := by simp; omega
          rw [decide_eq_false (by unfold fmO; omega)]
          go_enter Tryz.func45, Tryz.ntmps45
          go_wp2
          go_ret
          exact ⟨by first | rfl | simp [*], Below.refl _ _⟩
      · have hd1 : (d == 0) = false := by simpa using hd
        have hd2 : (d != 0) = true := by simp [hd]
        rw [decide_eq_false (by unfold fmO; omega)]
        go_enter Tryz.func45, Tryz.ntmps45
        go_wp2
        go_ret
        exact ⟨by first | rfl | simp [*], Below.refl _ _⟩
    · have g2 : (a == 2) = false := by simpa using h2
      have g2' : (a != 2) = true := by simp [h2]
      by_cases h3 : a = 3
      · subst h3
        by_cases hc : c = 0
        · subst hc
          by_cases hd : d = 0
          · subst hd
            by_cases hm : m = 0
            · subst hm
              rw [decide_eq_true (by unfold fmO; omega)]
              go_enter Tryz.func45, Tryz.ntmps45
              go_wp2
              go_ret
              exact ⟨by first | rfl | simp [*], Below.refl _ _⟩
            · have hm1 : ((m : Int) == 0) = false := by simp; omega
              have hm2 : ((m : Int) != 0) = true := by simp; omega
              rw [decide_eq_false (by unfold fmO; omega)]
              go_enter Tryz.func45, Tryz.ntmps45
              go_wp2
              go_ret
              exact ⟨by first | rfl | simp [*], Below.refl _ _⟩
          · have hd1 : (d == 0) = false := by simpa using hd
            have hd2 : (d != 0) = true := by simp [hd]
            rw [decide_eq_false (by unfold fmO; omega)]
            go_enter Tryz.func45, Tryz.ntmps45
            go_wp2
            go_ret
            exact ⟨by first | rfl | simp [*], Below.refl _ _⟩
        · have hc1 : (c == 0) = false := by simpa using hc
          have hc2 : (c != 0) = true := by simp [hc]
          rw [decide_eq_false (by unfold fmO; omega)]
          go_enter Tryz.func45, Tryz.ntmps45
          go_wp2
          go_ret
          exact ⟨by first | rfl | simp [*], Below.refl _ _⟩
      · have g3 : (a == 3) = false := by simpa using h3
        have g3' : (a != 3) = true := by simp [h3]
        by_cases h4 : a = 4
        · subst h4
          by_cases hd : d = 0
          · subst hd
            by_cases hm : m = 0
            · subst hm
              rw [decide_eq_true (by unfold fmO; omega)]
              go_enter Tryz.func45, Tryz.ntmps45
              go_wp2
              go_ret
              exact ⟨by first | rfl | simp [*], Below.refl _ _⟩
            · have hm1 : ((m : Int) == 0) = false := by simp; omega
              have hm2 : ((m : Int) != 0) = true := by simp; omega
              rw [decide_eq_false (by unfold fmO; omega)]
              go_enter Tryz.func45, Tryz.ntmps45
              go_wp2
              go_ret
              exact ⟨by first | rfl | simp [*], Below.refl _ _⟩
          · have hd1 : (d == 0) = false := by simpa using hd
            have hd2 : (d != 0) = true := by simp [hd]
            rw [decide_eq_false (by unfold fmO; omega)]
            go_enter Tryz.func45, Tryz.ntmps45
            go_wp2
            go_ret
            exact ⟨by first | rfl | simp [*], Below.refl _ _⟩
        · have g4 : (a == 4) = false := by simpa using h4
          have g4' : (a != 4) = true := by simp [h4]
          by_cases h5 : a = 5
          · subst h5
            by_cases hc : c = 0
            · subst hc
              by_cases hd : d = 0
              · subst hd
                by_cases hl : l = 0
                · subst hl
                  by_cases hm : m = 0
                  · subst hm
                    rw [decide_eq_true (by unfold fmO; omega)]
                    go_enter Tryz.func45, Tryz.ntmps45
                    go_wp2
                    go_ret
                    exact ⟨by first | rfl | simp [*], Below.refl _ _⟩
                  · have hm1 : ((m : Int) == 0) = false := by simp; omega
                    have hm2 : ((m : Int) != 0) = true := by simp; omega
                    rw [decide_eq_false (by unfold fmO; omega)]
                    go_enter Tryz.func45, Tryz.ntmps45
                    go_wp2
                    go_ret
                    exact ⟨by first | rfl | simp [*], Below.refl _ _⟩
                · have hl1 : ((l : Int) == 0) = false := by simp; omega
                  have hl2 : ((l : Int) != 0) = true := by simp; omega
                  rw [decide_eq_false (by unfold fmO; omega)]
                  go_enter Tryz.func45, Tryz.ntmps45
                  go_wp2
                  go_ret
                  exact ⟨by first | rfl | simp [*], Below.refl _ _⟩
              · have hd1 : (d == 0) = false := by simpa using hd
                have hd2 : (d != 0) = true := by simp [hd]
                rw [decide_eq_false (by unfold fmO; omega)]
                go_enter Tryz.func45, Tryz.ntmps45
                go_wp2
                go_ret
                exact ⟨by first | rfl | simp [*], Below.refl _ _⟩
            · have hc1 : (c == 0) = false := by simpa using hc
              have hc2 : (c != 0) = true := by simp [hc]
              rw [decide_eq_false (by unfold fmO; omega)]
              go_enter Tryz.func45, Tryz.ntmps45
              go_wp2
              go_ret
              exact ⟨by first | rfl | simp [*], Below.refl _ _⟩
          · have g5 : (a == 5) = false := by simpa using h5
            have g5' : (a != 5) = true := by simp [h5]
            omega

set_option maxHeartbeats 4000000 in
set_option maxRecDepth 4000 in
theorem implOpFault {S T : Nat → Prop} {w : World} {y z : Value} (r : Rf) (hy : RdI S w y r.sn) (hz : RdJ T w z r.lg) :
    Calls Tryz.prog 32 #[.agg #[.int .i64 r.tm, .int .i64 r.vt, .int .i64 r.si, .int .i64 r.st, y, z]] w fun e w' => e = .returned (.int .i64 (opF r)) ∧ Below w.heap.size w w' := by
  obtain ⟨ay, cy, rfl⟩ := hy.shape
  obtain ⟨az, cz, rfl, hzm⟩ := hz.shape
  have hym := hy.maxR
  have HF1 := hide (@opF_form r)
  have HF2 := hide (@opF_many r)
  have HF3 := hide (@opF_data r)
  have HF4 := hide (@opF_log r)
  obtain ⟨Z, hZ⟩ : ∃ Z, opF r = Z := ⟨_, rfl⟩
  rw [hZ] at HF1 HF2 HF3 HF4 ⊢
  have H3 := hide (fun (w' : World) (hb : Below w.heap.size w w') => snapFaultI (hy.later hb))
  have H5 := hide (fun (w' : World) (hb : Below w.heap.size w w') => implLogFault (hz.later hb))
  obtain ⟨l, hl⟩ : ∃ l, r.sn.length = l := ⟨_, rfl⟩
  obtain ⟨m, hm⟩ : ∃ m, r.lg.length = m := ⟨_, rfl⟩
  rw [hl] at H3 hym HF1 HF2 HF3 HF4 ⊢
  rw [hm] at H5 hzm HF1 HF2 HF3 HF4 ⊢
  obtain ⟨D, hD⟩ : ∃ D, daF r.sn = D := ⟨_, rfl⟩
  obtain ⟨G, hG⟩ : ∃ G, logF r.lg = G := ⟨_, rfl⟩
  rw [hD] at H3 HF3 HF4
  rw [hG] at H5 HF4
  clear hy hz hZ hl hm hD hG
  generalize r.tm = a at *
  generalize r.vt = b at *
  generalize r.si = c at *
  generalize r.st = d at *
  have H1 := hide (isFormedB a b c d ay az l m cy cz hym hzm)
  obtain ⟨B, hB⟩ : ∃ B, decide (fmO a b c d l m) = B := ⟨_, rfl⟩
  rw [hB] at H1
  have K := hide hB
  clear hB
  have BA := hide (below_alloc w (.cells #[.int .i64 a, .int .i64 b, .int .i64 c, .int .i64 d, .slice ay l cy, .slice az m cz] 38))
  have VA := hide (Var6_new w (.int .i64 a) (.int .i64 b) (.int .i64 c) (.int .i64 d) (.slice ay l cy) (.slice az m cz) 38)
  go_enter Tryz.func32, Tryz.ntmps32
  go_wp2_with fail
  refine (H1.out _).mono ?_
  rintro e w1 ⟨rfl, hb⟩
  have BB := hide (below_on BA.out hb)
  have VB := hide (VA.out.later hb)
  clear hb BA VA H1
  cases B
  · have HZ := hide (HF1.out (of_decide_eq_false K.out)).symm
    go_wp2
    go_ret
    exact ⟨ret_int HZ.out, BB.out⟩
  · have hf := of_decide_eq_true K.out
    have HK := hide hf
    clear hf K
    obtain ⟨v0, v1, v2, v3, v4, v5⟩ := VB.out
    by_cases h4 : 4 < m
    · have h4' : (4 : Int) < (m : Int) := by omega
      have HZ := hide (HF2.out HK.out h4).symm
      go_wp2
      go_ret
      exact ⟨ret_int HZ.out, BB.out⟩
    · have h4' : ¬ (4 : Int) < (m : Int) := by omega
      have HDd := hide (H3.out _ BB.out)
      go_wp2_with fail
      refine HDd.out.mono ?_
      rintro e w2 ⟨rfl, q, hw2⟩
      have hb : Below w1.heap.size w1 w2 := by rw [hw2]; exact below_drewN _ _
      clear hw2
      have BC := hide (below_on BB.out hb)
      have VC := hide (VB.out.later hb)
      clear hb BB VB HDd v0 v1 v2 v3 v4 v5
      obtain ⟨v0, v1, v2, v3, v4, v5⟩ := VC.out
      by_cases hd : D = 0
      · subst hd
        have HLg := hide (H5.out _ BC.out)
        have HZ := hide (HF4.out HK.out h4 rfl).symm
        go_wp2_with fail
        refine HLg.out.mono ?_
        rintro e w3 ⟨rfl, hb⟩
        have BD := hide (below_on BC.out hb)
        clear hb
        go_wp2
        go_ret
        exact ⟨ret_int HZ.out, BD.out⟩
      · have HZ := hide (HF3.out HK.out h4 hd).symm
        have hd1 : (D == 0) = false := by simpa using hd
        have hd2 : (D != 0) = true := by simp [hd]
        go_wp2
        go_ret
        exact ⟨ret_int HZ.out, BC.out⟩

set_option maxHeartbeats 4000000 in
set_option maxRecDepth 4000 in
theorem l12Fault {S T : Nat → Prop} {w : World} {bk : Nat} {y z : Value} (r : Rf) (hv : Var6 w bk (.int .i64 r.tm) (.int .i64 r.vt) (.int .i64 r.si) (.int .i64 r.st) y z) (hy : RdI S w y r.sn) (hz : RdJ T w z r.lg) :
    Calls Tryz.prog 27 #[.pointer (some ⟨bk, 0, none⟩)] w fun e w' => e = .returned (.int .i64 (opF r)) ∧ Below w.heap.size w w' := by
  obtain ⟨ay, cy, rfl⟩ := hy.shape
  obtain ⟨az, cz, rfl, hzm⟩ := hz.shape
  have hym := hy.maxR
  have HF1 := hide (@opF_form r)
  have HF2 := hide (@opF_many r)
  have HF3 := hide (@opF_data r)
  have HF4 := hide (@opF_log r)
  obtain ⟨Z, hZ⟩ : ∃ Z, opF r = Z := ⟨_, rfl⟩
  rw [hZ] at HF1 HF2 HF3 HF4 ⊢
  have H3 := hide (fun (w' : World) (hb : Below w.heap.size w w') => l10DataI (hy.later hb))
  have H5 := hide (fun (w' : World) (hb : Below w.heap.size w w') => l9Log (hz.later hb))
  obtain ⟨l, hl⟩ : ∃ l, r.sn.length = l := ⟨_, rfl⟩
  obtain ⟨m, hm⟩ : ∃ m, r.lg.length = m := ⟨_, rfl⟩
  rw [hl] at hv H3 hym HF1 HF2 HF3 HF4
  rw [hm] at hv H5 hzm HF1 HF2 HF3 HF4
  obtain ⟨D, hD⟩ : ∃ D, daF r.sn = D := ⟨_, rfl⟩
  obtain ⟨G, hG⟩ : ∃ G, logF r.lg = G := ⟨_, rfl⟩
  rw [hD] at H3 HF3 HF4
  rw [hG] at H5 HF4
  clear hy hz hZ hl hm hD hG
  generalize r.tm = a at *
  generalize r.vt = b at *
  generalize r.si = c at *
  generalize r.st = d at *
  have BA := hide (Below.refl w.heap.size w)
  have VA := hide hv
  clear hv
  obtain ⟨v0, v1, v2, v3, v4, v5⟩ := VA.out
  go_enter Tryz.func27, Tryz.ntmps27
  go_wp2_with fail
  refine (l1InB _ _ _ _).mono ?_
  rintro e w0 ⟨rfl, hw⟩
  have hw := hw.symm
  subst hw
  by_cases hin : 1 ≤ a ∧ a ≤ 5
  · have HB := hide (l12BareB VA.out hin hym hzm)
    obtain ⟨B, hB⟩ : ∃ B, decide (fmO a b c d l m) = B := ⟨_, rfl⟩
    rw [hB] at HB
    have K := hide hB
    have hi := inBq_yes hin
    clear hB
    go_wp2_with fail
    refine HB.out.mono ?_
    rintro e w1 ⟨rfl, hb⟩
    have BB := hide (below_on BA.out hb)
    have VB := hide (VA.out.later hb)
    clear hb BA VA HB v0 v1 v2 v3 v4 v5 hi
    obtain ⟨v0, v1, v2, v3, v4, v5⟩ := VB.out
    cases B
    · have HZ := hide (HF1.out (of_decide_eq_false K.out)).symm
      go_wp2
      go_ret
      exact ⟨ret_int HZ.out, BB.out⟩
    · have hf := of_decide_eq_true K.out
      have HK := hide hf
      clear hf K hin v0 v1 v2 v3 v4 v5
      obtain ⟨v0, v1, v2, v3, v4, v5⟩ := VB.out
      by_cases h4 : 4 < m
      · have h4' : (4 : Int) < (m : Int) := by omega
        have HZ := hide (HF2.out HK.out h4).symm
        go_wp2
        go_ret
        exact ⟨ret_int HZ.out, BB.out⟩
      · have h4' : ¬ (4 : Int) < (m : Int) := by omega
        have HDd := hide (H3.out _ BB.out)
        go_wp2_with fail
        refine HDd.out.mono ?_
        rintro e w2 ⟨rfl, q, hw2⟩
        have hb : Below w1.heap.size w1 w2 := by rw [hw2]; exact below_drewN _ _
        clear hw2
        have BC := hide (below_on BB.out hb)
        have VC := hide (VB.out.later hb)
        clear hb BB VB HDd v0 v1 v2 v3 v4 v5
        obtain ⟨v0, v1, v2, v3, v4, v5⟩ := VC.out
        by_cases hd : D = 0
        · subst hd
          have HLg := hide (H5.out _ BC.out)
          have HZ := hide (HF4.out HK.out h4 rfl).symm
          go_wp2_with fail
          refine HLg.out.mono ?_
          rintro e w3 ⟨rfl, hb⟩
          have BD := hide (below_on BC.out hb)
          clear hb
          go_wp2
          go_ret
          exact ⟨ret_int HZ.out, BD.out⟩
        · have HZ := hide (HF3.out HK.out h4 hd).symm
          have hd1 : (D == 0) = false := by simpa using hd
          have hd2 : (D != 0) = true := by simp [hd]
          go_wp2
          go_ret
          exact ⟨ret_int HZ.out, BC.out⟩
  · have hi := inBq_no hin
    have HZ := hide (HF1.out (fun h => hin (by unfold fmO at h; omega))).symm
    go_wp2
    go_ret
    exact ⟨ret_int HZ.out, BA.out⟩

end Go.Proofs.YtlljcajfdeiigaaGreatDoor
/- Chapter 10: the fault of a store, of the program, walked. Made by program (genra4.py). -/
namespace Go.Proofs.YtlljcajfdeiigaaGreatDoor
open Go.RowKit

set_option maxHeartbeats 4000000 in
set_option maxRecDepth 4000 in
theorem implRaftFault {S T : Nat → Prop} {w : World} {y z : Value} (r : Rf) (hy : RdI S w y r.sn) (hz : RdJ T w z r.lg) :
    Calls Tryz.prog 31 #[.agg #[.int .i64 r.tm, .int .i64 r.vt, .int .i64 r.si, .int .i64 r.st, y, z]] w fun e w' => e = .returned (.int .i64 (rfF r)) ∧ Below w.heap.size w w' := by
  obtain ⟨ay, cy, rfl⟩ := hy.shape
  obtain ⟨az, cz, rfl, _⟩ := hz.shape
  have hym := hy.maxR
  have hlk := gon_link r
  have hrg : rgR r ↔ ((0 ≤ r.tm ∧ r.tm ≤ 999) ∧ (0 ≤ r.vt ∧ r.vt ≤ 9)) ∧ (0 ≤ r.si ∧ r.si ≤ 9999) ∧ 0 ≤ r.st ∧ r.st ≤ r.tm := Iff.rfl
  have hfm : fmR r ↔ ((r.si = 0 ↔ r.st = 0) ∧ (r.si = 0 → r.sn.length = 0)) := by unfold fmR; simp only [List.length_eq_zero_iff]
  have HF := hide (@rfF_range r)
  have HF1 := hide (@rfF_data r)
  have HF2 := hide (@rfF_form r)
  have HF3 := hide (@rfF_log r)
  have HF4 := hide (@rfF_link r)
  have HF5 := hide (@rfF_ok r)
  obtain ⟨Z, hZ⟩ : ∃ Z, rfF r = Z := ⟨_, rfl⟩
  rw [hZ] at HF HF1 HF2 HF3 HF4 HF5 ⊢
  have H3 := hide (fun (w' : World) (hb : Below w.heap.size w w') => snapFaultI (hy.later hb))
  have H5 := hide (fun (w' : World) (hb : Below w.heap.size w w') => implLogFault (hz.later hb))
  have H6 := hide (fun (w' : World) (hb : Below w.heap.size w w') (h : logF r.lg = 0) => goesOnB r.si r.st r.tm (hz.later hb) (fun hne => (entF_zero ((logF_iff.1 h).2.1 0 (List.length_pos_iff.2 hne))).1.1))
  have HRG := hide hrg
  have HFM := hide hfm
  have HLK := hide hlk
  obtain ⟨l, hl⟩ : ∃ l, r.sn.length = l := ⟨_, rfl⟩
  obtain ⟨m, hm⟩ : ∃ m, r.lg.length = m := ⟨_, rfl⟩
  rw [hl] at H3 HFM hym ⊢
  rw [hm] at H5 H6 ⊢
  obtain ⟨D, hD⟩ : ∃ D, daF r.sn = D := ⟨_, rfl⟩
  obtain ⟨G, hG⟩ : ∃ G, logF r.lg = G := ⟨_, rfl⟩
  rw [hD] at H3 HF1 HF2 HF3 HF4 HF5
  rw [hG] at H5 H6 HF3 HF4 HF5
  clear hy hz hlk hrg hfm hZ hl hm hD hG
  generalize r.tm = a at *
  generalize r.vt = b at *
  generalize r.si = c at *
  generalize r.st = d at *
  have H1 := hide (isHardB a b)
  have H2 := hide (isSnapRangeB a b c d ay az l m cy cz)
  have H4 := hide (isSnapWholeB a b c d ay az l m cy cz hym)
  obtain ⟨B1, hB1⟩ : ∃ B, decide ((0 ≤ a ∧ a ≤ 999) ∧ (0 ≤ b ∧ b ≤ 9)) = B := ⟨_, rfl⟩
  obtain ⟨B2, hB2⟩ : ∃ B, decide ((0 ≤ c ∧ c ≤ 9999) ∧ 0 ≤ d ∧ d ≤ a) = B := ⟨_, rfl⟩
  obtain ⟨B4, hB4⟩ : ∃ B, decide ((c = 0 ↔ d = 0) ∧ (c = 0 → l = 0)) = B := ⟨_, rfl⟩
  obtain ⟨B6, hB6⟩ : ∃ B, decide (gon r.lg c d a) = B := ⟨_, rfl⟩
  rw [hB1] at H1
  rw [hB2] at H2
  rw [hB4] at H4
  rw [hB6] at H6
  have K1 := hide hB1
  have K2 := hide hB2
  have K4 := hide hB4
  have K6 := hide hB6
  clear hB1 hB2 hB4 hB6
  have BA := hide (below_alloc w (.cells #[.int .i64 a, .int .i64 b, .int .i64 c, .int .i64 d, .slice ay l cy, .slice az m cz] 32))
  have VA := hide (Var6_new w (.int .i64 a) (.int .i64 b) (.int .i64 c) (.int .i64 d) (.slice ay l cy) (.slice az m cz) 32)
  go_enter Tryz.func31, Tryz.ntmps31
  go_wp2_with fail
  refine (H1.out _).mono ?_
  rintro e w1 ⟨rfl, hw1⟩
  have hw1 := hw1.symm
  subst hw1
  cases B1
  · have HZ : Hid ((3 : Int) = Z) := (HF.out (fun h => by have := of_decide_eq_false K1.out; exact this (HRG.out.1 h).1)).symm
    go_wp2
    go_ret
    exact ⟨ret_int HZ.out, BA.out⟩
  · go_wp2_with fail
    refine (H2.out _).mono ?_
    rintro e w2 ⟨rfl, hb⟩
    have BA2 := hide (below_on BA.out hb)
    have VA2 := hide (VA.out.later hb)
    clear hb
    cases B2
    · have HZ : Hid ((3 : Int) = Z) := (HF.out (fun h => by have := of_decide_eq_false K2.out; exact this (HRG.out.1 h).2)).symm
      go_wp2
      go_ret
      exact ⟨ret_int HZ.out, BA2.out⟩
    · have KR : Hid (rgR r) := HRG.out.2 ⟨of_decide_eq_true K1.out, of_decide_eq_true K2.out⟩
      obtain ⟨c0, c1, c2, c3, c4, c5⟩ := VA2.out
      go_wp2_with fail
      refine (H3.out _ BA2.out).mono ?_
      rintro e w3 ⟨rfl, q, rfl⟩
      by_cases hD : D = 0
      · subst hD
        go_wp2_with fail
        refine (H4.out _).mono ?_
        rintro e w4 ⟨rfl, hb⟩
        have BA4 := hide (below_on (below_on BA2.out (below_drewN _ q)) hb)
        have VA4 := hide ((VA2.out.later (below_drewN _ q)).later hb)
        clear hb c0 c1 c2 c3 c4 c5
        cases B4
        · have HZ : Hid ((1 : Int) = Z) := (HF2.out KR.out (by first | trivial | rfl) (fun h => by have := of_decide_eq_false K4.out; exact this (HFM.out.1 h))).symm
          go_wp2
          go_ret
          exact ⟨ret_int HZ.out, BA4.out⟩
        · have KF : Hid (fmR r) := HFM.out.2 (of_decide_eq_true K4.out)
          obtain ⟨c0, c1, c2, c3, c4, c5⟩ := VA4.out
          go_wp2_with fail
          refine (H5.out _ BA4.out).mono ?_
          rintro e w5 ⟨rfl, hb⟩
          have BA5 := hide (below_on BA4.out hb)
          have VA5 := hide (VA4.out.later hb)
          clear hb c0 c1 c2 c3 c4 c5
          by_cases hG : G = 0
          · subst hG
            obtain ⟨c0, c1, c2, c3, c4, c5⟩ := VA5.out
            go_wp2_with fail
            refine (H6.out _ BA5.out (by first | trivial | rfl)).mono ?_
            rintro e w6 ⟨rfl, hb⟩
            have BA6 := hide (below_on BA5.out hb)
            clear hb c0 c1 c2 c3 c4 c5
            cases B6
            · have HZ : Hid ((1 : Int) = Z) := (HF4.out KR.out (by first | trivial | rfl) KF.out (by first | trivial | rfl) (fun h => by have := of_decide_eq_false K6.out; exact this (HLK.out.2 h))).symm
              go_wp2
              go_ret
              exact ⟨ret_int HZ.out, BA6.out⟩
            · have HZ : Hid ((0 : Int) = Z) := (HF5.out KR.out (by first | trivial | rfl) KF.out (by first | trivial | rfl) (HLK.out.1 (of_decide_eq_true K6.out))).symm
              go_wp2
              go_ret
              exact ⟨ret_int HZ.out, BA6.out⟩
          · have HZ : Hid (G = Z) := (HF3.out KR.out (by first | trivial | rfl) KF.out hG).symm
            have hG' : (G == 0) = false := by simpa using hG
            go_wp2
            go_ret
            exact ⟨ret_int HZ.out, BA5.out⟩
      · have HZ : Hid (D = Z) := (HF1.out KR.out hD).symm
        have hD' : (D == 0) = false := by simpa using hD
        go_wp2
        go_ret
        exact ⟨ret_int HZ.out, below_on BA2.out (below_drewN _ q)⟩
end Go.Proofs.YtlljcajfdeiigaaGreatDoor
