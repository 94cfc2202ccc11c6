/- RaM Ra3 in one text: what each says stands at its head below. -/
import Derived.Test.YtncgpfapepminaaDoorG08
import Derived.Test.YtncgpfapepminaaDoorG11
import Derived.Test.YtncgpfapepminaaDoorG09
import Derived.BigQuiet
/- Chapter 10: the mathematics of the store of a node. -/
namespace Go.Proofs.YtncgpfapepminaaDoor
open Go.RowKit

def rf0 : Rf := ⟨0, 0, 0, 0, [], []⟩
/-- The fault of a snapshot's words. -/
def daF (xs : List Int) : Int := if 40 < xs.length then 2 else wordsF xs
theorem daF_len {xs : List Int} (h : daF xs = 0) : xs.length ≤ 40 := by
  unfold daF at h
  by_cases h1 : 40 < xs.length
  · rw [if_pos h1] at h; exact absurd h (by decide)
  · omega
def lastR (r : Rf) : Int := r.si + (r.lg.length : Int)
def rgR (r : Rf) : Prop := ((0 ≤ r.tm ∧ r.tm ≤ 999) ∧ (0 ≤ r.vt ∧ r.vt ≤ 9)) ∧ (0 ≤ r.si ∧ r.si ≤ 9999) ∧ 0 ≤ r.st ∧ r.st ≤ r.tm
instance (r : Rf) : Decidable (rgR r) := by unfold rgR; infer_instance
def fmR (r : Rf) : Prop := (r.si = 0 ↔ r.st = 0) ∧ (r.si = 0 → r.sn = [])
instance (r : Rf) : Decidable (fmR r) := by unfold fmR; infer_instance
def lkR (r : Rf) : Prop := r.lg ≠ [] → (r.lg.getD 0 oj0).1 = r.si + 1 ∧ r.st ≤ (r.lg.getD 0 oj0).2.1 ∧ (r.lg.getD (r.lg.length - 1) oj0).2.1 ≤ r.tm
instance (r : Rf) : Decidable (lkR r) := by unfold lkR; infer_instance
/-- The fault of a store. -/
def rfF (r : Rf) : Int := if rgR r then (if daF r.sn = 0 then (if fmR r then (if logF r.lg = 0 then (if lkR r then 0 else 1) else logF r.lg) else 1) else daF r.sn) else 3
theorem rfF_range {r : Rf} (h : ¬ rgR r) : rfF r = 3 := by unfold rfF; rw [if_neg h]
theorem rfF_data {r : Rf} (h : rgR r) (h1 : daF r.sn ≠ 0) : rfF r = daF r.sn := by unfold rfF; rw [if_pos h, if_neg h1]
theorem rfF_form {r : Rf} (h : rgR r) (h1 : daF r.sn = 0) (h2 : ¬ fmR r) : rfF r = 1 := by unfold rfF; rw [if_pos h, if_pos h1, if_neg h2]
theorem rfF_log {r : Rf} (h : rgR r) (h1 : daF r.sn = 0) (h2 : fmR r) (h3 : logF r.lg ≠ 0) : rfF r = logF r.lg := by unfold rfF; rw [if_pos h, if_pos h1, if_pos h2, if_neg h3]
theorem rfF_link {r : Rf} (h : rgR r) (h1 : daF r.sn = 0) (h2 : fmR r) (h3 : logF r.lg = 0) (h4 : ¬ lkR r) : rfF r = 1 := by unfold rfF; rw [if_pos h, if_pos h1, if_pos h2, if_pos h3, if_neg h4]
theorem rfF_ok {r : Rf} (h : rgR r) (h1 : daF r.sn = 0) (h2 : fmR r) (h3 : logF r.lg = 0) (h4 : lkR r) : rfF r = 0 := by unfold rfF; rw [if_pos h, if_pos h1, if_pos h2, if_pos h3, if_pos h4]
/-- What a store without a fault is. -/
structure IsRf (r : Rf) : Prop where
  rg : rgR r
  da : daF r.sn = 0
  fm : fmR r
  lo : logF r.lg = 0
  lk : lkR r
theorem rfF_iff {r : Rf} : rfF r = 0 ↔ IsRf r := by
  constructor
  · intro h
    by_cases h1 : rgR r
    · by_cases h2 : daF r.sn = 0
      · by_cases h3 : fmR r
        · by_cases h4 : logF r.lg = 0
          · by_cases h5 : lkR r
            · exact ⟨h1, h2, h3, h4, h5⟩
            · rw [rfF_link h1 h2 h3 h4 h5] at h; exact absurd h (by decide)
          · rw [rfF_log h1 h2 h3 h4] at h; exact absurd h h4
        · rw [rfF_form h1 h2 h3] at h; exact absurd h (by decide)
      · rw [rfF_data h1 h2] at h; exact absurd h h2
    · rw [rfF_range h1] at h; exact absurd h (by decide)
  · intro h; exact rfF_ok h.rg h.da h.fm h.lo h.lk
/-- What a log without a fault is. -/
theorem cfr_zero {g : Nat → Int} : ∀ (n k : Nat), cfr g n k = 0 ↔ ∀ i, k ≤ i → i < k + n → g i = 0
  | 0, k => by simp [cfr]; intro i h1 h2; omega
  | n + 1, k => by
    rw [cfr]
    by_cases h : g k = 0
    · rw [if_pos h, cfr_zero n (k + 1)]
      constructor
      · intro h1 i h2 h3
        by_cases e : i = k
        · rw [e]; exact h
        · exact h1 i (by omega) (by omega)
      · intro h1 i h2 h3; exact h1 i (by omega) (by omega)
    · rw [if_neg h]
      constructor
      · intro h1; exact absurd h1 h
      · intro h1; exact absurd (h1 k (Nat.le_refl _) (by omega)) h
theorem logF_iff {fs : List Oj} : logF fs = 0 ↔ fs.length ≤ 14 ∧ (∀ i, i < fs.length → entF (fs.getD i oj0) = 0) ∧ ∀ i, i + 1 < fs.length → nxE (fs.getD (i + 1) oj0) (fs.getD i oj0) := by
  unfold logF
  by_cases h : 14 < fs.length
  · rw [if_pos h]; exact ⟨fun h1 => absurd h1 (by decide), fun h1 => by omega⟩
  · rw [if_neg h, cfr_zero]
    constructor
    · intro h1
      refine ⟨by omega, fun i hi => (lgS_iff.1 (h1 i (Nat.zero_le _) (by omega))).1, fun i hi => ?_⟩
      have := (lgS_iff.1 (h1 (i + 1) (Nat.zero_le _) (by omega))).2
      by_cases e : nxE (fs.getD (i + 1) oj0) (fs.getD i oj0)
      · exact e
      · exact absurd ⟨by omega, by simpa using e⟩ this
    · rintro ⟨_, h2, h3⟩ i _ hi
      refine lgS_iff.2 ⟨h2 i (by omega), fun ⟨h4, h5⟩ => ?_⟩
      have := h3 (i - 1) (by omega)
      rw [show i - 1 + 1 = i by omega] at this
      exact h5 this
theorem getD_drop (fs : List Oj) (k i : Nat) : (fs.drop k).getD i oj0 = fs.getD (k + i) oj0 := by simp [List.getD, List.getElem?_drop]
theorem getD_take {fs : List Oj} {k i : Nat} (h : i < k) : (fs.take k).getD i oj0 = fs.getD i oj0 := by simp [List.getD, h]
theorem logF_drop {fs : List Oj} (k : Nat) (h : logF fs = 0) : logF (fs.drop k) = 0 := by
  obtain ⟨h1, h2, h3⟩ := logF_iff.1 h
  refine logF_iff.2 ⟨by simp; omega, fun i hi => ?_, fun i hi => ?_⟩
  · rw [getD_drop]; simp at hi; exact h2 _ (by omega)
  · rw [getD_drop, getD_drop]; simp at hi; exact h3 (k + i) (by omega)
theorem logF_take {fs : List Oj} (k : Nat) (h : logF fs = 0) : logF (fs.take k) = 0 := by
  obtain ⟨h1, h2, h3⟩ := logF_iff.1 h
  refine logF_iff.2 ⟨by simp; omega, fun i hi => ?_, fun i hi => ?_⟩
  · simp at hi; rw [getD_take (by omega)]; exact h2 _ (by omega)
  · simp at hi; rw [getD_take (by omega), getD_take (by omega)]; exact h3 i (by omega)
theorem log_tot {fs : List Oj} (h1 : fs.length ≤ 28) (h2 : ∀ i, i < fs.length → (fs.getD i oj0).2.2.length ≤ 6) : ∀ k, k ≤ fs.length → totJ fs k ≤ k * 8
  | 0, _ => by simp [totJ]
  | k + 1, hk => by
    have ih := log_tot h1 h2 k (by omega)
    have := h2 k (by omega)
    rw [totJ_succ fs k (by omega)]
    omega
theorem logF_tot {fs : List Oj} (h : logF fs = 0) : totJ fs fs.length ≤ 112 := by
  obtain ⟨h1, h2, _⟩ := logF_iff.1 h
  have := log_tot (fs := fs) (by omega) (fun i hi => (entF_zero (h2 i hi)).2.1) fs.length (Nat.le_refl _)
  omega
/-- The index of an entry. -/
theorem log_at {fs : List Oj} (h : logF fs = 0) : ∀ i, i < fs.length → (fs.getD i oj0).1 = (fs.getD 0 oj0).1 + (i : Int)
  | 0, _ => by simp
  | i + 1, hi => by
    have ih := log_at h i (by omega)
    have := ((logF_iff.1 h).2.2 i hi).1
    omega
/-- 'SetHard'. -/
def shC (r : Rf) (t v : Int) : Int := if rfF r = 0 then (if (0 ≤ t ∧ t ≤ 999) ∧ (0 ≤ v ∧ v ≤ 9) then (if t < r.tm ∨ (t = r.tm ∧ r.vt ≠ 0 ∧ v ≠ r.vt) then 6 else 0) else 3) else rfF r
def shR (r : Rf) (t v : Int) : Rf := if shC r t v = 0 then { r with tm := t, vt := v } else rf0
/-- The code of an index, the term at it. -/
def tmC (r : Rf) (i : Int) : Int := if i < r.si then 6 else if lastR r < i then 4 else 0
def tmV (r : Rf) (i : Int) : Int := if tmC r i = 0 then (if i = r.si then r.st else (r.lg.getD (i - r.si - 1).toNat oj0).2.1) else 0
def taC (r : Rf) (i : Int) : Int := if rfF r = 0 then tmC r i else rfF r
def taV (r : Rf) (i : Int) : Int := if rfF r = 0 then tmV r i else 0
/-- 'EntriesFrom'. -/
def efC (r : Rf) (i n : Int) : Int := if rfF r = 0 then (if 0 ≤ n ∧ n ≤ 14 then (if i ≤ r.si then 6 else if lastR r + 1 < i then 4 else 0) else 3) else rfF r
def efR (r : Rf) (i n : Int) : List Oj := if efC r i n = 0 then (r.lg.drop (i - r.si - 1).toNat).take n.toNat else []
/-- 'AppendRaft': how many of a list are there already, by their terms. -/
def mtE : List Oj → List Oj → Nat
  | p :: ps, q :: qs => if p.2.1 = q.2.1 then mtE ps qs + 1 else 0
  | _, _ => 0
def fitR (r : Rf) (i t : Int) (l : List Oj) : Prop := l ≠ [] → (l.getD 0 oj0).1 - 1 = i ∧ t ≤ (l.getD 0 oj0).2.1 ∧ (l.getD (l.length - 1) oj0).2.1 ≤ r.tm
instance (r : Rf) (i t : Int) (l : List Oj) : Decidable (fitR r i t l) := by unfold fitR; infer_instance
def apK (r : Rf) (i : Int) (l : List Oj) : Nat := mtE (r.lg.drop (i - r.si).toNat) l
def apL (r : Rf) (i : Int) (l : List Oj) : List Oj := if apK r i l = l.length then r.lg else r.lg.take ((i - r.si).toNat + apK r i l) ++ l.drop (apK r i l)
def apRC (r : Rf) (i t : Int) (l : List Oj) : Int :=
  if rfF r ≠ 0 then rfF r else if logF l ≠ 0 then logF l else if ¬ fitR r i t l then 1 else if tmC r i ≠ 0 then tmC r i else if tmV r i ≠ t then 10 else if 14 < (apL r i l).length then 8 else 0
def apRR (r : Rf) (i t : Int) (l : List Oj) : Rf := if apRC r i t l = 0 then { r with lg := apL r i l } else rf0
/-- 'CompactRaft'. -/
def cpC (r : Rf) (i : Int) (xs : List Int) : Int := if rfF r ≠ 0 then rfF r else if daF xs ≠ 0 then daF xs else if i ≤ r.si then 6 else tmC r i
def cpR (r : Rf) (i : Int) (xs : List Int) : Rf := if cpC r i xs = 0 then ⟨r.tm, r.vt, i, tmV r i, xs, r.lg.drop (i - r.si).toNat⟩ else rf0
/-- 'InstallRaft'. -/
def inC (r : Rf) (i t : Int) (xs : List Int) : Int := if rfF r ≠ 0 then rfF r else if daF xs ≠ 0 then daF xs else if ¬ ((1 ≤ i ∧ i ≤ 9999) ∧ 1 ≤ t ∧ t ≤ r.tm) then 3 else if i ≤ r.si then 6 else if t < r.st then 10 else 0
def inR (r : Rf) (i t : Int) (xs : List Int) : Rf := if inC r i t xs = 0 then ⟨r.tm, r.vt, i, t, xs, if tmC r i = 0 ∧ tmV r i = t then r.lg.drop (i - r.si).toNat else []⟩ else rf0
theorem mtE_le : ∀ (ps qs : List Oj), mtE ps qs ≤ ps.length ∧ mtE ps qs ≤ qs.length
  | [], _ => by simp [mtE]
  | _ :: _, [] => by simp [mtE]
  | p :: ps, q :: qs => by
    rw [mtE]
    have := mtE_le ps qs
    by_cases h : p.2.1 = q.2.1
    · rw [if_pos h]; simp; omega
    · rw [if_neg h]; simp
theorem totR_zero : totR rf0 = 0 := by simp [totR, rf0, totJ]
theorem rf_tot {r : Rf} (h : rfF r = 0) : totR r ≤ 152 := by
  have hi := rfF_iff.1 h
  have h1 := daF_len hi.da
  have h2 := logF_tot hi.lo
  unfold totR
  omega
theorem shR_tot (r : Rf) (t v : Int) : totR (shR r t v) ≤ 1048576 := by
  unfold shR
  by_cases h : shC r t v = 0
  · rw [if_pos h]
    have h0 : rfF r = 0 := by
      unfold shC at h
      by_cases h1 : rfF r = 0
      · exact h1
      · rw [if_neg h1] at h; exact h
    have := rf_tot h0
    unfold totR at this ⊢
    exact Int.le_trans this (by decide)
  · rw [if_neg h, totR_zero]; decide
theorem cpR_tot (r : Rf) (i : Int) (xs : List Int) : totR (cpR r i xs) ≤ 1048576 := by
  unfold cpR
  by_cases h : cpC r i xs = 0
  · rw [if_pos h]
    unfold cpC at h
    by_cases h0 : rfF r = 0
    · by_cases h1 : daF xs = 0
      · have a := daF_len h1
        have b := logF_tot (logF_drop (i - r.si).toNat (rfF_iff.1 h0).lo)
        unfold totR
        dsimp only
        omega
      · rw [if_neg (by simp [h0]), if_pos h1] at h; exact absurd h h1
    · rw [if_pos h0] at h; exact absurd h h0
  · rw [if_neg h, totR_zero]; decide
theorem inR_tot (r : Rf) (i t : Int) (xs : List Int) : totR (inR r i t xs) ≤ 1048576 := by
  unfold inR
  by_cases h : inC r i t xs = 0
  · rw [if_pos h]
    unfold inC at h
    by_cases h0 : rfF r = 0
    · by_cases h1 : daF xs = 0
      · have a := daF_len h1
        have b := logF_tot (logF_drop (i - r.si).toNat (rfF_iff.1 h0).lo)
        unfold totR
        dsimp only
        by_cases h2 : tmC r i = 0 ∧ tmV r i = t
        · rw [if_pos h2]; omega
        · rw [if_neg h2]; simp [totJ]; omega
      · rw [if_neg (by simp [h0]), if_pos h1] at h; exact absurd h h1
    · rw [if_pos h0] at h; exact absurd h h0
  · rw [if_neg h, totR_zero]; decide
theorem efR_tot (r : Rf) (i n : Int) : totJ (efR r i n) (efR r i n).length ≤ 1048576 := by
  unfold efR
  by_cases h : efC r i n = 0
  · rw [if_pos h]
    have h0 : rfF r = 0 := by
      unfold efC at h
      by_cases h1 : rfF r = 0
      · exact h1
      · rw [if_neg h1] at h; exact h
    have := logF_tot (logF_take n.toNat (logF_drop (i - r.si - 1).toNat (rfF_iff.1 h0).lo))
    omega
  · rw [if_neg h]; simp [totJ]
end Go.Proofs.YtncgpfapepminaaDoor
/- Chapter 10: the fault of a store, of the program, walked. Made by program (genra3.py). -/
namespace Go.Proofs.YtncgpfapepminaaDoor
open Go.RowKit

theorem isHardB (a v : Int) (w : World) : Calls Tryd.prog 27 #[.int .i64 a, .int .i64 v] w fun e w' => e = .returned (.bool (decide ((0 ≤ a ∧ a ≤ 999) ∧ (0 ≤ v ∧ v ≤ 9)))) ∧ w' = w := by
  by_cases h1 : 0 ≤ a
  · skip
    have h1' : a ≥ 0 := h1
    by_cases h2 : a ≤ 999
    · skip
      by_cases h3 : 0 ≤ v
      · skip
        have h3' : v ≥ 0 := h3
        by_cases h4 : v ≤ 9
        · skip
          rw [decide_eq_true ⟨⟨h1, h2⟩, h3, h4⟩]
          go_enter Tryd.func27, Tryd.ntmps27
          go_wp2
          go_ret
          exact ⟨rfl, rfl⟩
        · skip
          rw [decide_eq_false (by omega)]
          go_enter Tryd.func27, Tryd.ntmps27
          go_wp2
          go_ret
          exact ⟨rfl, rfl⟩
      · skip
        have h3' : ¬ v ≥ 0 := h3
        rw [decide_eq_false (by omega)]
        go_enter Tryd.func27, Tryd.ntmps27
        go_wp2
        go_ret
        exact ⟨rfl, rfl⟩
    · skip
      rw [decide_eq_false (by omega)]
      go_enter Tryd.func27, Tryd.ntmps27
      go_wp2
      go_ret
      exact ⟨rfl, rfl⟩
  · skip
    have h1' : ¬ a ≥ 0 := h1
    rw [decide_eq_false (by omega)]
    go_enter Tryd.func27, Tryd.ntmps27
    go_wp2
    go_ret
    exact ⟨rfl, rfl⟩

set_option maxHeartbeats 2000000 in
theorem isSnapRangeB (a b c d : Int) (ay az : Option Addr) (l m cy cz : Nat) (w : World) : Calls Tryd.prog 35 #[.agg #[.int .i64 a, .int .i64 b, .int .i64 c, .int .i64 d, .slice ay l cy, .slice az m cz]] w fun e w' => e = .returned (.bool (decide ((0 ≤ c ∧ c ≤ 9999) ∧ 0 ≤ d ∧ d ≤ a))) ∧ Below w.heap.size w w' := by
  by_cases h1 : 0 ≤ c
  · skip
    have h1' : c ≥ 0 := h1
    by_cases h2 : c ≤ 9999
    · skip
      by_cases h3 : 0 ≤ d
      · skip
        have h3' : d ≥ 0 := h3
        by_cases h4 : d ≤ a
        · skip
          rw [decide_eq_true ⟨⟨h1, h2⟩, h3, h4⟩]
          go_enter Tryd.func35, Tryd.ntmps35
          go_wp2
          go_ret
          exact ⟨rfl, below_alloc _ _⟩
        · skip
          rw [decide_eq_false (by omega)]
          go_enter Tryd.func35, Tryd.ntmps35
          go_wp2
          go_ret
          exact ⟨rfl, below_alloc _ _⟩
      · skip
        have h3' : ¬ d ≥ 0 := h3
        rw [decide_eq_false (by omega)]
        go_enter Tryd.func35, Tryd.ntmps35
        go_wp2
        go_ret
        exact ⟨rfl, below_alloc _ _⟩
    · skip
      rw [decide_eq_false (by omega)]
      go_enter Tryd.func35, Tryd.ntmps35
      go_wp2
      go_ret
      exact ⟨rfl, below_alloc _ _⟩
  · skip
    have h1' : ¬ c ≥ 0 := h1
    rw [decide_eq_false (by omega)]
    go_enter Tryd.func35, Tryd.ntmps35
    go_wp2
    go_ret
    exact ⟨rfl, below_alloc _ _⟩

theorem snapFaultI {S : Nat → Prop} {w : World} {v : Value} {xs : List Int} (hv : RdI S w v xs) :
    Calls Tryd.prog 36 #[v] w fun e w' => e = .returned (.int .i64 (daF xs)) ∧ ∃ q, w' = w.drewN q := by
  have hm : xs.length ≤ 9223372036854775807 := hv.maxR
  have HW := hide (wordsFault hv)
  obtain ⟨ao, c, rfl⟩ := hv.shape
  have HD : Hid (daF xs = if 40 < xs.length then 2 else wordsF xs) := rfl
  obtain ⟨l, hl⟩ : ∃ l, xs.length = l := ⟨_, rfl⟩
  rw [HD.out]
  rw [hl] at hm HW ⊢
  clear HD hl hv
  by_cases h : 40 < l
  · have h' : (40 : Int) < (l : Int) := by omega
    rw [if_pos h]
    go_enter Tryd.func36, Tryd.ntmps36
    go_wp2
    go_ret
    exact ⟨rfl, 0, rfl⟩
  · have h' : ¬ (40 : Int) < (l : Int) := by omega
    rw [if_neg h]
    go_enter Tryd.func36, Tryd.ntmps36
    go_wp2_with fail
    refine HW.out.mono ?_
    rintro e w1 ⟨rfl, q, rfl⟩
    go_wp2
    go_ret
    exact ⟨rfl, q, rfl⟩

set_option maxHeartbeats 2000000 in
theorem isSnapWholeB (a b c d : Int) (ay az : Option Addr) (l m cy cz : Nat) (hl : l ≤ 9223372036854775807) (w : World) : Calls Tryd.prog 37 #[.agg #[.int .i64 a, .int .i64 b, .int .i64 c, .int .i64 d, .slice ay l cy, .slice az m cz]] w fun e w' => e = .returned (.bool (decide ((c = 0 ↔ d = 0) ∧ (c = 0 → l = 0)))) ∧ Below w.heap.size w w' := by
  by_cases h1 : c = 0
  · subst h1
    by_cases h2 : d = 0
    · subst h2
      by_cases h3 : l = 0
      · subst h3
        rw [decide_eq_true ⟨Iff.rfl, fun _ => rfl⟩]
        go_enter Tryd.func37, Tryd.ntmps37
        go_wp2
        go_ret
        exact ⟨rfl, below_alloc _ _⟩
      · have h3' : ((l : Int) == 0) = false := by simp; omega
        rw [decide_eq_false (fun h => h3 (h.2 rfl))]
        go_enter Tryd.func37, Tryd.ntmps37
        go_wp2
        go_ret
        exact ⟨rfl, below_alloc _ _⟩
    · have h2' : (d == 0) = false := by simpa using h2
      rw [decide_eq_false (fun h => h2 (h.1.1 rfl))]
      go_enter Tryd.func37, Tryd.ntmps37
      go_wp2
      go_ret
      exact ⟨rfl, below_alloc _ _⟩
  · have h1' : (c == 0) = false := by simpa using h1
    by_cases h2 : d = 0
    · subst h2
      rw [decide_eq_false (fun h => h1 (h.1.2 rfl))]
      go_enter Tryd.func37, Tryd.ntmps37
      go_wp2
      go_ret
      exact ⟨rfl, below_alloc _ _⟩
    · have h2' : (d == 0) = false := by simpa using h2
      rw [decide_eq_true ⟨⟨fun h => absurd h h1, fun h => absurd h h2⟩, fun h => absurd h h1⟩]
      go_enter Tryd.func37, Tryd.ntmps37
      go_wp2
      go_ret
      exact ⟨by first | rfl | simp [h2] | simp [h2'], below_alloc _ _⟩
/-- A list goes on behind an index of a term, up to a term. -/
def gon (l : List Oj) (i t m : Int) : Prop := l ≠ [] → (l.getD 0 oj0).1 - 1 = i ∧ t ≤ (l.getD 0 oj0).2.1 ∧ (l.getD (l.length - 1) oj0).2.1 ≤ m
instance (l : List Oj) (i t m : Int) : Decidable (gon l i t m) := by unfold gon; infer_instance
theorem gon_fit (r : Rf) (i t : Int) (l : List Oj) : gon l i t r.tm ↔ fitR r i t l := Iff.rfl
theorem gon_link (r : Rf) : gon r.lg r.si r.st r.tm ↔ lkR r := by
  unfold gon lkR
  constructor <;> intro h hn <;> obtain ⟨h1, h2⟩ := h hn <;> exact ⟨by omega, h2⟩

set_option maxHeartbeats 4000000 in
set_option maxRecDepth 4000 in
theorem goesOnB {S : Nat → Prop} {w : World} {v : Value} {fs : List Oj} (i t m : Int) (hv : RdJ S w v fs) (h0 : fs ≠ [] → 1 ≤ (fs.getD 0 oj0).1 ∧ (fs.getD 0 oj0).1 ≤ 9999) :
    Calls Tryd.prog 39 #[v, .int .i64 i, .int .i64 t, .int .i64 m] w fun e w' => e = .returned (.bool (decide (gon fs i t m))) ∧ Below w.heap.size w w' := by
  obtain ⟨av, cv, rfl, hm⟩ := hv.shape
  by_cases hne : fs = []
  · subst hne
    rw [decide_eq_true (show gon [] i t m from fun h => absurd rfl h)]
    go_enter Tryd.func39, Tryd.ntmps39
    go_wp2
    go_ret
    exact ⟨rfl, Below.refl _ _⟩
  · have hpos : 0 < fs.length := List.length_pos_iff.2 hne
    obtain ⟨b, off, rfl, y, p0, p1, p2, p3⟩ := hv.file (k := 0) hpos
    obtain ⟨b', off', e', y', r0, r1, r2, r3⟩ := hv.file (k := fs.length - 1) (by omega)
    injection e' with e'
    injection e' with e1 e2
    subst e1 e2
    have hh := h0 hne
    have HG : Hid (gon fs i t m ↔ (fs.getD 0 oj0).1 - 1 = i ∧ t ≤ (fs.getD 0 oj0).2.1 ∧ (fs.getD (fs.length - 1) oj0).2.1 ≤ m) := ⟨fun h => h hne, fun h _ => h⟩
    obtain ⟨n, hn⟩ : ∃ n, fs.length = n := ⟨_, rfl⟩
    rw [hn] at r0 r1 r2 r3 hm hpos HG ⊢
    obtain ⟨x, hx⟩ : ∃ x, fs.getD 0 oj0 = x := ⟨_, rfl⟩
    obtain ⟨x', hx'⟩ : ∃ x', fs.getD (n - 1) oj0 = x' := ⟨_, rfl⟩
    rw [hx] at p0 p1 p3 hh HG
    rw [hx'] at r0 r1 r3 HG
    obtain ⟨a0, t0, xs0⟩ := x
    obtain ⟨a1, t1, xs1⟩ := x'
    dsimp only at p0 p1 p3 r0 r1 r3 hh HG
    have g3 := p3.shape
    have g4 := r3.shape
    obtain ⟨ay, cy, rfl⟩ := g3
    obtain ⟨ay', cy', rfl⟩ := g4
    generalize xs0.length = l0 at p2
    generalize xs1.length = l1 at r2
    simp only [Nat.zero_mul, Nat.add_zero] at p0 p1 p2
    clear p3 r3 hv hne h0 hn hx hx'
    have hbl := World.block_lt_of_cell? _ _ p0
    have hn0 : ((n : Int) == 0) = false := by simp; omega
    have hw1 : IntKind.i64.wrap ((n : Int) - 1) = ((n - 1 : Nat) : Int) := by simp [IntKind.wrap, IntKind.bits, IntKind.signed]; omega
    obtain ⟨j, hj⟩ : ∃ j, n - 1 = j := ⟨_, rfl⟩
    rw [hj] at r0 r1 r2 hw1
    have hjn : (j : Int) < (n : Int) := by omega
    have hj0 : (0 : Int) ≤ (j : Int) := by omega
    have hn1 : (0 : Int) < (n : Int) := by omega
    clear hj
    have ha1 : IntKind.i64.wrap (a0 - 1) = a0 - 1 := by simp [IntKind.wrap, IntKind.bits, IntKind.signed]; omega
    have key : Hid (∀ B : Bool, decide (gon fs i t m) = B → Calls Tryd.prog 39 #[.slice (some ⟨b, off, none⟩) n cv, .int .i64 i, .int .i64 t, .int .i64 m] w fun e w' => e = .returned (.bool B) ∧ Below w.heap.size w w') := by
      intro B hB
      have HB := hide hB
      clear hB
      by_cases c1 : a0 - 1 = i
      · have c1' : (a0 - 1 == i) = true := by simpa using c1
        by_cases c2 : t ≤ t0
        · have c2' : t0 ≥ t := c2
          by_cases c3 : t1 ≤ m
          · obtain rfl : true = B := by rw [← HB.out]; exact (decide_eq_true (HG.out.2 ⟨c1, c2, c3⟩)).symm
            clear c1
            go_enter Tryd.func39, Tryd.ntmps39
            go_wp2
            go_region
            all_goals
              go_wp2
              go_ret
              exact ⟨by first | rfl | (simp; omega), below_on (below_on (below_alloc _ _) (below_alloc _ _)) (below_drewN _ 1)⟩
          · have c3' : decide (t1 ≤ m) = false := by simpa using c3
            obtain rfl : false = B := by rw [← HB.out]; exact (decide_eq_false (fun h => c3 (HG.out.1 h).2.2)).symm
            clear c1
            go_enter Tryd.func39, Tryd.ntmps39
            go_wp2
            go_region
            all_goals
              go_wp2
              go_ret
              exact ⟨by first | rfl | (simp; omega), below_on (below_on (below_alloc _ _) (below_alloc _ _)) (below_drewN _ 1)⟩
        · have c2' : ¬ t0 ≥ t := c2
          obtain rfl : false = B := by rw [← HB.out]; exact (decide_eq_false (fun h => c2 (HG.out.1 h).2.1)).symm
          clear c1
          go_enter Tryd.func39, Tryd.ntmps39
          go_wp2
          go_region
          all_goals
            go_wp2
            go_ret
            exact ⟨by first | rfl | (simp; omega), below_on (below_on (below_alloc _ _) (below_alloc _ _)) (below_drewN _ 1)⟩
      · have c1' : (a0 - 1 == i) = false := by simpa using c1
        obtain rfl : false = B := by rw [← HB.out]; exact (decide_eq_false (fun h => c1 (HG.out.1 h).1)).symm
        clear c1
        go_enter Tryd.func39, Tryd.ntmps39
        go_wp2
        go_region
        all_goals
          go_wp2
          go_ret
          exact ⟨by first | rfl | (simp; omega), below_on (below_on (below_alloc _ _) (below_alloc _ _)) (below_drewN _ 1)⟩
    exact key.out _ rfl

end Go.Proofs.YtncgpfapepminaaDoor
