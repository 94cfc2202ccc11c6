/- RaM Iv6 Ra3 in one text: what each says stands at its head below. -/
import Derived.Test.YtlmaopljihbdkaaGreatG07
import Derived.Test.YtlmaopljihbdkaaGreatG09
import Derived.Test.YtlmaopljihbdkaaGreatG04
import Derived.BigQuiet
namespace Go.Proofs.YtlmaopljihbdkaaGreat
open Go.RowKit
def rf0 : Rf := ⟨0, 0, 0, 0, [], []⟩
def daF (xs : List Int) : Int := if 40 < xs.length then 2 else wordsF xs
theorem daF_len {xs : List Int} (h : daF xs = 0) : xs.length ≤ 40 := by
  unfold daF at h
  by_cases h1 : 40 < xs.length
  · rw [if_pos h1] at h; exact absurd h (by decide)
  · omega
def rgR (r : Rf) : Prop := ((0 ≤ r.tm ∧ r.tm ≤ 999) ∧ (0 ≤ r.vt ∧ r.vt ≤ 9)) ∧ (0 ≤ r.si ∧ r.si ≤ 9999) ∧ 0 ≤ r.st ∧ r.st ≤ r.tm
instance (r : Rf) : Decidable (rgR r) := by unfold rgR; infer_instance
def fmR (r : Rf) : Prop := (r.si = 0 ↔ r.st = 0) ∧ (r.si = 0 → r.sn = [])
instance (r : Rf) : Decidable (fmR r) := by unfold fmR; infer_instance
def lkR (r : Rf) : Prop := r.lg ≠ [] → (r.lg.getD 0 oj0).1 = r.si + 1 ∧ r.st ≤ (r.lg.getD 0 oj0).2.1 ∧ (r.lg.getD (r.lg.length - 1) oj0).2.1 ≤ r.tm
instance (r : Rf) : Decidable (lkR r) := by unfold lkR; infer_instance
def rfF (r : Rf) : Int := if rgR r then (if daF r.sn = 0 then (if fmR r then (if logF r.lg = 0 then (if lkR r then 0 else 1) else logF r.lg) else 1) else daF r.sn) else 3
theorem rfF_range {r : Rf} (h : ¬ rgR r) : rfF r = 3 := by unfold rfF; rw [if_neg h]
theorem rfF_data {r : Rf} (h : rgR r) (h1 : daF r.sn ≠ 0) : rfF r = daF r.sn := by unfold rfF; rw [if_pos h, if_neg h1]
theorem rfF_form {r : Rf} (h : rgR r) (h1 : daF r.sn = 0) (h2 : ¬ fmR r) : rfF r = 1 := by unfold rfF; rw [if_pos h, if_pos h1, if_neg h2]
theorem rfF_log {r : Rf} (h : rgR r) (h1 : daF r.sn = 0) (h2 : fmR r) (h3 : logF r.lg ≠ 0) : rfF r = logF r.lg := by unfold rfF; rw [if_pos h, if_pos h1, if_pos h2, if_neg h3]
theorem rfF_link {r : Rf} (h : rgR r) (h1 : daF r.sn = 0) (h2 : fmR r) (h3 : logF r.lg = 0) (h4 : ¬ lkR r) : rfF r = 1 := by unfold rfF; rw [if_pos h, if_pos h1, if_pos h2, if_pos h3, if_neg h4]
theorem rfF_ok {r : Rf} (h : rgR r) (h1 : daF r.sn = 0) (h2 : fmR r) (h3 : logF r.lg = 0) (h4 : lkR r) : rfF r = 0 := by unfold rfF; rw [if_pos h, if_pos h1, if_pos h2, if_pos h3, if_pos h4]
structure IsRf (r : Rf) : Prop where
  rg : rgR r
  da : daF r.sn = 0
  fm : fmR r
  lo : logF r.lg = 0
  lk : lkR r
theorem rfF_iff {r : Rf} : rfF r = 0 ↔ IsRf r := by
  constructor
  · intro h
    by_cases h1 : rgR r
    · by_cases h2 : daF r.sn = 0
      · by_cases h3 : fmR r
        · by_cases h4 : logF r.lg = 0
          · by_cases h5 : lkR r
            · exact ⟨h1, h2, h3, h4, h5⟩
            · rw [rfF_link h1 h2 h3 h4 h5] at h; exact absurd h (by decide)
          · rw [rfF_log h1 h2 h3 h4] at h; exact absurd h h4
        · rw [rfF_form h1 h2 h3] at h; exact absurd h (by decide)
      · rw [rfF_data h1 h2] at h; exact absurd h h2
    · rw [rfF_range h1] at h; exact absurd h (by decide)
  · intro h; exact rfF_ok h.rg h.da h.fm h.lo h.lk
theorem cfr_zero {g : Nat → Int} : ∀ (n k : Nat), cfr g n k = 0 ↔ ∀ i, k ≤ i → i < k + n → g i = 0
  | 0, k => by simp [cfr]; intro i h1 h2; omega
  | n + 1, k => by
    rw [cfr]
    by_cases h : g k = 0
    · rw [if_pos h, cfr_zero n (k + 1)]
      constructor
      · intro h1 i h2 h3
        by_cases e : i = k
        · rw [e]; exact h
        · exact h1 i (by omega) (by omega)
      · intro h1 i h2 h3; exact h1 i (by omega) (by omega)
    · rw [if_neg h]
      constructor
      · intro h1; exact absurd h1 h
      · intro h1; exact absurd (h1 k (Nat.le_refl _) (by omega)) h
theorem logF_iff {fs : List Oj} : logF fs = 0 ↔ fs.length ≤ 14 ∧ (∀ i, i < fs.length → entF (fs.getD i oj0) = 0) ∧ ∀ i, i + 1 < fs.length → nxE (fs.getD (i + 1) oj0) (fs.getD i oj0) := by
  unfold logF
  by_cases h : 14 < fs.length
  · rw [if_pos h]; exact ⟨fun h1 => absurd h1 (by decide), fun h1 => by omega⟩
  · rw [if_neg h, cfr_zero]
    constructor
    · intro h1
      refine ⟨by omega, fun i hi => (lgS_iff.1 (h1 i (Nat.zero_le _) (by omega))).1, fun i hi => ?_⟩
      have := (lgS_iff.1 (h1 (i + 1) (Nat.zero_le _) (by omega))).2
      by_cases e : nxE (fs.getD (i + 1) oj0) (fs.getD i oj0)
      · exact e
      · exact absurd ⟨by omega, by simpa using e⟩ this
    · rintro ⟨_, h2, h3⟩ i _ hi
      refine lgS_iff.2 ⟨h2 i (by omega), fun ⟨h4, h5⟩ => ?_⟩
      have := h3 (i - 1) (by omega)
      rw [show i - 1 + 1 = i by omega] at this
      exact h5 this
def fitR (r : Rf) (i t : Int) (l : List Oj) : Prop := l ≠ [] → (l.getD 0 oj0).1 - 1 = i ∧ t ≤ (l.getD 0 oj0).2.1 ∧ (l.getD (l.length - 1) oj0).2.1 ≤ r.tm
instance (r : Rf) (i t : Int) (l : List Oj) : Decidable (fitR r i t l) := by unfold fitR; infer_instance
end Go.Proofs.YtlmaopljihbdkaaGreat
namespace Go.Proofs.YtlmaopljihbdkaaGreat
open Go.RowKit
def Var6 (w : World) (b : Nat) (x0 x1 x2 x3 x4 x5 : Value) : Prop := w.cell? ⟨b, 0, none⟩ = some x0 ∧ w.cell? ⟨b, 1, none⟩ = some x1 ∧ w.cell? ⟨b, 2, none⟩ = some x2 ∧ w.cell? ⟨b, 3, none⟩ = some x3 ∧ w.cell? ⟨b, 4, none⟩ = some x4 ∧ w.cell? ⟨b, 5, none⟩ = some x5
theorem Var6.later {w w' : World} {b : Nat} {x0 x1 x2 x3 x4 x5 : Value} (h : Var6 w b x0 x1 x2 x3 x4 x5) (hb : Below w.heap.size w w') : Var6 w' b x0 x1 x2 x3 x4 x5 :=
  ⟨cell_later hb h.1, cell_later hb h.2.1, cell_later hb h.2.2.1, cell_later hb h.2.2.2.1, cell_later hb h.2.2.2.2.1, cell_later hb h.2.2.2.2.2⟩
theorem Var6.wr {S : Nat → Prop} {w w' : World} {b : Nat} {x0 x1 x2 x3 x4 x5 : Value} (h : Var6 w b x0 x1 x2 x3 x4 x5) (hb : Wr S w w') (hd : ¬ S b) : Var6 w' b x0 x1 x2 x3 x4 x5 :=
  ⟨cell_wr hb h.1 hd, cell_wr hb h.2.1 hd, cell_wr hb h.2.2.1 hd, cell_wr hb h.2.2.2.1 hd, cell_wr hb h.2.2.2.2.1 hd, cell_wr hb h.2.2.2.2.2 hd⟩
theorem Var6.lt {w : World} {b : Nat} {x0 x1 x2 x3 x4 x5 : Value} (h : Var6 w b x0 x1 x2 x3 x4 x5) : b < w.heap.size := World.block_lt_of_cell? _ _ h.1
theorem Var6_new (w : World) (x0 x1 x2 x3 x4 x5 : Value) (t : TypeId) : Var6 (w.alloc (.cells #[x0, x1, x2, x3, x4, x5] t)) w.heap.size x0 x1 x2 x3 x4 x5 := by
  refine ⟨?_, ?_, ?_, ?_, ?_, ?_⟩ <;> simp [go_sem]
def Var7 (w : World) (b : Nat) (x0 x1 x2 x3 x4 x5 x6 : Value) : Prop := w.cell? ⟨b, 0, none⟩ = some x0 ∧ w.cell? ⟨b, 1, none⟩ = some x1 ∧ w.cell? ⟨b, 2, none⟩ = some x2 ∧ w.cell? ⟨b, 3, none⟩ = some x3 ∧ w.cell? ⟨b, 4, none⟩ = some x4 ∧ w.cell? ⟨b, 5, none⟩ = some x5 ∧ w.cell? ⟨b, 6, none⟩ = some x6
theorem Var7.later {w w' : World} {b : Nat} {x0 x1 x2 x3 x4 x5 x6 : Value} (h : Var7 w b x0 x1 x2 x3 x4 x5 x6) (hb : Below w.heap.size w w') : Var7 w' b x0 x1 x2 x3 x4 x5 x6 :=
  ⟨cell_later hb h.1, cell_later hb h.2.1, cell_later hb h.2.2.1, cell_later hb h.2.2.2.1, cell_later hb h.2.2.2.2.1, cell_later hb h.2.2.2.2.2.1, cell_later hb h.2.2.2.2.2.2⟩
theorem Var7.wr {S : Nat → Prop} {w w' : World} {b : Nat} {x0 x1 x2 x3 x4 x5 x6 : Value} (h : Var7 w b x0 x1 x2 x3 x4 x5 x6) (hb : Wr S w w') (hd : ¬ S b) : Var7 w' b x0 x1 x2 x3 x4 x5 x6 :=
  ⟨cell_wr hb h.1 hd, cell_wr hb h.2.1 hd, cell_wr hb h.2.2.1 hd, cell_wr hb h.2.2.2.1 hd, cell_wr hb h.2.2.2.2.1 hd, cell_wr hb h.2.2.2.2.2.1 hd, cell_wr hb h.2.2.2.2.2.2 hd⟩
theorem Var7.lt {w : World} {b : Nat} {x0 x1 x2 x3 x4 x5 x6 : Value} (h : Var7 w b x0 x1 x2 x3 x4 x5 x6) : b < w.heap.size := World.block_lt_of_cell? _ _ h.1
theorem Var7_new (w : World) (x0 x1 x2 x3 x4 x5 x6 : Value) (t : TypeId) : Var7 (w.alloc (.cells #[x0, x1, x2, x3, x4, x5, x6] t)) w.heap.size x0 x1 x2 x3 x4 x5 x6 := by
  refine ⟨?_, ?_, ?_, ?_, ?_, ?_, ?_⟩ <;> simp [go_sem]
end Go.Proofs.YtlmaopljihbdkaaGreat
namespace Go.Proofs.YtlmaopljihbdkaaGreat
open Go.RowKit
theorem isHardB (a v : Int) (w : World) : Calls Tryz.prog 74 #[.int .i64 a, .int .i64 v] w fun e w' => e = .returned (.bool (decide ((0 ≤ a ∧ a ≤ 999) ∧ (0 ≤ v ∧ v ≤ 9)))) ∧ w' = w := by
  by_cases h1 : 0 ≤ a
  · skip
    have h1' : a ≥ 0 := h1
    by_cases h2 : a ≤ 999
    · skip
      by_cases h3 : 0 ≤ v
      · skip
        have h3' : v ≥ 0 := h3
        by_cases h4 : v ≤ 9
        · skip
          rw [decide_eq_true ⟨⟨h1, h2⟩, h3, h4⟩]
          go_enter Tryz.func74, Tryz.ntmps74
          go_wp2
          go_ret
          exact ⟨rfl, rfl⟩
        · skip
          rw [decide_eq_false (by omega)]
          go_enter Tryz.func74, Tryz.ntmps74
          go_wp2
          go_ret
          exact ⟨rfl, rfl⟩
      · skip
        have h3' : ¬ v ≥ 0 := h3
        rw [decide_eq_false (by omega)]
        go_enter Tryz.func74, Tryz.ntmps74
        go_wp2
        go_ret
        exact ⟨rfl, rfl⟩
    · skip
      rw [decide_eq_false (by omega)]
      go_enter Tryz.func74, Tryz.ntmps74
      go_wp2
      go_ret
      exact ⟨rfl, rfl⟩
  · skip
    have h1' : ¬ a ≥ 0 := h1
    rw [decide_eq_false (by omega)]
    go_enter Tryz.func74, Tryz.ntmps74
    go_wp2
    go_ret
    exact ⟨rfl, rfl⟩
set_option maxHeartbeats 2000000 in
theorem isSnapRangeB (a b c d : Int) (ay az : Option Addr) (l m cy cz : Nat) (w : World) : Calls Tryz.prog 75 #[.agg #[.int .i64 a, .int .i64 b, .int .i64 c, .int .i64 d, .slice ay l cy, .slice az m cz]] w fun e w' => e = .returned (.bool (decide ((0 ≤ c ∧ c ≤ 9999) ∧ 0 ≤ d ∧ d ≤ a))) ∧ Below w.heap.size w w' := by
  by_cases h1 : 0 ≤ c
  · skip
    have h1' : c ≥ 0 := h1
    by_cases h2 : c ≤ 9999
    · skip
      by_cases h3 : 0 ≤ d
      · skip
        have h3' : d ≥ 0 := h3
        by_cases h4 : d ≤ a
        · skip
          rw [decide_eq_true ⟨⟨h1, h2⟩, h3, h4⟩]
          go_enter Tryz.func75, Tryz.ntmps75
          go_wp2
          go_ret
          exact ⟨rfl, below_alloc _ _⟩
        · skip
          rw [decide_eq_false (by omega)]
          go_enter Tryz.func75, Tryz.ntmps75
          go_wp2
          go_ret
          exact ⟨rfl, below_alloc _ _⟩
      · skip
        have h3' : ¬ d ≥ 0 := h3
        rw [decide_eq_false (by omega)]
        go_enter Tryz.func75, Tryz.ntmps75
        go_wp2
        go_ret
        exact ⟨rfl, below_alloc _ _⟩
    · skip
      rw [decide_eq_false (by omega)]
      go_enter Tryz.func75, Tryz.ntmps75
      go_wp2
      go_ret
      exact ⟨rfl, below_alloc _ _⟩
  · skip
    have h1' : ¬ c ≥ 0 := h1
    rw [decide_eq_false (by omega)]
    go_enter Tryz.func75, Tryz.ntmps75
    go_wp2
    go_ret
    exact ⟨rfl, below_alloc _ _⟩
theorem snapFaultI {S : Nat → Prop} {w : World} {v : Value} {xs : List Int} (hv : RdI S w v xs) :
    Calls Tryz.prog 76 #[v] w fun e w' => e = .returned (.int .i64 (daF xs)) ∧ ∃ q, w' = w.drewN q := by
  have hm : xs.length ≤ 9223372036854775807 := hv.maxR
  have HW := hide (wordsFault hv)
  obtain ⟨ao, c, rfl⟩ := hv.shape
  have HD : Hid (daF xs = if 40 < xs.length then 2 else wordsF xs) := rfl
  obtain ⟨l, hl⟩ : ∃ l, xs.length = l := ⟨_, rfl⟩
  rw [HD.out]
  rw [hl] at hm HW ⊢
  clear HD hl hv
  by_cases h : 40 < l
  · have h' : (40 : Int) < (l : Int) := by omega
    rw [if_pos h]
    go_enter Tryz.func76, Tryz.ntmps76
    go_wp2
    go_ret
    exact ⟨rfl, 0, rfl⟩
  · have h' : ¬ (40 : Int) < (l : Int) := by omega
    rw [if_neg h]
    go_enter Tryz.func76, Tryz.ntmps76
    go_wp2_with fail
    refine HW.out.mono ?_
    rintro e w1 ⟨rfl, q, rfl⟩
    go_wp2
    go_ret
    exact ⟨rfl, q, rfl⟩
set_option maxHeartbeats 2000000 in
theorem isSnapWholeB (a b c d : Int) (ay az : Option Addr) (l m cy cz : Nat) (hl : l ≤ 9223372036854775807) (w : World) : Calls Tryz.prog 77 #[.agg #[.int .i64 a, .int .i64 b, .int .i64 c, .int .i64 d, .slice ay l cy, .slice az m cz]] w fun e w' => e = .returned (.bool (decide ((c = 0 ↔ d = 0) ∧ (c = 0 → l = 0)))) ∧ Below w.heap.size w w' := by
  by_cases h1 : c = 0
  · subst h1
    by_cases h2 : d = 0
    · subst h2
      by_cases h3 : l = 0
      · subst h3
        rw [decide_eq_true ⟨Iff.rfl, fun _ => rfl⟩]
        go_enter Tryz.func77, Tryz.ntmps77
        go_wp2
        go_ret
        exact ⟨rfl, below_alloc _ _⟩
      · have h3' : ((l : Int) == 0) = false := by simp; omega
        rw [decide_eq_false (fun h => h3 (h.2 rfl))]
        go_enter Tryz.func77, Tryz.ntmps77
        go_wp2
        go_ret
        exact ⟨rfl, below_alloc _ _⟩
    · have h2' : (d == 0) = false := by simpa using h2
      rw [decide_eq_false (fun h => h2 (h.1.1 rfl))]
      go_enter Tryz.func77, Tryz.ntmps77
      go_wp2
      go_ret
      exact ⟨rfl, below_alloc _ _⟩
  · have h1' : (c == 0) = false := by simpa using h1
    by_cases h2 : d = 0
    · subst h2
      rw [decide_eq_false (fun h => h1 (h.1.2 rfl))]
      go_enter Tryz.func77, Tryz.ntmps77
      go_wp2
      go_ret
      exact ⟨rfl, below_alloc _ _⟩
    · have h2' : (d == 0) = false := by simpa using h2
      rw [decide_eq_true ⟨⟨fun h => absurd h h1, fun h => absurd h h2⟩, fun h => absurd h h1⟩]
      go_enter Tryz.func77, Tryz.ntmps77
      go_wp2
      go_ret
      exact ⟨by first | rfl | simp [h2] | simp [h2'], below_alloc _ _⟩
def gon (l : List Oj) (i t m : Int) : Prop := l ≠ [] → (l.getD 0 oj0).1 - 1 = i ∧ t ≤ (l.getD 0 oj0).2.1 ∧ (l.getD (l.length - 1) oj0).2.1 ≤ m
instance (l : List Oj) (i t m : Int) : Decidable (gon l i t m) := by unfold gon; infer_instance
theorem gon_link (r : Rf) : gon r.lg r.si r.st r.tm ↔ lkR r := by
  unfold gon lkR
  constructor <;> intro h hn <;> obtain ⟨h1, h2⟩ := h hn <;> exact ⟨by omega, h2⟩
set_option maxHeartbeats 4000000 in
set_option maxRecDepth 4000 in
theorem goesOnB {S : Nat → Prop} {w : World} {v : Value} {fs : List Oj} (i t m : Int) (hv : RdJ S w v fs) (h0 : fs ≠ [] → 1 ≤ (fs.getD 0 oj0).1 ∧ (fs.getD 0 oj0).1 ≤ 9999) :
    Calls Tryz.prog 79 #[v, .int .i64 i, .int .i64 t, .int .i64 m] w fun e w' => e = .returned (.bool (decide (gon fs i t m))) ∧ Below w.heap.size w w' := by
  obtain ⟨av, cv, rfl, hm⟩ := hv.shape
  by_cases hne : fs = []
  · subst hne
    rw [decide_eq_true (show gon [] i t m from fun h => absurd rfl h)]
    go_enter Tryz.func79, Tryz.ntmps79
    go_wp2
    go_ret
    exact ⟨rfl, Below.refl _ _⟩
  · have hpos : 0 < fs.length := List.length_pos_iff.2 hne
    obtain ⟨b, off, rfl, y, p0, p1, p2, p3⟩ := hv.file (k := 0) hpos
    obtain ⟨b', off', e', y', r0, r1, r2, r3⟩ := hv.file (k := fs.length - 1) (by omega)
    injection e' with e'
    injection e' with e1 e2
    subst e1 e2
    have hh := h0 hne
    have HG : Hid (gon fs i t m ↔ (fs.getD 0 oj0).1 - 1 = i ∧ t ≤ (fs.getD 0 oj0).2.1 ∧ (fs.getD (fs.length - 1) oj0).2.1 ≤ m) := ⟨fun h => h hne, fun h _ => h⟩
    obtain ⟨n, hn⟩ : ∃ n, fs.length = n := ⟨_, rfl⟩
    rw [hn] at r0 r1 r2 r3 hm hpos HG ⊢
    obtain ⟨x, hx⟩ : ∃ x, fs.getD 0 oj0 = x := ⟨_, rfl⟩
    obtain ⟨x', hx'⟩ : ∃ x', fs.getD (n - 1) oj0 = x' := ⟨_, rfl⟩
    rw [hx] at p0 p1 p3 hh HG
    rw [hx'] at r0 r1 r3 HG
    obtain ⟨a0, t0, xs0⟩ := x
    obtain ⟨a1, t1, xs1⟩ := x'
    dsimp only at p0 p1 p3 r0 r1 r3 hh HG
    have g3 := p3.shape
    have g4 := r3.shape
    obtain ⟨ay, cy, rfl⟩ := g3
    obtain ⟨ay', cy', rfl⟩ := g4
    generalize xs0.length = l0 at p2
    generalize xs1.length = l1 at r2
    simp only [Nat.zero_mul, Nat.add_zero] at p0 p1 p2
    clear p3 r3 hv hne h0 hn hx hx'
    have hbl := World.block_lt_of_cell? _ _ p0
    have hn0 : ((n : Int) == 0) = false := by simp; omega
    have hw1 : IntKind.i64.wrap ((n : Int) - 1) = ((n - 1 : Nat) : Int) := by simp [IntKind.wrap, IntKind.bits, IntKind.signed]; omega
    obtain ⟨j, hj⟩ : ∃ j, n - 1 = j := ⟨_, rfl⟩
    rw [hj] at r0 r1 r2 hw1
    have hjn : (j : Int) < (n : Int) := by omega
    have hj0 : (0 : Int) ≤ (j : Int) := by omega
    have hn1 : (0 : Int) < (n : Int) := by omega
    clear hj
    have ha1 : IntKind.i64.wrap (a0 - 1) = a0 - 1 := by simp [IntKind.wrap, IntKind.bits, IntKind.signed]; omega
    have key : Hid (∀ B : Bool, decide (gon fs i t m) = B → Calls Tryz.prog 79 #[.slice (some ⟨b, off, none⟩) n cv, .int .i64 i, .int .i64 t, .int .i64 m] w fun e w' => e = .returned (.bool B) ∧ Below w.heap.size w w') := by
      intro B hB
      have HB := hide hB
      clear hB
      by_cases c1 : a0 - 1 = i
      · have c1' : (a0 - 1 == i) = true := by simpa using c1
        by_cases c2 : t ≤ t0
        · have c2' : t0 ≥ t := c2
          by_cases c3 : t1 ≤ m
          · obtain rfl : true = B := by rw [← HB.out]; exact (decide_eq_true (HG.out.2 ⟨c1, c2, c3⟩)).symm
            clear c1
            go_enter Tryz.func79, Tryz.ntmps79
            go_wp2
            go_region
            all_goals
              go_wp2
              go_ret
              exact ⟨by first | rfl | (simp; omega), below_on (below_on (below_alloc _ _) (below_alloc _ _)) (below_drewN _ 1)⟩
          · have c3' : decide (t1 ≤ m) = false := by simpa using c3
            obtain rfl : false = B := by rw [← HB.out]; exact (decide_eq_false (fun h => c3 (HG.out.1 h).2.2)).symm
            clear c1
            go_enter Tryz.func79, Tryz.ntmps79
            go_wp2
            go_region
            all_goals
              go_wp2
              go_ret
              exact ⟨by first | rfl | (simp; omega), below_on (below_on (below_alloc _ _) (below_alloc _ _)) (below_drewN _ 1)⟩
        · have c2' : ¬ t0 ≥ t := c2
          obtain rfl : false = B := by rw [← HB.out]; exact (decide_eq_false (fun h => c2 (HG.out.1 h).2.1)).symm
          clear c1
          go_enter Tryz.func79, Tryz.ntmps79
          go_wp2
          go_region
          all_goals
            go_wp2
            go_ret
            exact ⟨by first | rfl | (simp; omega), below_on (below_on (below_alloc _ _) (below_alloc _ _)) (below_drewN _ 1)⟩
      · have c1' : (a0 - 1 == i) = false := by simpa using c1
        obtain rfl : false = B := by rw [← HB.out]; exact (decide_eq_false (fun h => c1 (HG.out.1 h).1)).symm
        clear c1
        go_enter Tryz.func79, Tryz.ntmps79
        go_wp2
        go_region
        all_goals
          go_wp2
          go_ret
          exact ⟨by first | rfl | (simp; omega), below_on (below_on (below_alloc _ _) (below_alloc _ _)) (below_drewN _ 1)⟩
    exact key.out _ rfl
end Go.Proofs.YtlmaopljihbdkaaGreat
