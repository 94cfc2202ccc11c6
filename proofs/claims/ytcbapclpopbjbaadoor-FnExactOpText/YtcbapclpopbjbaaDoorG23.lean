/- Ra3 in one text: what each says stands at its head below. -/
import Derived.Test.YtcbapclpopbjbaaDoorG21
import Derived.Test.YtcbapclpopbjbaaDoorG22
import Derived.BigQuiet
/- Chapter 10: the fault of a store, of the program, walked. Made by program (genra3.py). -/
namespace Go.Proofs.YtcbapclpopbjbaaDoor
open Go.RowKit

theorem isHardB (a v : Int) (w : World) : Calls Tryd.prog 60 #[.int .i64 a, .int .i64 v] w fun e w' => e = .returned (.bool (decide ((0 ≤ a ∧ a ≤ 999) ∧ (0 ≤ v ∧ v ≤ 9)))) ∧ w' = w := by
  by_cases h1 : 0 ≤ a
  · skip
    have h1' : a ≥ 0 := h1
    by_cases h2 : a ≤ 999
    · skip
      by_cases h3 : 0 ≤ v
      · skip
        have h3' : v ≥ 0 := h3
        by_cases h4 : v ≤ 9
        · skip
          rw [decide_eq_true ⟨⟨h1, h2⟩, h3, h4⟩]
          go_enter Tryd.func60, Tryd.ntmps60
          go_wp2
          go_ret
          exact ⟨rfl, rfl⟩
        · skip
          rw [decide_eq_false (by omega)]
          go_enter Tryd.func60, Tryd.ntmps60
          go_wp2
          go_ret
          exact ⟨rfl, rfl⟩
      · skip
        have h3' : ¬ v ≥ 0 := h3
        rw [decide_eq_false (by omega)]
        go_enter Tryd.func60, Tryd.ntmps60
        go_wp2
        go_ret
        exact ⟨rfl, rfl⟩
    · skip
      rw [decide_eq_false (by omega)]
      go_enter Tryd.func60, Tryd.ntmps60
      go_wp2
      go_ret
      exact ⟨rfl, rfl⟩
  · skip
    have h1' : ¬ a ≥ 0 := h1
    rw [decide_eq_false (by omega)]
    go_enter Tryd.func60, Tryd.ntmps60
    go_wp2
    go_ret
    exact ⟨rfl, rfl⟩

set_option maxHeartbeats 2000000 in
theorem isSnapRangeB (a b c d : Int) (ay az : Option Addr) (l m cy cz : Nat) (w : World) : Calls Tryd.prog 61 #[.agg #[.int .i64 a, .int .i64 b, .int .i64 c, .int .i64 d, .slice ay l cy, .slice az m cz]] w fun e w' => e = .returned (.bool (decide ((0 ≤ c ∧ c ≤ 9999) ∧ 0 ≤ d ∧ d ≤ a))) ∧ Below w.heap.size w w' := by
  by_cases h1 : 0 ≤ c
  · skip
    have h1' : c ≥ 0 := h1
    by_cases h2 : c ≤ 9999
    · skip
      by_cases h3 : 0 ≤ d
      · skip
        have h3' : d ≥ 0 := h3
        by_cases h4 : d ≤ a
        · skip
          rw [decide_eq_true ⟨⟨h1, h2⟩, h3, h4⟩]
          go_enter Tryd.func61, Tryd.ntmps61
          go_wp2
          go_ret
          exact ⟨rfl, below_alloc _ _⟩
        · skip
          rw [decide_eq_false (by omega)]
          go_enter Tryd.func61, Tryd.ntmps61
          go_wp2
          go_ret
          exact ⟨rfl, below_alloc _ _⟩
      · skip
        have h3' : ¬ d ≥ 0 := h3
        rw [decide_eq_false (by omega)]
        go_enter Tryd.func61, Tryd.ntmps61
        go_wp2
        go_ret
        exact ⟨rfl, below_alloc _ _⟩
    · skip
      rw [decide_eq_false (by omega)]
      go_enter Tryd.func61, Tryd.ntmps61
      go_wp2
      go_ret
      exact ⟨rfl, below_alloc _ _⟩
  · skip
    have h1' : ¬ c ≥ 0 := h1
    rw [decide_eq_false (by omega)]
    go_enter Tryd.func61, Tryd.ntmps61
    go_wp2
    go_ret
    exact ⟨rfl, below_alloc _ _⟩

theorem snapFaultI {S : Nat → Prop} {w : World} {v : Value} {xs : List Int} (hv : RdI S w v xs) :
    Calls Tryd.prog 62 #[v] w fun e w' => e = .returned (.int .i64 (daF xs)) ∧ ∃ q, w' = w.drewN q := by
  have hm : xs.length ≤ 9223372036854775807 := hv.maxR
  have HW := hide (wordsFault hv)
  obtain ⟨ao, c, rfl⟩ := hv.shape
  have HD : Hid (daF xs = if 40 < xs.length then 2 else wordsF xs) := rfl
  obtain ⟨l, hl⟩ : ∃ l, xs.length = l := ⟨_, rfl⟩
  rw [HD.out]
  rw [hl] at hm HW ⊢
  clear HD hl hv
  by_cases h : 40 < l
  · have h' : (40 : Int) < (l : Int) := by omega
    rw [if_pos h]
    go_enter Tryd.func62, Tryd.ntmps62
    go_wp2
    go_ret
    exact ⟨rfl, 0, rfl⟩
  · have h' : ¬ (40 : Int) < (l : Int) := by omega
    rw [if_neg h]
    go_enter Tryd.func62, Tryd.ntmps62
    go_wp2_with fail
    refine HW.out.mono ?_
    rintro e w1 ⟨rfl, q, rfl⟩
    go_wp2
    go_ret
    exact ⟨rfl, q, rfl⟩

set_option maxHeartbeats 2000000 in
theorem isSnapWholeB (a b c d : Int) (ay az : Option Addr) (l m cy cz : Nat) (hl : l ≤ 9223372036854775807) (w : World) : Calls Tryd.prog 63 #[.agg #[.int .i64 a, .int .i64 b, .int .i64 c, .int .i64 d, .slice ay l cy, .slice az m cz]] w fun e w' => e = .returned (.bool (decide ((c = 0 ↔ d = 0) ∧ (c = 0 → l = 0)))) ∧ Below w.heap.size w w' := by
  by_cases h1 : c = 0
  · subst h1
    by_cases h2 : d = 0
    · subst h2
      by_cases h3 : l = 0
      · subst h3
        rw [decide_eq_true ⟨Iff.rfl, fun _ => rfl⟩]
        go_enter Tryd.func63, Tryd.ntmps63
        go_wp2
        go_ret
        exact ⟨rfl, below_alloc _ _⟩
      · have h3' : ((l : Int) == 0) = false := by simp; omega
        rw [decide_eq_false (fun h => h3 (h.2 rfl))]
        go_enter Tryd.func63, Tryd.ntmps63
        go_wp2
        go_ret
        exact ⟨rfl, below_alloc _ _⟩
    · have h2' : (d == 0) = false := by simpa using h2
      rw [decide_eq_false (fun h => h2 (h.1.1 rfl))]
      go_enter Tryd.func63, Tryd.ntmps63
      go_wp2
      go_ret
      exact ⟨rfl, below_alloc _ _⟩
  · have h1' : (c == 0) = false := by simpa using h1
    by_cases h2 : d = 0
    · subst h2
      rw [decide_eq_false (fun h => h1 (h.1.2 rfl))]
      go_enter Tryd.func63, Tryd.ntmps63
      go_wp2
      go_ret
      exact ⟨rfl, below_alloc _ _⟩
    · have h2' : (d == 0) = false := by simpa using h2
      rw [decide_eq_true ⟨⟨fun h => absurd h h1, fun h => absurd h h2⟩, fun h => absurd h h1⟩]
      go_enter Tryd.func63, Tryd.ntmps63
      go_wp2
      go_ret
      exact ⟨by first | rfl | simp [h2] | simp [h2'], below_alloc _ _⟩
/-- A list goes on behind an index of a term, up to a term. -/
def gon (l : List Oj) (i t m : Int) : Prop := l ≠ [] → (l.getD 0 oj0).1 - 1 = i ∧ t ≤ (l.getD 0 oj0).2.1 ∧ (l.getD (l.length - 1) oj0).2.1 ≤ m
instance (l : List Oj) (i t m : Int) : Decidable (gon l i t m) := by unfold gon; infer_instance
theorem gon_fit (r : Rf) (i t : Int) (l : List Oj) : gon l i t r.tm ↔ fitR r i t l := Iff.rfl
theorem gon_link (r : Rf) : gon r.lg r.si r.st r.tm ↔ lkR r := by
  unfold gon lkR
  constructor <;> intro h hn <;> obtain ⟨h1, h2⟩ := h hn <;> exact ⟨by omega, h2⟩

set_option maxHeartbeats 4000000 in
set_option maxRecDepth 4000 in
theorem goesOnB {S : Nat → Prop} {w : World} {v : Value} {fs : List Oj} (i t m : Int) (hv : RdJ S w v fs) (h0 : fs ≠ [] → 1 ≤ (fs.getD 0 oj0).1 ∧ (fs.getD 0 oj0).1 ≤ 9999) :
    Calls Tryd.prog 65 #[v, .int .i64 i, .int .i64 t, .int .i64 m] w fun e w' => e = .returned (.bool (decide (gon fs i t m))) ∧ Below w.heap.size w w' := by
  obtain ⟨av, cv, rfl, hm⟩ := hv.shape
  by_cases hne : fs = []
  · subst hne
    rw [decide_eq_true (show gon [] i t m from fun h => absurd rfl h)]
    go_enter Tryd.func65, Tryd.ntmps65
    go_wp2
    go_ret
    exact ⟨rfl, Below.refl _ _⟩
  · have hpos : 0 < fs.length := List.length_pos_iff.2 hne
    obtain ⟨b, off, rfl, y, p0, p1, p2, p3⟩ := hv.file (k := 0) hpos
    obtain ⟨b', off', e', y', r0, r1, r2, r3⟩ := hv.file (k := fs.length - 1) (by omega)
    injection e' with e'
    injection e' with e1 e2
    subst e1 e2
    have hh := h0 hne
    have HG : Hid (gon fs i t m ↔ (fs.getD 0 oj0).1 - 1 = i ∧ t ≤ (fs.getD 0 oj0).2.1 ∧ (fs.getD (fs.length - 1) oj0).2.1 ≤ m) := ⟨fun h => h hne, fun h _ => h⟩
    obtain ⟨n, hn⟩ : ∃ n, fs.length = n := ⟨_, rfl⟩
    rw [hn] at r0 r1 r2 r3 hm hpos HG ⊢
    obtain ⟨x, hx⟩ : ∃ x, fs.getD 0 oj0 = x := ⟨_, rfl⟩
    obtain ⟨x', hx'⟩ : ∃ x', fs.getD (n - 1) oj0 = x' := ⟨_, rfl⟩
    rw [hx] at p0 p1 p3 hh HG
    rw [hx'] at r0 r1 r3 HG
    obtain ⟨a0, t0, xs0⟩ := x
    obtain ⟨a1, t1, xs1⟩ := x'
    dsimp only at p0 p1 p3 r0 r1 r3 hh HG
    have g3 := p3.shape
    have g4 := r3.shape
    obtain ⟨ay, cy, rfl⟩ := g3
    obtain ⟨ay', cy', rfl⟩ := g4
    generalize xs0.length = l0 at p2
    generalize xs1.length = l1 at r2
    simp only [Nat.zero_mul, Nat.add_zero] at p0 p1 p2
    clear p3 r3 hv hne h0 hn hx hx'
    have hbl := World.block_lt_of_cell? _ _ p0
    have hn0 : ((n : Int) == 0) = false := by simp; omega
    have hw1 : IntKind.i64.wrap ((n : Int) - 1) = ((n - 1 : Nat) : Int) := by simp [IntKind.wrap, IntKind.bits, IntKind.signed]; omega
    obtain ⟨j, hj⟩ : ∃ j, n - 1 = j := ⟨_, rfl⟩
    rw [hj] at r0 r1 r2 hw1
    have hjn : (j : Int) < (n : Int) := by omega
    have hj0 : (0 : Int) ≤ (j : Int) := by omega
    have hn1 : (0 : Int) < (n : Int) := by omega
    clear hj
    have ha1 : IntKind.i64.wrap (a0 - 1) = a0 - 1 := by simp [IntKind.wrap, IntKind.bits, IntKind.signed]; omega
    have key : Hid (∀ B : Bool, decide (gon fs i t m) = B → Calls Tryd.prog 65 #[.slice (some ⟨b, off, none⟩) n cv, .int .i64 i, .int .i64 t, .int .i64 m] w fun e w' => e = .returned (.bool B) ∧ Below w.heap.size w w') := by
      intro B hB
      have HB := hide hB
      clear hB
      by_cases c1 : a0 - 1 = i
      · have c1' : (a0 - 1 == i) = true := by simpa using c1
        by_cases c2 : t ≤ t0
        · have c2' : t0 ≥ t := c2
          by_cases c3 : t1 ≤ m
          · obtain rfl : true = B := by rw [← HB.out]; exact (decide_eq_true (HG.out.2 ⟨c1, c2, c3⟩)).symm
            clear c1
            go_enter Tryd.func65, Tryd.ntmps65
            go_wp2
            go_region
            all_goals
              go_wp2
              go_ret
              exact ⟨by first | rfl | (simp; omega), below_on (below_on (below_alloc _ _) (below_alloc _ _)) (below_drewN _ 1)⟩
          · have c3' : decide (t1 ≤ m) = false := by simpa using c3
            obtain rfl : false = B := by rw [← HB.out]; exact (decide_eq_false (fun h => c3 (HG.out.1 h).2.2)).symm
            clear c1
            go_enter Tryd.func65, Tryd.ntmps65
            go_wp2
            go_region
            all_goals
              go_wp2
              go_ret
              exact ⟨by first | rfl | (simp; omega), below_on (below_on (below_alloc _ _) (below_alloc _ _)) (below_drewN _ 1)⟩
        · have c2' : ¬ t0 ≥ t := c2
          obtain rfl : false = B := by rw [← HB.out]; exact (decide_eq_false (fun h => c2 (HG.out.1 h).2.1)).symm
          clear c1
          go_enter Tryd.func65, Tryd.ntmps65
          go_wp2
          go_region
          all_goals
            go_wp2
            go_ret
            exact ⟨by first | rfl | (simp; omega), below_on (below_on (below_alloc _ _) (below_alloc _ _)) (below_drewN _ 1)⟩
      · have c1' : (a0 - 1 == i) = false := by simpa using c1
        obtain rfl : false = B := by rw [← HB.out]; exact (decide_eq_false (fun h => c1 (HG.out.1 h).1)).symm
        clear c1
        go_enter Tryd.func65, Tryd.ntmps65
        go_wp2
        go_region
        all_goals
          go_wp2
          go_ret
          exact ⟨by first | rfl | (simp; omega), below_on (below_on (below_alloc _ _) (below_alloc _ _)) (below_drewN _ 1)⟩
    exact key.out _ rfl

end Go.Proofs.YtcbapclpopbjbaaDoor
