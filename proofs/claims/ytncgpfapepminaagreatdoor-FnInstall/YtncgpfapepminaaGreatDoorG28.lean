/- Ap4 in one text: what each says stands at its head below. -/
import Derived.Test.YtncgpfapepminaaGreatDoorG12
import Derived.Test.YtncgpfapepminaaGreatDoorG09
import Derived.BigQuiet
/- Chapter 10: 'l10Fits' of the model, walked. Made by program (genap4.py). -/
namespace Go.Proofs.YtncgpfapepminaaGreatDoor
open Go.RowKit

set_option maxHeartbeats 8000000 in
set_option maxRecDepth 4000 in
theorem l10FitsI {S : Nat → Prop} {w : World} {bk : Nat} {v x1 x2 x3 x4 x5 : Value} {fs : List Oj} (i t m : Int) (h6 : Var6 w bk (.int .i64 m) x1 x2 x3 x4 x5) (hv : RdJ S w v fs) (h0 : fs ≠ [] → 1 ≤ (fs.getD 0 oj0).1 ∧ (fs.getD 0 oj0).1 ≤ 9999) :
    Calls Tryz.prog 85 #[.pointer (some ⟨bk, 0, none⟩), .int .i64 i, .int .i64 t, v] w fun e w' => e = .returned (.bool (decide (gon fs i t m))) ∧ ∃ q, w' = w.drewN q := by
  obtain ⟨av, cv, rfl, hm⟩ := hv.shape
  have v0 := h6.1
  clear h6
  by_cases hne : fs = []
  · subst hne
    rw [decide_eq_true (show gon [] i t m from fun h => absurd rfl h)]
    go_enter Tryz.func85, Tryz.ntmps85
    go_wp2
    go_ret
    exact ⟨rfl, 0, rfl⟩
  · have hpos : 0 < fs.length := List.length_pos_iff.2 hne
    obtain ⟨b, off, rfl, y, p0, p1, p2, p3⟩ := hv.file (k := 0) hpos
    obtain ⟨b', off', e', y', r0, r1, r2, r3⟩ := hv.file (k := fs.length - 1) (by omega)
    injection e' with e'
    injection e' with e1 e2
    subst e1 e2
    have hh := h0 hne
    have HG : Hid (gon fs i t m ↔ (fs.getD 0 oj0).1 - 1 = i ∧ t ≤ (fs.getD 0 oj0).2.1 ∧ (fs.getD (fs.length - 1) oj0).2.1 ≤ m) := ⟨fun h => h hne, fun h _ => h⟩
    obtain ⟨n, hn⟩ : ∃ n, fs.length = n := ⟨_, rfl⟩
    rw [hn] at r0 r1 r2 r3 hm hpos HG ⊢
    obtain ⟨x, hx⟩ : ∃ x, fs.getD 0 oj0 = x := ⟨_, rfl⟩
    obtain ⟨x', hx'⟩ : ∃ x', fs.getD (n - 1) oj0 = x' := ⟨_, rfl⟩
    rw [hx] at p0 p1 p3 hh HG
    rw [hx'] at r0 r1 r3 HG
    obtain ⟨a0, t0, xs0⟩ := x
    obtain ⟨a1, t1, xs1⟩ := x'
    dsimp only at p0 p1 p3 r0 r1 r3 hh HG
    have g3 := p3.shape
    have g4 := r3.shape
    obtain ⟨ay, cy, rfl⟩ := g3
    obtain ⟨ay', cy', rfl⟩ := g4
    generalize xs0.length = l0 at p2
    generalize xs1.length = l1 at r2
    simp only [Nat.zero_mul, Nat.add_zero] at p0 p1 p2
    clear p3 r3 hv hne h0 hn hx hx'
    have hbl := World.block_lt_of_cell? _ _ p0
    have hn0 : ((n : Int) == 0) = false := by simp; omega
    have hw1 : IntKind.i64.wrap ((n : Int) - 1) = ((n - 1 : Nat) : Int) := by simp [IntKind.wrap, IntKind.bits, IntKind.signed]; omega
    obtain ⟨j, hj⟩ : ∃ j, n - 1 = j := ⟨_, rfl⟩
    rw [hj] at r0 r1 r2 hw1
    have hjn : (j : Int) < (n : Int) := by omega
    have hj0 : (0 : Int) ≤ (j : Int) := by omega
    have hn1 : (0 : Int) < (n : Int) := by omega
    clear hj
    have ha1 : IntKind.i64.wrap (a0 - 1) = a0 - 1 := by simp [IntKind.wrap, IntKind.bits, IntKind.signed]; omega
    obtain ⟨B, hB⟩ : ∃ B, decide (gon fs i t m) = B := ⟨_, rfl⟩
    have HB := hide hB
    rw [hB]
    clear hB
    have hz0 : off + 0 = off := rfl
    clear r0 r2 p2
    by_cases c1 : a0 - 1 = i
    · have c1b : (a0 - 1 == i) = true := by simpa using c1
      have c1d : decide (a0 - 1 = i) = true := decide_eq_true c1
      by_cases c2 : t ≤ t0
      · have c2d : decide (t ≤ t0) = true := decide_eq_true c2
        by_cases c3 : t1 ≤ m
        · have c3d : decide (t1 ≤ m) = true := decide_eq_true c3
          obtain rfl : true = B := by rw [← HB.out]; exact (decide_eq_true (HG.out.2 ⟨c1, c2, c3⟩)).symm
          clear c1 c2 c3
          go_enter Tryz.func85, Tryz.ntmps85
          go_wp2_with fail
          go_quiet (fail)
          go_wp2
          go_ret
          exact ⟨rfl, _, rfl⟩
        · have c3d : decide (t1 ≤ m) = false := decide_eq_false c3
          obtain rfl : false = B := by rw [← HB.out]; exact (decide_eq_false (fun h => c3 (HG.out.1 h).2.2)).symm
          clear c1 c2 c3
          go_enter Tryz.func85, Tryz.ntmps85
          go_wp2_with fail
          go_quiet (fail)
          go_wp2
          go_ret
          exact ⟨rfl, _, rfl⟩
      · have c2d : decide (t ≤ t0) = false := decide_eq_false c2
        obtain rfl : false = B := by rw [← HB.out]; exact (decide_eq_false (fun h => c2 (HG.out.1 h).2.1)).symm
        clear c1 c2
        go_enter Tryz.func85, Tryz.ntmps85
        go_wp2_with fail
        go_quiet (fail)
        go_wp2
        go_ret
        exact ⟨rfl, _, rfl⟩
    · have c1b : (a0 - 1 == i) = false := by simpa using c1
      have c1d : decide (a0 - 1 = i) = false := decide_eq_false c1
      obtain rfl : false = B := by rw [← HB.out]; exact (decide_eq_false (fun h => c1 (HG.out.1 h).1)).symm
      clear c1
      go_enter Tryz.func85, Tryz.ntmps85
      go_wp2_with fail
      go_quiet (fail)
      go_wp2
      go_ret
      exact ⟨rfl, _, rfl⟩
end Go.Proofs.YtncgpfapepminaaGreatDoor
