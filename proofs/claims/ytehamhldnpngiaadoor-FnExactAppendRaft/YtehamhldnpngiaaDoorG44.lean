/- Ap3t Ap4 in one text: what each says stands at its head below. -/
import Derived.Test.YtehamhldnpngiaaDoorG43
import Derived.Test.YtehamhldnpngiaaDoorG23
import Derived.Test.YtehamhldnpngiaaDoorG17
import Derived.BigQuiet
/- Chapter 10: how many words an append's answer has. -/
namespace Go.Proofs.YtehamhldnpngiaaDoor
open Go.RowKit

theorem sum_le : ∀ (l : List Oj), (∀ x ∈ l, x.2.2.length ≤ 6) → (l.map fun p => p.2.2.length + 2).sum ≤ l.length * 8
  | [], _ => by simp
  | x :: l, h => by
    have h1 := sum_le l (fun y hy => h y (List.mem_cons_of_mem _ hy))
    have h2 := h x (List.mem_cons_self ..)
    simp only [List.map_cons, List.sum_cons, List.length_cons]
    omega
theorem six {l : List Oj} (h : logF l = 0) : ∀ x ∈ l, x.2.2.length ≤ 6 := fun x hx => by
  obtain ⟨j, hj, e⟩ := List.mem_iff_getElem.1 hx
  have h2 := (entF_zero ((logF_iff.1 h).2.1 j hj)).2.1
  have e2 : l.getD j oj0 = x := by simp [List.getD, List.getElem?_eq_getElem hj, e]
  rw [e2] at h2
  exact h2
theorem apRR_tot (r : Rf) (i t : Int) (l : List Oj) : totR (apRR r i t l) ≤ 1048576 := by
  by_cases h : apRC r i t l = 0
  · have h0 : apF r i t l = 0 := by
      by_cases hz : apF r i t l = 0
      · exact hz
      · exact absurd ((ap_bad hz).1.symm.trans h) hz
    obtain ⟨k1, k2, k3, k4, k5, k6, k7, _⟩ := ap_know h0
    obtain ⟨g0, g1, _⟩ := af_zero h0
    have hl : apRR r i t l = { r with lg := apL r i l } := by unfold apRR; rw [if_pos h]
    have hm : ∀ x ∈ jnL r.lg (i - r.si).toNat l, x.2.2.length ≤ 6 := by
      intro x hx
      unfold jnL at hx
      split at hx
      · exact six (rfF_iff.1 g0).lo x hx
      · rcases List.mem_append.1 hx with hx | hx
        · exact six (rfF_iff.1 g0).lo x (List.mem_of_mem_take hx)
        · exact six g1 x (List.mem_of_mem_drop hx)
    have hs := sum_le _ hm
    rw [hl]
    unfold totR
    dsimp only
    rw [apL_jn]
    unfold totJ
    rw [List.take_length]
    omega
  · have e : apRR r i t l = rf0 := by unfold apRR; rw [if_neg h]
    rw [e, totR_zero]; decide
end Go.Proofs.YtehamhldnpngiaaDoor
/- Chapter 10: 'l10Fits' of the model, walked. Made by program (genap4.py). -/
namespace Go.Proofs.YtehamhldnpngiaaDoor
open Go.RowKit

set_option maxHeartbeats 8000000 in
set_option maxRecDepth 4000 in
theorem l10FitsI {S : Nat → Prop} {w : World} {bk : Nat} {v x1 x2 x3 x4 x5 : Value} {fs : List Oj} (i t m : Int) (h6 : Var6 w bk (.int .i64 m) x1 x2 x3 x4 x5) (hv : RdJ S w v fs) (h0 : fs ≠ [] → 1 ≤ (fs.getD 0 oj0).1 ∧ (fs.getD 0 oj0).1 ≤ 9999) :
    Calls Tryd.prog 22 #[.pointer (some ⟨bk, 0, none⟩), .int .i64 i, .int .i64 t, v] w fun e w' => e = .returned (.bool (decide (gon fs i t m))) ∧ ∃ q, w' = w.drewN q := by
  obtain ⟨av, cv, rfl, hm⟩ := hv.shape
  have v0 := h6.1
  clear h6
  by_cases hne : fs = []
  · subst hne
    rw [decide_eq_true (show gon [] i t m from fun h => absurd rfl h)]
    go_enter Tryd.func22, Tryd.ntmps22
    go_wp2
    go_ret
    exact ⟨rfl, 0, rfl⟩
  · have hpos : 0 < fs.length := List.length_pos_iff.2 hne
    obtain ⟨b, off, rfl, y, p0, p1, p2, p3⟩ := hv.file (k := 0) hpos
    obtain ⟨b', off', e', y', r0, r1, r2, r3⟩ := hv.file (k := fs.length - 1) (by omega)
    injection e' with e'
    injection e' with e1 e2
    subst e1 e2
    have hh := h0 hne
    have HG : Hid (gon fs i t m ↔ (fs.getD 0 oj0).1 - 1 = i ∧ t ≤ (fs.getD 0 oj0).2.1 ∧ (fs.getD (fs.length - 1) oj0).2.1 ≤ m) := ⟨fun h => h hne, fun h _ => h⟩
    obtain ⟨n, hn⟩ : ∃ n, fs.length = n := ⟨_, rfl⟩
    rw [hn] at r0 r1 r2 r3 hm hpos HG ⊢
    obtain ⟨x, hx⟩ : ∃ x, fs.getD 0 oj0 = x := ⟨_, rfl⟩
    obtain ⟨x', hx'⟩ : ∃ x', fs.getD (n - 1) oj0 = x' := ⟨_, rfl⟩
    rw [hx] at p0 p1 p3 hh HG
    rw [hx'] at r0 r1 r3 HG
    obtain ⟨a0, t0, xs0⟩ := x
    obtain ⟨a1, t1, xs1⟩ := x'
    dsimp only at p0 p1 p3 r0 r1 r3 hh HG
    have g3 := p3.shape
    have g4 := r3.shape
    obtain ⟨ay, cy, rfl⟩ := g3
    obtain ⟨ay', cy', rfl⟩ := g4
    generalize xs0.length = l0 at p2
    generalize xs1.length = l1 at r2
    simp only [Nat.zero_mul, Nat.add_zero] at p0 p1 p2
    clear p3 r3 hv hne h0 hn hx hx'
    have hbl := World.block_lt_of_cell? _ _ p0
    have hn0 : ((n : Int) == 0) = false := by simp; omega
    have hw1 : IntKind.i64.wrap ((n : Int) - 1) = ((n - 1 : Nat) : Int) := by simp [IntKind.wrap, IntKind.bits, IntKind.signed]; omega
    obtain ⟨j, hj⟩ : ∃ j, n - 1 = j := ⟨_, rfl⟩
    rw [hj] at r0 r1 r2 hw1
    have hjn : (j : Int) < (n : Int) := by omega
    have hj0 : (0 : Int) ≤ (j : Int) := by omega
    have hn1 : (0 : Int) < (n : Int) := by omega
    clear hj
    have ha1 : IntKind.i64.wrap (a0 - 1) = a0 - 1 := by simp [IntKind.wrap, IntKind.bits, IntKind.signed]; omega
    obtain ⟨B, hB⟩ : ∃ B, decide (gon fs i t m) = B := ⟨_, rfl⟩
    have HB := hide hB
    rw [hB]
    clear hB
    have hz0 : off + 0 = off := rfl
    clear r0 r2 p2
    by_cases c1 : a0 - 1 = i
    · have c1b : (a0 - 1 == i) = true := by simpa using c1
      have c1d : decide (a0 - 1 = i) = true := decide_eq_true c1
      by_cases c2 : t ≤ t0
      · have c2d : decide (t ≤ t0) = true := decide_eq_true c2
        by_cases c3 : t1 ≤ m
        · have c3d : decide (t1 ≤ m) = true := decide_eq_true c3
          obtain rfl : true = B := by rw [← HB.out]; exact (decide_eq_true (HG.out.2 ⟨c1, c2, c3⟩)).symm
          clear c1 c2 c3
          go_enter Tryd.func22, Tryd.ntmps22
          go_wp2_with fail
          go_quiet (fail)
          go_wp2
          go_ret
          exact ⟨rfl, _, rfl⟩
        · have c3d : decide (t1 ≤ m) = false := decide_eq_false c3
          obtain rfl : false = B := by rw [← HB.out]; exact (decide_eq_false (fun h => c3 (HG.out.1 h).2.2)).symm
          clear c1 c2 c3
          go_enter Tryd.func22, Tryd.ntmps22
          go_wp2_with fail
          go_quiet (fail)
          go_wp2
          go_ret
          exact ⟨rfl, _, rfl⟩
      · have c2d : decide (t ≤ t0) = false := decide_eq_false c2
        obtain rfl : false = B := by rw [← HB.out]; exact (decide_eq_false (fun h => c2 (HG.out.1 h).2.1)).symm
        clear c1 c2
        go_enter Tryd.func22, Tryd.ntmps22
        go_wp2_with fail
        go_quiet (fail)
        go_wp2
        go_ret
        exact ⟨rfl, _, rfl⟩
    · have c1b : (a0 - 1 == i) = false := by simpa using c1
      have c1d : decide (a0 - 1 = i) = false := decide_eq_false c1
      obtain rfl : false = B := by rw [← HB.out]; exact (decide_eq_false (fun h => c1 (HG.out.1 h).1)).symm
      clear c1
      go_enter Tryd.func22, Tryd.ntmps22
      go_wp2_with fail
      go_quiet (fail)
      go_wp2
      go_ret
      exact ⟨rfl, _, rfl⟩
end Go.Proofs.YtehamhldnpngiaaDoor
