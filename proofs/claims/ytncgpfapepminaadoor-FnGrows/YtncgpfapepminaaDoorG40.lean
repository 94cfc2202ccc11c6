/- En4 Lw in one text: what each says stands at its head below. -/
import Derived.Test.YtncgpfapepminaaDoorG39
import Derived.Test.YtncgpfapepminaaDoorG06
import Derived.BigQuiet
import Derived.Test.YtncgpfapepminaaDoorG03
import Derived.Test.YtncgpfapepminaaDoorG04
/- Chapter 9: entries held against each other: 'SameEntries' and 'CommonOf' of both sides, walked. Made by program (genen4.py). -/
namespace Go.Proofs.YtncgpfapepminaaDoor
open Go.RowKit

/-- How many entries two lists have in common, from the first on. -/
def cmnE : List Oj → List Oj → Nat
  | p :: ps, q :: qs => if p = q then cmnE ps qs + 1 else 0
  | _, _ => 0
theorem cmn_to : ∀ (k : Nat) (ps qs : List Oj), k ≤ ps.length → k ≤ qs.length → (∀ j, j < k → ps.getD j oj0 = qs.getD j oj0) → cmnE ps qs = k + cmnE (ps.drop k) (qs.drop k)
  | 0, ps, qs, _, _, _ => by simp
  | k + 1, [], _, h, _, _ => absurd h (by simp)
  | k + 1, _ :: _, [], _, h, _ => absurd h (by simp)
  | k + 1, p :: ps, q :: qs, h1, h2, h3 => by
    have h0 : p = q := by simpa using h3 0 (by omega)
    have := cmn_to k ps qs (by simpa using h1) (by simpa using h2) (fun j hj => by have := h3 (j + 1) (by omega); simpa using this)
    rw [cmnE, if_pos h0, this]
    simp
    omega
theorem cmn_endA {ps qs : List Oj} {k : Nat} (h : ps.length ≤ k) : cmnE (ps.drop k) (qs.drop k) = 0 := by rw [List.drop_eq_nil_of_le h]; rfl
theorem cmn_endB {ps qs : List Oj} {k : Nat} (h : qs.length ≤ k) : cmnE (ps.drop k) (qs.drop k) = 0 := by
  rw [List.drop_eq_nil_of_le h]
  cases ps.drop k <;> rfl
theorem cmn_endC {ps qs : List Oj} {k : Nat} (h1 : k < ps.length) (h2 : k < qs.length) (h : ps.getD k oj0 ≠ qs.getD k oj0) : cmnE (ps.drop k) (qs.drop k) = 0 := by
  rw [List.drop_eq_getElem_cons h1, List.drop_eq_getElem_cons h2, cmnE, if_neg]
  intro e
  exact h (by simpa [List.getD, h1, h2] using e)
theorem cmn_le : ∀ (ps qs : List Oj), cmnE ps qs ≤ ps.length ∧ cmnE ps qs ≤ qs.length
  | [], _ => by simp [cmnE]
  | _ :: _, [] => by simp [cmnE]
  | p :: ps, q :: qs => by
    rw [cmnE]
    have := cmn_le ps qs
    by_cases h : p = q
    · rw [if_pos h]; simp; omega
    · rw [if_neg h]; simp
theorem cmn_all : ∀ (ps qs : List Oj), (ps.length = qs.length ∧ cmnE ps qs = ps.length) ↔ ps = qs
  | [], [] => by simp [cmnE]
  | [], _ :: _ => by simp
  | _ :: _, [] => by simp
  | p :: ps, q :: qs => by
    have ih := cmn_all ps qs
    rw [cmnE]
    by_cases h : p = q
    · rw [if_pos h, h]
      simp only [List.length_cons, List.cons.injEq, true_and]
      rw [← ih]
      omega
    · rw [if_neg h]
      simp [h]
theorem entry_eq {a a' t t' : Int} {xs ys : List Int} : ((a, t, xs) : Oj) = (a', t', ys) ↔ a = a' ∧ t = t' ∧ xs = ys := by simp

set_option maxHeartbeats 2000000 in
set_option maxRecDepth 4000 in
theorem sameEntryI {S T : Nat → Prop} {w : World} {u v : Value} {xs ys : List Int} (a t a' t' : Int) (hu : RdI S w u xs) (hv : RdI T w v ys) :
    Calls Tryd.prog 41 #[.agg #[.int .i64 a, .int .i64 t, u], .agg #[.int .i64 a', .int .i64 t', v]] w fun e w' => e = .returned (.bool (decide (((a, t, xs) : Oj) = (a', t', ys)))) ∧ Below w.heap.size w w' := by
  obtain ⟨ao, c, rfl⟩ := hu.shape
  obtain ⟨ao', c', rfl⟩ := hv.shape
  obtain ⟨n, hn⟩ : ∃ n, xs.length = n := ⟨_, rfl⟩
  obtain ⟨n', hn'⟩ : ∃ n', ys.length = n' := ⟨_, rfl⟩
  have A0 := hide (below_on (below_alloc w (.cells #[.int .i64 a, .int .i64 t, .slice ao n c] 43)) (below_alloc _ (.cells #[.int .i64 a', .int .i64 t', .slice ao' n' c'] 43)))
  have HEq := hide (fun (w' : World) (hb : Below w.heap.size w w') => slicesEqualR (hu.later hb) (hv.later hb))
  rw [hn, hn'] at HEq
  rw [hn, hn']
  clear hu hv hn hn'
  obtain ⟨B, hB⟩ : ∃ B, decide (xs = ys) = B := ⟨_, rfl⟩
  rw [hB] at HEq
  by_cases hab : a = a'
  · subst hab
    by_cases htt : t = t'
    · subst htt
      have hb2 : decide (((a, t, xs) : Oj) = (a, t, ys)) = B := by rw [← hB]; simp
      rw [hb2]
      clear hB hb2
      go_enter Tryd.func41, Tryd.ntmps41
      go_wp2_with fail
      refine (HEq.out _ A0.out).mono ?_
      rintro e w1 ⟨rfl, q, rfl⟩
      have HB1 := hide (below_on A0.out (below_drewN _ q))
      go_wp2
      go_ret
      exact ⟨rfl, HB1.out⟩
    · have hb2 : decide (((a, t, xs) : Oj) = (a, t', ys)) = false := decide_eq_false (fun h => htt (entry_eq.1 h).2.1)
      rw [hb2]
      clear hB hb2
      go_enter Tryd.func41, Tryd.ntmps41
      go_wp2
      go_ret
      exact ⟨rfl, A0.out⟩
  · have hb2 : decide (((a, t, xs) : Oj) = (a', t', ys)) = false := decide_eq_false (fun h => hab (entry_eq.1 h).1)
    rw [hb2]
    clear hB hb2
    go_enter Tryd.func41, Tryd.ntmps41
    go_wp2
    go_ret
    exact ⟨rfl, A0.out⟩

set_option maxHeartbeats 2000000 in
set_option maxRecDepth 4000 in
theorem equalFuncE {S T : Nat → Prop} {w : World} {u v : Value} {ps qs : List Oj} (hu : RdJ S w u ps) (hv : RdJ T w v qs) :
    Calls Tryd.prog 40 #[u, v, .func (.func 41) #[] #[]] w fun e w' => e = .returned (.bool (decide (ps = qs))) ∧ Below w.heap.size w w' := by
  obtain ⟨ao, c, rfl, hm⟩ := hu.shape
  obtain ⟨ao', c', rfl, hm'⟩ := hv.shape
  have HU := hide hu
  have HV := hide hv
  clear hu hv
  obtain ⟨n, hn⟩ : ∃ n, ps.length = n := ⟨_, rfl⟩
  obtain ⟨n', hn'⟩ : ∃ n', qs.length = n' := ⟨_, rfl⟩
  have HN := hide hn
  have HN' := hide hn'
  rw [hn] at HU hm ⊢
  rw [hn'] at HV hm' ⊢
  clear hn hn'
  obtain ⟨B, hB⟩ : ∃ B, decide (ps = qs) = B := ⟨_, rfl⟩
  have HB := hide hB
  rw [hB]
  clear hB
  by_cases hl : n = n'
  · subst hl
    go_enter Tryd.func40, Tryd.ntmps40
    go_wp2
    go_loopw [17] (fun i wr => ∃ k : Nat, k ≤ n ∧ i = .int .i64 k ∧ Hid (∀ j, j < k → ps.getD j oj0 = qs.getD j oj0) ∧ Hid (Below w.heap.size w wr)) (fun i _ => n - (intOf i).toNat)
    case atStart => exact ⟨0, Nat.zero_le _, rfl, fun j hj => absurd hj (Nat.not_lt_zero _), Below.refl _ _⟩
    case round =>
      obtain ⟨k, hk, rfl, HA, HBw⟩ := hrel
      by_cases hlt : k < n
      · obtain ⟨b, off, rfl, V, p0, p1, p2, p3⟩ := HU.out.file (k := k) (by rw [HN.out]; exact hlt)
        obtain ⟨b', off', rfl, V', q0, q1, q2, q3⟩ := HV.out.file (k := k) (by rw [HN'.out]; exact hlt)
        obtain ⟨a1, c1, rfl⟩ := p3.shape
        obtain ⟨a2, c2, rfl⟩ := q3.shape
        have g0 := cell_later HBw.out p0
        have g1 := cell_later HBw.out p1
        have g2 := cell_later HBw.out p2
        have r0 := cell_later HBw.out q0
        have r1 := cell_later HBw.out q1
        have r2 := cell_later HBw.out q2
        have R1 := hide (p3.later HBw.out)
        have R2 := hide (q3.later HBw.out)
        have hbl := World.block_lt_of_cell? _ _ r0
        have hk0 : (0 : Int) ≤ (k : Int) := by omega
        obtain ⟨x, hx⟩ : ∃ x, ps.getD k oj0 = x := ⟨_, rfl⟩
        obtain ⟨y, hy⟩ : ∃ y, qs.getD k oj0 = y := ⟨_, rfl⟩
        have HX := hide hx
        have HY := hide hy
        rw [hx] at g0 g1 g2 R1
        rw [hy] at r0 r1 r2 R2
        clear p0 p1 p2 p3 q0 q1 q2 q3 hx hy
        obtain ⟨x1, x2, xs⟩ := x
        obtain ⟨y1, y2, ys⟩ := y
        dsimp only at g0 g1 g2 r0 r1 r2 R1 R2
        obtain ⟨l1, hl1⟩ : ∃ l1, xs.length = l1 := ⟨_, rfl⟩
        obtain ⟨l2, hl2⟩ : ∃ l2, ys.length = l2 := ⟨_, rfl⟩
        rw [hl1] at g2 R1
        rw [hl2] at r2 R2
        clear hl1 hl2
        have bA := hide (below_on (below_alloc wr (.cells #[.int .i64 x1, .int .i64 x2, .slice a1 l1 c1] 43)) (below_alloc _ (.cells #[.int .i64 y1, .int .i64 y2, .slice a2 l2 c2] 43)))
        have HC := hide (sameEntryI x1 x2 y1 y2 (R1.out.later bA.out) (R2.out.later bA.out))
        by_cases hxy : ((x1, x2, xs) : Oj) = (y1, y2, ys)
        · rw [decide_eq_true hxy] at HC
          have HA2 : Hid (∀ j, j < k + 1 → ps.getD j oj0 = qs.getD j oj0) := by
            intro j hj
            by_cases e : j = k
            · subst e; rw [HX.out, HY.out, hxy]
            · exact HA.out j (by omega)
          clear hxy
          go_wp2_with fail
          refine HC.out.mono ?_
          rintro e w1 ⟨rfl, hb1⟩
          have HB1 := hide (below_on HBw.out (below_on bA.out hb1))
          clear hb1
          go_wp2
          go_roundw
          case rel => exact ⟨k + 1, by omega, by go_num, HA2.out, HB1.out⟩
          case measure => simp [intOf]; omega
        · rw [decide_eq_false hxy] at HC
          have hb : B = false := by
            rw [← HB.out]
            exact decide_eq_false (fun e => hxy (HX.out.symm.trans ((by rw [e]) : ps.getD k oj0 = qs.getD k oj0) |>.trans HY.out))
          subst hb
          clear hxy
          go_wp2_with fail
          refine HC.out.mono ?_
          rintro e w1 ⟨rfl, hb1⟩
          have HB1 := hide (below_on HBw.out (below_on bA.out hb1))
          clear hb1
          go_wp2
          go_ret
          exact ⟨rfl, HB1.out⟩
      · have hb : B = true := by
          rw [← HB.out]
          refine decide_eq_true ((cmn_all ps qs).1 ⟨by rw [HN.out, HN'.out], ?_⟩)
          rw [cmn_to k ps qs (by rw [HN.out]; exact hk) (by rw [HN'.out]; exact hk) HA.out, cmn_endA (by rw [HN.out]; omega), HN.out]
          omega
        subst hb
        go_wp2
        go_ret
        exact ⟨rfl, HBw.out⟩
  · have hb : B = false := by
      rw [← HB.out]
      exact decide_eq_false (fun e => hl (by rw [← HN.out, ← HN'.out, e]))
    subst hb
    have hl' : ¬ (n : Int) = (n' : Int) := by omega
    go_enter Tryd.func40, Tryd.ntmps40
    go_wp2
    go_ret
    exact ⟨rfl, Below.refl _ _⟩

set_option maxHeartbeats 1000000 in
theorem implSameEntries {S T : Nat → Prop} {w : World} {u v : Value} {ps qs : List Oj} (hu : RdJ S w u ps) (hv : RdJ T w v qs) :
    Calls Tryd.prog 12 #[u, v] w fun e w' => e = .returned (.bool (decide (ps = qs))) ∧ Below w.heap.size w w' := by
  have H := hide (equalFuncE hu hv)
  generalize decide (ps = qs) = B at H ⊢
  clear hu hv
  go_enter Tryd.func12, Tryd.ntmps12
  go_wp2_with fail
  refine H.out.mono ?_
  rintro e w1 ⟨rfl, hb1⟩
  have HB1 := hide hb1
  clear hb1
  go_wp2
  go_ret
  exact ⟨rfl, HB1.out⟩

end Go.Proofs.YtncgpfapepminaaDoor
/- The laws' own helpers: 'lwBig', 'lwNums', walked. -/
namespace Go.Proofs.YtncgpfapepminaaDoor
open Go.RowKit

theorem lwBig (ao : Option Addr) (n c : Nat) (w : World) (hn : n ≤ 9223372036854775807) :
    Calls Tryd.prog 6 #[.slice ao n c] w fun e w' => e = .returned (.bool (decide (1048576 < n))) ∧ w' = w := by
  by_cases h : 1048576 < n
  · go_enter Tryd.func6, Tryd.ntmps6
    go_wp2
    go_ret
    exact ⟨by simp; omega, rfl⟩
  · go_enter Tryd.func6, Tryd.ntmps6
    go_wp2
    go_ret
    exact ⟨by simp; omega, rfl⟩

theorem lw_ne_of_at {xs ys : List Int} {i : Nat} (h : xs.getD i 0 ≠ ys.getD i 0) : xs ≠ ys := fun e => h (by rw [e])
theorem lw_eq_of_at {xs ys : List Int} (hl : xs.length = ys.length) (h : ∀ i, i < xs.length → xs.getD i 0 = ys.getD i 0) : xs = ys := by
  refine List.ext_getElem hl fun i h1 h2 => ?_
  have := h i h1
  simpa [List.getD, h1, h2] using this

set_option maxHeartbeats 1000000 in
set_option maxRecDepth 4000 in
theorem lwNums {S T : Nat → Prop} {w : World} {u v : Value} {xs ys : List Int} (hu : RdI S w u xs) (hv : RdI T w v ys) :
    Calls Tryd.prog 22 #[u, v] w fun e w' => e = .returned (.bool (decide (xs = ys))) ∧ ∃ q, w' = w.drewN q := by
  have HU := hide hu
  have HV := hide hv
  have hul : xs.length ≤ 9223372036854775807 := by obtain ⟨_, _, _, h, _⟩ := hu; exact h
  have hvl : ys.length ≤ 9223372036854775807 := by obtain ⟨_, _, _, h, _⟩ := hv; exact h
  obtain ⟨ao, c, rfl⟩ := hu.shape
  obtain ⟨ao', c', rfl⟩ := hv.shape
  obtain ⟨n, hn⟩ : ∃ n, xs.length = n := ⟨_, rfl⟩
  obtain ⟨m, hm⟩ : ∃ m, ys.length = m := ⟨_, rfl⟩
  have HN := hide hn
  have HM := hide hm
  rw [hn] at HU hul ⊢
  rw [hm] at HV hvl ⊢
  clear hu hv hn hm
  obtain ⟨bb, hbb⟩ : ∃ bb, decide (xs = ys) = bb := ⟨_, rfl⟩
  have HBb := hide hbb
  rw [hbb]
  clear hbb
  by_cases hnm : n = m
  · subst hnm
    go_enter Tryd.func22, Tryd.ntmps22
    go_wp2
    go_loopw [5] (fun i wr => ∃ k : Nat, k ≤ n ∧ i = .int .i64 k ∧ Hid (∀ j, j < k → xs.getD j 0 = ys.getD j 0) ∧ Hid (∃ q, wr = w.drewN q)) (fun i _ => n - (intOf i).toNat)
    case atStart => exact ⟨0, Nat.zero_le _, rfl, fun j hj => absurd hj (Nat.not_lt_zero _), 0, rfl⟩
    case round =>
      obtain ⟨k, hk, rfl, HA, HQ⟩ := hrel
      by_cases hlt : k < n
      · obtain ⟨b1, o1, rfl, p1⟩ := HU.out.at (k := k) (by rw [HN.out]; exact hlt)
        obtain ⟨b2, o2, rfl, p2⟩ := HV.out.at (k := k) (by rw [HM.out]; exact hlt)
        have g1 := (drewN_cell HQ.out _).trans p1
        have g2 := (drewN_cell HQ.out _).trans p2
        obtain ⟨x, hx⟩ : ∃ x, xs.getD k 0 = x := ⟨_, rfl⟩
        obtain ⟨y, hy⟩ : ∃ y, ys.getD k 0 = y := ⟨_, rfl⟩
        have HX := hide hx
        have HY := hide hy
        rw [hx] at g1
        rw [hy] at g2
        have hk0 : (0 : Int) ≤ (k : Int) := Int.natCast_nonneg _
        have hk1 : (k : Int) < (n : Int) := by omega
        clear hx hy p1 p2
        by_cases hxy : x = y
        · subst hxy
          go_wp2_with fail
          go_quiet (fail)
          go_wp2
          go_roundw
          case rel => exact ⟨k + 1, by omega, by go_num, fun j hj => (by by_cases e : j = k; · subst e; rw [HX.out, HY.out]
                                                                         · exact HA.out j (by omega)), drewN_on HQ.out ⟨_, rfl⟩⟩
          case measure => simp [intOf]; omega
        · have hb0 : bb = false := by rw [← HBb.out]; exact decide_eq_false (lw_ne_of_at (i := k) (by rw [HX.out, HY.out]; exact hxy))
          subst hb0
          go_wp2_with fail
          go_quiet (fail)
          go_wp2
          go_ret
          exact ⟨rfl, drewN_on HQ.out ⟨_, rfl⟩⟩
      · have hb1 : bb = true := by rw [← HBb.out]; exact decide_eq_true (lw_eq_of_at (by rw [HN.out, HM.out]) (fun i hi => HA.out i (by rw [HN.out] at hi; omega)))
        subst hb1
        go_wp2
        go_ret
        exact ⟨rfl, HQ.out⟩
  · have hb0 : bb = false := by rw [← HBb.out]; exact decide_eq_false (fun e => hnm (by rw [← HN.out, ← HM.out, e]))
    subst hb0
    go_enter Tryd.func22, Tryd.ntmps22
    go_wp2
    go_ret
    exact ⟨rfl, 0, rfl⟩
end Go.Proofs.YtncgpfapepminaaDoor
