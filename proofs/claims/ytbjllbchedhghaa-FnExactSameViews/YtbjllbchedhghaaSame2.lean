/- Views held against each other: 'SameViews' of the program and of the model, walked. -/
import Derived.Test.YtbjllbchedhghaaSame
import Derived.Test.YtbjllbchedhghaaFault2
namespace Go.Proofs.Ytbjllbchedhghaa
open Go.RowKit

set_option maxHeartbeats 1000000 in
set_option maxRecDepth 4000 in
theorem sameViews1 {S T : Nat → Prop} {w : World} {u v : Value} {xs ys : List Int} (a b : Int) (hu : RdI S w u xs) (hv : RdI T w v ys) :
    Calls Try.prog 23 #[.agg #[.int .i64 a, u], .agg #[.int .i64 b, v]] w fun e w' => e = .returned (.bool (decide (a = b ∧ xs = ys))) ∧ Below w.heap.size w w' := by
  obtain ⟨ao, c, rfl⟩ := hu.shape
  obtain ⟨ao', c', rfl⟩ := hv.shape
  obtain ⟨n, hn⟩ : ∃ n, xs.length = n := ⟨_, rfl⟩
  obtain ⟨n', hn'⟩ : ∃ n', ys.length = n' := ⟨_, rfl⟩
  have A0 := hide (below_on (below_alloc w (.cells #[.int .i64 a, .slice ao n c] 38)) (below_alloc _ (.cells #[.int .i64 b, .slice ao' n' c'] 38)))
  have HEq := hide (fun (w' : World) (hb : Below w.heap.size w w') => slicesEqualR (hu.later hb) (hv.later hb))
  rw [hn, hn'] at HEq
  rw [hn, hn']
  clear hu hv hn hn'
  obtain ⟨B, hB⟩ : ∃ B, decide (xs = ys) = B := ⟨_, rfl⟩
  rw [hB] at HEq
  by_cases hab : a = b
  · subst hab
    have hb2 : decide (a = a ∧ xs = ys) = B := by rw [← hB]; simp
    rw [hb2]
    clear hB hb2
    go_enter Try.func23, Try.ntmps23
    go_wp2_with fail
    refine (HEq.out _ A0.out).mono ?_
    rintro e w1 ⟨rfl, q, rfl⟩
    have HB1 := hide (below_on A0.out (below_drewN _ q))
    go_wp2
    go_ret
    exact ⟨rfl, HB1.out⟩
  · have hb2 : decide (a = b ∧ xs = ys) = false := decide_eq_false (fun h => hab h.1)
    rw [hb2]
    clear hB hb2
    go_enter Try.func23, Try.ntmps23
    go_wp2
    go_ret
    exact ⟨rfl, A0.out⟩

set_option maxHeartbeats 1000000 in
set_option maxRecDepth 4000 in
theorem equalFuncP {S T : Nat → Prop} {w : World} {u v : Value} {ps qs : List (Int × List Int)} (hu : RdP S w u ps) (hv : RdP T w v qs) :
    Calls Try.prog 22 #[u, v, .func (.func 23) #[] #[]] w fun e w' => e = .returned (.bool (decide (ps = qs))) ∧ Below w.heap.size w w' := by
  obtain ⟨ao, c, rfl, hm⟩ := hu.shape
  obtain ⟨ao', c', rfl, hm'⟩ := hv.shape
  have HU := hide hu
  have HV := hide hv
  obtain ⟨B, hB⟩ : ∃ B, decide (ps = qs) = B := ⟨_, rfl⟩
  have HB := hide hB
  rw [hB]
  clear hu hv hB
  obtain ⟨n, hn⟩ : ∃ n, ps.length = n := ⟨_, rfl⟩
  obtain ⟨n', hn'⟩ : ∃ n', qs.length = n' := ⟨_, rfl⟩
  have HN := hide hn
  have HN' := hide hn'
  rw [hn] at HU hm ⊢
  rw [hn'] at HV hm' ⊢
  clear hn hn'
  by_cases hl : n = n'
  · subst hl
    go_enter Try.func22, Try.ntmps22
    go_wp2
    go_loopw [17] (fun i wr => ∃ k : Nat, k ≤ n ∧ i = .int .i64 k ∧ Hid (∀ j, j < k → ps.getD j (0, []) = qs.getD j (0, [])) ∧ Hid (Below w.heap.size w wr)) (fun i _ => n - (intOf i).toNat)
    case atStart => exact ⟨0, Nat.zero_le _, rfl, fun j hj => absurd hj (Nat.not_lt_zero _), Below.refl _ _⟩
    case round =>
      obtain ⟨k, hk, rfl, HA, HBw⟩ := hrel
      by_cases hlt : k < n
      · obtain ⟨b, off, V, rfl, p1, p2, p3⟩ := HU.out.at (k := k) (by rw [HN.out]; exact hlt)
        obtain ⟨b', off', V', rfl, q1, q2, q3⟩ := HV.out.at (k := k) (by rw [HN'.out]; exact hlt)
        obtain ⟨a1, c1, rfl⟩ := p3.shape
        obtain ⟨a2, c2, rfl⟩ := q3.shape
        have g1 := cell_later HBw.out p1
        have g2 := cell_later HBw.out p2
        have g3 := cell_later HBw.out q1
        have g4 := cell_later HBw.out q2
        have R1 := hide (p3.later HBw.out)
        have R2 := hide (q3.later HBw.out)
        have hbl := World.block_lt_of_cell? _ _ g3
        obtain ⟨x, hx⟩ : ∃ x, ps.getD k (0, []) = x := ⟨_, rfl⟩
        obtain ⟨y, hy⟩ : ∃ y, qs.getD k (0, []) = y := ⟨_, rfl⟩
        have HX := hide hx
        have HY := hide hy
        rw [hx] at g1 g2 R1
        rw [hy] at g3 g4 R2
        clear p1 p2 p3 q1 q2 q3 hx hy
        obtain ⟨x1, xs⟩ := x
        obtain ⟨y1, ys⟩ := y
        dsimp only at g1 g2 g3 g4 R1 R2
        obtain ⟨l1, hl1⟩ : ∃ l1, xs.length = l1 := ⟨_, rfl⟩
        obtain ⟨l2, hl2⟩ : ∃ l2, ys.length = l2 := ⟨_, rfl⟩
        rw [hl1] at g2 R1
        rw [hl2] at g4 R2
        clear hl1 hl2
        have bA := hide (below_on (below_alloc wr (.cells #[.int .i64 x1, .slice a1 l1 c1] 38)) (below_alloc _ (.cells #[.int .i64 y1, .slice a2 l2 c2] 38)))
        have HC := hide (sameViews1 x1 y1 (R1.out.later bA.out) (R2.out.later bA.out))
        by_cases hxy : x1 = y1 ∧ xs = ys
        · rw [decide_eq_true hxy] at HC
          have HA2 : Hid (∀ j, j < k + 1 → ps.getD j (0, []) = qs.getD j (0, [])) := by
            intro j hj
            by_cases e : j = k
            · subst e; rw [HX.out, HY.out, hxy.1, hxy.2]
            · exact HA.out j (by omega)
          clear hxy
          go_wp2_with fail
          refine HC.out.mono ?_
          rintro e w1 ⟨rfl, hb1⟩
          have HB1 := hide (below_on HBw.out (below_on bA.out hb1))
          clear hb1
          go_wp2
          go_roundw
          case rel => exact ⟨k + 1, by omega, by go_num, HA2.out, HB1.out⟩
          case measure => simp [intOf]; omega
        · rw [decide_eq_false hxy] at HC
          have hb : B = false := by
            rw [← HB.out]
            refine decide_eq_false (fun e => hxy ?_)
            have := HX.out.symm.trans ((by rw [e]) : ps.getD k (0, []) = qs.getD k (0, [])) |>.trans HY.out
            injection this with h1 h2
            exact ⟨h1, h2⟩
          subst hb
          clear hxy
          go_wp2_with fail
          refine HC.out.mono ?_
          rintro e w1 ⟨rfl, hb1⟩
          have HB1 := hide (below_on HBw.out (below_on bA.out hb1))
          clear hb1
          go_wp2
          go_ret
          exact ⟨rfl, HB1.out⟩
      · have hb : B = true := by
          rw [← HB.out]
          exact decide_eq_true (list_ext (by rw [HN.out, HN'.out]) (fun j hj => HA.out j (by rw [HN.out] at hj; omega)))
        subst hb
        go_wp2
        go_ret
        exact ⟨rfl, HBw.out⟩
  · have hb : B = false := by
      rw [← HB.out]
      exact decide_eq_false (fun e => hl (by rw [← HN.out, ← HN'.out, e]))
    subst hb
    have hl' : ¬ (n : Int) = (n' : Int) := by omega
    go_enter Try.func22, Try.ntmps22
    go_wp2
    go_ret
    exact ⟨rfl, Below.refl _ _⟩

set_option maxHeartbeats 1000000 in
theorem implSameViews {S T : Nat → Prop} {w : World} {u v : Value} {ps qs : List (Int × List Int)} (hu : RdP S w u ps) (hv : RdP T w v qs) :
    Calls Try.prog 9 #[u, v] w fun e w' => e = .returned (.bool (decide (ps = qs))) ∧ Below w.heap.size w w' := by
  have H := hide (equalFuncP hu hv)
  generalize decide (ps = qs) = B at H ⊢
  clear hu hv
  go_enter Try.func9, Try.ntmps9
  go_wp2_with fail
  refine H.out.mono ?_
  rintro e w1 ⟨rfl, hb1⟩
  have HB1 := hide hb1
  clear hb1
  go_wp2
  go_ret
  exact ⟨rfl, HB1.out⟩

set_option maxHeartbeats 2000000 in
set_option maxRecDepth 4000 in
theorem specSameViews {S T : Nat → Prop} {w : World} {u v : Value} {ps qs : List (Int × List Int)} (hu : RdP S w u ps) (hv : RdP T w v qs) :
    Calls Try.prog 7 #[u, v] w fun e w' => e = .returned (.bool (decide (ps = qs))) ∧ ∃ q, w' = w.drewN q := by
  obtain ⟨ao, c, rfl, hm⟩ := hu.shape
  obtain ⟨ao', c', rfl, hm'⟩ := hv.shape
  have HU := hide hu
  have HV := hide hv
  obtain ⟨B, hB⟩ : ∃ B, decide (ps = qs) = B := ⟨_, rfl⟩
  have HB := hide hB
  rw [hB]
  clear hu hv hB
  obtain ⟨n, hn⟩ : ∃ n, ps.length = n := ⟨_, rfl⟩
  obtain ⟨n', hn'⟩ : ∃ n', qs.length = n' := ⟨_, rfl⟩
  have HN := hide hn
  have HN' := hide hn'
  rw [hn] at HU hm ⊢
  rw [hn'] at HV hm' ⊢
  clear hn hn'
  by_cases hl : n = n'
  · subst hl
    go_enter Try.func7, Try.ntmps7
    go_wp2
    go_loopw [5] (fun i wr => ∃ k : Nat, k ≤ n ∧ i = .int .i64 k ∧ Hid (∀ j, j < k → ps.getD j (0, []) = qs.getD j (0, [])) ∧ Hid (∃ q, wr = w.drewN q)) (fun i _ => n - (intOf i).toNat)
    case atStart => exact ⟨0, Nat.zero_le _, rfl, fun j hj => absurd hj (Nat.not_lt_zero _), 0, rfl⟩
    case round =>
      obtain ⟨k, hk, rfl, HA, HQw⟩ := hrel
      by_cases hlt : k < n
      · obtain ⟨b, off, V, rfl, p1, p2, p3⟩ := HU.out.at (k := k) (by rw [HN.out]; exact hlt)
        obtain ⟨b', off', V', rfl, q1, q2, q3⟩ := HV.out.at (k := k) (by rw [HN'.out]; exact hlt)
        obtain ⟨a1, c1, rfl⟩ := p3.shape
        obtain ⟨a2, c2, rfl⟩ := q3.shape
        have HBw : Hid (Below w.heap.size w wr) := by obtain ⟨q, rfl⟩ := HQw; exact below_drewN _ _
        have g1 := cell_later HBw.out p1
        have g2 := cell_later HBw.out p2
        have g3 := cell_later HBw.out q1
        have g4 := cell_later HBw.out q2
        have R1 := hide (p3.later HBw.out)
        have R2 := hide (q3.later HBw.out)
        obtain ⟨x, hx⟩ : ∃ x, ps.getD k (0, []) = x := ⟨_, rfl⟩
        obtain ⟨y, hy⟩ : ∃ y, qs.getD k (0, []) = y := ⟨_, rfl⟩
        have HX := hide hx
        have HY := hide hy
        rw [hx] at g1 g2 R1
        rw [hy] at g3 g4 R2
        clear p1 p2 p3 q1 q2 q3 hx hy
        obtain ⟨x1, xs⟩ := x
        obtain ⟨y1, ys⟩ := y
        dsimp only at g1 g2 g3 g4 R1 R2
        obtain ⟨l1, hl1⟩ : ∃ l1, xs.length = l1 := ⟨_, rfl⟩
        obtain ⟨l2, hl2⟩ : ∃ l2, ys.length = l2 := ⟨_, rfl⟩
        rw [hl1] at g2 R1
        rw [hl2] at g4 R2
        clear hl1 hl2
        have HC := hide (fun n => l2SameR (RdI.drewN R1.out n) (RdI.drewN R2.out n))
        obtain ⟨D, hD⟩ : ∃ D, decide (xs = ys) = D := ⟨_, rfl⟩
        rw [hD] at HC
        have HD := hide hD
        clear hD
        by_cases hxy : x1 = y1
        · subst hxy
          by_cases hxs : xs = ys
          · have hd : D = true := by rw [← HD.out]; exact decide_eq_true hxs
            subst hd
            have HA2 : Hid (∀ j, j < k + 1 → ps.getD j (0, []) = qs.getD j (0, [])) := by
              intro j hj
              by_cases e : j = k
              · subst e; rw [HX.out, HY.out, hxs]
              · exact HA.out j (by omega)
            clear hxs
            go_wp2_with fail
            go_quiet ((go_at_call 20; exact Calls.quiet_of (HC.out _)))
            go_wp2
            go_roundw
            case rel => exact ⟨k + 1, by omega, by go_num, HA2.out, by obtain ⟨q, rfl⟩ := HQw; exact ⟨_, World.drewN_drewN ..⟩⟩
            case measure => simp [intOf]; omega
          · have hd : D = false := by rw [← HD.out]; exact decide_eq_false hxs
            subst hd
            have hb : B = false := by
              rw [← HB.out]
              refine decide_eq_false (fun e => hxs ?_)
              have := HX.out.symm.trans ((by rw [e]) : ps.getD k (0, []) = qs.getD k (0, [])) |>.trans HY.out
              injection this with h1 h2
            subst hb
            clear hxs
            go_wp2_with fail
            go_quiet ((go_at_call 20; exact Calls.quiet_of (HC.out _)))
            go_wp2
            go_ret
            exact ⟨rfl, by obtain ⟨q, rfl⟩ := HQw; exact ⟨_, World.drewN_drewN ..⟩⟩
        · have hb : B = false := by
            rw [← HB.out]
            refine decide_eq_false (fun e => hxy ?_)
            have := HX.out.symm.trans ((by rw [e]) : ps.getD k (0, []) = qs.getD k (0, [])) |>.trans HY.out
            injection this with h1 h2
          subst hb
          go_wp2_with fail
          go_quiet ((go_at_call 20; exact Calls.quiet_of (HC.out _)))
          go_wp2
          go_ret
          exact ⟨rfl, by obtain ⟨q, rfl⟩ := HQw; exact ⟨_, World.drewN_drewN ..⟩⟩
      · have hb : B = true := by
          rw [← HB.out]
          exact decide_eq_true (list_ext (by rw [HN.out, HN'.out]) (fun j hj => HA.out j (by rw [HN.out] at hj; omega)))
        subst hb
        go_wp2
        go_ret
        exact ⟨rfl, HQw⟩
  · have hb : B = false := by
      rw [← HB.out]
      exact decide_eq_false (fun e => hl (by rw [← HN.out, ← HN'.out, e]))
    subst hb
    have hl' : ¬ (n : Int) = (n' : Int) := by omega
    go_enter Try.func7, Try.ntmps7
    go_wp2
    go_ret
    exact ⟨rfl, 0, rfl⟩
end Go.Proofs.Ytbjllbchedhghaa
