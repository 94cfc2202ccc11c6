/- Chapter 9: 'CommonOf' of the program, walked. -/
import Derived.Test.YtkippafmeggjeaaEn4
namespace Go.Proofs.Ytkippafmeggjeaa
open Go.RowKit

set_option maxHeartbeats 2000000 in
set_option maxRecDepth 4000 in
theorem implCommonOf {S T : Nat → Prop} {w : World} {u v : Value} {ps qs : List Oj} (hu : RdJ S w u ps) (hv : RdJ T w v qs) :
    Calls Try.prog 18 #[u, v] w fun e w' => e = .returned (.int .i64 (cmnE ps qs : Nat)) ∧ Below w.heap.size w w' := by
  obtain ⟨ao, c, rfl, hm⟩ := hu.shape
  obtain ⟨ao', c', rfl, hm'⟩ := hv.shape
  have HU := hide hu
  have HV := hide hv
  clear hu hv
  obtain ⟨n, hn⟩ : ∃ n, ps.length = n := ⟨_, rfl⟩
  obtain ⟨n', hn'⟩ : ∃ n', qs.length = n' := ⟨_, rfl⟩
  have HN := hide hn
  have HN' := hide hn'
  rw [hn] at HU hm ⊢
  rw [hn'] at HV hm' ⊢
  clear hn hn'
  obtain ⟨R, hR⟩ : ∃ R, cmnE ps qs = R := ⟨_, rfl⟩
  have HR := hide hR
  rw [hR]
  clear hR
  by_cases hmn : n' < n
  · have hmn' : (n' : Int) < (n : Int) := by omega
    go_enter Try.func18, Try.ntmps18
    go_wp2
    go_loopw [13] (fun i wr => ∃ k : Nat, k ≤ n' ∧ i = .int .i64 k ∧ Hid (∀ j, j < k → ps.getD j oj0 = qs.getD j oj0) ∧ Hid (Below w.heap.size w wr)) (fun i _ => n' - (intOf i).toNat)
    case atStart => exact ⟨0, Nat.zero_le _, rfl, fun j hj => absurd hj (Nat.not_lt_zero _), Below.refl _ _⟩
    case round =>
      obtain ⟨k, hk, rfl, HA, HBw⟩ := hrel
      have HTo := hide (cmn_to k ps qs (by rw [HN.out]; omega) (by rw [HN'.out]; omega) HA.out)
      by_cases hlt : k < n'
      · obtain ⟨b, off, rfl, V, p0, p1, p2, p3⟩ := HU.out.file (k := k) (by rw [HN.out]; omega)
        obtain ⟨b', off', rfl, V', q0, q1, q2, q3⟩ := HV.out.file (k := k) (by rw [HN'.out]; omega)
        obtain ⟨a1, c1, rfl⟩ := p3.shape
        obtain ⟨a2, c2, rfl⟩ := q3.shape
        have g0 := cell_later HBw.out p0
        have g1 := cell_later HBw.out p1
        have g2 := cell_later HBw.out p2
        have r0 := cell_later HBw.out q0
        have r1 := cell_later HBw.out q1
        have r2 := cell_later HBw.out q2
        have R1 := hide (p3.later HBw.out)
        have R2 := hide (q3.later HBw.out)
        have hk0 : (0 : Int) ≤ (k : Int) := by omega
        have hk1 : (k : Int) < (n : Int) := by omega
        have hk2 : (k : Int) < (n' : Int) := by omega
        have HEnd := hide (fun h => cmn_endC (ps := ps) (qs := qs) (k := k) (by rw [HN.out]; omega) (by rw [HN'.out]; omega) h)
        obtain ⟨x, hx⟩ : ∃ x, ps.getD k oj0 = x := ⟨_, rfl⟩
        obtain ⟨y, hy⟩ : ∃ y, qs.getD k oj0 = y := ⟨_, rfl⟩
        have HX := hide hx
        have HY := hide hy
        rw [hx] at g0 g1 g2 R1 HEnd
        rw [hy] at r0 r1 r2 R2 HEnd
        clear p0 p1 p2 p3 q0 q1 q2 q3 hx hy
        obtain ⟨x1, x2, xs⟩ := x
        obtain ⟨y1, y2, ys⟩ := y
        dsimp only at g0 g1 g2 r0 r1 r2 R1 R2
        obtain ⟨l1, hl1⟩ : ∃ l1, xs.length = l1 := ⟨_, rfl⟩
        obtain ⟨l2, hl2⟩ : ∃ l2, ys.length = l2 := ⟨_, rfl⟩
        rw [hl1] at g2 R1
        rw [hl2] at r2 R2
        clear hl1 hl2
        have HC := hide (sameEntryI x1 x2 y1 y2 (R1.out.drewN 1) (R2.out.drewN 1))
        by_cases hxy : ((x1, x2, xs) : Oj) = (y1, y2, ys)
        · rw [decide_eq_true hxy] at HC
          have HA2 : Hid (∀ j, j < k + 1 → ps.getD j oj0 = qs.getD j oj0) := by
            intro j hj
            by_cases e : j = k
            · subst e; rw [HX.out, HY.out, hxy]
            · exact HA.out j (by omega)
          clear hxy
          go_wp2_with fail
          go_region_held3 (fun w' => w'.cell? ⟨b, off + k * 3, none⟩ = some (.int .i64 x1) ∧ w'.cell? ⟨b, off + k * 3 + 1, none⟩ = some (.int .i64 x2) ∧ w'.cell? ⟨b, off + k * 3 + 2, none⟩ = some (.slice a1 l1 c1) ∧ w'.cell? ⟨b', off' + k * 3, none⟩ = some (.int .i64 y1) ∧ w'.cell? ⟨b', off' + k * 3 + 1, none⟩ = some (.int .i64 y2) ∧ w'.cell? ⟨b', off' + k * 3 + 2, none⟩ = some (.slice a2 l2 c2)) (first | exact ⟨g0, g1, g2, r0, r1, r2⟩ | exact ⟨c0, c1, c2, c3, c4, c5⟩)
            (first
              | (go_at_call 36; refine HC.out.mono ?_; rintro e w2 ⟨rfl, hb⟩; have c0 := cell_later hb g0; have c1 := cell_later hb g1; have c2 := cell_later hb g2; have c3 := cell_later hb r0; have c4 := cell_later hb r1; have c5 := cell_later hb r2; have HB2 := hide (below_on HBw.out (below_on (below_drewN wr 1) hb)); clear hb))
          go_wp2
          go_roundw
          case rel => exact ⟨k + 1, by omega, by go_num, HA2.out, HB2.out⟩
          case measure => simp [intOf]; omega
        · rw [decide_eq_false hxy] at HC
          have HE : Hid (k = R) := by rw [Hid, ← HR.out, HTo.out, HEnd.out hxy]; rfl
          clear hxy
          go_wp2_with fail
          go_region_held3 (fun w' => w'.cell? ⟨b, off + k * 3, none⟩ = some (.int .i64 x1) ∧ w'.cell? ⟨b, off + k * 3 + 1, none⟩ = some (.int .i64 x2) ∧ w'.cell? ⟨b, off + k * 3 + 2, none⟩ = some (.slice a1 l1 c1) ∧ w'.cell? ⟨b', off' + k * 3, none⟩ = some (.int .i64 y1) ∧ w'.cell? ⟨b', off' + k * 3 + 1, none⟩ = some (.int .i64 y2) ∧ w'.cell? ⟨b', off' + k * 3 + 2, none⟩ = some (.slice a2 l2 c2)) (first | exact ⟨g0, g1, g2, r0, r1, r2⟩ | exact ⟨c0, c1, c2, c3, c4, c5⟩)
            (first
              | (go_at_call 36; refine HC.out.mono ?_; rintro e w2 ⟨rfl, hb⟩; have c0 := cell_later hb g0; have c1 := cell_later hb g1; have c2 := cell_later hb g2; have c3 := cell_later hb r0; have c4 := cell_later hb r1; have c5 := cell_later hb r2; have HB2 := hide (below_on HBw.out (below_on (below_drewN wr 1) hb)); clear hb))
          go_wp2
          go_ret
          exact ⟨ret_intF (congrArg (fun (x : Nat) => (x : Int)) HE.out), HB2.out⟩
      · have HE : Hid (n' = R) := by
          have hkN : k = n' := by omega
          rw [Hid, ← HR.out, HTo.out, hkN]
          rw [cmn_endB (by rw [HN'.out]; omega)]; rfl
        go_wp2
        go_ret
        exact ⟨ret_intF (congrArg (fun (x : Nat) => (x : Int)) HE.out), HBw.out⟩
  · have hmn' : ¬ (n' : Int) < (n : Int) := by omega
    have hmn2 : n ≤ n' := by omega
    go_enter Try.func18, Try.ntmps18
    go_wp2
    go_loopw [13] (fun i wr => ∃ k : Nat, k ≤ n ∧ i = .int .i64 k ∧ Hid (∀ j, j < k → ps.getD j oj0 = qs.getD j oj0) ∧ Hid (Below w.heap.size w wr)) (fun i _ => n - (intOf i).toNat)
    case atStart => exact ⟨0, Nat.zero_le _, rfl, fun j hj => absurd hj (Nat.not_lt_zero _), Below.refl _ _⟩
    case round =>
      obtain ⟨k, hk, rfl, HA, HBw⟩ := hrel
      have HTo := hide (cmn_to k ps qs (by rw [HN.out]; omega) (by rw [HN'.out]; omega) HA.out)
      by_cases hlt : k < n
      · obtain ⟨b, off, rfl, V, p0, p1, p2, p3⟩ := HU.out.file (k := k) (by rw [HN.out]; omega)
        obtain ⟨b', off', rfl, V', q0, q1, q2, q3⟩ := HV.out.file (k := k) (by rw [HN'.out]; omega)
        obtain ⟨a1, c1, rfl⟩ := p3.shape
        obtain ⟨a2, c2, rfl⟩ := q3.shape
        have g0 := cell_later HBw.out p0
        have g1 := cell_later HBw.out p1
        have g2 := cell_later HBw.out p2
        have r0 := cell_later HBw.out q0
        have r1 := cell_later HBw.out q1
        have r2 := cell_later HBw.out q2
        have R1 := hide (p3.later HBw.out)
        have R2 := hide (q3.later HBw.out)
        have hk0 : (0 : Int) ≤ (k : Int) := by omega
        have hk1 : (k : Int) < (n : Int) := by omega
        have hk2 : (k : Int) < (n' : Int) := by omega
        have HEnd := hide (fun h => cmn_endC (ps := ps) (qs := qs) (k := k) (by rw [HN.out]; omega) (by rw [HN'.out]; omega) h)
        obtain ⟨x, hx⟩ : ∃ x, ps.getD k oj0 = x := ⟨_, rfl⟩
        obtain ⟨y, hy⟩ : ∃ y, qs.getD k oj0 = y := ⟨_, rfl⟩
        have HX := hide hx
        have HY := hide hy
        rw [hx] at g0 g1 g2 R1 HEnd
        rw [hy] at r0 r1 r2 R2 HEnd
        clear p0 p1 p2 p3 q0 q1 q2 q3 hx hy
        obtain ⟨x1, x2, xs⟩ := x
        obtain ⟨y1, y2, ys⟩ := y
        dsimp only at g0 g1 g2 r0 r1 r2 R1 R2
        obtain ⟨l1, hl1⟩ : ∃ l1, xs.length = l1 := ⟨_, rfl⟩
        obtain ⟨l2, hl2⟩ : ∃ l2, ys.length = l2 := ⟨_, rfl⟩
        rw [hl1] at g2 R1
        rw [hl2] at r2 R2
        clear hl1 hl2
        have HC := hide (sameEntryI x1 x2 y1 y2 (R1.out.drewN 1) (R2.out.drewN 1))
        by_cases hxy : ((x1, x2, xs) : Oj) = (y1, y2, ys)
        · rw [decide_eq_true hxy] at HC
          have HA2 : Hid (∀ j, j < k + 1 → ps.getD j oj0 = qs.getD j oj0) := by
            intro j hj
            by_cases e : j = k
            · subst e; rw [HX.out, HY.out, hxy]
            · exact HA.out j (by omega)
          clear hxy
          go_wp2_with fail
          go_region_held3 (fun w' => w'.cell? ⟨b, off + k * 3, none⟩ = some (.int .i64 x1) ∧ w'.cell? ⟨b, off + k * 3 + 1, none⟩ = some (.int .i64 x2) ∧ w'.cell? ⟨b, off + k * 3 + 2, none⟩ = some (.slice a1 l1 c1) ∧ w'.cell? ⟨b', off' + k * 3, none⟩ = some (.int .i64 y1) ∧ w'.cell? ⟨b', off' + k * 3 + 1, none⟩ = some (.int .i64 y2) ∧ w'.cell? ⟨b', off' + k * 3 + 2, none⟩ = some (.slice a2 l2 c2)) (first | exact ⟨g0, g1, g2, r0, r1, r2⟩ | exact ⟨c0, c1, c2, c3, c4, c5⟩)
            (first
              | (go_at_call 36; refine HC.out.mono ?_; rintro e w2 ⟨rfl, hb⟩; have c0 := cell_later hb g0; have c1 := cell_later hb g1; have c2 := cell_later hb g2; have c3 := cell_later hb r0; have c4 := cell_later hb r1; have c5 := cell_later hb r2; have HB2 := hide (below_on HBw.out (below_on (below_drewN wr 1) hb)); clear hb))
          go_wp2
          go_roundw
          case rel => exact ⟨k + 1, by omega, by go_num, HA2.out, HB2.out⟩
          case measure => simp [intOf]; omega
        · rw [decide_eq_false hxy] at HC
          have HE : Hid (k = R) := by rw [Hid, ← HR.out, HTo.out, HEnd.out hxy]; rfl
          clear hxy
          go_wp2_with fail
          go_region_held3 (fun w' => w'.cell? ⟨b, off + k * 3, none⟩ = some (.int .i64 x1) ∧ w'.cell? ⟨b, off + k * 3 + 1, none⟩ = some (.int .i64 x2) ∧ w'.cell? ⟨b, off + k * 3 + 2, none⟩ = some (.slice a1 l1 c1) ∧ w'.cell? ⟨b', off' + k * 3, none⟩ = some (.int .i64 y1) ∧ w'.cell? ⟨b', off' + k * 3 + 1, none⟩ = some (.int .i64 y2) ∧ w'.cell? ⟨b', off' + k * 3 + 2, none⟩ = some (.slice a2 l2 c2)) (first | exact ⟨g0, g1, g2, r0, r1, r2⟩ | exact ⟨c0, c1, c2, c3, c4, c5⟩)
            (first
              | (go_at_call 36; refine HC.out.mono ?_; rintro e w2 ⟨rfl, hb⟩; have c0 := cell_later hb g0; have c1 := cell_later hb g1; have c2 := cell_later hb g2; have c3 := cell_later hb r0; have c4 := cell_later hb r1; have c5 := cell_later hb r2; have HB2 := hide (below_on HBw.out (below_on (below_drewN wr 1) hb)); clear hb))
          go_wp2
          go_ret
          exact ⟨ret_intF (congrArg (fun (x : Nat) => (x : Int)) HE.out), HB2.out⟩
      · have HE : Hid (n = R) := by
          have hkN : k = n := by omega
          rw [Hid, ← HR.out, HTo.out, hkN]
          rw [cmn_endA (by rw [HN.out]; omega)]; rfl
        go_wp2
        go_ret
        exact ⟨ret_intF (congrArg (fun (x : Nat) => (x : Int)) HE.out), HBw.out⟩
end Go.Proofs.Ytkippafmeggjeaa
