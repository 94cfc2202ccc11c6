/- Spec2c Spec2d in one text: what each says stands at its head below. -/
import Derived.Test.YtlmaopljihbdkaaGreatG20
import Derived.Deep.CutRange
namespace Go.Proofs.YtlmaopljihbdkaaGreat
open Go.RowKit
theorem list_ne_of_at {xs ys : List Int} {i : Nat} (h : xs.getD i 0 ≠ ys.getD i 0) : xs ≠ ys := fun e => h (by rw [e])
theorem list_eq_of_at {xs ys : List Int} (hl : xs.length = ys.length) (h : ∀ i, i < xs.length → xs.getD i 0 = ys.getD i 0) : xs = ys := by
  refine List.ext_getElem hl fun i h1 h2 => ?_
  have := h i h1
  simpa [List.getD, h1, h2] using this
set_option maxHeartbeats 1000000 in
set_option maxRecDepth 4000 in
theorem l2Same {S T : Nat → Prop} {w : World} {u v : Value} {xs ys : List Int} (hu : RdI S w u xs) (hv : RdI T w v ys) :
    Calls Tryz.prog 95 #[u, v] w fun e w' => e = .returned (.bool (decide (xs = ys))) ∧ ∃ q, w' = w.drewN q := by
  have HU := hide hu
  have HV := hide hv
  have hul : xs.length ≤ 9223372036854775807 := by obtain ⟨_, _, _, h, _⟩ := hu; exact h
  have hvl : ys.length ≤ 9223372036854775807 := by obtain ⟨_, _, _, h, _⟩ := hv; exact h
  obtain ⟨ao, c, rfl⟩ := hu.shape
  obtain ⟨ao', c', rfl⟩ := hv.shape
  obtain ⟨n, hn⟩ : ∃ n, xs.length = n := ⟨_, rfl⟩
  obtain ⟨m, hm⟩ : ∃ m, ys.length = m := ⟨_, rfl⟩
  have HN := hide hn
  have HM := hide hm
  rw [hn] at HU hul ⊢
  rw [hm] at HV hvl ⊢
  clear hu hv hn hm
  obtain ⟨bb, hbb⟩ : ∃ bb, decide (xs = ys) = bb := ⟨_, rfl⟩
  have HBb := hide hbb
  rw [hbb]
  clear hbb
  by_cases hnm : n = m
  · subst hnm
    go_enter Tryz.func95, Tryz.ntmps95
    go_wp2
    go_loopw [5] (fun i wr => ∃ k : Nat, k ≤ n ∧ i = .int .i64 k ∧ Hid (∀ j, j < k → xs.getD j 0 = ys.getD j 0) ∧ Hid (∃ q, wr = w.drewN q)) (fun i _ => n - (intOf i).toNat)
    case atStart => exact ⟨0, Nat.zero_le _, rfl, fun j hj => absurd hj (Nat.not_lt_zero _), 0, rfl⟩
    case round =>
      obtain ⟨k, hk, rfl, HA, HQ⟩ := hrel
      by_cases hlt : k < n
      · obtain ⟨b1, o1, rfl, p1⟩ := HU.out.at (k := k) (by rw [HN.out]; exact hlt)
        obtain ⟨b2, o2, rfl, p2⟩ := HV.out.at (k := k) (by rw [HM.out]; exact hlt)
        have g1 := (drewN_cell HQ.out _).trans p1
        have g2 := (drewN_cell HQ.out _).trans p2
        obtain ⟨x, hx⟩ : ∃ x, xs.getD k 0 = x := ⟨_, rfl⟩
        obtain ⟨y, hy⟩ : ∃ y, ys.getD k 0 = y := ⟨_, rfl⟩
        have HX := hide hx
        have HY := hide hy
        rw [hx] at g1
        rw [hy] at g2
        have hk0 : (0 : Int) ≤ (k : Int) := Int.natCast_nonneg _
        have hk1 : (k : Int) < (n : Int) := by omega
        clear hx hy p1 p2
        by_cases hxy : x = y
        · subst hxy
          go_wp2_with fail
          go_quiet (fail)
          go_wp2
          go_roundw
          case rel => exact ⟨k + 1, by omega, by go_num, fun j hj => (by by_cases e : j = k; · subst e; rw [HX.out, HY.out]
                                                                         · exact HA.out j (by omega)), drewN_on HQ.out ⟨_, rfl⟩⟩
          case measure => simp [intOf]; omega
        · have hb0 : bb = false := by rw [← HBb.out]; exact decide_eq_false (list_ne_of_at (i := k) (by rw [HX.out, HY.out]; exact hxy))
          subst hb0
          go_wp2_with fail
          go_quiet (fail)
          go_wp2
          go_ret
          exact ⟨rfl, drewN_on HQ.out ⟨_, rfl⟩⟩
      · have hb1 : bb = true := by rw [← HBb.out]; exact decide_eq_true (list_eq_of_at (by rw [HN.out, HM.out]) (fun i hi => HA.out i (by rw [HN.out] at hi; omega)))
        subst hb1
        go_wp2
        go_ret
        exact ⟨rfl, HQ.out⟩
  · have hb0 : bb = false := by rw [← HBb.out]; exact decide_eq_false (fun e => hnm (by rw [← HN.out, ← HM.out, e]))
    subst hb0
    go_enter Tryz.func95, Tryz.ntmps95
    go_wp2
    go_ret
    exact ⟨rfl, 0, rfl⟩
theorem RdI.sub {S : Nat → Prop} {w : World} {b off n cap : Nat} {xs : List Int} (h : RdI S w (.slice (some ⟨b, off, none⟩) n cap) xs) (i k cap' : Nat) (hik : i + k ≤ xs.length) (hc : k ≤ cap') : RdI S w (.slice (some ⟨b, off + i, none⟩) k cap') ((xs.drop i).take k) := by
  obtain ⟨ao, c, e1, e2, e3⟩ := h
  have hl : ((xs.drop i).take k).length = k := by simp; omega
  refine ⟨some ⟨b, off + i, none⟩, cap' - k, by rw [hl, Nat.add_sub_cancel' hc], by rw [hl]; omega, fun hne => ?_⟩
  obtain ⟨b', off', f1, f2, f3⟩ := e3 (by rintro rfl; simp at hne)
  injection e1 with e1 _ _
  rw [f1] at e1
  injection e1 with e1
  injection e1 with e1 e4
  subst e1
  subst e4
  refine ⟨b, off + i, rfl, f2, fun j hj => ?_⟩
  rw [hl] at hj
  rw [Nat.add_assoc, f3 (i + j) (by omega)]
  simp [List.getD, List.getElem?_drop, hj]
theorem set3_far {w : World} {b h o : Nat} {x y z : Value} (hb : b ≠ h) : (((w.setCell ⟨h, 0, none⟩ x).setCell ⟨h, 1, none⟩ y).setCell ⟨h, 2, none⟩ z).cell? ⟨b, o, none⟩ = w.cell? ⟨b, o, none⟩ := by
  rw [World.cell?_setCell_other _ _ _ _ (by intro e; injection e with e1 _; exact hb e1.symm), World.cell?_setCell_other _ _ _ _ (by intro e; injection e with e1 _; exact hb e1.symm), World.cell?_setCell_other _ _ _ _ (by intro e; injection e with e1 _; exact hb e1.symm)]
def addrsOf (ws : List Int) : List Int := (ws.drop 3).take (ws.getD 2 0).toNat
def okU (ws : List Int) : Prop := ws.length = 64 ∧ ws.getD 2 0 ≤ 24 ∧ headF (ws.getD 0 0) (ws.getD 1 0) (addrsOf ws) = 0 ∧ packL (ws.getD 0 0) (ws.getD 1 0) (addrsOf ws) = ws
set_option linter.unusedSimpArgs false in
set_option maxHeartbeats 4000000 in
set_option maxRecDepth 4000 in
theorem l2Unpack {S : Nat → Prop} {w : World} {y : Value} {ws : List Int} (hy : RdI S w y ws) (hw : wordsF ws = 0) :
    Calls Tryz.prog 236 #[y] w fun e w' => ∃ s t z ad ok, e = .returned (.tuple #[.agg #[.int .i64 s, .int .i64 t, z], .bool ok]) ∧ Below w.heap.size w w' ∧ OwI w.heap.size w' z ad ∧ ad.length ≤ 24 ∧
      (ok = true ↔ okU ws) ∧ (ok = true → s = ws.getD 0 0 ∧ t = ws.getD 1 0 ∧ ad = addrsOf ws) := by
  obtain ⟨hwl, hwr⟩ := wordsF_zero hw
  have HY := hide hy
  obtain ⟨ay, cy, rfl, hyl, hyc⟩ := hy
  obtain ⟨n, hn⟩ : ∃ n, ws.length = n := ⟨_, rfl⟩
  have HN := hide hn
  rw [hn] at HY hwl ⊢
  clear hyl hw hn
  by_cases h64 : n = 64
  · subst h64
    obtain ⟨b, off, rfl, _, hc⟩ := hyc (by rintro rfl; simp [Hid] at HN)
    have g0 := hc 0 (by rw [HN.out]; omega)
    have g1 := hc 1 (by rw [HN.out]; omega)
    have g2 := hc 2 (by rw [HN.out]; omega)
    rw [Nat.add_zero] at g0
    obtain ⟨s, hs⟩ : ∃ s, ws.getD 0 0 = s := ⟨_, rfl⟩
    obtain ⟨t, ht⟩ : ∃ t, ws.getD 1 0 = t := ⟨_, rfl⟩
    obtain ⟨k, hk⟩ : ∃ k : Nat, ws.getD 2 0 = (k : Int) := ⟨_, (Int.toNat_of_nonneg (hwr 2 (by rw [HN.out]; omega)).1).symm⟩
    have HS := hide hs
    have HT := hide ht
    have HK := hide hk
    rw [hs] at g0
    rw [ht] at g1
    rw [hk] at g2
    clear hs ht hk hc hyc hwr
    obtain ⟨C, hC⟩ : ∃ C, 64 + cy = C := ⟨_, rfl⟩
    rw [hC] at HY ⊢
    have A0 := below_alloc w (.cells #[.int .i64 0, .int .i64 0, .slice none 0 0] 178)
    have k0 := cell_later A0 g0
    have k1 := cell_later A0 g1
    have k2 := cell_later A0 g2
    by_cases h24 : 24 < k
    · have h24' : (24 : Int) < (k : Int) := by omega
      go_enter Tryz.func236, Tryz.ntmps236
      go_wp2
      have HNo : Hid (¬ okU ws) := fun h => by have := h.2.1; rw [HK.out] at this; omega
      refine bodyPost_ret (v := .tuple #[.agg #[.int .i64 0, .int .i64 0, .slice none 0 0], .bool false]) (by simp [results, Tryz.results236, go_sem]) rfl ⟨0, 0, .slice none 0 0, [], false, rfl, ?_, OwI_nil _ _, by simp, ⟨fun h => absurd h (by decide), fun h => absurd h HNo.out⟩, fun h => absurd h (by decide)⟩
      repeat (first | refine Below.setCell ?_ (by first | (simp; done) | (simp; omega) | omega) _ | exact below_alloc _ _)
    · have RS := hide (HY.out.sub 3 k (C - 3) (by rw [HN.out]; omega) (by omega))
      have hk24 : (k : Int) ≤ 24 := by omega
      have hkn0 : (0 : Int) ≤ (k : Int) := by omega
      have hs1 : (3 : Int) ≤ 3 + (k : Int) := by omega
      have hs2 : (3 : Int) + (k : Int) ≤ (C : Int) := by omega
      have hs3 : (3 : Int) ≤ (C : Int) := by omega
      have hs4 : ¬ (3 : Int) + (k : Int) < 3 := by omega
      have hs6 : ¬ (C = 3) := by omega
      have hwr3 : IntKind.i64.wrap (3 + (k : Int)) = 3 + (k : Int) := by simp [IntKind.wrap, IntKind.bits, IntKind.signed]; omega
      have hs7 : ((3 : Int) + (k : Int)).toNat - 3 = k := by omega
      clear hC
      have A1 := below_alloc (w.alloc (.cells #[.int .i64 0, .int .i64 0, .slice none 0 0] 178)) (.cells #[.int .i64 0, .int .i64 0, .slice none 0 0] 178)
      have j0 := cell_later A1 k0
      have j1 := cell_later A1 k1
      have j2 := cell_later A1 k2
      have hbl : b < w.heap.size := World.block_lt_of_cell? _ _ g0
      have hbv : b ≠ w.heap.size + 1 := by omega
      have HAd : Hid (addrsOf ws = (ws.drop 3).take k) := by unfold Hid addrsOf; rw [HK.out]; rfl
      have HAl : Hid (((ws.drop 3).take k).length = k) := by unfold Hid; simp [HN.out]; omega
      go_enter Tryz.func236, Tryz.ntmps236
      go_upto_region 3 with fail
      go_cut [4] from 15 to 28 (fun s4 wx => ∃ (hv : Nat) (ao4 : Option Addr) (c4 : Nat), s4 = .pointer (some ⟨hv, 0, none⟩) ∧ w.heap.size + 1 ≤ hv ∧ Hid (HdAt wx hv 0 s t (.slice ao4 k c4) ∧ OwI (w.heap.size + 1) wx (.slice ao4 k c4) ((ws.drop 3).take k) ∧ Below (w.heap.size + 1) (w.alloc (.cells #[.int .i64 0, .int .i64 0, .slice none 0 0] 178)) wx))
      case first =>
        go_region_held3 (fun w' => w'.cell? ⟨b, off, none⟩ = some (.int .i64 s) ∧ w'.cell? ⟨b, off + 1, none⟩ = some (.int .i64 t) ∧ w'.cell? ⟨b, off + 2, none⟩ = some (.int .i64 (k : Int))) (first | exact ⟨k0, k1, k2⟩ | exact ⟨e0, e1, e2⟩ | exact ⟨j0, j1, j2⟩ | exact ⟨cell_later (below_alloc _ _) e0, cell_later (below_alloc _ _) e1, cell_later (below_alloc _ _) e2⟩ | exact ⟨(set3_far hbv).trans e0, (set3_far hbv).trans e1, (set3_far hbv).trans e2⟩)
          (first | (go_at_call 119; refine (l1Ints ((RS.out.later A0).drewN 1) (by rw [HAl.out]; omega)).mono ?_; rintro e w4 ⟨z4, rfl, hb4, ho4⟩; obtain ⟨ao4, c4, hz4⟩ := ho4.shape; rw [HAl.out] at hz4; subst hz4; have e0 := cell_later hb4 k0; have e1 := cell_later hb4 k1; have e2 := cell_later hb4 k2; have HB4 := hide (below_on (below_drewN _ 1) hb4); have HO4 := hide ho4; clear hb4 ho4) | (go_at_call 119; refine (l1Ints (((RS.out.later A0).later A1).drewN 1) (by rw [HAl.out]; omega)).mono ?_; rintro e w4 ⟨z4, rfl, hb4, ho4⟩; obtain ⟨ao4, c4, hz4⟩ := ho4.shape; rw [HAl.out] at hz4; subst hz4; have e0 := cell_later hb4 j0; have e1 := cell_later hb4 j1; have e2 := cell_later hb4 j2; have HB4 := hide (below_on A1 (below_on (below_drewN _ 1) hb4)); have HO4 := hide ho4; have x0 : w4.cell? ⟨w.heap.size + 1, 0, none⟩ = some (.int .i64 0) := cell_later hb4 (by simp [go_sem]); have x1 : w4.cell? ⟨w.heap.size + 1, 1, none⟩ = some (.int .i64 0) := cell_later hb4 (by simp [go_sem]); have x2 : w4.cell? ⟨w.heap.size + 1, 2, none⟩ = some (.slice none 0 0) := cell_later hb4 (by simp [go_sem]); have y0 : ∀ o, w4.frozen? ⟨w.heap.size + 1, o, none⟩ = false := fun o => ((bcell hb4).2 _ _ (by simp)).trans (by simp [go_sem]); have y1 := y0 0; have y2 := y0 1; have y3 := y0 2; clear hb4 ho4))
        · go_wp2_with fail
          go_meet
          case rel =>
            refine ⟨w4.heap.size, ao4, c4, rfl, by have := HB4.out.size; simpa using this, HdAt_new _ _ _ _ _, (HO4.out.later (below_alloc _ _)).mono (by simp), ?_⟩
            have := below_on HB4.out (below_alloc w4 (.cells #[.int .i64 s, .int .i64 t, .slice ao4 k c4] 178))
            simpa using this
        · go_wp2_with fail
          go_meet
          case rel =>
            refine ⟨w.heap.size + 1, ao4, c4, rfl, Nat.le_refl _, ⟨?_, ?_, ?_⟩, ?_, ?_⟩
            · simp [go_sem, x0]
            · simp [go_sem, x1]
            · simp [go_sem, x2]
            · refine OwI.mono (OwI.wr HO4.out (T := fun b => b < w.heap.size + 2) ?_ (fun b hb _ => by simp at hb; omega)) (by simp)
              repeat (first | refine Wr.setCell ?_ (by first | (simp; done) | (simp; omega) | omega) _ | exact Wr.refl _ _)
            · have := HB4.out
              simp only [World.size_alloc] at this
              repeat (first | refine Below.setCell ?_ (by first | (simp; done) | (simp; omega) | omega) _ | exact this)
      case rest =>
        obtain ⟨hv, ao4, c4, rfl, hhv, HW⟩ := hcut
        obtain ⟨hHd, hOw, hBe⟩ := HW.out
        have q0 := hHd.seq
        have q1 := hHd.start
        have q2 := hHd.addrs
        rw [Nat.zero_add] at q1 q2
        have HHd := hide hHd
        have HOw := hide hOw
        have HBe := hide hBe
        have hzc := hBe.size
        simp only [World.size_alloc] at hzc
        have r0 : wc.cell? ⟨w.heap.size, 0, none⟩ = some (.int .i64 0) := (hBe.cell (p := ⟨w.heap.size, 0, none⟩) (by simp)).trans (by simp [go_sem])
        have r1 : wc.cell? ⟨w.heap.size, 1, none⟩ = some (.int .i64 0) := (hBe.cell (p := ⟨w.heap.size, 1, none⟩) (by simp)).trans (by simp [go_sem])
        have r2 : wc.cell? ⟨w.heap.size, 2, none⟩ = some (.slice none 0 0) := (hBe.cell (p := ⟨w.heap.size, 2, none⟩) (by simp)).trans (by simp [go_sem])
        have rf : ∀ o, wc.frozen? ⟨w.heap.size, o, none⟩ = false := fun o => (hBe.frozen (p := ⟨w.heap.size, o, none⟩) (by simp)).trans (by simp [go_sem])
        have rf0 := rf 0
        have rf1 := rf 1
        have rf2 := rf 2
        have hhn : hv ≠ w.heap.size := by omega
        have BW : Hid (Below w.heap.size w wc) := A0.trans (hBe.mono (by omega))
        have hFl := hide (fun (q : Nat) => l2Fault (w := wc.drewN q) (b := hv) (o := 0) ⟨q0, q1, q2⟩ (HOw.out.rd.drewN q))
        have HRw := hide (HY.out.later BW.out)
        clear hHd hOw hBe k0 k1 k2 j0 j1 j2 g0 g1 g2 A0 A1 hs1 hs2 hs3 hs4 hs6 hs7 hwr3
        by_cases hF : headF s t ((ws.drop 3).take k) = 0
        · rw [hF] at hFl
          have hPk := hide (fun (q : Nat) => l2Pack (w := wc.drewN q) (b := hv) (o := 0) ⟨q0, q1, q2⟩ (HOw.out.rd.drewN q) (by rw [HAl.out]; omega))
          obtain ⟨ok, hok⟩ : ∃ ok, decide (packL s t ((ws.drop 3).take k) = ws) = ok := ⟨_, rfl⟩
          have HOk := hide hok
          have HF := hide hF
          have HPl := hide (packL_len (s := s) (t := t) (xs := (ws.drop 3).take k) (by rw [HAl.out]; omega))
          clear hok hF
          go_wp2_with fail
          go_region_held3 (fun w' => w'.cell? ⟨hv, 0, none⟩ = some (.int .i64 s) ∧ w'.cell? ⟨hv, 1, none⟩ = some (.int .i64 t) ∧ w'.cell? ⟨hv, 2, none⟩ = some (.slice ao4 k c4)) (first | exact ⟨q0, q1, q2⟩ | exact ⟨e0, e1, e2⟩ | exact ⟨(set3_far hhn).trans e0, (set3_far hhn).trans e1, (set3_far hhn).trans e2⟩)
            (first | (go_at_call 235; refine (hFl.out 1).mono ?_; rintro e wy ⟨rfl, rfl⟩) | (go_at_call 238; refine (hPk.out 1).mono ?_; rintro e w5 ⟨z5, rfl, hb5, ho5⟩; obtain ⟨ao5, c5, hz5⟩ := ho5.shape; rw [HPl.out] at hz5; subst hz5; have e0 := cell_later hb5 q0; have e1 := cell_later hb5 q1; have e2 := cell_later hb5 q2; have t0 := cell_later hb5 r0; have t1 := cell_later hb5 r1; have t2 := cell_later hb5 r2; have u0' := ((bcell hb5).2 _ _ (show w.heap.size < wc.heap.size by omega)).trans (rf 0); have u1' := ((bcell hb5).2 _ _ (show w.heap.size < wc.heap.size by omega)).trans (rf 1); have u2' := ((bcell hb5).2 _ _ (show w.heap.size < wc.heap.size by omega)).trans (rf 2); have HB5 := hide (below_on (below_drewN _ 1) hb5); have HO5 := hide ho5; have HSm := hide (l2Same ho5.rd (HRw.out.later (below_on (below_drewN _ 1) hb5))); rw [HOk.out] at HSm; clear hb5 ho5) | (go_at_call 95; refine HSm.out.mono ?_; rintro e wz ⟨rfl, qz, rfl⟩))
          have HB6 : Hid (Below w.heap.size w (w5.drewN qz)) := (BW.out.trans (HB5.out.mono (by omega))).trans ((below_drewN w5 qz).mono (by have := HB5.out.size; omega))
          have HO6 : Hid (OwI (w.heap.size + 1) (w5.drewN qz) (.slice ao4 k c4) ((ws.drop 3).take k)) := (HOw.out.later HB5.out).later (below_drewN _ _)
          have HIff : Hid (ok = true ↔ okU ws) := by
            unfold Hid okU
            rw [HAd.out, HS.out, HT.out, HK.out, ← HOk.out, decide_eq_true_iff]
            exact ⟨fun h => ⟨HN.out, by omega, HF.out, h⟩, fun h => h.2.2.2⟩
          go_wp2
          refine bodyPost_ret (v := .tuple #[.agg #[.int .i64 s, .int .i64 t, .slice ao4 k c4], .bool ok]) (by simp [results, Tryz.results236, go_sem, t0, t1, t2]) rfl ⟨s, t, .slice ao4 k c4, (ws.drop 3).take k, ok, rfl, ?_, ?_, by rw [HAl.out]; omega, HIff.out, fun _ => ⟨HS.out.symm, HT.out.symm, HAd.out.symm⟩⟩
          · repeat (first | refine Below.setCell ?_ (by first | (simp; done) | (simp; omega) | omega) _ | exact HB6.out)
          · refine OwI.mono (OwI.wr HO6.out (T := fun b => b < w.heap.size + 1) ?_ (fun b hb _ => by omega)) (by omega)
            repeat (first | refine Wr.setCell ?_ (by first | (simp; done) | (simp; omega) | omega) _ | exact Wr.refl _ _)
        · obtain ⟨z, hz⟩ : ∃ z, headF s t ((ws.drop 3).take k) = z := ⟨_, rfl⟩
          rw [hz] at hFl hF
          have HZ := hide hz
          clear hz
          have hFb : (z == 0) = false := by simp [hF]
          go_wp2_with fail
          refine wp_region_held_drew (S := fun w' => w'.cell? ⟨hv, 0, none⟩ = some (.int .i64 s) ∧ w'.cell? ⟨hv, 1, none⟩ = some (.int .i64 t) ∧ w'.cell? ⟨hv, 2, none⟩ = some (.slice ao4 k c4)) (by kernel_rfl) ⟨q0, q1, q2⟩ (fun hHeld => ?_)
          refine wpAnyH_take (i := 0) (v := ?v0) rfl (by kernel_rfl) (by kernel_rfl) (by kernel_rfl) (fun _ _ _ h => h) (Or.inl ⟨by rfl, ?h0⟩) hHeld ?r0
          case h0 => intro w9 hSw; (try dsimp only at hSw); first | (go_simp; done) | (go_simp; with_reducible rfl)
          try simp only [Act.put, List.setIfInBounds_toArray, List.set_cons_zero, List.set_cons_succ]
          refine wpAnyH_ready (rs := [1]) (by kernel_rfl) (by simp) (AllReadyH.cons rfl (fun K hK => ?_) AllReadyH.nil)
          go_simp
          go_at_call 235
          refine (hFl.out 1).mono ?_
          rintro e wy ⟨he, hwy⟩
          rw [he, hwy]
          clear he hwy
          refine hK.out _ _ hHeld (fun _ => ?_)
          clear hK K
          try simp only [Act.put, List.setIfInBounds_toArray, List.set_cons_zero, List.set_cons_succ]
          refine wpAnyH_take (i := 2) (v := ?v2) rfl (by kernel_rfl) (by kernel_rfl) (by kernel_rfl) (fun _ _ _ h => h) (Or.inl ⟨by rfl, ?h2⟩) hHeld ?r2
          case h2 => intro w9 hSw; (try dsimp only at hSw); first | (go_simp; done) | (go_simp; with_reducible rfl)
          try simp only [Act.put, List.setIfInBounds_toArray, List.set_cons_zero, List.set_cons_succ]
          refine wpAnyH_take (i := 3) (v := ?v3) rfl (by kernel_rfl) (by kernel_rfl) (by kernel_rfl) (fun _ _ _ h => h) (Or.inl ⟨by rfl, ?h3⟩) hHeld ?r3
          case h3 => intro w9 hSw; (try dsimp only at hSw); first | (go_simp; done) | (go_simp; with_reducible rfl)
          try simp only [Act.put, List.setIfInBounds_toArray, List.set_cons_zero, List.set_cons_succ]
          refine wpAnyH_take (i := 5) (v := undef) rfl (by kernel_rfl) (by kernel_rfl) (by kernel_rfl) (fun _ _ _ h => h) (Or.inr ⟨by rfl, rfl⟩) hHeld ?_
          try simp only [Act.put, List.setIfInBounds_toArray, List.set_cons_zero, List.set_cons_succ]
          refine wpAnyH_take (i := 4) (v := undef) rfl (by kernel_rfl) (by kernel_rfl) (by kernel_rfl) (fun _ _ _ h => h) (Or.inr ⟨by rfl, rfl⟩) hHeld ?_
          try simp only [Act.put, List.setIfInBounds_toArray, List.set_cons_zero, List.set_cons_succ]
          refine wpAnyH_take (i := 6) (v := undef) rfl (by kernel_rfl) (by kernel_rfl) (by kernel_rfl) (fun _ _ _ h => h) (Or.inr ⟨by rfl, rfl⟩) hHeld ?_
          try simp only [Act.put, List.setIfInBounds_toArray, List.set_cons_zero, List.set_cons_succ]
          refine wpAnyH_take (i := 7) (v := ?v7) rfl (by kernel_rfl) (by kernel_rfl) (by kernel_rfl) (fun _ _ _ h => h) (Or.inl ⟨by rfl, ?h7⟩) hHeld ?r7
          case h7 => intro w9 hSw; (try dsimp only at hSw); first | (go_simp; done) | (go_simp; with_reducible rfl)
          try simp only [Act.put, List.setIfInBounds_toArray, List.set_cons_zero, List.set_cons_succ]
          refine wpAnyH_ready (rs := [8]) (by kernel_rfl) (by simp) (AllReadyH.cons rfl (fun K hK => ?_) AllReadyH.nil)
          go_simp
          refine hK.out _ _ ⟨(set3_far hhn).trans q0, (set3_far hhn).trans q1, (set3_far hhn).trans q2⟩ (fun hHeld2 => ?_)
          clear hK K
          try simp only [Act.put, List.setIfInBounds_toArray, List.set_cons_zero, List.set_cons_succ]
          refine wpAnyH_take (i := 9) (v := ?v9) rfl (by kernel_rfl) (by kernel_rfl) (by kernel_rfl) (fun _ _ _ h => h) (Or.inl ⟨by rfl, ?h9⟩) hHeld2 ?r9
          case h9 => intro w9 hSw; (try dsimp only at hSw); first | (go_simp; done) | (go_simp; with_reducible rfl)
          try simp only [Act.put, List.setIfInBounds_toArray, List.set_cons_zero, List.set_cons_succ]
          refine wpAnyH_done (by kernel_rfl) ?_ _
          simp only [List.getElem_toArray, List.getElem_cons_zero, List.getElem_cons_succ, List.setIfInBounds_toArray, List.set_cons_zero, List.set_cons_succ]
          all_goals
            have HIff : Hid (false = true ↔ okU ws) := by
              unfold Hid okU
              rw [HAd.out, HS.out, HT.out, HZ.out]
              exact ⟨fun h => absurd h (by decide), fun h => absurd h.2.2.1 hF⟩
            have HB6 : Hid (Below w.heap.size w wc.drew) := BW.out.trans ((below_drewN wc 1).mono (by omega))
            have HO6 : Hid (OwI (w.heap.size + 1) wc.drew (.slice ao4 k c4) ((ws.drop 3).take k)) := HOw.out.later (below_drewN wc 1)
            go_wp2
            refine bodyPost_ret (v := .tuple #[.agg #[.int .i64 s, .int .i64 t, .slice ao4 k c4], .bool false]) (by simp [results, Tryz.results236, Act.put, List.setIfInBounds_toArray, List.set_cons_zero, List.set_cons_succ, go_sem, r0, r1, r2]) rfl ⟨s, t, .slice ao4 k c4, (ws.drop 3).take k, false, rfl, ?_, ?_, by rw [HAl.out]; omega, HIff.out, fun h => absurd h (by decide)⟩
            · repeat (first | refine Below.setCell ?_ (by first | (simp; done) | (simp; omega) | omega) _ | exact HB6.out)
            · refine OwI.mono (OwI.wr HO6.out (T := fun b => b < w.heap.size + 1) ?_ (fun b hb _ => by omega)) (by omega)
              repeat (first | refine Wr.setCell ?_ (by first | (simp; done) | (simp; omega) | omega) _ | exact Wr.refl _ _)
  · have HNo : Hid (¬ okU ws) := fun h => h64 (by rw [← HN.out]; exact h.1)
    have hn64 : ¬ ((n : Int) = 64) := by omega
    go_enter Tryz.func236, Tryz.ntmps236
    go_wp2
    refine bodyPost_ret (v := .tuple #[.agg #[.int .i64 0, .int .i64 0, .slice none 0 0], .bool false]) (by simp [results, Tryz.results236, go_sem]) rfl ⟨0, 0, .slice none 0 0, [], false, rfl, ?_, OwI_nil _ _, by simp, ⟨fun h => absurd h (by decide), fun h => absurd h HNo.out⟩, fun h => absurd h (by decide)⟩
    repeat (first | refine Below.setCell ?_ (by first | (simp; done) | (simp; omega) | omega) _ | exact below_alloc _ _)
end Go.Proofs.YtlmaopljihbdkaaGreat
namespace Go.Proofs.YtlmaopljihbdkaaGreat
open Go.RowKit
def EndsH (x s t : Int) (xs : List Int) (w : World) (e : Ending) (w' : World) : Prop :=
  ∃ z, e = .returned (.agg #[.int .i64 x, .int .i64 s, .int .i64 t, z]) ∧ Below w.heap.size w w' ∧ OwI w.heap.size w' z xs
def okUb (ws : List Int) : Bool := decide (ws.length = 64) && (decide (ws.getD 2 0 ≤ 24) && (decide (headF (ws.getD 0 0) (ws.getD 1 0) (addrsOf ws) = 0) && decide (packL (ws.getD 0 0) (ws.getD 1 0) (addrsOf ws) = ws)))
theorem okUb_iff (ws : List Int) : okUb ws = true ↔ okU ws := by
  unfold okUb okU
  simp only [Bool.and_eq_true, decide_eq_true_iff]
def unpF (ws : List Int) : Int := if wordsF ws = 0 then (if okUb ws = true then 0 else 5) else wordsF ws
def unpS (ws : List Int) : Int := if unpF ws = 0 then ws.getD 0 0 else 0
def unpT (ws : List Int) : Int := if unpF ws = 0 then ws.getD 1 0 else 0
def unpA (ws : List Int) : List Int := if unpF ws = 0 then addrsOf ws else []
theorem ret_head {w w3 : World} {B r : Nat} {z x s t : Value} {xs : List Int} (hb : Below w.heap.size w w3) (hr : w.heap.size ≤ r) (ho : OwI B w3 z xs) (hB : r < B) (hB2 : w.heap.size ≤ B) :
    Below w.heap.size w ((((w3.setCell ⟨r, 0, none⟩ x).setCell ⟨r, 1, none⟩ s).setCell ⟨r, 2, none⟩ t).setCell ⟨r, 3, none⟩ z) ∧ OwI w.heap.size ((((w3.setCell ⟨r, 0, none⟩ x).setCell ⟨r, 1, none⟩ s).setCell ⟨r, 2, none⟩ t).setCell ⟨r, 3, none⟩ z) z xs := by
  have hw : Wr (fun y => y = r) w3 ((((w3.setCell ⟨r, 0, none⟩ x).setCell ⟨r, 1, none⟩ s).setCell ⟨r, 2, none⟩ t).setCell ⟨r, 3, none⟩ z) := ((((Wr.refl (fun y => y = r) _).setCell (p := ⟨r, 0, none⟩) rfl _).setCell (p := ⟨r, 1, none⟩) rfl _).setCell (p := ⟨r, 2, none⟩) rfl _).setCell (p := ⟨r, 3, none⟩) rfl _
  exact ⟨(((hb.setCell (p := ⟨r, 0, none⟩) hr _).setCell (p := ⟨r, 1, none⟩) hr _).setCell (p := ⟨r, 2, none⟩) hr _).setCell (p := ⟨r, 3, none⟩) hr _, (ho.wr hw (fun b h1 _ e => by omega)).mono hB2⟩
set_option maxHeartbeats 2000000 in
set_option maxRecDepth 4000 in
theorem specUnpack {S : Nat → Prop} {w : World} {y : Value} {ws : List Int} (hy : RdI S w y ws) :
    Calls Tryz.prog 227 #[y] w (EndsH (unpF ws) (unpS ws) (unpT ws) (unpA ws) w) := by
  unfold EndsH unpS unpT unpA
  have HY := hide hy
  obtain ⟨ay, cy, rfl⟩ := hy.shape
  obtain ⟨n, hn⟩ : ∃ n, ws.length = n := ⟨_, rfl⟩
  rw [hn] at HY ⊢
  clear hy hn
  have A0 := hide (below_alloc w (.cells #[.int .i64 0, .int .i64 0, .int .i64 0, .slice none 0 0] 180))
  obtain ⟨z, hz⟩ : ∃ z, wordsF ws = z := ⟨_, rfl⟩
  have HZ := hide hz
  by_cases h0 : z = 0
  · subst h0
    obtain ⟨ok, hok⟩ : ∃ ok, okUb ws = ok := ⟨_, rfl⟩
    have HOk := hide hok
    obtain ⟨c, hc⟩ : ∃ c, unpF ws = c := ⟨_, rfl⟩
    have HC := hide hc
    have HC2 : Hid (c = if ok = true then 0 else 5) := by unfold Hid; rw [← hc]; unfold unpF; rw [if_pos hz, hok]
    obtain ⟨s0, hs0⟩ : ∃ s0, (if unpF ws = 0 then ws.getD 0 0 else 0) = s0 := ⟨_, rfl⟩
    obtain ⟨t0, ht0⟩ : ∃ t0, (if unpF ws = 0 then ws.getD 1 0 else 0) = t0 := ⟨_, rfl⟩
    obtain ⟨a0, ha0⟩ : ∃ a0, (if unpF ws = 0 then addrsOf ws else []) = a0 := ⟨_, rfl⟩
    rw [hs0, ht0, ha0, hc]
    have HS0 := hide hs0
    have HT0 := hide ht0
    have HA0 := hide ha0
    clear hs0 ht0 ha0 hc hok hz
    go_enter Tryz.func227, Tryz.ntmps227
    go_wp2_with fail
    refine (l1Words (HY.out.later A0.out)).mono ?_
    rintro e w1 ⟨he, q, rfl⟩
    rw [HZ.out] at he
    subst he
    go_wp2_with fail
    refine (l2Unpack (HY.out.later (below_on A0.out (below_drewN _ q))) HZ.out).mono ?_
    rintro e w2 ⟨s, t, z2, ad, ok2, rfl, hb2, ho2, hl2, hiff, hval⟩
    obtain ⟨az, cz, rfl⟩ := ho2.shape
    obtain ⟨l, hl⟩ : ∃ l, ad.length = l := ⟨_, rfl⟩
    rw [hl] at ho2 ⊢
    have v0 : w2.cell? ⟨w.heap.size, 0, none⟩ = some (.int .i64 0) := cell_later hb2 (by simp [go_sem])
    have v1 : w2.cell? ⟨w.heap.size, 1, none⟩ = some (.int .i64 0) := cell_later hb2 (by simp [go_sem])
    have v2 : w2.cell? ⟨w.heap.size, 2, none⟩ = some (.int .i64 0) := cell_later hb2 (by simp [go_sem])
    have v3 : w2.cell? ⟨w.heap.size, 3, none⟩ = some (.slice none 0 0) := cell_later hb2 (by simp [go_sem])
    have f : ∀ o, w2.frozen? ⟨w.heap.size, o, none⟩ = false := fun o => ((bcell hb2).2 _ _ (by simp)).trans (by simp [go_sem])
    have hsz : w.heap.size < w2.heap.size := by have := hb2.size; simp at this; omega
    have y0 := f 0
    have y1 := f 1
    have y2 := f 2
    have y3 := f 3
    have HB := hide (below_on A0.out (below_on (below_drewN _ q) hb2))
    have HO : Hid (OwI (w.heap.size + 1) w2 (.slice az l cz) ad) := ho2.mono (by simp)
    have HIff := hide hiff
    have HVal := hide hval
    clear hb2 ho2 f hiff hval hl
    have hokk : ok2 = ok := by
      have h1 := HIff.out
      have h2 := okUb_iff ws
      rw [HOk.out] at h2
      cases ok2 <;> cases ok <;> simp_all
    subst hokk
    cases ok2 with
    | true =>
      have hc0 : c = 0 := by rw [HC2.out]; rfl
      subst hc0
      obtain ⟨e1, e2, e3⟩ := HVal.out rfl
      have hs : s0 = s := by rw [← HS0.out, if_pos HC.out, e1]
      have ht : t0 = t := by rw [← HT0.out, if_pos HC.out, e2]
      have ha : a0 = ad := by rw [← HA0.out, if_pos HC.out, e3]
      subst hs ht ha
      clear e1 e2 e3
      go_wp2
      have hfin := ret_head (x := .int .i64 0) (s := .int .i64 s0) (t := .int .i64 t0) HB.out (r := w.heap.size) (Nat.le_refl _) HO.out (by omega) (by omega)
      have BA := below_alloc ((((w2.setCell ⟨w.heap.size, 0, none⟩ (.int .i64 0)).setCell ⟨w.heap.size, 1, none⟩ (.int .i64 s0)).setCell ⟨w.heap.size, 2, none⟩ (.int .i64 t0)).setCell ⟨w.heap.size, 3, none⟩ (.slice az l cz)) (.cells #[.int .i64 s0, .int .i64 t0, .slice az l cz] 178)
      have m0 := cell_later BA (a := ⟨w.heap.size, 0, none⟩) (v := .int .i64 0) (by simp [go_sem, v0])
      have m1 := cell_later BA (a := ⟨w.heap.size, 1, none⟩) (v := .int .i64 s0) (by simp [go_sem, v1])
      have m2 := cell_later BA (a := ⟨w.heap.size, 2, none⟩) (v := .int .i64 t0) (by simp [go_sem, v2])
      have m3 := cell_later BA (a := ⟨w.heap.size, 3, none⟩) (v := .slice az l cz) (by simp [go_sem, v3])
      exact bodyPost_ret (v := .agg #[.int .i64 0, .int .i64 s0, .int .i64 t0, .slice az l cz]) (by simp [results, Tryz.results227, go_sem, m0, m1, m2, m3]) rfl ⟨_, rfl, hfin.1.trans (BA.mono (by simp; omega)), hfin.2.later BA⟩
    | false =>
      have hc5 : c = 5 := by rw [HC2.out]; rfl
      subst hc5
      have hs : s0 = 0 := by rw [← HS0.out, if_neg (by rw [HC.out]; decide)]
      have ht : t0 = 0 := by rw [← HT0.out, if_neg (by rw [HC.out]; decide)]
      have ha : a0 = [] := by rw [← HA0.out, if_neg (by rw [HC.out]; decide)]
      subst hs ht ha
      go_wp2
      have BA := below_alloc ((((w2.setCell ⟨w.heap.size, 0, none⟩ (.int .i64 5)).setCell ⟨w.heap.size, 1, none⟩ (.int .i64 0)).setCell ⟨w.heap.size, 2, none⟩ (.int .i64 0)).setCell ⟨w.heap.size, 3, none⟩ (.slice none 0 0)) (.cells #[.int .i64 s, .int .i64 t, .slice az l cz] 178)
      have m0 := cell_later BA (a := ⟨w.heap.size, 0, none⟩) (v := .int .i64 5) (by simp [go_sem, v0])
      have m1 := cell_later BA (a := ⟨w.heap.size, 1, none⟩) (v := .int .i64 0) (by simp [go_sem, v1])
      have m2 := cell_later BA (a := ⟨w.heap.size, 2, none⟩) (v := .int .i64 0) (by simp [go_sem, v2])
      have m3 := cell_later BA (a := ⟨w.heap.size, 3, none⟩) (v := .slice none 0 0) (by simp [go_sem, v3])
      have hfin := ret_head (x := .int .i64 5) (s := .int .i64 0) (t := .int .i64 0) HB.out (r := w.heap.size) (Nat.le_refl _) (OwI_nil (w.heap.size + 1) w2) (by omega) (by omega)
      exact bodyPost_ret (v := .agg #[.int .i64 5, .int .i64 0, .int .i64 0, .slice none 0 0]) (by simp [results, Tryz.results227, go_sem, m0, m1, m2, m3]) rfl ⟨_, rfl, hfin.1.trans (BA.mono (by simp; omega)), OwI_nil _ _⟩
  · have hc : unpF ws = z := by unfold unpF; rw [if_neg (by rw [hz]; exact h0), hz]
    rw [hc, if_neg h0, if_neg h0, if_neg h0]
    clear hz hc
    go_enter Tryz.func227, Tryz.ntmps227
    go_wp2_with fail
    refine (l1Words (HY.out.later A0.out)).mono ?_
    rintro e w1 ⟨he, q, rfl⟩
    rw [HZ.out] at he
    subst he
    have HB := hide (below_on A0.out (below_drewN _ q))
    go_wp2
    refine bodyPost_ret (v := .agg #[.int .i64 z, .int .i64 0, .int .i64 0, .slice none 0 0]) (by simp [results, Tryz.results227, go_sem]) rfl ⟨_, rfl, ?_, OwI_nil _ _⟩
    repeat (first | refine Below.setCell ?_ (by first | (simp; done) | (simp; omega) | omega) _ | exact HB.out)
end Go.Proofs.YtlmaopljihbdkaaGreat
