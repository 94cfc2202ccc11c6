/- Bo3 in one text: what each says stands at its head below. -/
import Derived.Test.YtlliggfggadidaaGreatDoorG28
import Derived.Test.YtlliggfggadidaaGreatDoorG25
namespace Go.Proofs.YtlliggfggadidaaGreatDoor
open Go.RowKit
structure D2I (w : World) (s : Nat) (v : Value) (bs : List Nat) (N t : Nat) (wr : World) : Prop where
  bel : Below w.heap.size w wr
  src : Src s v bs wr t
  ts : t ≤ N
  ra : Var6 wr w.heap.size (.int .i64 0) (.int .i64 0) (.int .i64 0) (.int .i64 0) (.slice none 0 0) (.slice none 0 0)
  rb : Var6 wr (w.heap.size + 1) (.int .i64 0) (.int .i64 0) (.int .i64 0) (.int .i64 0) (.slice none 0 0) (.slice none 0 0)
  fa : ∀ o, wr.frozen? ⟨w.heap.size, o, none⟩ = false
  fb : ∀ o, wr.frozen? ⟨w.heap.size + 1, o, none⟩ = false
  old : w.heap.size + 1 < s
section
variable {w : World} {s : Nat} {v : Value} {bs : List Nat} {N M t t6 : Nat} {wr w1 : World}
theorem D2I.on (h : D2I w s v bs N t wr) (hd : Drawn M s v bs t t6 wr w1) : D2I w s v bs (N + M) t6 w1 := by
  have ho := h.old
  have ha := h.ra.lt
  have hb := h.rb.lt
  have ht := h.ts
  have ht2 := hd.2.2
  exact ⟨Below.trans h.bel (hd.2.1.below (by omega) (fun b e => by omega)), hd.1, by omega, h.ra.wr hd.2.1 (by show ¬ w.heap.size = s; omega), h.rb.wr hd.2.1 (by show ¬ w.heap.size + 1 = s; omega), fun o => (hd.2.1.frz _ _ ha).trans (h.fa o), fun o => (hd.2.1.frz _ _ hb).trans (h.fb o), ho⟩
theorem D2I.later (h : D2I w s v bs N t wr) (hb : Below wr.heap.size wr w1) : D2I w s v bs N t w1 := by
  have ha := h.ra.lt
  have hb2 := h.rb.lt
  exact ⟨Below.trans h.bel (hb.mono (by omega)), h.src.later hb, h.ts, h.ra.later hb, h.rb.later hb, fun o => ((bcell hb).2 _ _ ha).trans (h.fa o), fun o => ((bcell hb).2 _ _ hb2).trans (h.fb o), h.old⟩
theorem D2I.set {x : Nat} (h : D2I w s v bs N t wr) (hw : Wr (· = x) wr w1) (hx : s < x) (hv : RdB w.heap.size w v bs) : D2I w s v bs N t w1 := by
  have ho := h.old
  have ha := h.ra.lt
  have hb := h.rb.lt
  have hB := Below.trans h.bel (hw.below (by omega) (fun b e => by omega))
  have hs := h.src.lt
  exact ⟨hB, ⟨cell_wr hw h.src.code (by show ¬ s = x; omega), cell_wr hw h.src.at_ (by show ¬ s = x; omega), fun o => (hw.frz _ _ hs).trans (h.src.free o), hv.at hB (by omega)⟩, h.ts, h.ra.wr hw (by show ¬ w.heap.size = x; omega), h.rb.wr hw (by show ¬ w.heap.size + 1 = x; omega), fun o => (hw.frz _ _ ha).trans (h.fa o), fun o => (hw.frz _ _ hb).trans (h.fb o), ho⟩
end
set_option linter.unusedSimpArgs false in
set_option maxHeartbeats 8000000 in
set_option maxRecDepth 4000 in
theorem drawDoOp {v : Value} {bs : List Nat} {w : World} (hv : RdB w.heap.size w v bs) :
    Calls Tryz.prog 6 #[v] w fun e w' => ∃ (X Q : Rf) (y z y2 z2 : Value), e = .returned (.tuple #[.agg #[.int .i64 X.tm, .int .i64 X.vt, .int .i64 X.si, .int .i64 X.st, y, z], .agg #[.int .i64 Q.tm, .int .i64 Q.vt, .int .i64 Q.si, .int .i64 Q.st, y2, z2]]) ∧ Below w.heap.size w w' ∧ IvR w.heap.size w'.heap.size w' y z X.sn X.lg ∧ IvR w.heap.size w'.heap.size w' y2 z2 Q.sn Q.lg := by
  have HV0 := hide hv
  have bA := below_alloc w (.cells #[.int .i64 0, .int .i64 0, .int .i64 0, .int .i64 0, .slice none 0 0, .slice none 0 0] 27)
  have bB := below_alloc (w.alloc (.cells #[.int .i64 0, .int .i64 0, .int .i64 0, .int .i64 0, .slice none 0 0, .slice none 0 0] 27)) (.cells #[.int .i64 0, .int .i64 0, .int .i64 0, .int .i64 0, .slice none 0 0, .slice none 0 0] 29)
  have HVa := hide ((hv.laterH bA).laterH bB)
  have RA := hide ((Var6_new w (.int .i64 0) (.int .i64 0) (.int .i64 0) (.int .i64 0) (.slice none 0 0) (.slice none 0 0) 27).later bB)
  have RB := hide (Var6_new (w.alloc (.cells #[.int .i64 0, .int .i64 0, .int .i64 0, .int .i64 0, .slice none 0 0, .slice none 0 0] 27)) (.int .i64 0) (.int .i64 0) (.int .i64 0) (.int .i64 0) (.slice none 0 0) (.slice none 0 0) 29)
  have FA : Hid (∀ o, ((w.alloc (.cells #[.int .i64 0, .int .i64 0, .int .i64 0, .int .i64 0, .slice none 0 0, .slice none 0 0] 27)).alloc (.cells #[.int .i64 0, .int .i64 0, .int .i64 0, .int .i64 0, .slice none 0 0, .slice none 0 0] 29)).frozen? ⟨w.heap.size, o, none⟩ = false) := fun o => by simp [go_sem]
  have FB : Hid (∀ o, ((w.alloc (.cells #[.int .i64 0, .int .i64 0, .int .i64 0, .int .i64 0, .slice none 0 0, .slice none 0 0] 27)).alloc (.cells #[.int .i64 0, .int .i64 0, .int .i64 0, .int .i64 0, .slice none 0 0, .slice none 0 0] 29)).frozen? ⟨(w.alloc (.cells #[.int .i64 0, .int .i64 0, .int .i64 0, .int .i64 0, .slice none 0 0, .slice none 0 0] 27)).heap.size, o, none⟩ = false) := fun o => by simp [go_sem]
  have hs1 : (w.alloc (.cells #[.int .i64 0, .int .i64 0, .int .i64 0, .int .i64 0, .slice none 0 0, .slice none 0 0] 27)).heap.size = w.heap.size + 1 := by simp
  have hs0 : ((w.alloc (.cells #[.int .i64 0, .int .i64 0, .int .i64 0, .int .i64 0, .slice none 0 0, .slice none 0 0] 27)).alloc (.cells #[.int .i64 0, .int .i64 0, .int .i64 0, .int .i64 0, .slice none 0 0, .slice none 0 0] 29)).heap.size = w.heap.size + 2 := by simp
  have HB0 := hide (below_on bA bB)
  rw [hs1] at RB FB
  obtain ⟨W0, hW0⟩ : ∃ x, ((w.alloc (.cells #[.int .i64 0, .int .i64 0, .int .i64 0, .int .i64 0, .slice none 0 0, .slice none 0 0] 27)).alloc (.cells #[.int .i64 0, .int .i64 0, .int .i64 0, .int .i64 0, .slice none 0 0, .slice none 0 0] 29)) = x := ⟨_, rfl⟩
  rw [hW0] at HVa RA RB FA FB hs0 HB0
  obtain ⟨ao, c, rfl, h2, h3⟩ := hv
  clear h2 h3 bA bB
  go_enter Tryz.func6, Tryz.ntmps6
  go_upto_region 1 with fail
  (try rw [hW0])
  clear hW0 hs1
  go_wp2_with fail
  refine (l1Source HVa.out).mono ?_
  rintro e w1 ⟨rfl, hb1, hz1, hS1⟩
  rw [hs0] at hz1 hS1 ⊢
  have D1 : Hid (D2I w (w.heap.size + 2) (.slice ao bs.length c) bs 0 0 w1) := ⟨below_on HB0.out hb1, hS1, Nat.le_refl _, RA.out.later hb1, RB.out.later hb1, fun o => ((bcell hb1).2 _ _ (by omega)).trans (FA.out o), fun o => ((bcell hb1).2 _ _ (by omega)).trans (FB.out o), by omega⟩
  clear hb1 hS1 HVa RA RB FA FB HB0
  go_wp2_with fail
  refine (l10Right D1.out.src (by omega)).mono ?_
  rintro e w2 ⟨R, y, z, rfl, hR, hiv, t2, hd2⟩
  obtain ⟨ay, cy, az, cz, ey, ez⟩ := hiv.shape
  subst ey
  subst ez
  have HR := hide hR
  have hz2 := hd2.2.1.size
  have hb := below_alloc w2 (.cells #[.int .i64 R.tm, .int .i64 R.vt, .int .i64 R.si, .int .i64 R.st, .slice ay R.sn.length cy, .slice az R.lg.length cz] 27)
  have D2 := hide ((D1.out.on hd2).later hb)
  have V2 := hide (Var6_new w2 (.int .i64 R.tm) (.int .i64 R.vt) (.int .i64 R.si) (.int .i64 R.st) (.slice ay R.sn.length cy) (.slice az R.lg.length cz) 27)
  have FV : Hid (∀ o, (w2.alloc (.cells #[.int .i64 R.tm, .int .i64 R.vt, .int .i64 R.si, .int .i64 R.st, .slice ay R.sn.length cy, .slice az R.lg.length cz] 27)).frozen? ⟨w2.heap.size, o, none⟩ = false) := fun o => by simp [go_sem]
  have I2 := hide (hiv.later hb)
  clear hd2 hiv hb D1
  go_upto_region 3 with fail
  obtain ⟨W2, hW2⟩ : ∃ x, w2.alloc (.cells #[.int .i64 R.tm, .int .i64 R.vt, .int .i64 R.si, .int .i64 R.st, .slice ay R.sn.length cy, .slice az R.lg.length cz] 27) = x := ⟨_, rfl⟩
  rw [hW2] at D2 V2 FV I2
  (try rw [hW2])
  clear hW2
  obtain ⟨RR, hRR⟩ : ∃ x, w2.heap.size = x := ⟨_, rfl⟩
  rw [hRR] at V2 FV I2 hz2
  (try rw [hRR])
  clear hRR
  have hRl := V2.out.lt
  go_wp2_with fail
  refine (l12Bent D2.out.src (by have := D2.out.ts; omega) R HR.out V2.out (by omega) (I2.out.rdJ.monoR (fun b hb => by have := hb.1; omega))).mono ?_
  rintro e w3 ⟨Q, y3, z3, rfl, hQ, hiv3, t3, hd3⟩
  obtain ⟨a3, c3, b3, d3, ey, ez⟩ := hiv3.shape
  subst ey
  subst ez
  have hb := below_alloc w3 (.cells #[.int .i64 Q.tm, .int .i64 Q.vt, .int .i64 Q.si, .int .i64 Q.st, .slice a3 Q.sn.length c3, .slice b3 Q.lg.length d3] 29)
  have hz3 := hd3.2.1.size
  have D3 := hide ((D2.out.on hd3).later hb)
  have V3 := hide ((V2.out.wr hd3.2.1 (by show ¬ RR = w.heap.size + 2; omega)).later hb)
  have F3 : Hid (∀ o, (w3.alloc (.cells #[.int .i64 Q.tm, .int .i64 Q.vt, .int .i64 Q.si, .int .i64 Q.st, .slice a3 Q.sn.length c3, .slice b3 Q.lg.length d3] 29)).frozen? ⟨RR, o, none⟩ = false) := fun o => ((bcell hb).2 _ _ (by omega)).trans ((hd3.2.1.frz _ _ hRl).trans (FV.out o))
  have I3 := hide ((I2.out.wr hd3.2.1 (fun b k1 k2 e => by have e : b = w.heap.size + 2 := e; omega)).later hb)
  have O3 := hide (Var6_new w3 (.int .i64 Q.tm) (.int .i64 Q.vt) (.int .i64 Q.si) (.int .i64 Q.st) (.slice a3 Q.sn.length c3) (.slice b3 Q.lg.length d3) 29)
  have J3 := hide (hiv3.later hb)
  clear hd3 hiv3 hb D2 V2 FV I2
  go_upto_region 4 with fail
  obtain ⟨W3, hW3⟩ : ∃ x, w3.alloc (.cells #[.int .i64 Q.tm, .int .i64 Q.vt, .int .i64 Q.si, .int .i64 Q.st, .slice a3 Q.sn.length c3, .slice b3 Q.lg.length d3] 29) = x := ⟨_, rfl⟩
  rw [hW3] at D3 V3 F3 I3 O3 J3
  (try rw [hW3])
  clear hW3
  obtain ⟨OO, hOO⟩ : ∃ x, w3.heap.size = x := ⟨_, rfl⟩
  rw [hOO] at O3 J3 hz3
  (try rw [hOO])
  clear hOO
  have hOl := O3.out.lt
  go_wp2_with fail
  refine (l1ChanceE 10 D3.out.src (by have := D3.out.ts; omega) (by omega) (by omega)).mono ?_
  rintro e w4 ⟨ch, rfl, t4, hd4⟩
  have hz4 := hd4.2.1.size
  have D4 := hide (D3.out.on hd4)
  have V4 := hide (V3.out.wr hd4.2.1 (by show ¬ RR = w.heap.size + 2; omega))
  have F4 : Hid (∀ o, w4.frozen? ⟨RR, o, none⟩ = false) := fun o => (hd4.2.1.frz _ _ (by omega)).trans (F3.out o)
  have I4 := hide (I3.out.wr hd4.2.1 (fun b k1 k2 e => by have e : b = w.heap.size + 2 := e; omega))
  have O4 := hide (O3.out.wr hd4.2.1 (by show ¬ OO = w.heap.size + 2; omega))
  have J4 := hide (J3.out.wr hd4.2.1 (fun b k1 k2 e => by have e : b = w.heap.size + 2 := e; omega))
  clear hd4 D3 V3 F3 I3 O3 J3
  cases ch with
  | true =>
    go_wp2_with fail
    refine (l10Bent D4.out.src (by have := D4.out.ts; omega)).mono ?_
    rintro e w5 ⟨X, y5, z5, rfl, hX, hiv5, t5, hd5⟩
    obtain ⟨a5, c5, b5, d5, ey, ez⟩ := hiv5.shape
    subst ey
    subst ez
    have hz5 := hd5.2.1.size
    obtain ⟨r0, r1, r2, r3, r4, r5⟩ := V4.out.wr hd5.2.1 (by show ¬ RR = w.heap.size + 2; omega)
    have hf5 : ∀ o, w5.frozen? ⟨RR, o, none⟩ = false := fun o => (hd5.2.1.frz _ _ (by omega)).trans (F4.out o)
    have f0 := hf5 0
    have f1 := hf5 1
    have f2 := hf5 2
    have f3 := hf5 3
    have f4 := hf5 4
    have f5 := hf5 5
    have hwr : Wr (· = RR) w5 ((((((w5.setCell ⟨RR, 0, none⟩ (.int .i64 X.tm)).setCell ⟨RR, 1, none⟩ (.int .i64 X.vt)).setCell ⟨RR, 2, none⟩ (.int .i64 X.si)).setCell ⟨RR, 3, none⟩ (.int .i64 X.st)).setCell ⟨RR, 4, none⟩ (.slice a5 X.sn.length c5)).setCell ⟨RR, 5, none⟩ (.slice b5 X.lg.length d5)) := (Wr.setCell (p := ⟨RR, 5, none⟩) (Wr.setCell (p := ⟨RR, 4, none⟩) (Wr.setCell (p := ⟨RR, 3, none⟩) (Wr.setCell (p := ⟨RR, 2, none⟩) (Wr.setCell (p := ⟨RR, 1, none⟩) (Wr.setCell (p := ⟨RR, 0, none⟩) (Wr.refl (· = RR) w5) rfl (.int .i64 X.tm)) rfl (.int .i64 X.vt)) rfl (.int .i64 X.si)) rfl (.int .i64 X.st)) rfl (.slice a5 X.sn.length c5)) rfl (.slice b5 X.lg.length d5))
    have D6 := hide ((D4.out.on hd5).set hwr (by omega) HV0.out)
    have V6 : Hid (Var6 ((((((w5.setCell ⟨RR, 0, none⟩ (.int .i64 X.tm)).setCell ⟨RR, 1, none⟩ (.int .i64 X.vt)).setCell ⟨RR, 2, none⟩ (.int .i64 X.si)).setCell ⟨RR, 3, none⟩ (.int .i64 X.st)).setCell ⟨RR, 4, none⟩ (.slice a5 X.sn.length c5)).setCell ⟨RR, 5, none⟩ (.slice b5 X.lg.length d5)) RR (.int .i64 X.tm) (.int .i64 X.vt) (.int .i64 X.si) (.int .i64 X.st) (.slice a5 X.sn.length c5) (.slice b5 X.lg.length d5)) := ⟨by simp [go_sem, r0], by simp [go_sem, r1], by simp [go_sem, r2], by simp [go_sem, r3], by simp [go_sem, r4], by simp [go_sem, r5]⟩
    have O6 := hide ((O4.out.wr hd5.2.1 (by show ¬ OO = w.heap.size + 2; omega)).wr hwr (by show ¬ OO = RR; omega))
    have I6 := hide (hiv5.wr hwr (fun b k1 k2 e => by have e : b = RR := e; omega))
    have J6 := hide ((J4.out.wr hd5.2.1 (fun b k1 k2 e => by have e : b = w.heap.size + 2 := e; omega)).wr hwr (fun b k1 k2 e => by have e : b = RR := e; omega))
    have hz6 := hwr.size
    clear hd5 hiv5 D4 V4 O4 I4 J4 hwr
    go_upto_region 6 with fail
    obtain ⟨W6, hW6⟩ : ∃ x, ((((((w5.setCell ⟨RR, 0, none⟩ (.int .i64 X.tm)).setCell ⟨RR, 1, none⟩ (.int .i64 X.vt)).setCell ⟨RR, 2, none⟩ (.int .i64 X.si)).setCell ⟨RR, 3, none⟩ (.int .i64 X.st)).setCell ⟨RR, 4, none⟩ (.slice a5 X.sn.length c5)).setCell ⟨RR, 5, none⟩ (.slice b5 X.lg.length d5)) = x := ⟨_, rfl⟩
    rw [hW6] at D6 V6 O6 I6 J6 hz6
    (try rw [hW6])
    clear hW6 r0 r1 r2 r3 r4 r5 f0 f1 f2 f3 f4 f5 hf5 F4
    go_upto_region 6 with fail
    refine wp_region_held_drew (S := fun w' => w'.cell? ⟨RR, 0, none⟩ = some (.int .i64 X.tm) ∧ w'.cell? ⟨RR, 1, none⟩ = some (.int .i64 X.vt) ∧ w'.cell? ⟨RR, 2, none⟩ = some (.int .i64 X.si) ∧ w'.cell? ⟨RR, 3, none⟩ = some (.int .i64 X.st) ∧ w'.cell? ⟨RR, 4, none⟩ = some (.slice a5 X.sn.length c5) ∧ w'.cell? ⟨RR, 5, none⟩ = some (.slice b5 X.lg.length d5) ∧ w'.cell? ⟨OO, 0, none⟩ = some (.int .i64 Q.tm) ∧ w'.cell? ⟨OO, 1, none⟩ = some (.int .i64 Q.vt) ∧ w'.cell? ⟨OO, 2, none⟩ = some (.int .i64 Q.si) ∧ w'.cell? ⟨OO, 3, none⟩ = some (.int .i64 Q.st) ∧ w'.cell? ⟨OO, 4, none⟩ = some (.slice a3 Q.sn.length c3) ∧ w'.cell? ⟨OO, 5, none⟩ = some (.slice b3 Q.lg.length d3)) (by kernel_rfl) ⟨V6.out.1, V6.out.2.1, V6.out.2.2.1, V6.out.2.2.2.1, V6.out.2.2.2.2.1, V6.out.2.2.2.2.2, O6.out.1, O6.out.2.1, O6.out.2.2.1, O6.out.2.2.2.1, O6.out.2.2.2.2.1, O6.out.2.2.2.2.2⟩ (fun _ => ?_)
    refine forgetH (fun wx => D2I w (w.heap.size + 2) (.slice ao bs.length c) bs 9000 t5 wx ∧ Var6 wx RR (.int .i64 X.tm) (.int .i64 X.vt) (.int .i64 X.si) (.int .i64 X.st) (.slice a5 X.sn.length c5) (.slice b5 X.lg.length d5) ∧ Var6 wx OO (.int .i64 Q.tm) (.int .i64 Q.vt) (.int .i64 Q.si) (.int .i64 Q.st) (.slice a3 Q.sn.length c3) (.slice b3 Q.lg.length d3) ∧ IvR w4.heap.size w5.heap.size wx (.slice a5 X.sn.length c5) (.slice b5 X.lg.length d5) X.sn X.lg ∧ IvR W2.heap.size OO wx (.slice a3 Q.sn.length c3) (.slice b3 Q.lg.length d3) Q.sn Q.lg ∧ W6.heap.size ≤ wx.heap.size) ⟨⟨(D6.out.later (below_drewN W6 1)).bel, (D6.out.later (below_drewN W6 1)).src, by have := D6.out.ts; omega, (D6.out.later (below_drewN W6 1)).ra, (D6.out.later (below_drewN W6 1)).rb, (D6.out.later (below_drewN W6 1)).fa, (D6.out.later (below_drewN W6 1)).fb, D6.out.old⟩, V6.out.later (below_drewN W6 1), O6.out.later (below_drewN W6 1), I6.out.later (below_drewN W6 1), J6.out.later (below_drewN W6 1), (below_drewN W6 1).size⟩ ?_
    rintro Y0 ⟨d5, v5, o5, i5, j5, hzy⟩
    have D5 := hide d5
    have V5 := hide v5
    have O5 := hide o5
    have I5 := hide i5
    have J5 := hide j5
    clear d5 v5 o5 i5 j5 D6 V6 O6 I6 J6
    have hHeld := And.intro V5.out.1 (And.intro V5.out.2.1 (And.intro V5.out.2.2.1 (And.intro V5.out.2.2.2.1 (And.intro V5.out.2.2.2.2.1 (And.intro V5.out.2.2.2.2.2 O5.out)))))
    refine wpAnyH_take (i := 0) (v := ?vt1x0) rfl (by kernel_rfl) (by kernel_rfl) (by kernel_rfl) (fun _ _ _ h => h) (Or.inl ⟨by rfl, ?ht1x0⟩) hHeld ?rt1x0
    case ht1x0 => intro w9 hSw; (try dsimp only at hSw); first | (go_simp; done) | (go_simp; with_reducible rfl)
    try simp only [Act.put, List.setIfInBounds_toArray, List.set_cons_zero, List.set_cons_succ, List.getElem_toArray, List.getElem_cons_zero]
    refine wpAnyH_take (i := 1) (v := ?vt2x1) rfl (by kernel_rfl) (by kernel_rfl) (by kernel_rfl) (fun _ _ _ h => h) (Or.inl ⟨by rfl, ?ht2x1⟩) hHeld ?rt2x1
    case ht2x1 => intro w9 hSw; (try dsimp only at hSw); first | (go_simp; done) | (go_simp; with_reducible rfl)
    try simp only [Act.put, List.setIfInBounds_toArray, List.set_cons_zero, List.set_cons_succ, List.getElem_toArray, List.getElem_cons_zero, List.getElem_cons_succ]
    obtain ⟨q0, q1, q2, q3, q4, q5⟩ := D5.out.ra
    obtain ⟨p0, p1, p2, p3, p4, p5⟩ := D5.out.rb
    have f0 := D5.out.fa 0
    have f1 := D5.out.fa 1
    have f2 := D5.out.fa 2
    have f3 := D5.out.fa 3
    have f4 := D5.out.fa 4
    have f5 := D5.out.fa 5
    have g0 := D5.out.fb 0
    have g1 := D5.out.fb 1
    have g2 := D5.out.fb 2
    have g3 := D5.out.fb 3
    have g4 := D5.out.fb 4
    have g5 := D5.out.fb 5
    have hol := D5.out.old
    have hsr := D5.out.src.lt
    have hwA : Wr (fun x => x = w.heap.size ∨ x = w.heap.size + 1) Y0 ((((((Y0.setCell ⟨w.heap.size, 0, none⟩ (.int .i64 X.tm)).setCell ⟨w.heap.size, 1, none⟩ (.int .i64 X.vt)).setCell ⟨w.heap.size, 2, none⟩ (.int .i64 X.si)).setCell ⟨w.heap.size, 3, none⟩ (.int .i64 X.st)).setCell ⟨w.heap.size, 4, none⟩ (.slice a5 X.sn.length c5)).setCell ⟨w.heap.size, 5, none⟩ (.slice b5 X.lg.length d5)) := (Wr.setCell (p := ⟨w.heap.size, 5, none⟩) (Wr.setCell (p := ⟨w.heap.size, 4, none⟩) (Wr.setCell (p := ⟨w.heap.size, 3, none⟩) (Wr.setCell (p := ⟨w.heap.size, 2, none⟩) (Wr.setCell (p := ⟨w.heap.size, 1, none⟩) (Wr.setCell (p := ⟨w.heap.size, 0, none⟩) (Wr.refl (fun x => x = w.heap.size ∨ x = w.heap.size + 1) Y0) (Or.inl rfl) (.int .i64 X.tm)) (Or.inl rfl) (.int .i64 X.vt)) (Or.inl rfl) (.int .i64 X.si)) (Or.inl rfl) (.int .i64 X.st)) (Or.inl rfl) (.slice a5 X.sn.length c5)) (Or.inl rfl) (.slice b5 X.lg.length d5))
    have hwB : Wr (fun x => x = w.heap.size ∨ x = w.heap.size + 1) Y0 ((((((((((((Y0.setCell ⟨w.heap.size, 0, none⟩ (.int .i64 X.tm)).setCell ⟨w.heap.size, 1, none⟩ (.int .i64 X.vt)).setCell ⟨w.heap.size, 2, none⟩ (.int .i64 X.si)).setCell ⟨w.heap.size, 3, none⟩ (.int .i64 X.st)).setCell ⟨w.heap.size, 4, none⟩ (.slice a5 X.sn.length c5)).setCell ⟨w.heap.size, 5, none⟩ (.slice b5 X.lg.length d5)).setCell ⟨w.heap.size + 1, 0, none⟩ (.int .i64 Q.tm)).setCell ⟨w.heap.size + 1, 1, none⟩ (.int .i64 Q.vt)).setCell ⟨w.heap.size + 1, 2, none⟩ (.int .i64 Q.si)).setCell ⟨w.heap.size + 1, 3, none⟩ (.int .i64 Q.st)).setCell ⟨w.heap.size + 1, 4, none⟩ (.slice a3 Q.sn.length c3)).setCell ⟨w.heap.size + 1, 5, none⟩ (.slice b3 Q.lg.length d3)) := (Wr.setCell (p := ⟨w.heap.size + 1, 5, none⟩) (Wr.setCell (p := ⟨w.heap.size + 1, 4, none⟩) (Wr.setCell (p := ⟨w.heap.size + 1, 3, none⟩) (Wr.setCell (p := ⟨w.heap.size + 1, 2, none⟩) (Wr.setCell (p := ⟨w.heap.size + 1, 1, none⟩) (Wr.setCell (p := ⟨w.heap.size + 1, 0, none⟩) (Wr.setCell (p := ⟨w.heap.size, 5, none⟩) (Wr.setCell (p := ⟨w.heap.size, 4, none⟩) (Wr.setCell (p := ⟨w.heap.size, 3, none⟩) (Wr.setCell (p := ⟨w.heap.size, 2, none⟩) (Wr.setCell (p := ⟨w.heap.size, 1, none⟩) (Wr.setCell (p := ⟨w.heap.size, 0, none⟩) (Wr.refl (fun x => x = w.heap.size ∨ x = w.heap.size + 1) Y0) (Or.inl rfl) (.int .i64 X.tm)) (Or.inl rfl) (.int .i64 X.vt)) (Or.inl rfl) (.int .i64 X.si)) (Or.inl rfl) (.int .i64 X.st)) (Or.inl rfl) (.slice a5 X.sn.length c5)) (Or.inl rfl) (.slice b5 X.lg.length d5)) (Or.inr rfl) (.int .i64 Q.tm)) (Or.inr rfl) (.int .i64 Q.vt)) (Or.inr rfl) (.int .i64 Q.si)) (Or.inr rfl) (.int .i64 Q.st)) (Or.inr rfl) (.slice a3 Q.sn.length c3)) (Or.inr rfl) (.slice b3 Q.lg.length d3))
    have hVA := V5.out.wr hwA (by show ¬ (RR = w.heap.size ∨ RR = w.heap.size + 1); omega)
    have hOA := O5.out.wr hwA (by show ¬ (OO = w.heap.size ∨ OO = w.heap.size + 1); omega)
    have hVB := V5.out.wr hwB (by show ¬ (RR = w.heap.size ∨ RR = w.heap.size + 1); omega)
    have hOB := O5.out.wr hwB (by show ¬ (OO = w.heap.size ∨ OO = w.heap.size + 1); omega)
    refine wpAnyH_ready (rs := [2]) (by kernel_rfl) (by simp) (AllReadyH.cons rfl (fun K hK => ?_) AllReadyH.nil)
    go_simp
    refine hK.out _ _ (And.intro hVA.1 (And.intro hVA.2.1 (And.intro hVA.2.2.1 (And.intro hVA.2.2.2.1 (And.intro hVA.2.2.2.2.1 (And.intro hVA.2.2.2.2.2 hOA)))))) (fun hHeldx => ?_)
    clear hK K
    try simp only [Act.put, List.setIfInBounds_toArray, List.set_cons_zero, List.set_cons_succ, List.getElem_toArray, List.getElem_cons_zero, List.getElem_cons_succ]
    refine wpAnyH_ready (rs := [3]) (by kernel_rfl) (by simp) (AllReadyH.cons rfl (fun K hK => ?_) AllReadyH.nil)
    go_simp
    refine hK.out _ _ (And.intro hVB.1 (And.intro hVB.2.1 (And.intro hVB.2.2.1 (And.intro hVB.2.2.2.1 (And.intro hVB.2.2.2.2.1 (And.intro hVB.2.2.2.2.2 hOB)))))) (fun hHeldy => ?_)
    clear hK K
    try simp only [Act.put, List.setIfInBounds_toArray, List.set_cons_zero, List.set_cons_succ, List.getElem_toArray, List.getElem_cons_zero, List.getElem_cons_succ]
    refine wpAnyH_done (by kernel_rfl) ?_ _
    have hF1 : IvR w.heap.size ((((((((((((Y0.setCell ⟨w.heap.size, 0, none⟩ (.int .i64 X.tm)).setCell ⟨w.heap.size, 1, none⟩ (.int .i64 X.vt)).setCell ⟨w.heap.size, 2, none⟩ (.int .i64 X.si)).setCell ⟨w.heap.size, 3, none⟩ (.int .i64 X.st)).setCell ⟨w.heap.size, 4, none⟩ (.slice a5 X.sn.length c5)).setCell ⟨w.heap.size, 5, none⟩ (.slice b5 X.lg.length d5)).setCell ⟨w.heap.size + 1, 0, none⟩ (.int .i64 Q.tm)).setCell ⟨w.heap.size + 1, 1, none⟩ (.int .i64 Q.vt)).setCell ⟨w.heap.size + 1, 2, none⟩ (.int .i64 Q.si)).setCell ⟨w.heap.size + 1, 3, none⟩ (.int .i64 Q.st)).setCell ⟨w.heap.size + 1, 4, none⟩ (.slice a3 Q.sn.length c3)).setCell ⟨w.heap.size + 1, 5, none⟩ (.slice b3 Q.lg.length d3)).heap.size ((((((((((((Y0.setCell ⟨w.heap.size, 0, none⟩ (.int .i64 X.tm)).setCell ⟨w.heap.size, 1, none⟩ (.int .i64 X.vt)).setCell ⟨w.heap.size, 2, none⟩ (.int .i64 X.si)).setCell ⟨w.heap.size, 3, none⟩ (.int .i64 X.st)).setCell ⟨w.heap.size, 4, none⟩ (.slice a5 X.sn.length c5)).setCell ⟨w.heap.size, 5, none⟩ (.slice b5 X.lg.length d5)).setCell ⟨w.heap.size + 1, 0, none⟩ (.int .i64 Q.tm)).setCell ⟨w.heap.size + 1, 1, none⟩ (.int .i64 Q.vt)).setCell ⟨w.heap.size + 1, 2, none⟩ (.int .i64 Q.si)).setCell ⟨w.heap.size + 1, 3, none⟩ (.int .i64 Q.st)).setCell ⟨w.heap.size + 1, 4, none⟩ (.slice a3 Q.sn.length c3)).setCell ⟨w.heap.size + 1, 5, none⟩ (.slice b3 Q.lg.length d3)) (.slice a5 X.sn.length c5) (.slice b5 X.lg.length d5) X.sn X.lg := (I5.out.wr hwB (fun b h1 h2 e => by have e : b = w.heap.size ∨ b = w.heap.size + 1 := e; omega)).up (by omega) (Nat.le_trans (by omega) hwB.size)
    have hF2 : IvR w.heap.size ((((((((((((Y0.setCell ⟨w.heap.size, 0, none⟩ (.int .i64 X.tm)).setCell ⟨w.heap.size, 1, none⟩ (.int .i64 X.vt)).setCell ⟨w.heap.size, 2, none⟩ (.int .i64 X.si)).setCell ⟨w.heap.size, 3, none⟩ (.int .i64 X.st)).setCell ⟨w.heap.size, 4, none⟩ (.slice a5 X.sn.length c5)).setCell ⟨w.heap.size, 5, none⟩ (.slice b5 X.lg.length d5)).setCell ⟨w.heap.size + 1, 0, none⟩ (.int .i64 Q.tm)).setCell ⟨w.heap.size + 1, 1, none⟩ (.int .i64 Q.vt)).setCell ⟨w.heap.size + 1, 2, none⟩ (.int .i64 Q.si)).setCell ⟨w.heap.size + 1, 3, none⟩ (.int .i64 Q.st)).setCell ⟨w.heap.size + 1, 4, none⟩ (.slice a3 Q.sn.length c3)).setCell ⟨w.heap.size + 1, 5, none⟩ (.slice b3 Q.lg.length d3)).heap.size ((((((((((((Y0.setCell ⟨w.heap.size, 0, none⟩ (.int .i64 X.tm)).setCell ⟨w.heap.size, 1, none⟩ (.int .i64 X.vt)).setCell ⟨w.heap.size, 2, none⟩ (.int .i64 X.si)).setCell ⟨w.heap.size, 3, none⟩ (.int .i64 X.st)).setCell ⟨w.heap.size, 4, none⟩ (.slice a5 X.sn.length c5)).setCell ⟨w.heap.size, 5, none⟩ (.slice b5 X.lg.length d5)).setCell ⟨w.heap.size + 1, 0, none⟩ (.int .i64 Q.tm)).setCell ⟨w.heap.size + 1, 1, none⟩ (.int .i64 Q.vt)).setCell ⟨w.heap.size + 1, 2, none⟩ (.int .i64 Q.si)).setCell ⟨w.heap.size + 1, 3, none⟩ (.int .i64 Q.st)).setCell ⟨w.heap.size + 1, 4, none⟩ (.slice a3 Q.sn.length c3)).setCell ⟨w.heap.size + 1, 5, none⟩ (.slice b3 Q.lg.length d3)) (.slice a3 Q.sn.length c3) (.slice b3 Q.lg.length d3) Q.sn Q.lg := (J5.out.wr hwB (fun b h1 h2 e => by have e : b = w.heap.size ∨ b = w.heap.size + 1 := e; omega)).up (by omega) (Nat.le_trans (by omega) hwB.size)
    have hBel : Below w.heap.size w ((((((((((((Y0.setCell ⟨w.heap.size, 0, none⟩ (.int .i64 X.tm)).setCell ⟨w.heap.size, 1, none⟩ (.int .i64 X.vt)).setCell ⟨w.heap.size, 2, none⟩ (.int .i64 X.si)).setCell ⟨w.heap.size, 3, none⟩ (.int .i64 X.st)).setCell ⟨w.heap.size, 4, none⟩ (.slice a5 X.sn.length c5)).setCell ⟨w.heap.size, 5, none⟩ (.slice b5 X.lg.length d5)).setCell ⟨w.heap.size + 1, 0, none⟩ (.int .i64 Q.tm)).setCell ⟨w.heap.size + 1, 1, none⟩ (.int .i64 Q.vt)).setCell ⟨w.heap.size + 1, 2, none⟩ (.int .i64 Q.si)).setCell ⟨w.heap.size + 1, 3, none⟩ (.int .i64 Q.st)).setCell ⟨w.heap.size + 1, 4, none⟩ (.slice a3 Q.sn.length c3)).setCell ⟨w.heap.size + 1, 5, none⟩ (.slice b3 Q.lg.length d3)) := Below.trans D5.out.bel (hwB.below (by omega) (fun b e => by omega))
    go_wp2
    refine bodyPost_ret (v := .tuple #[.agg #[.int .i64 X.tm, .int .i64 X.vt, .int .i64 X.si, .int .i64 X.st, .slice a5 X.sn.length c5, .slice b5 X.lg.length d5], .agg #[.int .i64 Q.tm, .int .i64 Q.vt, .int .i64 Q.si, .int .i64 Q.st, .slice a3 Q.sn.length c3, .slice b3 Q.lg.length d3]]) (by simp [results, Tryz.results6, go_sem, q0, q1, q2, q3, q4, q5, p0, p1, p2, p3, p4, p5]) rfl ⟨X, Q, _, _, _, _, rfl, hBel, hF1, hF2⟩
  | false =>
    clear F4
    go_upto_region 6 with fail
    refine wp_region_held_drew (S := fun w' => w'.cell? ⟨RR, 0, none⟩ = some (.int .i64 R.tm) ∧ w'.cell? ⟨RR, 1, none⟩ = some (.int .i64 R.vt) ∧ w'.cell? ⟨RR, 2, none⟩ = some (.int .i64 R.si) ∧ w'.cell? ⟨RR, 3, none⟩ = some (.int .i64 R.st) ∧ w'.cell? ⟨RR, 4, none⟩ = some (.slice ay R.sn.length cy) ∧ w'.cell? ⟨RR, 5, none⟩ = some (.slice az R.lg.length cz) ∧ w'.cell? ⟨OO, 0, none⟩ = some (.int .i64 Q.tm) ∧ w'.cell? ⟨OO, 1, none⟩ = some (.int .i64 Q.vt) ∧ w'.cell? ⟨OO, 2, none⟩ = some (.int .i64 Q.si) ∧ w'.cell? ⟨OO, 3, none⟩ = some (.int .i64 Q.st) ∧ w'.cell? ⟨OO, 4, none⟩ = some (.slice a3 Q.sn.length c3) ∧ w'.cell? ⟨OO, 5, none⟩ = some (.slice b3 Q.lg.length d3)) (by kernel_rfl) ⟨V4.out.1, V4.out.2.1, V4.out.2.2.1, V4.out.2.2.2.1, V4.out.2.2.2.2.1, V4.out.2.2.2.2.2, O4.out.1, O4.out.2.1, O4.out.2.2.1, O4.out.2.2.2.1, O4.out.2.2.2.2.1, O4.out.2.2.2.2.2⟩ (fun _ => ?_)
    refine forgetH (fun wx => D2I w (w.heap.size + 2) (.slice ao bs.length c) bs 9000 t4 wx ∧ Var6 wx RR (.int .i64 R.tm) (.int .i64 R.vt) (.int .i64 R.si) (.int .i64 R.st) (.slice ay R.sn.length cy) (.slice az R.lg.length cz) ∧ Var6 wx OO (.int .i64 Q.tm) (.int .i64 Q.vt) (.int .i64 Q.si) (.int .i64 Q.st) (.slice a3 Q.sn.length c3) (.slice b3 Q.lg.length d3) ∧ IvR w1.heap.size RR wx (.slice ay R.sn.length cy) (.slice az R.lg.length cz) R.sn R.lg ∧ IvR W2.heap.size OO wx (.slice a3 Q.sn.length c3) (.slice b3 Q.lg.length d3) Q.sn Q.lg ∧ w4.heap.size ≤ wx.heap.size) ⟨⟨(D4.out.later (below_drewN w4 1)).bel, (D4.out.later (below_drewN w4 1)).src, by have := D4.out.ts; omega, (D4.out.later (below_drewN w4 1)).ra, (D4.out.later (below_drewN w4 1)).rb, (D4.out.later (below_drewN w4 1)).fa, (D4.out.later (below_drewN w4 1)).fb, D4.out.old⟩, V4.out.later (below_drewN w4 1), O4.out.later (below_drewN w4 1), I4.out.later (below_drewN w4 1), J4.out.later (below_drewN w4 1), (below_drewN w4 1).size⟩ ?_
    rintro Y0 ⟨d5, v5, o5, i5, j5, hzy⟩
    have D5 := hide d5
    have V5 := hide v5
    have O5 := hide o5
    have I5 := hide i5
    have J5 := hide j5
    clear d5 v5 o5 i5 j5 D4 V4 O4 I4 J4
    have hHeld := And.intro V5.out.1 (And.intro V5.out.2.1 (And.intro V5.out.2.2.1 (And.intro V5.out.2.2.2.1 (And.intro V5.out.2.2.2.2.1 (And.intro V5.out.2.2.2.2.2 O5.out)))))
    refine wpAnyH_take (i := 0) (v := ?vt3x0) rfl (by kernel_rfl) (by kernel_rfl) (by kernel_rfl) (fun _ _ _ h => h) (Or.inl ⟨by rfl, ?ht3x0⟩) hHeld ?rt3x0
    case ht3x0 => intro w9 hSw; (try dsimp only at hSw); first | (go_simp; done) | (go_simp; with_reducible rfl)
    try simp only [Act.put, List.setIfInBounds_toArray, List.set_cons_zero, List.set_cons_succ, List.getElem_toArray, List.getElem_cons_zero]
    refine wpAnyH_take (i := 1) (v := ?vt4x1) rfl (by kernel_rfl) (by kernel_rfl) (by kernel_rfl) (fun _ _ _ h => h) (Or.inl ⟨by rfl, ?ht4x1⟩) hHeld ?rt4x1
    case ht4x1 => intro w9 hSw; (try dsimp only at hSw); first | (go_simp; done) | (go_simp; with_reducible rfl)
    try simp only [Act.put, List.setIfInBounds_toArray, List.set_cons_zero, List.set_cons_succ, List.getElem_toArray, List.getElem_cons_zero, List.getElem_cons_succ]
    obtain ⟨q0, q1, q2, q3, q4, q5⟩ := D5.out.ra
    obtain ⟨p0, p1, p2, p3, p4, p5⟩ := D5.out.rb
    have f0 := D5.out.fa 0
    have f1 := D5.out.fa 1
    have f2 := D5.out.fa 2
    have f3 := D5.out.fa 3
    have f4 := D5.out.fa 4
    have f5 := D5.out.fa 5
    have g0 := D5.out.fb 0
    have g1 := D5.out.fb 1
    have g2 := D5.out.fb 2
    have g3 := D5.out.fb 3
    have g4 := D5.out.fb 4
    have g5 := D5.out.fb 5
    have hol := D5.out.old
    have hsr := D5.out.src.lt
    have hwA : Wr (fun x => x = w.heap.size ∨ x = w.heap.size + 1) Y0 ((((((Y0.setCell ⟨w.heap.size, 0, none⟩ (.int .i64 R.tm)).setCell ⟨w.heap.size, 1, none⟩ (.int .i64 R.vt)).setCell ⟨w.heap.size, 2, none⟩ (.int .i64 R.si)).setCell ⟨w.heap.size, 3, none⟩ (.int .i64 R.st)).setCell ⟨w.heap.size, 4, none⟩ (.slice ay R.sn.length cy)).setCell ⟨w.heap.size, 5, none⟩ (.slice az R.lg.length cz)) := (Wr.setCell (p := ⟨w.heap.size, 5, none⟩) (Wr.setCell (p := ⟨w.heap.size, 4, none⟩) (Wr.setCell (p := ⟨w.heap.size, 3, none⟩) (Wr.setCell (p := ⟨w.heap.size, 2, none⟩) (Wr.setCell (p := ⟨w.heap.size, 1, none⟩) (Wr.setCell (p := ⟨w.heap.size, 0, none⟩) (Wr.refl (fun x => x = w.heap.size ∨ x = w.heap.size + 1) Y0) (Or.inl rfl) (.int .i64 R.tm)) (Or.inl rfl) (.int .i64 R.vt)) (Or.inl rfl) (.int .i64 R.si)) (Or.inl rfl) (.int .i64 R.st)) (Or.inl rfl) (.slice ay R.sn.length cy)) (Or.inl rfl) (.slice az R.lg.length cz))
    have hwB : Wr (fun x => x = w.heap.size ∨ x = w.heap.size + 1) Y0 ((((((((((((Y0.setCell ⟨w.heap.size, 0, none⟩ (.int .i64 R.tm)).setCell ⟨w.heap.size, 1, none⟩ (.int .i64 R.vt)).setCell ⟨w.heap.size, 2, none⟩ (.int .i64 R.si)).setCell ⟨w.heap.size, 3, none⟩ (.int .i64 R.st)).setCell ⟨w.heap.size, 4, none⟩ (.slice ay R.sn.length cy)).setCell ⟨w.heap.size, 5, none⟩ (.slice az R.lg.length cz)).setCell ⟨w.heap.size + 1, 0, none⟩ (.int .i64 Q.tm)).setCell ⟨w.heap.size + 1, 1, none⟩ (.int .i64 Q.vt)).setCell ⟨w.heap.size + 1, 2, none⟩ (.int .i64 Q.si)).setCell ⟨w.heap.size + 1, 3, none⟩ (.int .i64 Q.st)).setCell ⟨w.heap.size + 1, 4, none⟩ (.slice a3 Q.sn.length c3)).setCell ⟨w.heap.size + 1, 5, none⟩ (.slice b3 Q.lg.length d3)) := (Wr.setCell (p := ⟨w.heap.size + 1, 5, none⟩) (Wr.setCell (p := ⟨w.heap.size + 1, 4, none⟩) (Wr.setCell (p := ⟨w.heap.size + 1, 3, none⟩) (Wr.setCell (p := ⟨w.heap.size + 1, 2, none⟩) (Wr.setCell (p := ⟨w.heap.size + 1, 1, none⟩) (Wr.setCell (p := ⟨w.heap.size + 1, 0, none⟩) (Wr.setCell (p := ⟨w.heap.size, 5, none⟩) (Wr.setCell (p := ⟨w.heap.size, 4, none⟩) (Wr.setCell (p := ⟨w.heap.size, 3, none⟩) (Wr.setCell (p := ⟨w.heap.size, 2, none⟩) (Wr.setCell (p := ⟨w.heap.size, 1, none⟩) (Wr.setCell (p := ⟨w.heap.size, 0, none⟩) (Wr.refl (fun x => x = w.heap.size ∨ x = w.heap.size + 1) Y0) (Or.inl rfl) (.int .i64 R.tm)) (Or.inl rfl) (.int .i64 R.vt)) (Or.inl rfl) (.int .i64 R.si)) (Or.inl rfl) (.int .i64 R.st)) (Or.inl rfl) (.slice ay R.sn.length cy)) (Or.inl rfl) (.slice az R.lg.length cz)) (Or.inr rfl) (.int .i64 Q.tm)) (Or.inr rfl) (.int .i64 Q.vt)) (Or.inr rfl) (.int .i64 Q.si)) (Or.inr rfl) (.int .i64 Q.st)) (Or.inr rfl) (.slice a3 Q.sn.length c3)) (Or.inr rfl) (.slice b3 Q.lg.length d3))
    have hVA := V5.out.wr hwA (by show ¬ (RR = w.heap.size ∨ RR = w.heap.size + 1); omega)
    have hOA := O5.out.wr hwA (by show ¬ (OO = w.heap.size ∨ OO = w.heap.size + 1); omega)
    have hVB := V5.out.wr hwB (by show ¬ (RR = w.heap.size ∨ RR = w.heap.size + 1); omega)
    have hOB := O5.out.wr hwB (by show ¬ (OO = w.heap.size ∨ OO = w.heap.size + 1); omega)
    refine wpAnyH_ready (rs := [2]) (by kernel_rfl) (by simp) (AllReadyH.cons rfl (fun K hK => ?_) AllReadyH.nil)
    go_simp
    refine hK.out _ _ (And.intro hVA.1 (And.intro hVA.2.1 (And.intro hVA.2.2.1 (And.intro hVA.2.2.2.1 (And.intro hVA.2.2.2.2.1 (And.intro hVA.2.2.2.2.2 hOA)))))) (fun hHeldx => ?_)
    clear hK K
    try simp only [Act.put, List.setIfInBounds_toArray, List.set_cons_zero, List.set_cons_succ, List.getElem_toArray, List.getElem_cons_zero, List.getElem_cons_succ]
    refine wpAnyH_ready (rs := [3]) (by kernel_rfl) (by simp) (AllReadyH.cons rfl (fun K hK => ?_) AllReadyH.nil)
    go_simp
    refine hK.out _ _ (And.intro hVB.1 (And.intro hVB.2.1 (And.intro hVB.2.2.1 (And.intro hVB.2.2.2.1 (And.intro hVB.2.2.2.2.1 (And.intro hVB.2.2.2.2.2 hOB)))))) (fun hHeldy => ?_)
    clear hK K
    try simp only [Act.put, List.setIfInBounds_toArray, List.set_cons_zero, List.set_cons_succ, List.getElem_toArray, List.getElem_cons_zero, List.getElem_cons_succ]
    refine wpAnyH_done (by kernel_rfl) ?_ _
    have hF1 : IvR w.heap.size ((((((((((((Y0.setCell ⟨w.heap.size, 0, none⟩ (.int .i64 R.tm)).setCell ⟨w.heap.size, 1, none⟩ (.int .i64 R.vt)).setCell ⟨w.heap.size, 2, none⟩ (.int .i64 R.si)).setCell ⟨w.heap.size, 3, none⟩ (.int .i64 R.st)).setCell ⟨w.heap.size, 4, none⟩ (.slice ay R.sn.length cy)).setCell ⟨w.heap.size, 5, none⟩ (.slice az R.lg.length cz)).setCell ⟨w.heap.size + 1, 0, none⟩ (.int .i64 Q.tm)).setCell ⟨w.heap.size + 1, 1, none⟩ (.int .i64 Q.vt)).setCell ⟨w.heap.size + 1, 2, none⟩ (.int .i64 Q.si)).setCell ⟨w.heap.size + 1, 3, none⟩ (.int .i64 Q.st)).setCell ⟨w.heap.size + 1, 4, none⟩ (.slice a3 Q.sn.length c3)).setCell ⟨w.heap.size + 1, 5, none⟩ (.slice b3 Q.lg.length d3)).heap.size ((((((((((((Y0.setCell ⟨w.heap.size, 0, none⟩ (.int .i64 R.tm)).setCell ⟨w.heap.size, 1, none⟩ (.int .i64 R.vt)).setCell ⟨w.heap.size, 2, none⟩ (.int .i64 R.si)).setCell ⟨w.heap.size, 3, none⟩ (.int .i64 R.st)).setCell ⟨w.heap.size, 4, none⟩ (.slice ay R.sn.length cy)).setCell ⟨w.heap.size, 5, none⟩ (.slice az R.lg.length cz)).setCell ⟨w.heap.size + 1, 0, none⟩ (.int .i64 Q.tm)).setCell ⟨w.heap.size + 1, 1, none⟩ (.int .i64 Q.vt)).setCell ⟨w.heap.size + 1, 2, none⟩ (.int .i64 Q.si)).setCell ⟨w.heap.size + 1, 3, none⟩ (.int .i64 Q.st)).setCell ⟨w.heap.size + 1, 4, none⟩ (.slice a3 Q.sn.length c3)).setCell ⟨w.heap.size + 1, 5, none⟩ (.slice b3 Q.lg.length d3)) (.slice ay R.sn.length cy) (.slice az R.lg.length cz) R.sn R.lg := (I5.out.wr hwB (fun b h1 h2 e => by have e : b = w.heap.size ∨ b = w.heap.size + 1 := e; omega)).up (by omega) (Nat.le_trans (by omega) hwB.size)
    have hF2 : IvR w.heap.size ((((((((((((Y0.setCell ⟨w.heap.size, 0, none⟩ (.int .i64 R.tm)).setCell ⟨w.heap.size, 1, none⟩ (.int .i64 R.vt)).setCell ⟨w.heap.size, 2, none⟩ (.int .i64 R.si)).setCell ⟨w.heap.size, 3, none⟩ (.int .i64 R.st)).setCell ⟨w.heap.size, 4, none⟩ (.slice ay R.sn.length cy)).setCell ⟨w.heap.size, 5, none⟩ (.slice az R.lg.length cz)).setCell ⟨w.heap.size + 1, 0, none⟩ (.int .i64 Q.tm)).setCell ⟨w.heap.size + 1, 1, none⟩ (.int .i64 Q.vt)).setCell ⟨w.heap.size + 1, 2, none⟩ (.int .i64 Q.si)).setCell ⟨w.heap.size + 1, 3, none⟩ (.int .i64 Q.st)).setCell ⟨w.heap.size + 1, 4, none⟩ (.slice a3 Q.sn.length c3)).setCell ⟨w.heap.size + 1, 5, none⟩ (.slice b3 Q.lg.length d3)).heap.size ((((((((((((Y0.setCell ⟨w.heap.size, 0, none⟩ (.int .i64 R.tm)).setCell ⟨w.heap.size, 1, none⟩ (.int .i64 R.vt)).setCell ⟨w.heap.size, 2, none⟩ (.int .i64 R.si)).setCell ⟨w.heap.size, 3, none⟩ (.int .i64 R.st)).setCell ⟨w.heap.size, 4, none⟩ (.slice ay R.sn.length cy)).setCell ⟨w.heap.size, 5, none⟩ (.slice az R.lg.length cz)).setCell ⟨w.heap.size + 1, 0, none⟩ (.int .i64 Q.tm)).setCell ⟨w.heap.size + 1, 1, none⟩ (.int .i64 Q.vt)).setCell ⟨w.heap.size + 1, 2, none⟩ (.int .i64 Q.si)).setCell ⟨w.heap.size + 1, 3, none⟩ (.int .i64 Q.st)).setCell ⟨w.heap.size + 1, 4, none⟩ (.slice a3 Q.sn.length c3)).setCell ⟨w.heap.size + 1, 5, none⟩ (.slice b3 Q.lg.length d3)) (.slice a3 Q.sn.length c3) (.slice b3 Q.lg.length d3) Q.sn Q.lg := (J5.out.wr hwB (fun b h1 h2 e => by have e : b = w.heap.size ∨ b = w.heap.size + 1 := e; omega)).up (by omega) (Nat.le_trans (by omega) hwB.size)
    have hBel : Below w.heap.size w ((((((((((((Y0.setCell ⟨w.heap.size, 0, none⟩ (.int .i64 R.tm)).setCell ⟨w.heap.size, 1, none⟩ (.int .i64 R.vt)).setCell ⟨w.heap.size, 2, none⟩ (.int .i64 R.si)).setCell ⟨w.heap.size, 3, none⟩ (.int .i64 R.st)).setCell ⟨w.heap.size, 4, none⟩ (.slice ay R.sn.length cy)).setCell ⟨w.heap.size, 5, none⟩ (.slice az R.lg.length cz)).setCell ⟨w.heap.size + 1, 0, none⟩ (.int .i64 Q.tm)).setCell ⟨w.heap.size + 1, 1, none⟩ (.int .i64 Q.vt)).setCell ⟨w.heap.size + 1, 2, none⟩ (.int .i64 Q.si)).setCell ⟨w.heap.size + 1, 3, none⟩ (.int .i64 Q.st)).setCell ⟨w.heap.size + 1, 4, none⟩ (.slice a3 Q.sn.length c3)).setCell ⟨w.heap.size + 1, 5, none⟩ (.slice b3 Q.lg.length d3)) := Below.trans D5.out.bel (hwB.below (by omega) (fun b e => by omega))
    go_wp2
    refine bodyPost_ret (v := .tuple #[.agg #[.int .i64 R.tm, .int .i64 R.vt, .int .i64 R.si, .int .i64 R.st, .slice ay R.sn.length cy, .slice az R.lg.length cz], .agg #[.int .i64 Q.tm, .int .i64 Q.vt, .int .i64 Q.si, .int .i64 Q.st, .slice a3 Q.sn.length c3, .slice b3 Q.lg.length d3]]) (by simp [results, Tryz.results6, go_sem, q0, q1, q2, q3, q4, q5, p0, p1, p2, p3, p4, p5]) rfl ⟨R, Q, _, _, _, _, rfl, hBel, hF1, hF2⟩
end Go.Proofs.YtlliggfggadidaaGreatDoor
