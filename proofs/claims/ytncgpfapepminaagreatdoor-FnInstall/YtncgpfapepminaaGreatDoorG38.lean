/- Bc1 in one text: what each says stands at its head below. -/
import Derived.Test.YtncgpfapepminaaGreatDoorG37
import Derived.Test.YtncgpfapepminaaGreatDoorG06
import Derived.Test.YtncgpfapepminaaGreatDoorG02
/- Chapter 15, draws: 'spec.DrawCompactRaft', walked. Made by program (genbc.py). -/
namespace Go.Proofs.YtncgpfapepminaaGreatDoor
open Go.RowKit

/-- A store in its variable (block RR), the result's variable (block B) empty. -/
structure CmI (B RR : Nat) (w : World) (Q : Rf) (y z : Value) (wr : World) : Prop where
  bel : Below B w wr
  res : Var6 wr B (.int .i64 0) (.int .i64 0) (.int .i64 0) (.int .i64 0) (.slice none 0 0) (.slice none 0 0)
  rfz : ∀ o, wr.frozen? ⟨B, o, none⟩ = false
  var : Var6 wr RR (.int .i64 Q.tm) (.int .i64 Q.vt) (.int .i64 Q.si) (.int .i64 Q.st) y z
  mem : ∃ lo hi, B < lo ∧ hi ≤ RR ∧ IvR lo hi wr y z Q.sn Q.lg
  ge : B < RR
theorem CmI.wr {B RR : Nat} {T : Nat → Prop} {w : World} {Q : Rf} {y z : Value} {wr w1 : World} (h : CmI B RR w Q y z wr) (hw : Wr T wr w1) (hT : ∀ b, T b → RR < b) : CmI B RR w Q y z w1 := by
  obtain ⟨lo, hi, h1, h2, h3⟩ := h.mem
  have hg := h.ge
  have hr := h.res.lt
  exact ⟨Below.trans h.bel (hw.below (by omega) (fun b e => by have := hT b e; omega)), h.res.wr hw (fun e => by have := hT _ e; omega), fun o => (hw.frz _ _ hr).trans (h.rfz o), h.var.wr hw (fun e => by have := hT _ e; omega), ⟨lo, hi, h1, h2, h3.wr hw (fun b k1 k2 e => by have := hT b e; omega)⟩, hg⟩
theorem CmI.later {B RR : Nat} {w : World} {Q : Rf} {y z : Value} {wr w1 : World} (h : CmI B RR w Q y z wr) (hb : Below wr.heap.size wr w1) : CmI B RR w Q y z w1 := h.wr (Wr.of_below hb fun _ => False) (fun _ e => e.elim)

theorem RdI.low {M b : Nat} {w w1 : World} {u : Value} {xs : List Int} (h : RdI (· = b) w u xs) (hb : Below M w w1) (hl : xs ≠ [] → b < M) : RdI (· = b) w1 u xs := by
  obtain ⟨ao, c, h1, h2, h3⟩ := h
  refine ⟨ao, c, h1, h2, fun hne => ?_⟩
  obtain ⟨x, off, e, rfl, hc⟩ := h3 hne
  exact ⟨x, off, e, rfl, fun i hi => (hb.cell (p := ⟨x, off + i, none⟩) (hl hne)).trans (hc i hi)⟩
theorem OwJ.low {S : Nat → Prop} {M : Nat} {w w1 : World} {u : Value} {ts : List Oj} (h : OwJ S w u ts) (hb : Below M w w1) (hS : ∀ b, S b → b < M) : OwJ S w1 u ts := by
  obtain ⟨ao, c, b, off, V, B, h1, ⟨h2, h2c, hroom⟩, h3, h4⟩ := h
  refine ⟨ao, c, b, off, V, B, h1, ⟨h2, h2c, fun o ho => ?_⟩, fun hne => ⟨(h3 hne).1, (h3 hne).2.1, fun o => (hb.frozen (p := ⟨b, o, none⟩) (hS _ (h3 hne).2.1)).trans ((h3 hne).2.2 o)⟩, fun i hi => ?_⟩
  · obtain ⟨k1, k2, k3, x, k4⟩ := hroom o ho
    exact ⟨k1, k2, fun q => (hb.frozen (p := ⟨b, q, none⟩) (hS _ k2)).trans (k3 q), x, (hb.cell (p := ⟨b, off + o, none⟩) (hS _ k2)).trans k4⟩
  · obtain ⟨f0, f1, f2, f3, f4⟩ := h4 i hi
    have hne : ts ≠ [] := by rintro rfl; exact absurd hi (Nat.not_lt_zero _)
    have hbM := hS _ (h3 hne).2.1
    exact ⟨(hb.cell (p := ⟨b, off + i * 3, none⟩) hbM).trans f0, (hb.cell (p := ⟨b, off + i * 3 + 1, none⟩) hbM).trans f1, (hb.cell (p := ⟨b, off + i * 3 + 2, none⟩) hbM).trans f2, f3.low hb (fun hn => hS _ (f4 hn).1), fun hn => ⟨(f4 hn).1, (f4 hn).2.1, fun o => (hb.frozen (p := ⟨B i, o, none⟩) (hS _ (f4 hn).1)).trans ((f4 hn).2.2.1 o), (f4 hn).2.2.2⟩⟩
theorem IvR.low {lo hi M : Nat} {w w1 : World} {y z : Value} {xs : List Int} {ps : List Oj} (h : IvR lo hi w y z xs ps) (hb : Below M w w1) (hM : hi ≤ M) : IvR lo hi w1 y z xs ps := by
  obtain ⟨b, S, h1, h2, h3, h4, h5⟩ := h
  exact ⟨b, S, h1.low hb (fun hn => by have := (h2 hn).2.1; omega), fun hn => ⟨(h2 hn).1, (h2 hn).2.1, (h2 hn).2.2.1, fun o => (hb.frozen (p := ⟨b, o, none⟩) (by have := (h2 hn).2.1; show b < M; omega)).trans ((h2 hn).2.2.2 o)⟩, Nat.le_trans h3 hb.size, h4, h5.low hb (fun x hx => by have := h4 x hx; omega)⟩
theorem Var6.low {M b : Nat} {w w1 : World} {x0 x1 x2 x3 x4 x5 : Value} (h : Var6 w b x0 x1 x2 x3 x4 x5) (hb : Below M w w1) (hM : b < M) : Var6 w1 b x0 x1 x2 x3 x4 x5 :=
  ⟨(hb.cell (p := ⟨b, 0, none⟩) hM).trans h.1, (hb.cell (p := ⟨b, 1, none⟩) hM).trans h.2.1, (hb.cell (p := ⟨b, 2, none⟩) hM).trans h.2.2.1, (hb.cell (p := ⟨b, 3, none⟩) hM).trans h.2.2.2.1, (hb.cell (p := ⟨b, 4, none⟩) hM).trans h.2.2.2.2.1, (hb.cell (p := ⟨b, 5, none⟩) hM).trans h.2.2.2.2.2⟩
theorem CmI.low {B RR M : Nat} {w : World} {Q : Rf} {y z : Value} {wr w1 : World} (h : CmI B RR w Q y z wr) (hb : Below M wr w1) (hM : RR < M) : CmI B RR w Q y z w1 := by
  obtain ⟨lo, hi, h1, h2, h3⟩ := h.mem
  have hg := h.ge
  exact ⟨Below.trans h.bel (hb.mono (by omega)), h.res.low hb (by omega), fun o => (hb.frozen (p := ⟨B, o, none⟩) (by show B < M; omega)).trans (h.rfz o), h.var.low hb hM, ⟨lo, hi, h1, h2, h3.low hb (by omega)⟩, hg⟩

set_option linter.unusedSimpArgs false in
set_option maxHeartbeats 4000000 in
set_option maxRecDepth 4000 in
/-- 'DrawCompactRaft': a store of new memory, right or bent, an index and data. -/
theorem drawCompactRaft {v : Value} {bs : List Nat} {w : World} (hv : RdB w.heap.size w v bs) (hbl : bs.length ≤ 1048576) :
    Calls Tryz.prog 14 #[v] w fun e w' => ∃ (Q : Rf) (y z u : Value) (p : Int) (xs : List Int), e = .returned (.tuple #[.agg #[.int .i64 Q.tm, .int .i64 Q.vt, .int .i64 Q.si, .int .i64 Q.st, y, z], .int .i64 p, u]) ∧ BdR Q ∧ Below w.heap.size w w' ∧ IvR w.heap.size w'.heap.size w' y z Q.sn Q.lg ∧ (-1 ≤ p ∧ p ≤ 10007) ∧ RdI (w.heap.size ≤ ·) w' u xs ∧ xs.length ≤ 21 := by
  have B0 := below_alloc w (.cells #[.int .i64 0, .int .i64 0, .int .i64 0, .int .i64 0, .slice none 0 0, .slice none 0 0] 27)
  have HV := hide (show RdB (w.alloc (.cells #[.int .i64 0, .int .i64 0, .int .i64 0, .int .i64 0, .slice none 0 0, .slice none 0 0] 27)).heap.size (w.alloc (.cells #[.int .i64 0, .int .i64 0, .int .i64 0, .int .i64 0, .slice none 0 0, .slice none 0 0] 27)) v bs from hv.laterH B0)
  have R0 := hide (Var6_new w (.int .i64 0) (.int .i64 0) (.int .i64 0) (.int .i64 0) (.slice none 0 0) (.slice none 0 0) 27)
  have F0 : Hid (∀ o, (w.alloc (.cells #[.int .i64 0, .int .i64 0, .int .i64 0, .int .i64 0, .slice none 0 0, .slice none 0 0] 27)).frozen? ⟨w.heap.size, o, none⟩ = false) := fun o => by simp [go_sem]
  have hs0 : (w.alloc (.cells #[.int .i64 0, .int .i64 0, .int .i64 0, .int .i64 0, .slice none 0 0, .slice none 0 0] 27)).heap.size = w.heap.size + 1 := by simp
  obtain ⟨W0, hW0⟩ : ∃ x, w.alloc (.cells #[.int .i64 0, .int .i64 0, .int .i64 0, .int .i64 0, .slice none 0 0, .slice none 0 0] 27) = x := ⟨_, rfl⟩
  rw [hW0] at B0 HV R0 F0 hs0
  have HB0 := hide B0
  obtain ⟨i0, hi, hz0, hz1, hz2⟩ := info_parts Tryz.infoU8
  obtain ⟨j0, ji, jz0, jz1, jz2⟩ := info_parts Tryz.infoInt
  obtain ⟨ao, c, hve, _⟩ := hv.src
  subst hve
  clear B0 hv
  go_enter Tryz.func14, Tryz.ntmps14
  go_upto_region 1 with fail
  (try rw [hW0])
  clear hW0
  go_wp2_with fail
  refine (drawTermAt HV.out).mono ?_
  rintro e w1 ⟨Q, y, z, p, rfl, hQ, hb1, hiv, hp1, hp2⟩
  obtain ⟨ay, cy, az, cz, ey, ez⟩ := hiv.shape
  subst ey
  subst ez
  have HQ := hide hQ
  have hzw1 := hb1.size
  have I2 : Hid (CmI w.heap.size w1.heap.size w Q (.slice ay Q.sn.length cy) (.slice az Q.lg.length cz) (w1.alloc (.cells #[.int .i64 Q.tm, .int .i64 Q.vt, .int .i64 Q.si, .int .i64 Q.st, .slice ay Q.sn.length cy, .slice az Q.lg.length cz] 27))) := by
    have hb := below_alloc w1 (.cells #[.int .i64 Q.tm, .int .i64 Q.vt, .int .i64 Q.si, .int .i64 Q.st, .slice ay Q.sn.length cy, .slice az Q.lg.length cz] 27)
    exact ⟨Below.trans (Below.trans HB0.out (hb1.mono (by omega))) (hb.mono (by omega)), (R0.out.later hb1).later hb, fun o => ((bcell hb).2 _ _ (by omega)).trans (((bcell hb1).2 _ _ (by omega)).trans (F0.out o)), Var6_new w1 (.int .i64 Q.tm) (.int .i64 Q.vt) (.int .i64 Q.si) (.int .i64 Q.st) (.slice ay Q.sn.length cy) (.slice az Q.lg.length cz) 27, ⟨W0.heap.size, w1.heap.size, by omega, Nat.le_refl _, hiv.later hb⟩, by omega⟩
  have HV2 := hide ((HV.out.laterH hb1).laterH (below_alloc w1 (.cells #[.int .i64 Q.tm, .int .i64 Q.vt, .int .i64 Q.si, .int .i64 Q.st, .slice ay Q.sn.length cy, .slice az Q.lg.length cz] 27)))
  clear hQ hiv hb1 R0 F0 HB0 HV
  go_upto_region 2 with fail
  obtain ⟨W2, hW2⟩ : ∃ x, w1.alloc (.cells #[.int .i64 Q.tm, .int .i64 Q.vt, .int .i64 Q.si, .int .i64 Q.st, .slice ay Q.sn.length cy, .slice az Q.lg.length cz] 27) = x := ⟨_, rfl⟩
  rw [hW2] at I2 HV2
  (try rw [hW2])
  clear hW2
  obtain ⟨RR, hRR⟩ : ∃ x, w1.heap.size = x := ⟨_, rfl⟩
  rw [hRR] at I2 hzw1
  (try rw [hRR])
  clear hRR
  have hRl := I2.out.var.lt
  have bA := below_alloc W2 (.cells #[.int .u8 3] 5)
  obtain ⟨a2, c2, e2, hsrc⟩ := (HV2.out.later bA).src
  injection e2 with e3 _ _
  subst e3
  have HS := hide hsrc
  have HOw := hide (ownsRow_fullF W2 [.int .u8 3] 5 (by simp))
  have HBA := hide bA
  clear bA hsrc
  go_wp2_with (at_builtin; refine wpList_append_any _ rfl _ _ 22 rfl W2.heap.size 5 i0 (.int .u8 0) 1 1 Tryz.underlying22 hi hz0 hz1 hz2 rfl (by decide) _ 1 _ (by rfl) HOw.out ao bs.length _ (u8s bs) (by rfl) (by simp [u8s]) HS.out (u8s_one _) (by unfold maxLen; omega) (by omega) (by simp) ?_; intro v' w3 hown hgrow)
  have hB3 : Below W2.heap.size W2 w3 := HBA.out.grown hgrow (by simp) (fun r hr => by simp [Value.ownBlock] at hr; omega)
  have HRB : Hid (RdB w3.heap.size w3 v' (3 :: bs)) := rdB_of_owns hown (by simp; omega) (by omega) (fun z hz => by
    rcases List.mem_cons.1 hz with rfl | hz
    · omega
    · exact HV2.out.small z hz)
  have I3 := hide (I2.out.later hB3)
  obtain ⟨a3, c3, hv3⟩ := owns_shapeR hown
  subst hv3
  have hz3 := hB3.size
  clear hown hgrow hB3 I2 HV2 HS HOw HBA
  go_wp2_with fail
  refine (l1Source HRB.out).mono ?_
  rintro e w4 ⟨rfl, hb4, hz4, hS4⟩
  have I4 := hide (I3.out.later hb4)
  have HS4 := hide hS4
  obtain ⟨s, hs⟩ : ∃ s, w3.heap.size = s := ⟨_, rfl⟩
  rw [hs] at HS4 hz4 hz3 ⊢
  have hRs : RR < s := by omega
  clear hb4 hS4 hs I3 HRB
  go_wp2_with fail
  refine (l10DrawDataW HS4.out (by omega)).mono ?_
  rintro e w5 ⟨a5, n, c5, xs, rfl, hxn, hn, hown, t5, hd5⟩
  have I5 := hide (I4.out.wr hd5.2.1 (fun b e => by have e : b = s := e; omega))
  have HO5 := hide hown
  have D5 := hide hd5
  have HX := hide hxn
  have hz5 := hd5.2.1.size
  have ht5 := hd5.2.2
  clear hown hd5 hxn I4
  go_wp2_with fail
  refine (l1ChanceE 14 D5.out.1 (by omega) (by omega) (by omega)).mono ?_
  rintro e w6 ⟨ch, rfl, t6, hd6⟩
  have I6 := hide (I5.out.wr hd6.2.1 (fun b e => by have e : b = s := e; omega))
  have HO6 := hide (ownsRow_wr HO5.out hd6.2.1 (ownBlock_ne HO5.out (by omega)))
  have hz6 := hd6.2.1.size
  clear hd6 I5 HO5 D5 HS4
  cases ch with
  | true =>
    go_wp2_with (at_builtin; refine wpList_append_lies _ rfl _ _ _ rfl w4.heap.size 2 j0 (.int .i64 0) 1 8 Tryz.underlying24 ji jz0 jz1 jz2 rfl (by omega) _ n _ (by rfl) (HO6.out.alloc _) ⟨w6.heap.size, 0, none⟩ 1 1 [.int .i64 (-1)] (by rfl) (by rfl) (World.news_of_block (cs := #[.int .i64 (-1)]) (t := 2) (fr := (0, 0)) (heap_alloc_new w6 _)) (by simp [Value.oneCell']) (by omega) (by unfold maxLen; omega) (by omega) (by simp; omega) (w6.heap.size + 1) (by simp) ?_)
    intro g cap w7 hown hgrow hat hlt7
    have HB7 : Below w4.heap.size w6 w7 := (Below.mono (below_alloc w6 (.cells #[.int .i64 (-1)] 2)) (by omega)).grown hgrow (by simp; omega) (fun r hr => (HO6.out.lt r hr).1)
    have I7 := hide (I6.out.low HB7 (by omega))
    have hx7 : (xs ++ [-1]).length = n + 1 := by simp [HX.out]
    have HO7 : Hid (w7.ownsRow w4.heap.size 2 1 (.slice (some ⟨g, 0, none⟩) (n + 1) cap) (n + 1) ((xs ++ [-1]).map (Value.int .i64))) := by rw [Hid, List.map_append, hz4]; exact hown
    clear hown hgrow hat hlt7 I6 HO6 HB7
    obtain ⟨r0, r1, r2, r3, r4, r5⟩ := I7.out.var
    obtain ⟨q0, q1, q2, q3, q4, q5⟩ := I7.out.res
    have f0 := I7.out.rfz 0
    have f1 := I7.out.rfz 1
    have f2 := I7.out.rfz 2
    have f3 := I7.out.rfz 3
    have f4 := I7.out.rfz 4
    have f5 := I7.out.rfz 5
    have hw6 : Wr (fun x => x = w.heap.size) w7 ((((((w7.setCell ⟨w.heap.size, 0, none⟩ (.int .i64 Q.tm)).setCell ⟨w.heap.size, 1, none⟩ (.int .i64 Q.vt)).setCell ⟨w.heap.size, 2, none⟩ (.int .i64 Q.si)).setCell ⟨w.heap.size, 3, none⟩ (.int .i64 Q.st)).setCell ⟨w.heap.size, 4, none⟩ (.slice ay Q.sn.length cy)).setCell ⟨w.heap.size, 5, none⟩ (.slice az Q.lg.length cz)) := (Wr.setCell (p := ⟨w.heap.size, 5, none⟩) (Wr.setCell (p := ⟨w.heap.size, 4, none⟩) (Wr.setCell (p := ⟨w.heap.size, 3, none⟩) (Wr.setCell (p := ⟨w.heap.size, 2, none⟩) (Wr.setCell (p := ⟨w.heap.size, 1, none⟩) (Wr.setCell (p := ⟨w.heap.size, 0, none⟩) (Wr.refl (fun x => x = w.heap.size) w7) rfl (.int .i64 Q.tm)) rfl (.int .i64 Q.vt)) rfl (.int .i64 Q.si)) rfl (.int .i64 Q.st)) rfl (.slice ay Q.sn.length cy)) rfl (.slice az Q.lg.length cz))
    obtain ⟨lo, hi2, l1, l2, iv⟩ := I7.out.mem
    have hvl := I7.out.var.lt
    have hFin : IvR w.heap.size ((((((w7.setCell ⟨w.heap.size, 0, none⟩ (.int .i64 Q.tm)).setCell ⟨w.heap.size, 1, none⟩ (.int .i64 Q.vt)).setCell ⟨w.heap.size, 2, none⟩ (.int .i64 Q.si)).setCell ⟨w.heap.size, 3, none⟩ (.int .i64 Q.st)).setCell ⟨w.heap.size, 4, none⟩ (.slice ay Q.sn.length cy)).setCell ⟨w.heap.size, 5, none⟩ (.slice az Q.lg.length cz)).heap.size ((((((w7.setCell ⟨w.heap.size, 0, none⟩ (.int .i64 Q.tm)).setCell ⟨w.heap.size, 1, none⟩ (.int .i64 Q.vt)).setCell ⟨w.heap.size, 2, none⟩ (.int .i64 Q.si)).setCell ⟨w.heap.size, 3, none⟩ (.int .i64 Q.st)).setCell ⟨w.heap.size, 4, none⟩ (.slice ay Q.sn.length cy)).setCell ⟨w.heap.size, 5, none⟩ (.slice az Q.lg.length cz)) (.slice ay Q.sn.length cy) (.slice az Q.lg.length cz) Q.sn Q.lg := (iv.wr hw6 (fun b h1 h2 e => by have e : b = w.heap.size := e; omega)).up (by omega) (Nat.le_trans (Nat.le_trans l2 (Nat.le_of_lt hvl)) hw6.size)
    have hBel : Below w.heap.size w ((((((w7.setCell ⟨w.heap.size, 0, none⟩ (.int .i64 Q.tm)).setCell ⟨w.heap.size, 1, none⟩ (.int .i64 Q.vt)).setCell ⟨w.heap.size, 2, none⟩ (.int .i64 Q.si)).setCell ⟨w.heap.size, 3, none⟩ (.int .i64 Q.st)).setCell ⟨w.heap.size, 4, none⟩ (.slice ay Q.sn.length cy)).setCell ⟨w.heap.size, 5, none⟩ (.slice az Q.lg.length cz)) := Below.trans I7.out.bel (hw6.below (by omega) (fun b e => by omega))
    have hRd := ((ow_of_owns hx7 HO7.out (by rw [hx7]; omega)).rd).wr hw6 (fun _ b hb e => by have e : b = w.heap.size := e; omega)
    go_wp2
    refine bodyPost_ret (v := .tuple #[.agg #[.int .i64 Q.tm, .int .i64 Q.vt, .int .i64 Q.si, .int .i64 Q.st, .slice ay Q.sn.length cy, .slice az Q.lg.length cz], .int .i64 p, .slice (some ⟨g, 0, none⟩) (n + 1) cap]) (by simp [results, Tryz.results14, go_sem, q0, q1, q2, q3, q4, q5]) rfl ⟨Q, _, _, _, p, xs ++ [-1], rfl, HQ.out, hBel, hFin, ⟨hp1, hp2⟩, hRd.narrow (fun _ b hb => by show w.heap.size ≤ b; omega), by rw [hx7]; omega⟩
  | false =>
    obtain ⟨r0, r1, r2, r3, r4, r5⟩ := I6.out.var
    obtain ⟨q0, q1, q2, q3, q4, q5⟩ := I6.out.res
    have f0 := I6.out.rfz 0
    have f1 := I6.out.rfz 1
    have f2 := I6.out.rfz 2
    have f3 := I6.out.rfz 3
    have f4 := I6.out.rfz 4
    have f5 := I6.out.rfz 5
    have hw6 : Wr (fun x => x = w.heap.size) w6 ((((((w6.setCell ⟨w.heap.size, 0, none⟩ (.int .i64 Q.tm)).setCell ⟨w.heap.size, 1, none⟩ (.int .i64 Q.vt)).setCell ⟨w.heap.size, 2, none⟩ (.int .i64 Q.si)).setCell ⟨w.heap.size, 3, none⟩ (.int .i64 Q.st)).setCell ⟨w.heap.size, 4, none⟩ (.slice ay Q.sn.length cy)).setCell ⟨w.heap.size, 5, none⟩ (.slice az Q.lg.length cz)) := (Wr.setCell (p := ⟨w.heap.size, 5, none⟩) (Wr.setCell (p := ⟨w.heap.size, 4, none⟩) (Wr.setCell (p := ⟨w.heap.size, 3, none⟩) (Wr.setCell (p := ⟨w.heap.size, 2, none⟩) (Wr.setCell (p := ⟨w.heap.size, 1, none⟩) (Wr.setCell (p := ⟨w.heap.size, 0, none⟩) (Wr.refl (fun x => x = w.heap.size) w6) rfl (.int .i64 Q.tm)) rfl (.int .i64 Q.vt)) rfl (.int .i64 Q.si)) rfl (.int .i64 Q.st)) rfl (.slice ay Q.sn.length cy)) rfl (.slice az Q.lg.length cz))
    obtain ⟨lo, hi2, l1, l2, iv⟩ := I6.out.mem
    have hvl := I6.out.var.lt
    have hFin : IvR w.heap.size ((((((w6.setCell ⟨w.heap.size, 0, none⟩ (.int .i64 Q.tm)).setCell ⟨w.heap.size, 1, none⟩ (.int .i64 Q.vt)).setCell ⟨w.heap.size, 2, none⟩ (.int .i64 Q.si)).setCell ⟨w.heap.size, 3, none⟩ (.int .i64 Q.st)).setCell ⟨w.heap.size, 4, none⟩ (.slice ay Q.sn.length cy)).setCell ⟨w.heap.size, 5, none⟩ (.slice az Q.lg.length cz)).heap.size ((((((w6.setCell ⟨w.heap.size, 0, none⟩ (.int .i64 Q.tm)).setCell ⟨w.heap.size, 1, none⟩ (.int .i64 Q.vt)).setCell ⟨w.heap.size, 2, none⟩ (.int .i64 Q.si)).setCell ⟨w.heap.size, 3, none⟩ (.int .i64 Q.st)).setCell ⟨w.heap.size, 4, none⟩ (.slice ay Q.sn.length cy)).setCell ⟨w.heap.size, 5, none⟩ (.slice az Q.lg.length cz)) (.slice ay Q.sn.length cy) (.slice az Q.lg.length cz) Q.sn Q.lg := (iv.wr hw6 (fun b h1 h2 e => by have e : b = w.heap.size := e; omega)).up (by omega) (Nat.le_trans (Nat.le_trans l2 (Nat.le_of_lt hvl)) hw6.size)
    have hBel : Below w.heap.size w ((((((w6.setCell ⟨w.heap.size, 0, none⟩ (.int .i64 Q.tm)).setCell ⟨w.heap.size, 1, none⟩ (.int .i64 Q.vt)).setCell ⟨w.heap.size, 2, none⟩ (.int .i64 Q.si)).setCell ⟨w.heap.size, 3, none⟩ (.int .i64 Q.st)).setCell ⟨w.heap.size, 4, none⟩ (.slice ay Q.sn.length cy)).setCell ⟨w.heap.size, 5, none⟩ (.slice az Q.lg.length cz)) := Below.trans I6.out.bel (hw6.below (by omega) (fun b e => by omega))
    have hRd := ((ow_of_owns HX.out HO6.out (by have := HX.out; omega)).rd).wr hw6 (fun _ b hb e => by have e : b = w.heap.size := e; omega)
    go_wp2
    refine bodyPost_ret (v := .tuple #[.agg #[.int .i64 Q.tm, .int .i64 Q.vt, .int .i64 Q.si, .int .i64 Q.st, .slice ay Q.sn.length cy, .slice az Q.lg.length cz], .int .i64 p, .slice a5 n c5]) (by simp [results, Tryz.results14, go_sem, q0, q1, q2, q3, q4, q5]) rfl ⟨Q, _, _, _, p, xs, rfl, HQ.out, hBel, hFin, ⟨hp1, hp2⟩, hRd.narrow (fun _ b hb => by show w.heap.size ≤ b; omega), by have := HX.out; omega⟩
end Go.Proofs.YtncgpfapepminaaGreatDoor
