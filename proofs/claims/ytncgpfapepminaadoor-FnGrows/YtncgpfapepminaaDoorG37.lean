/- Bh1 in one text: what each says stands at its head below. -/
import Derived.Test.YtncgpfapepminaaDoorG36
/- Chapter 15, draws: 'spec.DrawSetHard', walked. Made by program (genbh.py). -/
namespace Go.Proofs.YtncgpfapepminaaDoor
open Go.RowKit

theorem RdB.laterH {s : Nat} {w w' : World} {v : Value} {bs : List Nat} (h : RdB s w v bs) (hb : Below w.heap.size w w') : RdB w'.heap.size w' v bs := by
  obtain ⟨ao, c, e1, e2, e3⟩ := h
  refine ⟨ao, c, e1, e2, fun hne => ?_⟩
  obtain ⟨b, off, f1, f2, f3⟩ := e3 hne
  have h1 := cell_later hb (f3 0 (List.length_pos_iff.2 hne)).1
  have := World.block_lt_of_cell? _ _ h1
  exact ⟨b, off, f1, by simp at this; omega, fun i hi => ⟨cell_later hb (f3 i hi).1, (f3 i hi).2⟩⟩
theorem list4 {P : Int → Prop} {a b c d : Int} {i : Nat} (hi : i < 4) (ha : P a) (hb : P b) (hc : P c) (hd : P d) : P (([a, b, c, d] : List Int).getD i 0) := by
  rcases i with _ | _ | _ | _ | i
  · exact ha
  · exact hb
  · exact hc
  · exact hd
  · omega
theorem list3 {P : Int → Prop} {a b c : Int} {i : Nat} (hi : i < 3) (ha : P a) (hb : P b) (hc : P c) : P (([a, b, c] : List Int).getD i 0) := by
  rcases i with _ | _ | _ | i
  · exact ha
  · exact hb
  · exact hc
  · omega

/-- A store that was drawn: its variable (block RR), the result's variable (block B) empty, the source s between. -/
structure DhI (B s RR : Nat) (v : Value) (bs : List Nat) (N : Nat) (w : World) (Q : Rf) (y z : Value) (t5 : Nat) (wr : World) : Prop where
  bel : Below B w wr
  src : Src s v bs wr t5
  ts : t5 ≤ N
  res : Var6 wr B (.int .i64 0) (.int .i64 0) (.int .i64 0) (.int .i64 0) (.slice none 0 0) (.slice none 0 0)
  rfz : ∀ o, wr.frozen? ⟨B, o, none⟩ = false
  var : Var6 wr RR (.int .i64 Q.tm) (.int .i64 Q.vt) (.int .i64 Q.si) (.int .i64 Q.st) y z
  mem : ∃ lo hi, s < lo ∧ hi ≤ wr.heap.size ∧ IvR lo hi wr y z Q.sn Q.lg
  old : B < s
  oth : s < RR
theorem DhI.on {B s RR : Nat} {v : Value} {bs : List Nat} {M N : Nat} {w : World} {Q : Rf} {y z : Value} {t5 t6 : Nat} {wr w1 : World} (h : DhI B s RR v bs N w Q y z t5 wr) (hd : Drawn M s v bs t5 t6 wr w1) : DhI B s RR v bs (N + M) w Q y z t6 w1 := by
  obtain ⟨lo, hi, h1, h2, h3⟩ := h.mem
  have ho := h.old
  have hoth := h.oth
  have hr := h.res.lt
  have hz := hd.2.1.size
  have ht := h.ts
  have ht2 := hd.2.2
  exact ⟨Below.trans h.bel (hd.2.1.below (by omega) (fun b e => by omega)), hd.1, by omega, h.res.wr hd.2.1 (by show ¬ B = s; omega), fun o => (hd.2.1.frz _ _ hr).trans (h.rfz o), h.var.wr hd.2.1 (by show ¬ RR = s; omega), ⟨lo, hi, h1, Nat.le_trans h2 hz, h3.wr hd.2.1 (fun b k1 k2 e => by have e : b = s := e; omega)⟩, ho, hoth⟩
theorem DhI.later {B s RR : Nat} {v : Value} {bs : List Nat} {N : Nat} {w : World} {Q : Rf} {y z : Value} {t5 : Nat} {wr w1 : World} (h : DhI B s RR v bs N w Q y z t5 wr) (hb : Below wr.heap.size wr w1) : DhI B s RR v bs N w Q y z t5 w1 := by
  obtain ⟨lo, hi, h1, h2, h3⟩ := h.mem
  have hr := h.res.lt
  exact ⟨h.bel.trans (hb.mono (by omega)), h.src.later hb, h.ts, h.res.later hb, fun o => ((bcell hb).2 _ _ hr).trans (h.rfz o), h.var.later hb, ⟨lo, hi, h1, Nat.le_trans h2 hb.size, h3.later hb⟩, h.old, h.oth⟩

set_option linter.unusedSimpArgs false in
set_option maxHeartbeats 4000000 in
set_option maxRecDepth 4000 in
/-- 'DrawSetHard': a store of new memory, right or bent, and two numbers. -/
theorem drawSetHard {v : Value} {bs : List Nat} {w : World} (hv : RdB w.heap.size w v bs) :
    Calls Tryd.prog 7 #[v] w fun e w' => ∃ (Q : Rf) (y z : Value) (p q : Int), e = .returned (.tuple #[.agg #[.int .i64 Q.tm, .int .i64 Q.vt, .int .i64 Q.si, .int .i64 Q.st, y, z], .int .i64 p, .int .i64 q]) ∧ BdR Q ∧ Below w.heap.size w w' ∧ IvR w.heap.size w'.heap.size w' y z Q.sn Q.lg ∧ (-2 ≤ p ∧ p ≤ 1001) ∧ -1 ≤ q ∧ q ≤ 10 := by
  skip
  have B0 := below_alloc w (.cells #[.int .i64 0, .int .i64 0, .int .i64 0, .int .i64 0, .slice none 0 0, .slice none 0 0] 27)
  have HV := hide (show RdB (w.alloc (.cells #[.int .i64 0, .int .i64 0, .int .i64 0, .int .i64 0, .slice none 0 0, .slice none 0 0] 27)).heap.size (w.alloc (.cells #[.int .i64 0, .int .i64 0, .int .i64 0, .int .i64 0, .slice none 0 0, .slice none 0 0] 27)) v bs from hv.laterH B0)
  have R0 := hide (Var6_new w (.int .i64 0) (.int .i64 0) (.int .i64 0) (.int .i64 0) (.slice none 0 0) (.slice none 0 0) 27)
  have F0 : Hid (∀ o, (w.alloc (.cells #[.int .i64 0, .int .i64 0, .int .i64 0, .int .i64 0, .slice none 0 0, .slice none 0 0] 27)).frozen? ⟨w.heap.size, o, none⟩ = false) := fun o => by simp [go_sem]
  have hs0 : (w.alloc (.cells #[.int .i64 0, .int .i64 0, .int .i64 0, .int .i64 0, .slice none 0 0, .slice none 0 0] 27)).heap.size = w.heap.size + 1 := by simp
  obtain ⟨W0, hW0⟩ : ∃ x, w.alloc (.cells #[.int .i64 0, .int .i64 0, .int .i64 0, .int .i64 0, .slice none 0 0, .slice none 0 0] 27) = x := ⟨_, rfl⟩
  rw [hW0] at B0 HV R0 F0 hs0
  have HB0 := hide B0
  obtain ⟨ao, c, rfl, h2, h3⟩ := hv
  clear h2 h3 B0
  go_enter Tryd.func7, Tryd.ntmps7
  go_upto_region 1 with fail
  (try rw [hW0])
  clear hW0
  go_wp2_with fail
  refine (l1Source HV.out).mono ?_
  rintro e w1 ⟨rfl, hb1, hz1, hS1⟩
  rw [hs0] at hz1 hS1 ⊢
  have HS1 := hide hS1
  have HR1 := hide (R0.out.later hb1)
  have HF1 : Hid (∀ o, w1.frozen? ⟨w.heap.size, o, none⟩ = false) := fun o => ((bcell hb1).2 _ _ (by omega)).trans (F0.out o)
  have HB1 := hide (below_on HB0.out hb1)
  clear hb1 hS1 R0 F0 HB0 HV
  go_wp2_with fail
  refine (l10Bent HS1.out (by omega)).mono ?_
  rintro e w2 ⟨Q, y, z, rfl, hQ, hiv, t2, hd2⟩
  obtain ⟨ay, cy, az, cz, ey, ez⟩ := hiv.shape
  subst ey
  subst ez
  have HQ := hide hQ
  have hz2 := hd2.2.1.size
  have I3 : Hid (DhI w.heap.size (w.heap.size + 1) w2.heap.size (.slice ao bs.length c) bs 2300 w Q (.slice ay Q.sn.length cy) (.slice az Q.lg.length cz) t2 (w2.alloc (.cells #[.int .i64 Q.tm, .int .i64 Q.vt, .int .i64 Q.si, .int .i64 Q.st, .slice ay Q.sn.length cy, .slice az Q.lg.length cz] 27))) := by
    have hb := below_alloc w2 (.cells #[.int .i64 Q.tm, .int .i64 Q.vt, .int .i64 Q.si, .int .i64 Q.st, .slice ay Q.sn.length cy, .slice az Q.lg.length cz] 27)
    exact ⟨Below.trans (Below.trans HB1.out (hd2.2.1.below (by omega) (fun b e => by omega))) (hb.mono (by omega)), hd2.1.later hb, by have := hd2.2.2; omega, (HR1.out.wr hd2.2.1 (by show ¬ w.heap.size = w.heap.size + 1; omega)).later hb, fun o => ((bcell hb).2 _ _ (by omega)).trans ((hd2.2.1.frz _ _ (by omega)).trans (HF1.out o)), Var6_new w2 (.int .i64 Q.tm) (.int .i64 Q.vt) (.int .i64 Q.si) (.int .i64 Q.st) (.slice ay Q.sn.length cy) (.slice az Q.lg.length cz) 27, ⟨w1.heap.size, w2.heap.size, by omega, by simp, hiv.later hb⟩, by omega, by omega⟩
  clear hQ hiv hd2 HS1 HR1 HF1 HB1
  go_upto_region 3 with fail
  obtain ⟨W3, hW3⟩ : ∃ x, w2.alloc (.cells #[.int .i64 Q.tm, .int .i64 Q.vt, .int .i64 Q.si, .int .i64 Q.st, .slice ay Q.sn.length cy, .slice az Q.lg.length cz] 27) = x := ⟨_, rfl⟩
  rw [hW3] at I3
  (try rw [hW3])
  clear hW3
  obtain ⟨RR, hRR⟩ : ∃ x, w2.heap.size = x := ⟨_, rfl⟩
  rw [hRR] at I3 hz2
  (try rw [hRR])
  clear hRR
  have hq := HQ.out.tm
  have hq2 := HQ.out.vt
  obtain ⟨g0, g1, g2, g3, g4, g5⟩ := I3.out.var
  refine wp_region_held_drew (S := fun w' => w'.cell? ⟨RR, 0, none⟩ = some (.int .i64 Q.tm) ∧ w'.cell? ⟨RR, 1, none⟩ = some (.int .i64 Q.vt) ∧ w'.cell? ⟨RR, 2, none⟩ = some (.int .i64 Q.si) ∧ w'.cell? ⟨RR, 3, none⟩ = some (.int .i64 Q.st) ∧ w'.cell? ⟨RR, 4, none⟩ = some (.slice ay Q.sn.length cy) ∧ w'.cell? ⟨RR, 5, none⟩ = some (.slice az Q.lg.length cz)) (by kernel_rfl) ⟨g0, g1, g2, g3, g4, g5⟩ (fun _ => ?_)
  clear g0 g1 g2 g3 g4 g5
  refine forgetH (fun wx => DhI w.heap.size (w.heap.size + 1) RR (.slice ao bs.length c) bs 2300 w Q (.slice ay Q.sn.length cy) (.slice az Q.lg.length cz) t2 wx) (I3.out.later (below_drewN W3 1)) ?_
  rintro Y0 i4
  have I4 := hide i4
  clear i4 I3
  have hHeld := I4.out.var
  refine wpAnyH_take (i := 0) (v := ?vt1x0) rfl (by kernel_rfl) (by kernel_rfl) (by kernel_rfl) (fun _ _ _ h => h) (Or.inl ⟨by rfl, ?ht1x0⟩) hHeld ?rt1x0
  case ht1x0 => intro w9 hSw; (try dsimp only at hSw); first | (go_simp; done) | (go_simp; with_reducible rfl)
  try simp only [Act.put, List.setIfInBounds_toArray, List.set_cons_zero, List.set_cons_succ, List.getElem_toArray, List.getElem_cons_zero]
  refine wpAnyH_take (i := 1) (v := ?vt2x1) rfl (by kernel_rfl) (by kernel_rfl) (by kernel_rfl) (fun _ _ _ h => h) (Or.inl ⟨by rfl, ?ht2x1⟩) hHeld ?rt2x1
  case ht2x1 => intro w9 hSw; (try dsimp only at hSw); first | (go_simp; done) | (go_simp; with_reducible rfl)
  try simp only [Act.put, List.setIfInBounds_toArray, List.set_cons_zero, List.set_cons_succ, List.getElem_toArray, List.getElem_cons_zero, List.getElem_cons_succ]
  refine wpAnyH_take (i := 2) (v := ?vt3x2) rfl (by kernel_rfl) (by kernel_rfl) (by kernel_rfl) (fun _ _ _ h => h) (Or.inl ⟨by rfl, ?ht3x2⟩) hHeld ?rt3x2
  case ht3x2 => intro w9 hSw; (try dsimp only at hSw); first | (go_simp; done) | (go_simp; with_reducible rfl)
  try simp only [Act.put, List.setIfInBounds_toArray, List.set_cons_zero, List.set_cons_succ, List.getElem_toArray, List.getElem_cons_zero, List.getElem_cons_succ]
  refine wpAnyH_take (i := 3) (v := ?vt4x3) rfl (by kernel_rfl) (by kernel_rfl) (by kernel_rfl) (fun _ _ _ h => h) (Or.inl ⟨by rfl, ?ht4x3⟩) hHeld ?rt4x3
  case ht4x3 => intro w9 hSw; (try dsimp only at hSw); first | (go_simp; done) | (go_simp; with_reducible rfl)
  try simp only [Act.put, List.setIfInBounds_toArray, List.set_cons_zero, List.set_cons_succ, List.getElem_toArray, List.getElem_cons_zero, List.getElem_cons_succ]
  refine wpAnyH_take (i := 4) (v := ?vt5x4) rfl (by kernel_rfl) (by kernel_rfl) (by kernel_rfl) (fun _ _ _ h => h) (Or.inl ⟨by rfl, ?ht5x4⟩) hHeld ?rt5x4
  case ht5x4 => intro w9 hSw; (try dsimp only at hSw); first | (go_simp; done) | (go_simp; with_reducible rfl)
  try simp only [Act.put, List.setIfInBounds_toArray, List.set_cons_zero, List.set_cons_succ, List.getElem_toArray, List.getElem_cons_zero, List.getElem_cons_succ]
  refine wpAnyH_take (i := 5) (v := ?vt6x5) rfl (by kernel_rfl) (by kernel_rfl) (by kernel_rfl) (fun _ _ _ h => h) (Or.inl ⟨by rfl, ?ht6x5⟩) hHeld ?rt6x5
  case ht6x5 => intro w9 hSw; (try dsimp only at hSw); first | (go_simp; done) | (go_simp; with_reducible rfl)
  try simp only [Act.put, List.setIfInBounds_toArray, List.set_cons_zero, List.set_cons_succ, List.getElem_toArray, List.getElem_cons_zero, List.getElem_cons_succ]
  refine wpAnyH_take (i := 6) (v := ?vt7x6) rfl (by kernel_rfl) (by kernel_rfl) (by kernel_rfl) (fun _ _ _ h => h) (Or.inl ⟨by rfl, ?ht7x6⟩) hHeld ?rt7x6
  case ht7x6 => intro w9 hSw; (try dsimp only at hSw); first | (go_simp; done) | (go_simp; with_reducible rfl)
  try simp only [Act.put, List.setIfInBounds_toArray, List.set_cons_zero, List.set_cons_succ, List.getElem_toArray, List.getElem_cons_zero, List.getElem_cons_succ]
  have ew : IntKind.i64.wrap (Q.tm + 1) = Q.tm + 1 := by simp [IntKind.wrap, IntKind.bits, IntKind.signed]; omega
  rw [ew]
  clear ew
  refine wpAnyH_take (i := 7) (v := ?vt8x7) rfl (by kernel_rfl) (by kernel_rfl) (by kernel_rfl) (fun _ _ _ h => h) (Or.inl ⟨by rfl, ?ht8x7⟩) hHeld ?rt8x7
  case ht8x7 => intro w9 hSw; (try dsimp only at hSw); first | (go_simp; done) | (go_simp; with_reducible rfl)
  try simp only [Act.put, List.setIfInBounds_toArray, List.set_cons_zero, List.set_cons_succ, List.getElem_toArray, List.getElem_cons_zero, List.getElem_cons_succ]
  refine wpAnyH_take (i := 8) (v := ?vt9x8) rfl (by kernel_rfl) (by kernel_rfl) (by kernel_rfl) (fun _ _ _ h => h) (Or.inl ⟨by rfl, ?ht9x8⟩) hHeld ?rt9x8
  case ht9x8 => intro w9 hSw; (try dsimp only at hSw); first | (go_simp; done) | (go_simp; with_reducible rfl)
  try simp only [Act.put, List.setIfInBounds_toArray, List.set_cons_zero, List.set_cons_succ, List.getElem_toArray, List.getElem_cons_zero, List.getElem_cons_succ]
  refine wpAnyH_take (i := 9) (v := ?vt10x9) rfl (by kernel_rfl) (by kernel_rfl) (by kernel_rfl) (fun _ _ _ h => h) (Or.inl ⟨by rfl, ?ht10x9⟩) hHeld ?rt10x9
  case ht10x9 => intro w9 hSw; (try dsimp only at hSw); first | (go_simp; done) | (go_simp; with_reducible rfl)
  try simp only [Act.put, List.setIfInBounds_toArray, List.set_cons_zero, List.set_cons_succ, List.getElem_toArray, List.getElem_cons_zero, List.getElem_cons_succ]
  have ew : IntKind.i64.wrap (Q.tm - 1) = Q.tm - 1 := by simp [IntKind.wrap, IntKind.bits, IntKind.signed]; omega
  rw [ew]
  clear ew
  refine wpAnyH_take (i := 12) (v := ?vt11x12) rfl (by kernel_rfl) (by kernel_rfl) (by kernel_rfl) (fun _ _ _ h => h) (Or.inl ⟨by rfl, ?ht11x12⟩) hHeld ?rt11x12
  case ht11x12 => intro w9 hSw; (try dsimp only at hSw); first | (go_simp; done) | (go_simp; with_reducible rfl)
  try simp only [Act.put, List.setIfInBounds_toArray, List.set_cons_zero, List.set_cons_succ, List.getElem_toArray, List.getElem_cons_zero, List.getElem_cons_succ]
  refine wpAnyH_take (i := 13) (v := ?vt12x13) rfl (by kernel_rfl) (by kernel_rfl) (by kernel_rfl) (fun _ _ _ h => h) (Or.inl ⟨by rfl, ?ht12x13⟩) hHeld ?rt12x13
  case ht12x13 => intro w9 hSw; (try dsimp only at hSw); first | (go_simp; done) | (go_simp; with_reducible rfl)
  try simp only [Act.put, List.setIfInBounds_toArray, List.set_cons_zero, List.set_cons_succ, List.getElem_toArray, List.getElem_cons_zero, List.getElem_cons_succ]
  refine wpAnyH_take (i := 14) (v := ?vt13x14) rfl (by kernel_rfl) (by kernel_rfl) (by kernel_rfl) (fun _ _ _ h => h) (Or.inl ⟨by rfl, ?ht13x14⟩) hHeld ?rt13x14
  case ht13x14 => intro w9 hSw; (try dsimp only at hSw); first | (go_simp; done) | (go_simp; with_reducible rfl)
  try simp only [Act.put, List.setIfInBounds_toArray, List.set_cons_zero, List.set_cons_succ, List.getElem_toArray, List.getElem_cons_zero, List.getElem_cons_succ]
  refine wpAnyH_take (i := 15) (v := ?vt14x15) rfl (by kernel_rfl) (by kernel_rfl) (by kernel_rfl) (fun _ _ _ h => h) (Or.inl ⟨by rfl, ?ht14x15⟩) hHeld ?rt14x15
  case ht14x15 => intro w9 hSw; (try dsimp only at hSw); first | (go_simp; done) | (go_simp; with_reducible rfl)
  try simp only [Act.put, List.setIfInBounds_toArray, List.set_cons_zero, List.set_cons_succ, List.getElem_toArray, List.getElem_cons_zero, List.getElem_cons_succ]
  refine wpAnyH_ready (rs := [10]) (by kernel_rfl) (by simp) (AllReadyH.cons rfl (fun K hK => ?_) AllReadyH.nil)
  go_simp
  have I5 := hide (I4.out.later (below_alloc Y0 (.cells #[.int .i64 Q.tm, .int .i64 (Q.tm + 1), .int .i64 (Q.tm - 1), .int .i64 1000] 2)))
  have hsY : w.heap.size + 1 < Y0.heap.size := by have := I4.out.oth; have := I4.out.var.lt; omega
  have HRd := hide (RdI_new (w.heap.size + 1) Y0 [Q.tm, Q.tm + 1, Q.tm - 1, 1000] 2 hsY (by simp))
  clear hHeld I4
  refine hK.out _ _ I5.out.var (fun hHeld => ?_)
  clear hK K
  try simp only [Act.put, List.setIfInBounds_toArray, List.set_cons_zero, List.set_cons_succ, List.getElem_toArray, List.getElem_cons_zero, List.getElem_cons_succ]
  refine wpAnyH_ready (rs := [11]) (by kernel_rfl) (by simp) (AllReadyH.cons rfl (fun K hK => ?_) AllReadyH.nil)
  go_simp
  go_at_call 25
  have hts := I5.out.ts
  refine (l1Pick (xs := [Q.tm, Q.tm + 1, Q.tm - 1, 1000]) I5.out.src (by omega) HRd.out (by simp) (by simp)).mono ?_
  rintro e Y1 ⟨i, hi, rfl, t6, hd⟩
  have hp := list4 (P := fun x => -2 ≤ x ∧ x ≤ 1001) (a := Q.tm) (b := Q.tm + 1) (c := Q.tm - 1) (d := 1000) hi (by omega) (by omega) (by omega) (by omega)
  obtain ⟨p, hpx⟩ : ∃ p, ([Q.tm, Q.tm + 1, Q.tm - 1, 1000] : List Int).getD i 0 = p := ⟨_, rfl⟩
  rw [hpx] at hp ⊢
  have I6 := hide (I5.out.on hd)
  clear hd hHeld I5 HRd hi hpx hts
  refine hK.out _ _ I6.out.var (fun hHeld => ?_)
  clear hK K
  try simp only [Act.put, List.setIfInBounds_toArray, List.set_cons_zero, List.set_cons_succ, List.getElem_toArray, List.getElem_cons_zero, List.getElem_cons_succ]
  refine wpAnyH_ready (rs := [16]) (by kernel_rfl) (by simp) (AllReadyH.cons rfl (fun K hK => ?_) AllReadyH.nil)
  go_simp
  go_at_call 26
  have hts := I6.out.ts
  refine (l1Next 4 I6.out.src (by omega) (by omega) (by omega)).mono ?_
  rintro e Y2 ⟨k, rfl, k0, k1, t7, hd⟩
  have k2 := k1 (by omega)
  have I7 := hide (I6.out.on hd)
  clear hd hHeld I6 k1 hts
  refine hK.out _ _ I7.out.var (fun hHeld => ?_)
  clear hK K
  try simp only [Act.put, List.setIfInBounds_toArray, List.set_cons_zero, List.set_cons_succ, List.getElem_toArray, List.getElem_cons_zero, List.getElem_cons_succ]
  refine wpAnyH_ready (rs := [17]) (by kernel_rfl) (by simp) (AllReadyH.cons rfl (fun K hK => ?_) AllReadyH.nil)
  go_simp
  have I8 := hide (I7.out.later (below_alloc Y2 (.cells #[.int .i64 Q.vt, .int .i64 k, .int .i64 10] 2)))
  have hsZ : w.heap.size + 1 < Y2.heap.size := by have := I7.out.oth; have := I7.out.var.lt; omega
  have HRd := hide (RdI_new (w.heap.size + 1) Y2 [Q.vt, k, 10] 2 hsZ (by simp))
  clear hHeld I7
  refine hK.out _ _ I8.out.var (fun hHeld => ?_)
  clear hK K
  try simp only [Act.put, List.setIfInBounds_toArray, List.set_cons_zero, List.set_cons_succ, List.getElem_toArray, List.getElem_cons_zero, List.getElem_cons_succ]
  refine wpAnyH_ready (rs := [18]) (by kernel_rfl) (by simp) (AllReadyH.cons rfl (fun K hK => ?_) AllReadyH.nil)
  go_simp
  go_at_call 25
  have hts := I8.out.ts
  refine (l1Pick (xs := [Q.vt, k, 10]) I8.out.src (by omega) HRd.out (by simp) (by simp)).mono ?_
  rintro e Y3 ⟨i, hi, rfl, t8, hd⟩
  have hr := list3 (P := fun x => -1 ≤ x ∧ x ≤ 10) (a := Q.vt) (b := k) (c := 10) hi (by omega) (by omega) (by omega)
  obtain ⟨r, hrx⟩ : ∃ p, ([Q.vt, k, 10] : List Int).getD i 0 = p := ⟨_, rfl⟩
  rw [hrx] at hr ⊢
  have I9 := hide (I8.out.on hd)
  clear hd hHeld I8 HRd hi hrx hts
  refine hK.out _ _ I9.out.var (fun hHeld => ?_)
  clear hK K
  try simp only [Act.put, List.setIfInBounds_toArray, List.set_cons_zero, List.set_cons_succ, List.getElem_toArray, List.getElem_cons_zero, List.getElem_cons_succ]
  obtain ⟨q0, q1, q2, q3, q4, q5⟩ := I9.out.res
  have f0 := I9.out.rfz 0
  have f1 := I9.out.rfz 1
  have f2 := I9.out.rfz 2
  have f3 := I9.out.rfz 3
  have f4 := I9.out.rfz 4
  have f5 := I9.out.rfz 5
  have hn0 : RR ≠ w.heap.size := by have := I9.out.oth; omega
  have hw6 : Wr (fun x => x = w.heap.size) Y3 ((((((Y3.setCell ⟨w.heap.size, 0, none⟩ (.int .i64 Q.tm)).setCell ⟨w.heap.size, 1, none⟩ (.int .i64 Q.vt)).setCell ⟨w.heap.size, 2, none⟩ (.int .i64 Q.si)).setCell ⟨w.heap.size, 3, none⟩ (.int .i64 Q.st)).setCell ⟨w.heap.size, 4, none⟩ (.slice ay Q.sn.length cy)).setCell ⟨w.heap.size, 5, none⟩ (.slice az Q.lg.length cz)) := (Wr.setCell (p := ⟨w.heap.size, 5, none⟩) (Wr.setCell (p := ⟨w.heap.size, 4, none⟩) (Wr.setCell (p := ⟨w.heap.size, 3, none⟩) (Wr.setCell (p := ⟨w.heap.size, 2, none⟩) (Wr.setCell (p := ⟨w.heap.size, 1, none⟩) (Wr.setCell (p := ⟨w.heap.size, 0, none⟩) (Wr.refl (fun x => x = w.heap.size) Y3) rfl (.int .i64 Q.tm)) rfl (.int .i64 Q.vt)) rfl (.int .i64 Q.si)) rfl (.int .i64 Q.st)) rfl (.slice ay Q.sn.length cy)) rfl (.slice az Q.lg.length cz))
  refine wpAnyH_ready (rs := [19]) (by kernel_rfl) (by simp) (AllReadyH.cons rfl (fun K hK => ?_) AllReadyH.nil)
  go_simp
  refine hK.out _ _ (I9.out.var.wr hw6 hn0) (fun hHeldx => ?_)
  clear hK K
  try simp only [Act.put, List.setIfInBounds_toArray, List.set_cons_zero, List.set_cons_succ, List.getElem_toArray, List.getElem_cons_zero, List.getElem_cons_succ]
  refine wpAnyH_take (i := 20) (v := ?vu20x20) rfl (by kernel_rfl) (by kernel_rfl) (by kernel_rfl) (fun _ _ _ h => h) (Or.inl ⟨by rfl, ?hu20x20⟩) hHeldx ?ru20x20
  case hu20x20 => intro w9 hSw; (try dsimp only at hSw); first | (go_simp; done) | (go_simp; with_reducible rfl)
  try simp only [Act.put, List.setIfInBounds_toArray, List.set_cons_zero, List.set_cons_succ, List.getElem_toArray, List.getElem_cons_zero, List.getElem_cons_succ]
  refine wpAnyH_take (i := 21) (v := ?vu21x21) rfl (by kernel_rfl) (by kernel_rfl) (by kernel_rfl) (fun _ _ _ h => h) (Or.inl ⟨by rfl, ?hu21x21⟩) hHeldx ?ru21x21
  case hu21x21 => intro w9 hSw; (try dsimp only at hSw); first | (go_simp; done) | (go_simp; with_reducible rfl)
  try simp only [Act.put, List.setIfInBounds_toArray, List.set_cons_zero, List.set_cons_succ, List.getElem_toArray, List.getElem_cons_zero, List.getElem_cons_succ]
  refine wpAnyH_done (by kernel_rfl) ?_ _
  obtain ⟨lo, hi, l1, l2, iv⟩ := I9.out.mem
  have hFin : IvR w.heap.size ((((((Y3.setCell ⟨w.heap.size, 0, none⟩ (.int .i64 Q.tm)).setCell ⟨w.heap.size, 1, none⟩ (.int .i64 Q.vt)).setCell ⟨w.heap.size, 2, none⟩ (.int .i64 Q.si)).setCell ⟨w.heap.size, 3, none⟩ (.int .i64 Q.st)).setCell ⟨w.heap.size, 4, none⟩ (.slice ay Q.sn.length cy)).setCell ⟨w.heap.size, 5, none⟩ (.slice az Q.lg.length cz)).heap.size ((((((Y3.setCell ⟨w.heap.size, 0, none⟩ (.int .i64 Q.tm)).setCell ⟨w.heap.size, 1, none⟩ (.int .i64 Q.vt)).setCell ⟨w.heap.size, 2, none⟩ (.int .i64 Q.si)).setCell ⟨w.heap.size, 3, none⟩ (.int .i64 Q.st)).setCell ⟨w.heap.size, 4, none⟩ (.slice ay Q.sn.length cy)).setCell ⟨w.heap.size, 5, none⟩ (.slice az Q.lg.length cz)) (.slice ay Q.sn.length cy) (.slice az Q.lg.length cz) Q.sn Q.lg := (iv.wr hw6 (fun b h1 h2 e => by have e : b = w.heap.size := e; omega)).up (by omega) (Nat.le_trans l2 hw6.size)
  have hBel : Below w.heap.size w ((((((Y3.setCell ⟨w.heap.size, 0, none⟩ (.int .i64 Q.tm)).setCell ⟨w.heap.size, 1, none⟩ (.int .i64 Q.vt)).setCell ⟨w.heap.size, 2, none⟩ (.int .i64 Q.si)).setCell ⟨w.heap.size, 3, none⟩ (.int .i64 Q.st)).setCell ⟨w.heap.size, 4, none⟩ (.slice ay Q.sn.length cy)).setCell ⟨w.heap.size, 5, none⟩ (.slice az Q.lg.length cz)) := Below.trans I9.out.bel (hw6.below (by have := I9.out.res.lt; omega) (fun b e => by omega))
  go_wp2
  refine bodyPost_ret (v := .tuple #[.agg #[.int .i64 Q.tm, .int .i64 Q.vt, .int .i64 Q.si, .int .i64 Q.st, .slice ay Q.sn.length cy, .slice az Q.lg.length cz], .int .i64 p, .int .i64 r]) (by simp [results, Tryd.results7, go_sem, q0, q1, q2, q3, q4, q5]) rfl ⟨Q, _, _, p, r, rfl, HQ.out, hBel, hFin, hp, hr.1, hr.2⟩
end Go.Proofs.YtncgpfapepminaaDoor
