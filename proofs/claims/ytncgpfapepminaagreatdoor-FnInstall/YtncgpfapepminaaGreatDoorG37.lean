/- Bh1 Bt1 Bu8 in one text: what each says stands at its head below. -/
import Derived.Test.YtncgpfapepminaaGreatDoorG36
import Derived.Test.YtncgpfapepminaaGreatDoorG03
import Derived.Test.YtncgpfapepminaaGreatDoorG14
/- Chapter 15, draws: 'spec.DrawSetHard', walked. Made by program (genbh.py). -/
namespace Go.Proofs.YtncgpfapepminaaGreatDoor
open Go.RowKit

theorem RdB.laterH {s : Nat} {w w' : World} {v : Value} {bs : List Nat} (h : RdB s w v bs) (hb : Below w.heap.size w w') : RdB w'.heap.size w' v bs := by
  obtain ⟨ao, c, e1, e2, e3⟩ := h
  refine ⟨ao, c, e1, e2, fun hne => ?_⟩
  obtain ⟨b, off, f1, f2, f3⟩ := e3 hne
  have h1 := cell_later hb (f3 0 (List.length_pos_iff.2 hne)).1
  have := World.block_lt_of_cell? _ _ h1
  exact ⟨b, off, f1, by simp at this; omega, fun i hi => ⟨cell_later hb (f3 i hi).1, (f3 i hi).2⟩⟩
theorem list4 {P : Int → Prop} {a b c d : Int} {i : Nat} (hi : i < 4) (ha : P a) (hb : P b) (hc : P c) (hd : P d) : P (([a, b, c, d] : List Int).getD i 0) := by
  rcases i with _ | _ | _ | _ | i
  · exact ha
  · exact hb
  · exact hc
  · exact hd
  · omega
theorem list3 {P : Int → Prop} {a b c : Int} {i : Nat} (hi : i < 3) (ha : P a) (hb : P b) (hc : P c) : P (([a, b, c] : List Int).getD i 0) := by
  rcases i with _ | _ | _ | i
  · exact ha
  · exact hb
  · exact hc
  · omega

/-- A store that was drawn: its variable (block RR), the result's variable (block B) empty, the source s between. -/
structure DhI (B s RR : Nat) (v : Value) (bs : List Nat) (N : Nat) (w : World) (Q : Rf) (y z : Value) (t5 : Nat) (wr : World) : Prop where
  bel : Below B w wr
  src : Src s v bs wr t5
  ts : t5 ≤ N
  res : Var6 wr B (.int .i64 0) (.int .i64 0) (.int .i64 0) (.int .i64 0) (.slice none 0 0) (.slice none 0 0)
  rfz : ∀ o, wr.frozen? ⟨B, o, none⟩ = false
  var : Var6 wr RR (.int .i64 Q.tm) (.int .i64 Q.vt) (.int .i64 Q.si) (.int .i64 Q.st) y z
  mem : ∃ lo hi, s < lo ∧ hi ≤ wr.heap.size ∧ IvR lo hi wr y z Q.sn Q.lg
  old : B < s
  oth : s < RR
theorem DhI.on {B s RR : Nat} {v : Value} {bs : List Nat} {M N : Nat} {w : World} {Q : Rf} {y z : Value} {t5 t6 : Nat} {wr w1 : World} (h : DhI B s RR v bs N w Q y z t5 wr) (hd : Drawn M s v bs t5 t6 wr w1) : DhI B s RR v bs (N + M) w Q y z t6 w1 := by
  obtain ⟨lo, hi, h1, h2, h3⟩ := h.mem
  have ho := h.old
  have hoth := h.oth
  have hr := h.res.lt
  have hz := hd.2.1.size
  have ht := h.ts
  have ht2 := hd.2.2
  exact ⟨Below.trans h.bel (hd.2.1.below (by omega) (fun b e => by omega)), hd.1, by omega, h.res.wr hd.2.1 (by show ¬ B = s; omega), fun o => (hd.2.1.frz _ _ hr).trans (h.rfz o), h.var.wr hd.2.1 (by show ¬ RR = s; omega), ⟨lo, hi, h1, Nat.le_trans h2 hz, h3.wr hd.2.1 (fun b k1 k2 e => by have e : b = s := e; omega)⟩, ho, hoth⟩
theorem DhI.later {B s RR : Nat} {v : Value} {bs : List Nat} {N : Nat} {w : World} {Q : Rf} {y z : Value} {t5 : Nat} {wr w1 : World} (h : DhI B s RR v bs N w Q y z t5 wr) (hb : Below wr.heap.size wr w1) : DhI B s RR v bs N w Q y z t5 w1 := by
  obtain ⟨lo, hi, h1, h2, h3⟩ := h.mem
  have hr := h.res.lt
  exact ⟨h.bel.trans (hb.mono (by omega)), h.src.later hb, h.ts, h.res.later hb, fun o => ((bcell hb).2 _ _ hr).trans (h.rfz o), h.var.later hb, ⟨lo, hi, h1, Nat.le_trans h2 hb.size, h3.later hb⟩, h.old, h.oth⟩

end Go.Proofs.YtncgpfapepminaaGreatDoor
/- Chapter 15, draws: 'spec.DrawTermAt', walked. Made by program (genbt.py). -/
namespace Go.Proofs.YtncgpfapepminaaGreatDoor
open Go.RowKit

set_option linter.unusedSimpArgs false in
set_option maxHeartbeats 4000000 in
set_option maxRecDepth 4000 in
/-- 'DrawTermAt': a store of new memory, right or bent, and an index. -/
theorem drawTermAt {v : Value} {bs : List Nat} {w : World} (hv : RdB w.heap.size w v bs) :
    Calls Tryz.prog 45 #[v] w fun e w' => ∃ (Q : Rf) (y z : Value) (p : Int), e = .returned (.tuple #[.agg #[.int .i64 Q.tm, .int .i64 Q.vt, .int .i64 Q.si, .int .i64 Q.st, y, z], .int .i64 p]) ∧ BdR Q ∧ Below w.heap.size w w' ∧ IvR w.heap.size w'.heap.size w' y z Q.sn Q.lg ∧ -1 ≤ p ∧ p ≤ 10007 := by
  skip
  have B0 := below_alloc w (.cells #[.int .i64 0, .int .i64 0, .int .i64 0, .int .i64 0, .slice none 0 0, .slice none 0 0] 27)
  have HV := hide (show RdB (w.alloc (.cells #[.int .i64 0, .int .i64 0, .int .i64 0, .int .i64 0, .slice none 0 0, .slice none 0 0] 27)).heap.size (w.alloc (.cells #[.int .i64 0, .int .i64 0, .int .i64 0, .int .i64 0, .slice none 0 0, .slice none 0 0] 27)) v bs from hv.laterH B0)
  have R0 := hide (Var6_new w (.int .i64 0) (.int .i64 0) (.int .i64 0) (.int .i64 0) (.slice none 0 0) (.slice none 0 0) 27)
  have F0 : Hid (∀ o, (w.alloc (.cells #[.int .i64 0, .int .i64 0, .int .i64 0, .int .i64 0, .slice none 0 0, .slice none 0 0] 27)).frozen? ⟨w.heap.size, o, none⟩ = false) := fun o => by simp [go_sem]
  have hs0 : (w.alloc (.cells #[.int .i64 0, .int .i64 0, .int .i64 0, .int .i64 0, .slice none 0 0, .slice none 0 0] 27)).heap.size = w.heap.size + 1 := by simp
  obtain ⟨W0, hW0⟩ : ∃ x, w.alloc (.cells #[.int .i64 0, .int .i64 0, .int .i64 0, .int .i64 0, .slice none 0 0, .slice none 0 0] 27) = x := ⟨_, rfl⟩
  rw [hW0] at B0 HV R0 F0 hs0
  have HB0 := hide B0
  obtain ⟨ao, c, rfl, h2, h3⟩ := hv
  clear h2 h3 B0
  go_enter Tryz.func45, Tryz.ntmps45
  go_upto_region 1 with fail
  (try rw [hW0])
  clear hW0
  go_wp2_with fail
  refine (l1Source HV.out).mono ?_
  rintro e w1 ⟨rfl, hb1, hz1, hS1⟩
  rw [hs0] at hz1 hS1 ⊢
  have HS1 := hide hS1
  have HR1 := hide (R0.out.later hb1)
  have HF1 : Hid (∀ o, w1.frozen? ⟨w.heap.size, o, none⟩ = false) := fun o => ((bcell hb1).2 _ _ (by omega)).trans (F0.out o)
  have HB1 := hide (below_on HB0.out hb1)
  clear hb1 hS1 R0 F0 HB0 HV
  go_wp2_with fail
  refine (l10Bent HS1.out (by omega)).mono ?_
  rintro e w2 ⟨Q, y, z, rfl, hQ, hiv, t2, hd2⟩
  obtain ⟨ay, cy, az, cz, ey, ez⟩ := hiv.shape
  subst ey
  subst ez
  have HQ := hide hQ
  have hz2 := hd2.2.1.size
  have I3 : Hid (DhI w.heap.size (w.heap.size + 1) w2.heap.size (.slice ao bs.length c) bs 2300 w Q (.slice ay Q.sn.length cy) (.slice az Q.lg.length cz) t2 (w2.alloc (.cells #[.int .i64 Q.tm, .int .i64 Q.vt, .int .i64 Q.si, .int .i64 Q.st, .slice ay Q.sn.length cy, .slice az Q.lg.length cz] 27))) := by
    have hb := below_alloc w2 (.cells #[.int .i64 Q.tm, .int .i64 Q.vt, .int .i64 Q.si, .int .i64 Q.st, .slice ay Q.sn.length cy, .slice az Q.lg.length cz] 27)
    exact ⟨Below.trans (Below.trans HB1.out (hd2.2.1.below (by omega) (fun b e => by omega))) (hb.mono (by omega)), hd2.1.later hb, by have := hd2.2.2; omega, (HR1.out.wr hd2.2.1 (by show ¬ w.heap.size = w.heap.size + 1; omega)).later hb, fun o => ((bcell hb).2 _ _ (by omega)).trans ((hd2.2.1.frz _ _ (by omega)).trans (HF1.out o)), Var6_new w2 (.int .i64 Q.tm) (.int .i64 Q.vt) (.int .i64 Q.si) (.int .i64 Q.st) (.slice ay Q.sn.length cy) (.slice az Q.lg.length cz) 27, ⟨w1.heap.size, w2.heap.size, by omega, by simp, hiv.later hb⟩, by omega, by omega⟩
  clear hQ hiv hd2 HS1 HR1 HF1 HB1
  go_upto_region 3 with fail
  obtain ⟨W3, hW3⟩ : ∃ x, w2.alloc (.cells #[.int .i64 Q.tm, .int .i64 Q.vt, .int .i64 Q.si, .int .i64 Q.st, .slice ay Q.sn.length cy, .slice az Q.lg.length cz] 27) = x := ⟨_, rfl⟩
  rw [hW3] at I3
  (try rw [hW3])
  clear hW3
  obtain ⟨RR, hRR⟩ : ∃ x, w2.heap.size = x := ⟨_, rfl⟩
  rw [hRR] at I3 hz2
  (try rw [hRR])
  clear hRR
  have hq := HQ.out.si
  obtain ⟨g0, g1, g2, g3, g4, g5⟩ := I3.out.var
  refine wp_region_held_drew (S := fun w' => w'.cell? ⟨RR, 0, none⟩ = some (.int .i64 Q.tm) ∧ w'.cell? ⟨RR, 1, none⟩ = some (.int .i64 Q.vt) ∧ w'.cell? ⟨RR, 2, none⟩ = some (.int .i64 Q.si) ∧ w'.cell? ⟨RR, 3, none⟩ = some (.int .i64 Q.st) ∧ w'.cell? ⟨RR, 4, none⟩ = some (.slice ay Q.sn.length cy) ∧ w'.cell? ⟨RR, 5, none⟩ = some (.slice az Q.lg.length cz)) (by kernel_rfl) ⟨g0, g1, g2, g3, g4, g5⟩ (fun _ => ?_)
  clear g0 g1 g2 g3 g4 g5
  refine forgetH (fun wx => DhI w.heap.size (w.heap.size + 1) RR (.slice ao bs.length c) bs 2300 w Q (.slice ay Q.sn.length cy) (.slice az Q.lg.length cz) t2 wx) (I3.out.later (below_drewN W3 1)) ?_
  rintro Y0 i4
  have I4 := hide i4
  clear i4 I3
  have hHeld := I4.out.var
  refine wpAnyH_take (i := 0) (v := ?vt1x0) rfl (by kernel_rfl) (by kernel_rfl) (by kernel_rfl) (fun _ _ _ h => h) (Or.inl ⟨by rfl, ?ht1x0⟩) hHeld ?rt1x0
  case ht1x0 => intro w9 hSw; (try dsimp only at hSw); first | (go_simp; done) | (go_simp; with_reducible rfl)
  try simp only [Act.put, List.setIfInBounds_toArray, List.set_cons_zero, List.set_cons_succ, List.getElem_toArray, List.getElem_cons_zero]
  refine wpAnyH_take (i := 1) (v := ?vt2x1) rfl (by kernel_rfl) (by kernel_rfl) (by kernel_rfl) (fun _ _ _ h => h) (Or.inl ⟨by rfl, ?ht2x1⟩) hHeld ?rt2x1
  case ht2x1 => intro w9 hSw; (try dsimp only at hSw); first | (go_simp; done) | (go_simp; with_reducible rfl)
  try simp only [Act.put, List.setIfInBounds_toArray, List.set_cons_zero, List.set_cons_succ, List.getElem_toArray, List.getElem_cons_zero, List.getElem_cons_succ]
  refine wpAnyH_take (i := 2) (v := ?vt3x2) rfl (by kernel_rfl) (by kernel_rfl) (by kernel_rfl) (fun _ _ _ h => h) (Or.inl ⟨by rfl, ?ht3x2⟩) hHeld ?rt3x2
  case ht3x2 => intro w9 hSw; (try dsimp only at hSw); first | (go_simp; done) | (go_simp; with_reducible rfl)
  try simp only [Act.put, List.setIfInBounds_toArray, List.set_cons_zero, List.set_cons_succ, List.getElem_toArray, List.getElem_cons_zero, List.getElem_cons_succ]
  refine wpAnyH_take (i := 3) (v := ?vt4x3) rfl (by kernel_rfl) (by kernel_rfl) (by kernel_rfl) (fun _ _ _ h => h) (Or.inl ⟨by rfl, ?ht4x3⟩) hHeld ?rt4x3
  case ht4x3 => intro w9 hSw; (try dsimp only at hSw); first | (go_simp; done) | (go_simp; with_reducible rfl)
  try simp only [Act.put, List.setIfInBounds_toArray, List.set_cons_zero, List.set_cons_succ, List.getElem_toArray, List.getElem_cons_zero, List.getElem_cons_succ]
  refine wpAnyH_ready (rs := [4]) (by kernel_rfl) (by simp) (AllReadyH.cons rfl (fun K hK => ?_) AllReadyH.nil)
  go_simp
  go_at_call 49
  have hts := I4.out.ts
  refine (l1Next 9 I4.out.src (by omega) (by omega) (by omega)).mono ?_
  rintro e Y3 ⟨k, rfl, k0, k1, t7, hd⟩
  have k2 := k1 (by omega)
  have I9 := hide (I4.out.on hd)
  clear hd hHeld I4 k1 hts
  refine hK.out _ _ I9.out.var (fun hHeld => ?_)
  clear hK K
  try simp only [Act.put, List.setIfInBounds_toArray, List.set_cons_zero, List.set_cons_succ, List.getElem_toArray, List.getElem_cons_zero, List.getElem_cons_succ]
  refine wpAnyH_take (i := 5) (v := ?vt5x5) rfl (by kernel_rfl) (by kernel_rfl) (by kernel_rfl) (fun _ _ _ h => h) (Or.inl ⟨by rfl, ?ht5x5⟩) hHeld ?rt5x5
  case ht5x5 => intro w9 hSw; (try dsimp only at hSw); first | (go_simp; done) | (go_simp; with_reducible rfl)
  try simp only [Act.put, List.setIfInBounds_toArray, List.set_cons_zero, List.set_cons_succ, List.getElem_toArray, List.getElem_cons_zero, List.getElem_cons_succ]
  have ew : IntKind.i64.wrap (Q.si + k) = Q.si + k := by simp [IntKind.wrap, IntKind.bits, IntKind.signed]; omega
  rw [ew]
  clear ew
  refine wpAnyH_take (i := 6) (v := ?vt6x6) rfl (by kernel_rfl) (by kernel_rfl) (by kernel_rfl) (fun _ _ _ h => h) (Or.inl ⟨by rfl, ?ht6x6⟩) hHeld ?rt6x6
  case ht6x6 => intro w9 hSw; (try dsimp only at hSw); first | (go_simp; done) | (go_simp; with_reducible rfl)
  try simp only [Act.put, List.setIfInBounds_toArray, List.set_cons_zero, List.set_cons_succ, List.getElem_toArray, List.getElem_cons_zero, List.getElem_cons_succ]
  have ew : IntKind.i64.wrap (Q.si + k - 1) = Q.si + k - 1 := by simp [IntKind.wrap, IntKind.bits, IntKind.signed]; omega
  rw [ew]
  clear ew
  obtain ⟨q0, q1, q2, q3, q4, q5⟩ := I9.out.res
  have f0 := I9.out.rfz 0
  have f1 := I9.out.rfz 1
  have f2 := I9.out.rfz 2
  have f3 := I9.out.rfz 3
  have f4 := I9.out.rfz 4
  have f5 := I9.out.rfz 5
  have hn0 : RR ≠ w.heap.size := by have := I9.out.oth; omega
  have hw6 : Wr (fun x => x = w.heap.size) Y3 ((((((Y3.setCell ⟨w.heap.size, 0, none⟩ (.int .i64 Q.tm)).setCell ⟨w.heap.size, 1, none⟩ (.int .i64 Q.vt)).setCell ⟨w.heap.size, 2, none⟩ (.int .i64 Q.si)).setCell ⟨w.heap.size, 3, none⟩ (.int .i64 Q.st)).setCell ⟨w.heap.size, 4, none⟩ (.slice ay Q.sn.length cy)).setCell ⟨w.heap.size, 5, none⟩ (.slice az Q.lg.length cz)) := (Wr.setCell (p := ⟨w.heap.size, 5, none⟩) (Wr.setCell (p := ⟨w.heap.size, 4, none⟩) (Wr.setCell (p := ⟨w.heap.size, 3, none⟩) (Wr.setCell (p := ⟨w.heap.size, 2, none⟩) (Wr.setCell (p := ⟨w.heap.size, 1, none⟩) (Wr.setCell (p := ⟨w.heap.size, 0, none⟩) (Wr.refl (fun x => x = w.heap.size) Y3) rfl (.int .i64 Q.tm)) rfl (.int .i64 Q.vt)) rfl (.int .i64 Q.si)) rfl (.int .i64 Q.st)) rfl (.slice ay Q.sn.length cy)) rfl (.slice az Q.lg.length cz))
  refine wpAnyH_ready (rs := [7]) (by kernel_rfl) (by simp) (AllReadyH.cons rfl (fun K hK => ?_) AllReadyH.nil)
  go_simp
  refine hK.out _ _ (I9.out.var.wr hw6 hn0) (fun hHeldx => ?_)
  clear hK K
  try simp only [Act.put, List.setIfInBounds_toArray, List.set_cons_zero, List.set_cons_succ, List.getElem_toArray, List.getElem_cons_zero, List.getElem_cons_succ]
  refine wpAnyH_take (i := 8) (v := ?vu8x8) rfl (by kernel_rfl) (by kernel_rfl) (by kernel_rfl) (fun _ _ _ h => h) (Or.inl ⟨by rfl, ?hu8x8⟩) hHeldx ?ru8x8
  case hu8x8 => intro w9 hSw; (try dsimp only at hSw); first | (go_simp; done) | (go_simp; with_reducible rfl)
  try simp only [Act.put, List.setIfInBounds_toArray, List.set_cons_zero, List.set_cons_succ, List.getElem_toArray, List.getElem_cons_zero, List.getElem_cons_succ]
  refine wpAnyH_done (by kernel_rfl) ?_ _
  obtain ⟨lo, hi, l1, l2, iv⟩ := I9.out.mem
  have hFin : IvR w.heap.size ((((((Y3.setCell ⟨w.heap.size, 0, none⟩ (.int .i64 Q.tm)).setCell ⟨w.heap.size, 1, none⟩ (.int .i64 Q.vt)).setCell ⟨w.heap.size, 2, none⟩ (.int .i64 Q.si)).setCell ⟨w.heap.size, 3, none⟩ (.int .i64 Q.st)).setCell ⟨w.heap.size, 4, none⟩ (.slice ay Q.sn.length cy)).setCell ⟨w.heap.size, 5, none⟩ (.slice az Q.lg.length cz)).heap.size ((((((Y3.setCell ⟨w.heap.size, 0, none⟩ (.int .i64 Q.tm)).setCell ⟨w.heap.size, 1, none⟩ (.int .i64 Q.vt)).setCell ⟨w.heap.size, 2, none⟩ (.int .i64 Q.si)).setCell ⟨w.heap.size, 3, none⟩ (.int .i64 Q.st)).setCell ⟨w.heap.size, 4, none⟩ (.slice ay Q.sn.length cy)).setCell ⟨w.heap.size, 5, none⟩ (.slice az Q.lg.length cz)) (.slice ay Q.sn.length cy) (.slice az Q.lg.length cz) Q.sn Q.lg := (iv.wr hw6 (fun b h1 h2 e => by have e : b = w.heap.size := e; omega)).up (by omega) (Nat.le_trans l2 hw6.size)
  have hBel : Below w.heap.size w ((((((Y3.setCell ⟨w.heap.size, 0, none⟩ (.int .i64 Q.tm)).setCell ⟨w.heap.size, 1, none⟩ (.int .i64 Q.vt)).setCell ⟨w.heap.size, 2, none⟩ (.int .i64 Q.si)).setCell ⟨w.heap.size, 3, none⟩ (.int .i64 Q.st)).setCell ⟨w.heap.size, 4, none⟩ (.slice ay Q.sn.length cy)).setCell ⟨w.heap.size, 5, none⟩ (.slice az Q.lg.length cz)) := Below.trans I9.out.bel (hw6.below (by have := I9.out.res.lt; omega) (fun b e => by omega))
  go_wp2
  refine bodyPost_ret (v := .tuple #[.agg #[.int .i64 Q.tm, .int .i64 Q.vt, .int .i64 Q.si, .int .i64 Q.st, .slice ay Q.sn.length cy, .slice az Q.lg.length cz], .int .i64 (Q.si + k - 1)]) (by simp [results, Tryz.results45, go_sem, q0, q1, q2, q3, q4, q5]) rfl ⟨Q, _, _, _, rfl, HQ.out, hBel, hFin, by omega, by omega⟩
end Go.Proofs.YtncgpfapepminaaGreatDoor
/- Bytes that a call appends to a slice of its own, for a source of the model's draws (out of DrawF7). -/
namespace Go.Proofs.YtncgpfapepminaaGreatDoor
open Go.RowKit

theorem Tryz.infoU8 : (Tryz.prog.info? 5).map (fun i => (i.zero, i.size, i.bytes)) = some (some (.int .u8 0), 1, 1) := by kernel_rfl
def u8s (bs : List Nat) : List Value := bs.map fun b => .int .u8 ((b : Nat) : Int)
theorem u8s_one (bs : List Nat) : ∀ u ∈ u8s bs, u.oneCell' = true := by
  intro u hu
  obtain ⟨b, _, rfl⟩ := List.mem_map.1 hu
  rfl
theorem RdB.src {s : Nat} {w : World} {v : Value} {bs : List Nat} (h : RdB s w v bs) : ∃ ao c, v = .slice ao bs.length c ∧ (bs.length ≠ 0 → ∃ ad, ao = some ad ∧ ∀ j u, (u8s bs)[j]? = some u → w.cell? (ad.add j) = some u) := by
  obtain ⟨ao, c, h1, _, h3⟩ := h
  refine ⟨ao, c, h1, fun hne => ?_⟩
  obtain ⟨b, off, e, _, hc⟩ := h3 (fun e => hne (by rw [e]; rfl))
  refine ⟨_, e, fun j u hu => ?_⟩
  have hj : j < bs.length := by
    have := (List.getElem?_eq_some_iff.1 hu).1
    simpa [u8s] using this
  rw [Addr.add_lit, (hc j hj).1]
  simp [u8s, hj] at hu
  simp [List.getD, hj, hu]
theorem RdB.later {s : Nat} {w w' : World} {v : Value} {bs : List Nat} (h : RdB s w v bs) (hb : Below w.heap.size w w') : RdB s w' v bs := by
  obtain ⟨ao, c, h1, h2, h3⟩ := h
  refine ⟨ao, c, h1, h2, fun hne => ?_⟩
  obtain ⟨b, off, e, hs, hc⟩ := h3 hne
  exact ⟨b, off, e, hs, fun i hi => ⟨cell_later hb (hc i hi).1, (hc i hi).2⟩⟩
theorem rdB_of_owns {w : World} {B : Nat} {v : Value} {bs : List Nat} {n : Nat} (h : w.ownsRow B 5 1 v n (u8s bs)) (hn : bs.length = n) (hm : n ≤ 2097152) (hb : ∀ x, x ∈ bs → x ≤ 255) : RdB w.heap.size w v bs := by
  subst hn
  rcases h.2 with ⟨rfl, e⟩ | ⟨g, cap, cur, rfl, hg, hh, _⟩
  · have : bs = [] := List.eq_nil_of_length_eq_zero e
    subst this
    exact ⟨none, 0, rfl, by simp, fun h => absurd rfl h⟩
  · have hgl : g < w.heap.size := (Array.getElem?_eq_some_iff.1 hh).1
    refine ⟨_, cap, rfl, hm, fun _ => ⟨g, 0, rfl, by omega, fun i hi => ⟨?_, ?_⟩⟩⟩
    · rw [Nat.zero_add, h.cellAt i (by omega)]
      simp [u8s, List.getD, hi]
    · have := hb bs[i] (List.getElem_mem hi)
      simpa [List.getD, hi] using this
theorem RdB.small {s : Nat} {w : World} {v : Value} {bs : List Nat} (h : RdB s w v bs) : ∀ x, x ∈ bs → x ≤ 255 := by
  intro x hx
  obtain ⟨i, hi, rfl⟩ := List.mem_iff_getElem.1 hx
  obtain ⟨_, _, _, _, h3⟩ := h
  obtain ⟨_, _, _, _, hc⟩ := h3 (by rintro rfl; simp at hi)
  have := (hc i hi).2
  simpa [List.getD, hi] using this

end Go.Proofs.YtncgpfapepminaaGreatDoor
