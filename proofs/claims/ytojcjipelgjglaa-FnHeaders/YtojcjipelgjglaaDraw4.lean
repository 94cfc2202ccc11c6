/- The model's draws of a header: 'spec.l2Draw', walked. -/
import Derived.Test.YtojcjipelgjglaaDraw2
import Derived.Test.YtojcjipelgjglaaBuilt4
namespace Go.Proofs.Ytojcjipelgjglaa
open Go.RowKit

/-- A header that is being drawn: in block h, the result's variable in block r. -/
structure DrAt (w : World) (s : Nat) (v : Value) (bs : List Nat) (t : Nat) (r h : Nat) (a b : Int) (xs : List Int) (ao : Option Addr) (n c N t5 : Nat) (wr : World) : Prop where
  dr : Drawn N s v bs t t5 w wr
  rw : w.heap.size ≤ r
  rh : r < h
  hl : h < wr.heap.size
  r0 : wr.cell? ⟨r, 0, none⟩ = some (.int .i64 0)
  r1 : wr.cell? ⟨r, 1, none⟩ = some (.int .i64 0)
  r2 : wr.cell? ⟨r, 2, none⟩ = some (.slice none 0 0)
  rf : ∀ o, wr.frozen? ⟨r, o, none⟩ = false
  h0 : wr.cell? ⟨h, 0, none⟩ = some (.int .i64 a)
  h1 : wr.cell? ⟨h, 1, none⟩ = some (.int .i64 b)
  h2 : wr.cell? ⟨h, 2, none⟩ = some (.slice ao n c)
  hf : ∀ o, wr.frozen? ⟨h, o, none⟩ = false
  own : wr.ownsRow (h + 1) 2 1 (.slice ao n c) n (xs.map (Value.int .i64))
  len : xs.length = n

/-- A number has been drawn on the way. -/
theorem DrAt.on {w : World} {s : Nat} {v : Value} {bs : List Nat} {t r h : Nat} {a b : Int} {xs : List Int} {ao : Option Addr} {n c N t5 t6 M : Nat} {wr w6 : World} (H : DrAt w s v bs t r h a b xs ao n c N t5 wr) (hs : s < w.heap.size) (hd : Drawn M s v bs t5 t6 wr w6) :
    DrAt w s v bs t r h a b xs ao n c (N + M) t6 w6 := by
  have hw := hd.2.1
  have h1 := H.rw
  have h2 := H.rh
  have h3 := H.hl
  exact ⟨H.dr.on hd, H.rw, H.rh, Nat.lt_of_lt_of_le H.hl hw.size, cell_wr hw H.r0 (by omega), cell_wr hw H.r1 (by omega), cell_wr hw H.r2 (by omega), fun o => (hw.frz _ _ (by omega)).trans (H.rf o),
    cell_wr hw H.h0 (by omega), cell_wr hw H.h1 (by omega), cell_wr hw H.h2 (by omega), fun o => (hw.frz _ _ (by omega)).trans (H.hf o), ownsRow_wr H.own hw (ownBlock_ne H.own (by omega)), H.len⟩
theorem DrAt.later {w : World} {s : Nat} {v : Value} {bs : List Nat} {t r h : Nat} {a b : Int} {xs : List Int} {ao : Option Addr} {n c N t5 : Nat} {wr w6 : World} (H : DrAt w s v bs t r h a b xs ao n c N t5 wr) (hb : Below wr.heap.size wr w6) :
    DrAt w s v bs t r h a b xs ao n c N t5 w6 := by
  have h2 := H.rh
  have h3 := H.hl
  exact ⟨H.dr.later hb, H.rw, H.rh, Nat.lt_of_lt_of_le H.hl hb.size, cell_later hb H.r0, cell_later hb H.r1, cell_later hb H.r2, fun o => ((bcell hb).2 _ _ (by omega)).trans (H.rf o),
    cell_later hb H.h0, cell_later hb H.h1, cell_later hb H.h2, fun o => ((bcell hb).2 _ _ (by omega)).trans (H.hf o), ownsRow_later H.own hb, H.len⟩

/-- One address more. -/
theorem DrAt.step {w : World} {s : Nat} {v : Value} {bs : List Nat} {t r h : Nat} {a b x : Int} {xs : List Int} {ao : Option Addr} {n c N t5 g cap : Nat} {wr w3 : World} (hS : Src s v bs w t) (H : DrAt w s v bs t r h a b xs ao n c N t5 wr)
    (hown : w3.ownsRow (h + 1) 2 1 (.slice (some ⟨g, 0, none⟩) (n + 1) cap) (n + 1) ((xs ++ [x]).map (Value.int .i64)))
    (hgrow : (wr.alloc (.cells #[.int .i64 x] 2)).grownBy w3 (Value.slice ao n c).ownBlock) :
    DrAt w s v bs t r h a b (xs ++ [x]) (some ⟨g, 0, none⟩) (n + 1) cap N t5 (w3.setCell ⟨h, 2, none⟩ (.slice (some ⟨g, 0, none⟩) (n + 1) cap)) := by
  have k1 := H.rw
  have k2 := H.rh
  have k3 := H.hl
  have hB : Below (h + 1) wr w3 := ((below_alloc wr (.cells #[.int .i64 x] 2)).mono (by omega)).grown hgrow (by simp; omega) (fun r hr => (H.own.lt r hr).1)
  have hc : ∀ b o, b < h + 1 → w3.cell? ⟨b, o, none⟩ = wr.cell? ⟨b, o, none⟩ := fun b o hb => hB.cell (p := ⟨b, o, none⟩) hb
  have hz : ∀ b o, b < h + 1 → w3.frozen? ⟨b, o, none⟩ = wr.frozen? ⟨b, o, none⟩ := fun b o hb => hB.frozen (p := ⟨b, o, none⟩) hb
  have hs := hB.size
  have hB2 : Below w.heap.size wr (w3.setCell ⟨h, 2, none⟩ (.slice (some ⟨g, 0, none⟩) (n + 1) cap)) := (hB.mono (by omega)).setCell (by simp; omega) _
  refine ⟨H.dr.onBelow hS hB2, H.rw, H.rh, by simp; omega, ?_, ?_, ?_, fun o => ?_, ?_, ?_, ?_, fun o => ?_, ?_, by simp [H.len]⟩
  · rw [World.cell?_setCell_other _ _ _ _ (by intro e; injection e with e _; omega), hc _ _ (by omega)]; exact H.r0
  · rw [World.cell?_setCell_other _ _ _ _ (by intro e; injection e with e _; omega), hc _ _ (by omega)]; exact H.r1
  · rw [World.cell?_setCell_other _ _ _ _ (by intro e; injection e with e _; omega), hc _ _ (by omega)]; exact H.r2
  · rw [World.frozen?_setCell, hz _ _ (by omega)]; exact H.rf o
  · rw [World.cell?_setCell_other _ _ _ _ (by intro e; injection e with _ e; omega), hc _ _ (by omega)]; exact H.h0
  · rw [World.cell?_setCell_other _ _ _ _ (by intro e; injection e with _ e; omega), hc _ _ (by omega)]; exact H.h1
  · exact World.cell?_setCell_same _ _ _ ((hc _ _ (by omega)).trans H.h2)
  · rw [World.frozen?_setCell, hz _ _ (by omega)]; exact H.hf o
  · exact ownsRow_set hown (fun e => by have := (hown.lt _ e).1; omega)

theorem ownsRow_mono {w : World} {B B' e z : Nat} {v : Value} {n : Nat} {xs : List Value} (h : w.ownsRow B e z v n xs) (hB : B' ≤ B) : w.ownsRow B' e z v n xs := by
  obtain ⟨h1, h2⟩ := h
  refine ⟨h1, ?_⟩
  rcases h2 with h2 | ⟨g, cap, cur, hv, hg, r⟩
  · exact Or.inl h2
  · exact Or.inr ⟨g, cap, cur, hv, Nat.le_trans hB hg, r⟩

set_option maxHeartbeats 4000000 in
set_option maxRecDepth 4000 in
/-- 'l2Draw': some header of new memory. -/
theorem l2Draw {s : Nat} {v : Value} {bs : List Nat} {w : World} {t : Nat} (hS : Src s v bs w t) (ht : t ≤ 1000000000) :
    Calls Try.prog 35 #[.pointer (some ⟨s, 0, none⟩)] w fun e w' => ∃ (a b : Int) (ao : Option Addr) (n c : Nat) (xs : List Int), e = .returned (.agg #[.int .i64 a, .int .i64 b, .slice ao n c]) ∧ n ≤ 8 ∧ xs.length = n ∧ w'.ownsRow (w.heap.size + 1) 2 1 (.slice ao n c) n (xs.map (Value.int .i64)) ∧ ∃ t', Drawn 20 s v bs t t' w w' := by
  have HS := hide hS
  have hsl := hS.lt
  obtain ⟨i0, hi, hz0, hz1, hz2⟩ := info_parts Try.infoInt
  clear hS
  go_enter Try.func35, Try.ntmps35
  go_wp2_with fail
  have D0 := hide ((Drawn.refl HS.out).later (below_alloc w (.cells #[.int .i64 0, .int .i64 0, .slice none 0 0] 27)))
  refine (l1Next 99 D0.out.1 (by omega) (by omega) (by omega)).mono ?_
  rintro e w1 ⟨a1, rfl, a1a, a1b, t1, hd1⟩
  have a1c := a1b (by omega)
  have D1 := hide (D0.out.on hd1)
  have x0 : w1.cell? ⟨w.heap.size, 0, none⟩ = some (.int .i64 0) := cell_wr hd1.2.1 (by simp [go_sem]) (by omega)
  have x1 : w1.cell? ⟨w.heap.size, 1, none⟩ = some (.int .i64 0) := cell_wr hd1.2.1 (by simp [go_sem]) (by omega)
  have x2 : w1.cell? ⟨w.heap.size, 2, none⟩ = some (.slice none 0 0) := cell_wr hd1.2.1 (by simp [go_sem]) (by omega)
  have xf : ∀ o, w1.frozen? ⟨w.heap.size, o, none⟩ = false := fun o => (hd1.2.1.frz _ _ (by simp)).trans (by simp [go_sem])
  have hz1' : w.heap.size < w1.heap.size := World.block_lt_of_cell? _ _ x0
  clear hd1 a1b
  go_wp2_with fail
  refine (l1Next 24 D1.out.1 (by have := D1.out.2.2; omega) (by omega) (by omega)).mono ?_
  rintro e w2 ⟨b1, rfl, b1a, b1b, t2, hd2⟩
  have D2 := hide (D1.out.on hd2)
  have HA : Hid (DrAt w s v bs t w.heap.size w2.heap.size (1 + a1) b1 [] none 0 0 2 t2 (w2.alloc (.cells #[.int .i64 (1 + a1), .int .i64 b1, .slice none 0 0] 27))) := by
    have hb := below_alloc w2 (.cells #[.int .i64 (1 + a1), .int .i64 b1, .slice none 0 0] 27)
    have hw := hd2.2.1
    have hz2' : w.heap.size < w2.heap.size := Nat.lt_of_lt_of_le hz1' hw.size
    refine ⟨D2.out.later hb, Nat.le_refl _, hz2', by simp, cell_later hb (cell_wr hw x0 (by omega)), cell_later hb (cell_wr hw x1 (by omega)), cell_later hb (cell_wr hw x2 (by omega)), fun o => ((bcell hb).2 _ _ hz2').trans ((hw.frz _ _ hz1').trans (xf o)), by simp [go_sem], by simp [go_sem], by simp [go_sem], fun o => by simp [go_sem], World.ownsRow_nil _ _ _ _, rfl⟩
  clear x0 x1 x2 xf hd2 b1b D1
  go_wp2_with fail
  refine (l1Next 9 HA.out.dr.1 (by have := HA.out.dr.2.2; omega) (by omega) (by omega)).mono ?_
  rintro e w3 ⟨k1, rfl, k1a, k1b, t3, hd3⟩
  have k1c := k1b (by omega)
  obtain ⟨K, rfl⟩ : ∃ K : Nat, k1 = (K : Int) := ⟨k1.toNat, (Int.toNat_of_nonneg k1a).symm⟩
  have HA3 := hide (HA.out.on hsl hd3)
  clear hd3 k1b HA D2
  obtain ⟨hb, hhb⟩ : ∃ hb, w2.heap.size = hb := ⟨_, rfl⟩
  rw [hhb] at HA3 ⊢
  clear hhb
  go_wp2
  go_loopw [4] (fun k wr => ∃ (n K : Nat) (ao : Option Addr) (c : Nat) (xs : List Int) (t5 : Nat), n + K ≤ 8 ∧ k = .int .i64 K ∧ Hid (DrAt w s v bs t w.heap.size hb (1 + a1) b1 xs ao n c (3 + n) t5 wr)) (fun k _ => (intOf k).toNat)
  case atStart => exact ⟨0, K, none, 0, [], t3, by omega, rfl, HA3.out⟩
  case round =>
    clear HA3
    obtain ⟨n, K, ao, c, xs, t5, hnK, rfl, HD⟩ := hrel
    by_cases hK0 : 0 < K
    · have q2 := HD.out.h2
      have qf := HD.out.hf 2
      have hbl := HD.out.hl
      obtain ⟨K', rfl⟩ : ∃ K', K = K' + 1 := ⟨K - 1, by omega⟩
      have HNx := hide (l1Next 40 (HD.out.dr.1.drewN 1) (by have := HD.out.dr.2.2; omega) (by omega) (by omega))
      go_wp2_with fail
      go_region_law (first
        | (refine step_append_lies _ (by rfl) _ _ _ (by rfl) (hb + 1) 2 i0 (.int .i64 0) 1 8 Try.underlying24 hi hz0 hz1 hz2 rfl (by omega) (.slice ao n c) n _ (by rfl) (H6.out.own.alloc (.cells #[.int .i64 r] 2)) ⟨w6.heap.size, 0, none⟩ 1 1 [.int .i64 r] (by rfl) (by rfl) (World.news_of_block (cs := #[.int .i64 r]) (t := 2) (fr := (0, 0)) (heap_alloc_new w6 _)) (by simp [Value.oneCell']) (by omega) (by unfold maxLen; omega) (by omega) (by simp; have := H6.out.hl; omega) (w6.heap.size + 1) (by simp) ?_; intro g cap w7 hown hgrow hat hlt7; have s0 := (hgrow.cell_far ⟨hb, 2, none⟩ (by simp; have := H6.out.hl; omega) (fun e => by have := (H6.out.own.lt _ e.symm).1; dsimp only at this; omega)).trans e1; have s1 : w7.frozen? ⟨hb, 2, none⟩ = false := (hgrow.frozen_far ⟨hb, 2, none⟩ (by simp; have := H6.out.hl; omega) (fun e => by have := (H6.out.own.lt _ e.symm).1; dsimp only at this; omega)).trans (((bcell (below_alloc w6 _)).2 _ _ H6.out.hl).trans (H6.out.hf 2)))
        | (go_simp; go_at_call 37; refine HNx.out.mono ?_; rintro e w6 ⟨r, rfl, ra, rb, t6, hd6⟩; have H6 := hide ((HD.out.later (below_drewN wr 1)).on hsl hd6); have e0 := H6.out.h2; have e1 := cell_later (below_alloc w6 (.cells #[.int .i64 r] 2)) e0; clear hd6 rb))
      all_goals
        have HSt := hide (DrAt.step HS.out H6.out (by rw [List.map_append]; exact hown) hgrow)
        clear hown hgrow hat s0 s1 e0 e1
        go_wp2
        go_roundw
        case rel => exact ⟨n + 1, K', _, _, _, t6, by omega, by go_num, HSt.out⟩
        case measure => simp [intOf]
    · have hKz : K = 0 := by omega
      subst hKz
      have q0 := HD.out.h0
      have q1 := HD.out.h1
      have q2 := HD.out.h2
      have r0 := HD.out.r0
      have r1 := HD.out.r1
      have r2 := HD.out.r2
      have f0 := HD.out.rf 0
      have f1 := HD.out.rf 1
      have f2 := HD.out.rf 2
      have hbl := HD.out.hl
      have hrh := HD.out.rh
      go_wp2
      have hB : Below w.heap.size wr (((wr.setCell ⟨w.heap.size, 0, none⟩ (.int .i64 (1 + a1))).setCell ⟨w.heap.size, 1, none⟩ (.int .i64 b1)).setCell ⟨w.heap.size, 2, none⟩ (.slice ao n c)) := (((Below.refl _ _).setCell (by simp) _).setCell (by simp) _).setCell (by simp) _
      have hW : Wr (fun y => y = w.heap.size) wr (((wr.setCell ⟨w.heap.size, 0, none⟩ (.int .i64 (1 + a1))).setCell ⟨w.heap.size, 1, none⟩ (.int .i64 b1)).setCell ⟨w.heap.size, 2, none⟩ (.slice ao n c)) := (((Wr.refl (fun y => y = w.heap.size) _).setCell (p := ⟨w.heap.size, 0, none⟩) rfl _).setCell (p := ⟨w.heap.size, 1, none⟩) rfl _).setCell (p := ⟨w.heap.size, 2, none⟩) rfl _
      refine bodyPost_ret (v := .agg #[.int .i64 (1 + a1), .int .i64 b1, .slice ao n c]) (by simp [results, Try.results35, go_sem, r0, r1, r2]) rfl ⟨1 + a1, b1, ao, n, c, xs, rfl, by omega, HD.out.len, ?_, t5, ?_⟩
      · exact ownsRow_mono (ownsRow_wr HD.out.own hW (ownBlock_ne HD.out.own (by omega))) (by omega)
      · exact (HD.out.dr.onBelow HS.out hB).mono (by omega)
end Go.Proofs.Ytojcjipelgjglaa
