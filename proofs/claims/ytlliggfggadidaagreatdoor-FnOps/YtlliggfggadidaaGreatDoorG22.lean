/- Draw5 DrawE3 in one text: what each says stands at its head below. -/
import Derived.Test.YtlliggfggadidaaGreatDoorG02
import Derived.Test.YtlliggfggadidaaGreatDoorG12
import Derived.Deep.CutRange
import Derived.Test.YtlliggfggadidaaGreatDoorG21
namespace Go.Proofs.YtlliggfggadidaaGreatDoor
open Go.RowKit
theorem forget' {P : Program} {c : Code} {Q : Exit → Act → World → Prop} {a : Act} {w0 : World} (R : World → Prop) (h0 : R w0) (h : ∀ w, R w → c.wp P Q a w) : c.wp P Q a w0 := h _ h0
theorem iv_of_owns {w : World} {B t g n cap : Nat} {xs : List Int} (hn : xs.length = n) (h : w.ownsRow B t 1 (.slice (some ⟨g, 0, none⟩) n cap) n (xs.map (Value.int .i64))) (hm : xs.length ≤ 9223372036854775807) : IvI g (g + 1) w (.slice (some ⟨g, 0, none⟩) n cap) xs := by
  subst hn
  rcases h.2 with ⟨e, _⟩ | ⟨g', cap', cur, e, hg, hh, hnc, _⟩
  · cases e
  · injection e with e1 e2 e3
    injection e1 with e1
    injection e1 with e1
    subst e1 e3
    refine ⟨g, ⟨_, cap - xs.length, by rw [Nat.add_sub_cancel' hnc], hm, fun _ => ⟨g, 0, rfl, rfl, fun i hi => ?_⟩⟩, fun _ => ⟨Nat.le_refl _, by omega, (Array.getElem?_eq_some_iff.1 hh).1, fun o => h.frozenAt o⟩⟩
    rw [Nat.zero_add, h.cellAt i (by simpa using hi)]
    simp [List.getD, hi]
structure BtAt (w : World) (s : Nat) (v : Value) (bs : List Nat) (t : Nat) (r h : Nat) (a b : Int) (ao : Option Addr) (n c : Nat) (xs : List Int) (N t5 : Nat) (wr : World) : Prop where
  dr : Drawn N s v bs t t5 w wr
  rw : w.heap.size ≤ r
  rh : r < h
  hl : h < wr.heap.size
  r0 : wr.cell? ⟨r, 0, none⟩ = some (.int .i64 0)
  r1 : wr.cell? ⟨r, 1, none⟩ = some (.int .i64 0)
  r2 : wr.cell? ⟨r, 2, none⟩ = some (.slice none 0 0)
  rf : ∀ o, wr.frozen? ⟨r, o, none⟩ = false
  h0 : wr.cell? ⟨h, 0, none⟩ = some (.int .i64 a)
  h1 : wr.cell? ⟨h, 1, none⟩ = some (.int .i64 b)
  h2 : wr.cell? ⟨h, 2, none⟩ = some (.slice ao n c)
  hf : ∀ o, wr.frozen? ⟨h, o, none⟩ = false
  own : ∃ lo hi, IvI lo hi wr (.slice ao n c) xs ∧ r < lo ∧ (hi ≤ h ∨ h < lo)
  len : xs.length = n
theorem BtAt.on {w : World} {s : Nat} {v : Value} {bs : List Nat} {t r h : Nat} {a b : Int} {xs : List Int} {ao : Option Addr} {n c N t5 t6 M : Nat} {wr w6 : World} (H : BtAt w s v bs t r h a b ao n c xs N t5 wr) (hs : s < w.heap.size) (hd : Drawn M s v bs t5 t6 wr w6) :
    BtAt w s v bs t r h a b ao n c xs (N + M) t6 w6 := by
  have hw := hd.2.1
  have h1 := H.rw
  have h2 := H.rh
  have h3 := H.hl
  refine ⟨H.dr.on hd, H.rw, H.rh, Nat.lt_of_lt_of_le H.hl hw.size, cell_wr hw H.r0 (by omega), cell_wr hw H.r1 (by omega), cell_wr hw H.r2 (by omega), fun o => (hw.frz _ _ (by omega)).trans (H.rf o),
    cell_wr hw H.h0 (by omega), cell_wr hw H.h1 (by omega), cell_wr hw H.h2 (by omega), fun o => (hw.frz _ _ (by omega)).trans (H.hf o), ?_, H.len⟩
  obtain ⟨lo, hi, k1, k2, k3⟩ := H.own
  exact ⟨lo, hi, k1.wr hw (fun b g1 g2 => by omega), k2, k3⟩
theorem BtAt.later {w : World} {s : Nat} {v : Value} {bs : List Nat} {t r h : Nat} {a b : Int} {xs : List Int} {ao : Option Addr} {n c N t5 : Nat} {wr w6 : World} (H : BtAt w s v bs t r h a b ao n c xs N t5 wr) (hb : Below wr.heap.size wr w6) :
    BtAt w s v bs t r h a b ao n c xs N t5 w6 := by
  have h2 := H.rh
  have h3 := H.hl
  refine ⟨H.dr.later hb, H.rw, H.rh, Nat.lt_of_lt_of_le H.hl hb.size, cell_later hb H.r0, cell_later hb H.r1, cell_later hb H.r2, fun o => ((bcell hb).2 _ _ (by omega)).trans (H.rf o),
    cell_later hb H.h0, cell_later hb H.h1, cell_later hb H.h2, fun o => ((bcell hb).2 _ _ (by omega)).trans (H.hf o), ?_, H.len⟩
  obtain ⟨lo, hi, k1, k2, k3⟩ := H.own
  exact ⟨lo, hi, k1.later hb, k2, k3⟩
theorem BtAt.fin {w : World} {s : Nat} {v : Value} {bs : List Nat} {t r h : Nat} {a b : Int} {xs : List Int} {ao : Option Addr} {n c N t5 : Nat} {wr : World} (hS : Src s v bs w t) (H : BtAt w s v bs t r h a b ao n c xs N t5 wr) (x y z : Value) :
    OwI w.heap.size (((wr.setCell ⟨r, 0, none⟩ x).setCell ⟨r, 1, none⟩ y).setCell ⟨r, 2, none⟩ z) (.slice ao n c) xs ∧ Drawn N s v bs t t5 w (((wr.setCell ⟨r, 0, none⟩ x).setCell ⟨r, 1, none⟩ y).setCell ⟨r, 2, none⟩ z) := by
  have k1 := H.rw
  have hB : Below w.heap.size wr (((wr.setCell ⟨r, 0, none⟩ x).setCell ⟨r, 1, none⟩ y).setCell ⟨r, 2, none⟩ z) := (((Below.refl _ _).setCell k1 _).setCell k1 _).setCell k1 _
  have hW : Wr (fun y => y = r) wr (((wr.setCell ⟨r, 0, none⟩ x).setCell ⟨r, 1, none⟩ y).setCell ⟨r, 2, none⟩ z) := (((Wr.refl (fun y => y = r) _).setCell (p := ⟨r, 0, none⟩) rfl _).setCell (p := ⟨r, 1, none⟩) rfl _).setCell (p := ⟨r, 2, none⟩) rfl _
  refine ⟨?_, H.dr.onBelow hS hB⟩
  obtain ⟨lo, hi, g1, g2, g3⟩ := H.own
  obtain ⟨b', q1, q2⟩ := g1.wr hW (fun b e1 e2 => by omega)
  exact ⟨b', q1, fun hne => ⟨by have := (q2 hne).1; omega, (q2 hne).2.2.1, (q2 hne).2.2.2⟩⟩
theorem BtAt.set0 {w : World} {s : Nat} {v : Value} {bs : List Nat} {t r h : Nat} {a b : Int} {xs : List Int} {ao : Option Addr} {n c N t5 : Nat} {wr : World} (hS : Src s v bs w t) (H : BtAt w s v bs t r h a b ao n c xs N t5 wr) (x : Int) :
    BtAt w s v bs t r h x b ao n c xs N t5 (wr.setCell ⟨h, 0, none⟩ (.int .i64 x)) := by
  have k1 := H.rw
  have k2 := H.rh
  have hW : Wr (fun y => y = h) wr (wr.setCell ⟨h, 0, none⟩ (.int .i64 x)) := (Wr.refl (fun y => y = h) _).setCell (p := ⟨h, 0, none⟩) rfl _
  refine ⟨H.dr.onBelow hS ((Below.refl _ _).setCell (by simp; omega) _), H.rw, H.rh, by simpa using H.hl, cell_wr hW H.r0 (by omega), cell_wr hW H.r1 (by omega), cell_wr hW H.r2 (by omega), fun o => by rw [World.frozen?_setCell]; exact H.rf o, World.cell?_setCell_same _ _ _ H.h0, ?_, ?_, fun o => by rw [World.frozen?_setCell]; exact H.hf o, ?_, H.len⟩
  · rw [World.cell?_setCell_other _ _ _ _ (by simp)]; exact H.h1
  · rw [World.cell?_setCell_other _ _ _ _ (by simp)]; exact H.h2
  · obtain ⟨lo, hi, g1, g2, g3⟩ := H.own
    exact ⟨lo, hi, g1.wr hW (fun b e1 e2 => by omega), g2, g3⟩
theorem BtAt.set1 {w : World} {s : Nat} {v : Value} {bs : List Nat} {t r h : Nat} {a b : Int} {xs : List Int} {ao : Option Addr} {n c N t5 : Nat} {wr : World} (hS : Src s v bs w t) (H : BtAt w s v bs t r h a b ao n c xs N t5 wr) (x : Int) :
    BtAt w s v bs t r h a x ao n c xs N t5 (wr.setCell ⟨h, 1, none⟩ (.int .i64 x)) := by
  have k1 := H.rw
  have k2 := H.rh
  have hW : Wr (fun y => y = h) wr (wr.setCell ⟨h, 1, none⟩ (.int .i64 x)) := (Wr.refl (fun y => y = h) _).setCell (p := ⟨h, 1, none⟩) rfl _
  refine ⟨H.dr.onBelow hS ((Below.refl _ _).setCell (by simp; omega) _), H.rw, H.rh, by simpa using H.hl, cell_wr hW H.r0 (by omega), cell_wr hW H.r1 (by omega), cell_wr hW H.r2 (by omega), fun o => by rw [World.frozen?_setCell]; exact H.rf o, ?_, World.cell?_setCell_same _ _ _ H.h1, ?_, fun o => by rw [World.frozen?_setCell]; exact H.hf o, ?_, H.len⟩
  · rw [World.cell?_setCell_other _ _ _ _ (by simp)]; exact H.h0
  · rw [World.cell?_setCell_other _ _ _ _ (by simp)]; exact H.h2
  · obtain ⟨lo, hi, g1, g2, g3⟩ := H.own
    exact ⟨lo, hi, g1.wr hW (fun b e1 e2 => by omega), g2, g3⟩
theorem BtAt.set2 {w : World} {s : Nat} {v : Value} {bs : List Nat} {t r h : Nat} {a b : Int} {xs ys : List Int} {ao ao' : Option Addr} {n c N t5 n' c' lo hi : Nat} {wr w3 : World} (hS : Src s v bs w t) (H : BtAt w s v bs t r h a b ao n c xs N t5 wr) (hc : ∀ b o, b = r ∨ b = h → w3.cell? ⟨b, o, none⟩ = wr.cell? ⟨b, o, none⟩) (hz : ∀ b o, b = r ∨ b = h → w3.frozen? ⟨b, o, none⟩ = wr.frozen? ⟨b, o, none⟩) (hB2 : Below w.heap.size wr w3)
    (hi3 : IvI lo hi w3 (.slice ao' n' c') ys) (h1 : r < lo) (h2 : hi ≤ h ∨ h < lo) (hl : ys.length = n') :
    BtAt w s v bs t r h a b ao' n' c' ys N t5 (w3.setCell ⟨h, 2, none⟩ (.slice ao' n' c')) := by
  have k1 := H.rw
  have k2 := H.rh
  have k3 := H.hl
  have hW : Wr (fun y => y = h) w3 (w3.setCell ⟨h, 2, none⟩ (.slice ao' n' c')) := (Wr.refl (fun y => y = h) _).setCell (p := ⟨h, 2, none⟩) rfl _
  refine ⟨H.dr.onBelow hS (hB2.setCell (by simp; omega) _), H.rw, H.rh, by simp; have := hB2.size; omega, ?_, ?_, ?_, fun o => by rw [World.frozen?_setCell, hz _ _ (Or.inl rfl)]; exact H.rf o, ?_, ?_, World.cell?_setCell_same _ _ _ ((hc _ _ (Or.inr rfl)).trans H.h2), fun o => by rw [World.frozen?_setCell, hz _ _ (Or.inr rfl)]; exact H.hf o, ⟨lo, hi, hi3.wr hW (fun b e1 e2 => by omega), h1, h2⟩, hl⟩
  · exact cell_wr hW ((hc _ _ (Or.inl rfl)).trans H.r0) (by omega)
  · exact cell_wr hW ((hc _ _ (Or.inl rfl)).trans H.r1) (by omega)
  · exact cell_wr hW ((hc _ _ (Or.inl rfl)).trans H.r2) (by omega)
  · rw [World.cell?_setCell_other _ _ _ _ (by simp)]; exact (hc _ _ (Or.inr rfl)).trans H.h0
  · rw [World.cell?_setCell_other _ _ _ _ (by simp)]; exact (hc _ _ (Or.inr rfl)).trans H.h1
end Go.Proofs.YtlliggfggadidaaGreatDoor
namespace Go.Proofs.YtlliggfggadidaaGreatDoor
open Go.RowKit
theorem ownsRow_from {w : World} {B e s : Nat} {v : Value} {n : Nat} {xs : List Value} (h : w.ownsRow 0 e s v n xs) (hB : ∀ r, v.ownBlock = some r → B ≤ r) : w.ownsRow B e s v n xs := by
  refine ⟨h.1, ?_⟩
  rcases h.2 with h | ⟨g, cap, cur, h1, _, h3⟩
  · exact Or.inl h
  · exact Or.inr ⟨g, cap, cur, h1, hB g (by rw [h1]; rfl), h3⟩
theorem EoRow.head {P : Nat → Prop} {w : World} {v : Value} {gs : List Oj} (h : EoRow P w v 1 gs) :
    ∃ g cap ao c, v = .slice (some ⟨g, 0, none⟩) 1 cap ∧ w.cell? ⟨g, 0, none⟩ = some (.int .i64 (gs.getD 0 oj0).1) ∧ w.cell? ⟨g, 1, none⟩ = some (.int .i64 (gs.getD 0 oj0).2.1) ∧ w.cell? ⟨g, 2, none⟩ = some (.slice ao (gs.getD 0 oj0).2.2.length c) ∧
      w.ownsRow 0 2 1 (.slice ao (gs.getD 0 oj0).2.2.length c) (gs.getD 0 oj0).2.2.length ((gs.getD 0 oj0).2.2.map (Value.int .i64)) ∧ ∀ r, (Value.slice ao (gs.getD 0 oj0).2.2.length c).ownBlock = some r → P r := by
  obtain ⟨V, h1, h2, h3⟩ := h
  obtain ⟨k1, k2⟩ := h3.1 0 (by omega)
  obtain ⟨ao, c, hV⟩ := owns_shapeR k1
  dsimp only at hV k1
  rw [hV] at k1 k2
  rcases h1.2 with ⟨_, e⟩ | ⟨g, cap, cur, rfl, hg, hh, _⟩
  · exact absurd e (by decide)
  · refine ⟨g, cap, ao, c, rfl, ?_, ?_, ?_, k1, fun r hr => (k2 r hr).1⟩
    · have := h1.cellAt (0 * 3) (by omega)
      rw [cellsEn_flg _ _ _ 0 (by omega)] at this
      simpa using this
    · have := h1.cellAt (0 * 3 + 1) (by omega)
      rw [cellsEn_num _ _ _ 0 (by omega)] at this
      simpa using this
    · have := h1.cellAt (0 * 3 + 2) (by omega)
      rw [cellsEn_words _ _ _ 0 (by omega), hV] at this
      simpa using this
set_option maxHeartbeats 4000000 in
set_option maxRecDepth 4000 in
theorem l9Bent {s : Nat} {v : Value} {bs : List Nat} {w : World} {t : Nat} (hS : Src s v bs w t) (ht : t ≤ 800000000) :
    Calls Tryz.prog 54 #[.pointer (some ⟨s, 0, none⟩)] w fun e w' => ∃ (a b : Int) (z : Value) (xs : List Int), e = .returned (.agg #[.int .i64 a, .int .i64 b, z]) ∧ xs.length ≤ 8 ∧ OwI w.heap.size w' z xs ∧ ∃ t', Drawn 200 s v bs t t' w w' := by
  have HS := hide hS
  have hsl := hS.lt
  obtain ⟨i0, hi, hz0, hz1, hz2⟩ := info_parts Tryz.infoInt
  clear hS
  go_enter Tryz.func54, Tryz.ntmps54
  go_wp2_with fail
  have D0 := hide ((Drawn.refl HS.out).later (below_alloc w (.cells #[.int .i64 0, .int .i64 0, .slice none 0 0] 58)))
  refine (l1Next 20 D0.out.1 (by omega) (by omega) (by omega)).mono ?_
  rintro e u1 ⟨p1, rfl, p1a, p1b, tt1, hd1⟩
  have p1c := p1b (by omega)
  have E1 := hide (D0.out.on hd1)
  have HWb := hide hd1.2.1
  clear p1b hd1
  have hE1 := E1.out.2.2
  go_wp2_with fail
  refine (l1Next 4 E1.out.1 (by omega) (by omega) (by omega)).mono ?_
  rintro e u2 ⟨p2, rfl, p2a, p2b, tt2, hd1⟩
  have p2c := p2b (by omega)
  have E2 := hide (E1.out.on hd1)
  have HWa := hide (HWb.out.trans hd1.2.1)
  clear HWb
  clear p2b hd1 E1
  have hE2 := E2.out.2.2
  have hu2 : w.heap.size + 1 ≤ u2.heap.size := by
    have := HWa.out.size
    simpa using this
  go_wp2_with fail
  refine (l9Draw E2.out.1 (by omega) (1 + p1) (1 + p2) 1 (by omega) (by omega) (by omega) (by omega) (by omega)).mono ?_
  rintro e w1 ⟨z, gs, rfl, hgl, hpl, hrow, t1, hd1⟩
  have D1 := hide (E2.out.on hd1)
  obtain ⟨g0, cap0, ao, c, hz, y0, y1, y2, hown0, hP0⟩ := hrow.head
  subst hz
  obtain ⟨p, hp⟩ : ∃ p, gs.getD 0 oj0 = p := ⟨_, rfl⟩
  have hpm : p ∈ gs := by
    rw [← hp]
    match gs, hgl with
    | [q], _ => simp
  have hp4 := hpl p hpm
  rw [hp] at y0 y1 y2 hown0 hP0
  obtain ⟨a, b, xs⟩ := p
  dsimp only at y0 y1 y2 hown0 hP0 hp4
  obtain ⟨n, hxl⟩ : ∃ n, xs.length = n := ⟨_, rfl⟩
  rw [hxl] at y2 hown0 hP0 hp4
  have hz1' : u2.heap.size ≤ w1.heap.size := hd1.2.1.size
  have hown : w1.ownsRow (w.heap.size + 1) 2 1 (.slice ao n c) n (xs.map (Value.int .i64)) := ownsRow_from hown0 (fun r hr => by have := hP0 r hr; omega)
  have hg0l := World.block_lt_of_cell? _ _ y0
  have hwA : Wr (· = s) (w.alloc (.cells #[.int .i64 0, .int .i64 0, .slice none 0 0] 58)) w1 := HWa.out.trans hd1.2.1
  have HA : Hid (BtAt w s v bs t w.heap.size w1.heap.size a b ao n c xs 102 t1 (w1.alloc (.cells #[.int .i64 a, .int .i64 b, .slice ao n c] 58))) := by
    have hb := below_alloc w1 (.cells #[.int .i64 a, .int .i64 b, .slice ao n c] 58)
    have hw := hwA
    refine ⟨D1.out.later hb, Nat.le_refl _, by omega, by simp, cell_later hb (cell_wr hw (by simp [go_sem]) (by omega)), cell_later hb (cell_wr hw (by simp [go_sem]) (by omega)), cell_later hb (cell_wr hw (by simp [go_sem]) (by omega)), fun o => ((bcell hb).2 _ _ (by omega)).trans ((hw.frz _ _ (by simp)).trans (by simp [go_sem])), by simp [go_sem], by simp [go_sem], by simp [go_sem], fun o => by simp [go_sem], ?_, hxl⟩
    exact ⟨_, _, (ow_of_owns hxl hown (by omega)).iv.later hb, by omega, Or.inl (Nat.le_refl _)⟩
  have HO := hide (hown.alloc (.cells #[.int .i64 a, .int .i64 b, .slice ao n c] 58))
  have HOb : Hid (∀ g, (Value.slice ao n c).ownBlock = some g → w.heap.size + 1 ≤ g ∧ g < w1.heap.size) := fun g hg => by have := hown.lt _ hg; omega
  obtain ⟨h, hh⟩ : ∃ h, w1.heap.size = h := ⟨_, rfl⟩
  have HH := hide hh
  clear hown hown0 hP0 hd1 D1 D0 E2 hwA hp hpm hpl hrow hgl
  go_wp2_with fail
  refine (l1Next 8 HA.out.dr.1 (by have := HA.out.dr.2.2; omega) (by omega) (by omega)).mono ?_
  rintro e w2 ⟨k, rfl, ka, kb, t2, hd2⟩
  have HB2 := hide (HA.out.on hsl hd2)
  have HO2 := hide (ownsRow_wr HO.out hd2.2.1 (ownBlock_ne HO.out (by omega)))
  rw [hh] at HB2 HOb
  have hz2' : h + 1 ≤ w2.heap.size := by have := hd2.2.1.size; simp at this; omega
  clear hd2 kb HO HA hh hz1' y0 y1 y2 hg0l
  have r0 := HB2.out.r0
  have r1 := HB2.out.r1
  have r2 := HB2.out.r2
  have f0 := HB2.out.rf 0
  have f1 := HB2.out.rf 1
  have f2 := HB2.out.rf 2
  have q0 := HB2.out.h0
  have q1 := HB2.out.h1
  have q2 := HB2.out.h2
  have g0 := HB2.out.hf 0
  have g1 := HB2.out.hf 1
  have g2 := HB2.out.hf 2
  have hrh := HB2.out.rh
  by_cases hk0 : k = 0
  · subst hk0
    clear r0 r1 r2 f0 f1 f2 q0 q1 q2 g0 g1 g2
    go_wp2_with fail
    have H3 := hide (HB2.out.later (below_alloc w2 (.cells #[.int .i64 0, .int .i64 9999, .int .i64 10000] 2)))
    refine (l1Pick (xs := [0, 9999, 10000]) H3.out.dr.1 (by have := H3.out.dr.2.2; omega) (RdI_new s w2 [0, 9999, 10000] 2 (by omega) (by simp)) (by simp) (by simp)).mono ?_
    rintro e w3 ⟨i, hi3, rfl, t3, hd3⟩
    obtain ⟨x, hx⟩ : ∃ x : Int, ([0, 9999, 10000] : List Int).getD i 0 = x := ⟨_, rfl⟩
    rw [hx]
    have H4 := hide (H3.out.on hsl hd3)
    clear hd3 hx hi3 H3
    have HE := hide (H4.out.set0 HS.out x)
    have r0 := H4.out.r0
    have r1 := H4.out.r1
    have r2 := H4.out.r2
    have f0 := H4.out.rf 0
    have f1 := H4.out.rf 1
    have f2 := H4.out.rf 2
    have q0 := H4.out.h0
    have q1 := H4.out.h1
    have q2 := H4.out.h2
    have g0 := H4.out.hf 0
    have e0 := HE.out.r0
    have e1 := HE.out.r1
    have e2 := HE.out.r2
    have d0 := HE.out.h0
    have d1 := HE.out.h1
    have d2 := HE.out.h2
    go_wp2
    have hfin := HE.out.fin HS.out (.int .i64 x) (.int .i64 b) (.slice ao n c)
    exact bodyPost_ret (v := .agg #[.int .i64 x, .int .i64 b, .slice ao n c]) (by simp [results, Tryz.results54, go_sem, e0, e1, e2]) rfl ⟨x, b, .slice ao n c, xs, rfl, by omega, hfin.1, t3, hfin.2.mono (by omega)⟩
  by_cases hk1 : k = 1
  · subst hk1
    clear r0 r1 r2 f0 f1 f2 q0 q1 q2 g0 g1 g2
    go_wp2_with fail
    have H3 := hide (HB2.out.later (below_alloc w2 (.cells #[.int .i64 0, .int .i64 999, .int .i64 1000] 2)))
    refine (l1Pick (xs := [0, 999, 1000]) H3.out.dr.1 (by have := H3.out.dr.2.2; omega) (RdI_new s w2 [0, 999, 1000] 2 (by omega) (by simp)) (by simp) (by simp)).mono ?_
    rintro e w3 ⟨i, hi3, rfl, t3, hd3⟩
    obtain ⟨x, hx⟩ : ∃ x : Int, ([0, 999, 1000] : List Int).getD i 0 = x := ⟨_, rfl⟩
    rw [hx]
    have H4 := hide (H3.out.on hsl hd3)
    clear hd3 hx hi3 H3
    have HE := hide (H4.out.set1 HS.out x)
    have r0 := H4.out.r0
    have r1 := H4.out.r1
    have r2 := H4.out.r2
    have f0 := H4.out.rf 0
    have f1 := H4.out.rf 1
    have f2 := H4.out.rf 2
    have q0 := H4.out.h0
    have q1 := H4.out.h1
    have q2 := H4.out.h2
    have g1 := H4.out.hf 1
    have e0 := HE.out.r0
    have e1 := HE.out.r1
    have e2 := HE.out.r2
    have d0 := HE.out.h0
    have d1 := HE.out.h1
    have d2 := HE.out.h2
    go_wp2
    have hfin := HE.out.fin HS.out (.int .i64 a) (.int .i64 x) (.slice ao n c)
    exact bodyPost_ret (v := .agg #[.int .i64 a, .int .i64 x, .slice ao n c]) (by simp [results, Tryz.results54, go_sem, e0, e1, e2]) rfl ⟨a, x, .slice ao n c, xs, rfl, by omega, hfin.1, t3, hfin.2.mono (by omega)⟩
  by_cases hk2 : k = 2
  · subst hk2
    clear r0 r1 r2 f0 f1 f2 q0 q1 g0 g1 g2
    have d2 : (w2.alloc (.cells #[.int .i64 (-1), .int .i64 65536, .int .i64 65535] 2)).cell? ⟨h, 2, none⟩ = some (.slice ao n c) := cell_later (below_alloc w2 _) q2
    have H3 : Hid (BtAt w s v bs t w.heap.size h a b ao n c xs 103 t2 ((w2.drewN 1).alloc (.cells #[.int .i64 (-1), .int .i64 65536, .int .i64 65535] 2))) := (HB2.out.later (below_drewN w2 1)).later (below_alloc _ _)
    have HPk := hide (l1Pick (xs := [-1, 65536, 65535]) H3.out.dr.1 (by have := H3.out.dr.2.2; omega) (RdI_new s (w2.drewN 1) [-1, 65536, 65535] 2 (show s < w2.heap.size by omega) (by simp)) (by simp) (by simp))
    have HO3 : Hid (((w2.drewN 1).alloc (.cells #[.int .i64 (-1), .int .i64 65536, .int .i64 65535] 2)).ownsRow (w.heap.size + 1) 2 1 (.slice ao n c) n (xs.map (Value.int .i64))) := ownsRow_later (ownsRow_later HO2.out (below_drewN _ 1)) (below_alloc _ _)
    go_wp2_with fail
    go_region_law (first
      | (refine step_append_lies _ (by rfl) _ _ _ (by rfl) (w.heap.size + 1) 2 i0 (.int .i64 0) 1 8 Tryz.underlying24 hi hz0 hz1 hz2 rfl (by omega) (.slice ao n c) n _ (by rfl) (O4.out.alloc (.cells #[.int .i64 x] 2)) ⟨w3.heap.size, 0, none⟩ 1 1 [.int .i64 x] (by rfl) (by rfl) (World.news_of_block (cs := #[.int .i64 x]) (t := 2) (fr := (0, 0)) (heap_alloc_new w3 _)) (by simp [Value.oneCell']) (by omega) (by unfold maxLen; omega) (by omega) (by simp; omega) (w3.heap.size + 1) (by simp) ?_; intro g cap w7 hown hgrow hat hlt7; have s0 := (hgrow.cell_far ⟨h, 2, none⟩ (by simp; omega) (fun e => by have := (HOb.out _ e.symm).2; dsimp only at this; omega)).trans e1; have s1 : w7.frozen? ⟨h, 2, none⟩ = false := (hgrow.frozen_far ⟨h, 2, none⟩ (by simp; omega) (fun e => by have := (HOb.out _ e.symm).2; dsimp only at this; omega)).trans (((bcell (below_alloc w3 _)).2 _ _ (by omega)).trans (H4.out.hf 2)))
      | (go_simp; go_at_call 53; refine HPk.out.mono ?_; rintro e w3 ⟨i, hi3, rfl, t3, hd3⟩; obtain ⟨x, hx⟩ : ∃ x : Int, ([-1, 65536, 65535] : List Int).getD i 0 = x := ⟨_, rfl⟩; rw [hx]; have H4 := hide (H3.out.on hsl hd3); have O4 := hide (ownsRow_wr HO3.out hd3.2.1 (ownBlock_ne HO3.out (by omega))); have e0 := H4.out.h2; have e1 := cell_later (below_alloc w3 (.cells #[.int .i64 x] 2)) e0; have hz3 : h + 1 ≤ w3.heap.size := (by have := H4.out.hl; omega); clear hd3 hx hi3))
    all_goals
      have hl1 : (xs ++ [x]).length = n + 1 := by simp [hxl]
      have hg : g ≠ h ∧ w.heap.size < g := by
        have h1 := hown.lt g rfl
        refine ⟨?_, by omega⟩
        rcases hat with hat | hat
        · have := HOb.out _ hat; omega
        · omega
      have HE : Hid (BtAt w s v bs t w.heap.size h a b (some ⟨g, 0, none⟩) (n + 1) cap (xs ++ [x]) 104 t3 (w7.setCell ⟨h, 2, none⟩ (.slice (some ⟨g, 0, none⟩) (n + 1) cap))) := by
        refine BtAt.set2 (lo := g) (hi := g + 1) HS.out H4.out (fun b o hb => ?_) (fun b o hb => ?_) ?_ (iv_of_owns hl1 (by rw [List.map_append]; exact hown) (by omega)) hg.2 (by omega) hl1
        · exact (hgrow.cell_far ⟨b, o, none⟩ (by simp; omega) (fun e => by have := HOb.out _ e.symm; dsimp only at this; omega)).trans ((bcell (below_alloc w3 _)).1 _ _ (by omega))
        · exact (hgrow.frozen_far ⟨b, o, none⟩ (by simp; omega) (fun e => by have := HOb.out _ e.symm; dsimp only at this; omega)).trans ((bcell (below_alloc w3 _)).2 _ _ (by omega))
        · exact ((below_alloc w3 (.cells #[.int .i64 x] 2)).mono (by omega)).grown hgrow (by simp; omega) (fun r hr => by have := HOb.out _ hr; omega)
      clear hown hgrow hat s0 s1 e0 e1
      have r0 := HE.out.r0
      have r1 := HE.out.r1
      have r2 := HE.out.r2
      have f0 := HE.out.rf 0
      have f1 := HE.out.rf 1
      have f2 := HE.out.rf 2
      have d0 := HE.out.h0
      have d1 := HE.out.h1
      have d2 := HE.out.h2
      obtain ⟨W, hW⟩ : ∃ W, w7.setCell ⟨h, 2, none⟩ (.slice (some ⟨g, 0, none⟩) (n + 1) cap) = W := ⟨_, rfl⟩
      rw [hW] at HE r0 r1 r2 f0 f1 f2 d0 d1 d2
      go_wp2
      have hfin := HE.out.fin HS.out (.int .i64 a) (.int .i64 b) (.slice (some ⟨g, 0, none⟩) (n + 1) cap)
      exact bodyPost_ret (v := .agg #[.int .i64 a, .int .i64 b, .slice (some ⟨g, 0, none⟩) (n + 1) cap]) (by simp [results, Tryz.results54, go_sem, r0, r1, r2]) rfl ⟨a, b, _, xs ++ [x], rfl, by omega, hfin.1, t3, hfin.2.mono (by omega)⟩
  by_cases hk3 : k = 3
  · subst hk3
    clear r0 r1 r2 f0 f1 f2 q0 q1 q2 g0 g1 g2
    have hz3 : h + 1 ≤ w2.heap.size := hz2'
    have HI := hide (made_ints w2 7 (by omega) 2)
    have hmk : ∀ wz : World, (Instr.makeSlice 24 (.int .i64 7) (.int .i64 7)).run Tryz.prog wz = .ok (.slice (some ⟨wz.heap.size, 0, none⟩) 7 7) (wz.alloc (.cells (madeCells #[.int .i64 0] 7) 2)) := fun wz => run_make_row' (P := Tryz.prog) 24 2 (.int .i64 0) 8 Tryz.underlying24 Tryz.infoInt rfl .i64 .i64 7 (by omega) (by omega) wz
    generalize madeCells #[.int .i64 0] 7 = M at hmk HI
    have hb := below_alloc w2 (.cells M 2)
    have HE : Hid (BtAt w s v bs t w.heap.size h a b (some ⟨w2.heap.size, 0, none⟩) 7 7 (List.replicate 7 0) 103 t2 ((w2.alloc (.cells M 2)).setCell ⟨h, 2, none⟩ (.slice (some ⟨w2.heap.size, 0, none⟩) 7 7))) :=
      BtAt.set2 HS.out HB2.out (fun b o hb' => (bcell hb).1 _ _ (by omega)) (fun b o hb' => (bcell hb).2 _ _ (by omega)) (hb.mono (by omega)) HI.out.iv (by omega) (Or.inr (by omega)) (by simp)
    have H5 := hide (HB2.out.later hb)
    have c2 := H5.out.h2
    have k2 := H5.out.hf 2
    clear hb
    go_upto_region 11 with fail
    refine forget' (fun wx => BtAt w s v bs t w.heap.size h a b (some ⟨w2.heap.size, 0, none⟩) 7 7 (List.replicate 7 0) 103 t2 wx) HE.out ?_
    clear HE c2 k2 hmk HI H5
    rintro W hE
    have HE := hide hE
    have r0 := hE.r0
    have r1 := hE.r1
    have r2 := hE.r2
    have f0 := hE.rf 0
    have f1 := hE.rf 1
    have f2 := hE.rf 2
    have d0 := hE.h0
    have d1 := hE.h1
    have d2 := hE.h2
    clear hE
    go_wp2
    have hfin := HE.out.fin HS.out (.int .i64 a) (.int .i64 b) (.slice (some ⟨w2.heap.size, 0, none⟩) 7 7)
    exact bodyPost_ret (v := .agg #[.int .i64 a, .int .i64 b, .slice (some ⟨w2.heap.size, 0, none⟩) 7 7]) (by simp [results, Tryz.results54, go_sem, r0, r1, r2]) rfl ⟨a, b, _, List.replicate 7 0, rfl, by simp, hfin.1, t2, hfin.2.mono (by omega)⟩
  · go_wp2
    have hfin := HB2.out.fin HS.out (.int .i64 a) (.int .i64 b) (.slice ao n c)
    exact bodyPost_ret (v := .agg #[.int .i64 a, .int .i64 b, .slice ao n c]) (by simp [results, Tryz.results54, go_sem, r0, r1, r2]) rfl ⟨a, b, .slice ao n c, xs, rfl, by omega, hfin.1, t2, hfin.2.mono (by omega)⟩
end Go.Proofs.YtlliggfggadidaaGreatDoor
