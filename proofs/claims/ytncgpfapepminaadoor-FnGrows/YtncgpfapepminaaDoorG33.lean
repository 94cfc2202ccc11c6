/- DrawE3 in one text: what each says stands at its head below. -/
import Derived.Test.YtncgpfapepminaaDoorG32
/- Chapter 9, draws: 'spec.l9Bent', walked. Made by program out of the object's (gendrawe3.py). -/
namespace Go.Proofs.YtncgpfapepminaaDoor
open Go.RowKit

theorem ownsRow_from {w : World} {B e s : Nat} {v : Value} {n : Nat} {xs : List Value} (h : w.ownsRow 0 e s v n xs) (hB : ∀ r, v.ownBlock = some r → B ≤ r) : w.ownsRow B e s v n xs := by
  refine ⟨h.1, ?_⟩
  rcases h.2 with h | ⟨g, cap, cur, h1, _, h3⟩
  · exact Or.inl h
  · exact Or.inr ⟨g, cap, cur, h1, hB g (by rw [h1]; rfl), h3⟩
/-- The first of the entries. -/
theorem EoRow.head {P : Nat → Prop} {w : World} {v : Value} {gs : List Oj} (h : EoRow P w v 1 gs) :
    ∃ g cap ao c, v = .slice (some ⟨g, 0, none⟩) 1 cap ∧ w.cell? ⟨g, 0, none⟩ = some (.int .i64 (gs.getD 0 oj0).1) ∧ w.cell? ⟨g, 1, none⟩ = some (.int .i64 (gs.getD 0 oj0).2.1) ∧ w.cell? ⟨g, 2, none⟩ = some (.slice ao (gs.getD 0 oj0).2.2.length c) ∧
      w.ownsRow 0 2 1 (.slice ao (gs.getD 0 oj0).2.2.length c) (gs.getD 0 oj0).2.2.length ((gs.getD 0 oj0).2.2.map (Value.int .i64)) ∧ ∀ r, (Value.slice ao (gs.getD 0 oj0).2.2.length c).ownBlock = some r → P r := by
  obtain ⟨V, h1, h2, h3⟩ := h
  obtain ⟨k1, k2⟩ := h3.1 0 (by omega)
  obtain ⟨ao, c, hV⟩ := owns_shapeR k1
  dsimp only at hV k1
  rw [hV] at k1 k2
  rcases h1.2 with ⟨_, e⟩ | ⟨g, cap, cur, rfl, hg, hh, _⟩
  · exact absurd e (by decide)
  · refine ⟨g, cap, ao, c, rfl, ?_, ?_, ?_, k1, fun r hr => (k2 r hr).1⟩
    · have := h1.cellAt (0 * 3) (by omega)
      rw [cellsEn_flg _ _ _ 0 (by omega)] at this
      simpa using this
    · have := h1.cellAt (0 * 3 + 1) (by omega)
      rw [cellsEn_num _ _ _ 0 (by omega)] at this
      simpa using this
    · have := h1.cellAt (0 * 3 + 2) (by omega)
      rw [cellsEn_words _ _ _ 0 (by omega), hV] at this
      simpa using this

set_option maxHeartbeats 4000000 in
set_option maxRecDepth 4000 in
/-- 'l9Bent': some entry of new memory. -/
theorem l9Bent {s : Nat} {v : Value} {bs : List Nat} {w : World} {t : Nat} (hS : Src s v bs w t) (ht : t ≤ 800000000) :
    Calls Tryd.prog 67 #[.pointer (some ⟨s, 0, none⟩)] w fun e w' => ∃ (a b : Int) (z : Value) (xs : List Int), e = .returned (.agg #[.int .i64 a, .int .i64 b, z]) ∧ xs.length ≤ 8 ∧ OwI w.heap.size w' z xs ∧ ∃ t', Drawn 200 s v bs t t' w w' := by
  have HS := hide hS
  have hsl := hS.lt
  obtain ⟨i0, hi, hz0, hz1, hz2⟩ := info_parts Tryd.infoInt
  clear hS
  go_enter Tryd.func67, Tryd.ntmps67
  go_wp2_with fail
  have D0 := hide ((Drawn.refl HS.out).later (below_alloc w (.cells #[.int .i64 0, .int .i64 0, .slice none 0 0] 43)))
  refine (l1Next 20 D0.out.1 (by omega) (by omega) (by omega)).mono ?_
  rintro e u1 ⟨p1, rfl, p1a, p1b, tt1, hd1⟩
  have p1c := p1b (by omega)
  have E1 := hide (D0.out.on hd1)
  have HWb := hide hd1.2.1
  clear p1b hd1
  have hE1 := E1.out.2.2
  go_wp2_with fail
  refine (l1Next 4 E1.out.1 (by omega) (by omega) (by omega)).mono ?_
  rintro e u2 ⟨p2, rfl, p2a, p2b, tt2, hd1⟩
  have p2c := p2b (by omega)
  have E2 := hide (E1.out.on hd1)
  have HWa := hide (HWb.out.trans hd1.2.1)
  clear HWb
  clear p2b hd1 E1
  have hE2 := E2.out.2.2
  have hu2 : w.heap.size + 1 ≤ u2.heap.size := by
    have := HWa.out.size
    simpa using this
  go_wp2_with fail
  refine (l9Draw E2.out.1 (by omega) (1 + p1) (1 + p2) 1 (by omega) (by omega) (by omega) (by omega) (by omega)).mono ?_
  rintro e w1 ⟨z, gs, rfl, hgl, hpl, hrow, t1, hd1⟩
  have D1 := hide (E2.out.on hd1)
  obtain ⟨g0, cap0, ao, c, hz, y0, y1, y2, hown0, hP0⟩ := hrow.head
  subst hz
  obtain ⟨p, hp⟩ : ∃ p, gs.getD 0 oj0 = p := ⟨_, rfl⟩
  have hpm : p ∈ gs := by
    rw [← hp]
    match gs, hgl with
    | [q], _ => simp
  have hp4 := hpl p hpm
  rw [hp] at y0 y1 y2 hown0 hP0
  obtain ⟨a, b, xs⟩ := p
  dsimp only at y0 y1 y2 hown0 hP0 hp4
  obtain ⟨n, hxl⟩ : ∃ n, xs.length = n := ⟨_, rfl⟩
  rw [hxl] at y2 hown0 hP0 hp4
  have hz1' : u2.heap.size ≤ w1.heap.size := hd1.2.1.size
  have hown : w1.ownsRow (w.heap.size + 1) 2 1 (.slice ao n c) n (xs.map (Value.int .i64)) := ownsRow_from hown0 (fun r hr => by have := hP0 r hr; omega)
  have hg0l := World.block_lt_of_cell? _ _ y0
  have hwA : Wr (· = s) (w.alloc (.cells #[.int .i64 0, .int .i64 0, .slice none 0 0] 43)) w1 := HWa.out.trans hd1.2.1
  have HA : Hid (BtAt w s v bs t w.heap.size w1.heap.size a b ao n c xs 102 t1 (w1.alloc (.cells #[.int .i64 a, .int .i64 b, .slice ao n c] 43))) := by
    have hb := below_alloc w1 (.cells #[.int .i64 a, .int .i64 b, .slice ao n c] 43)
    have hw := hwA
    refine ⟨D1.out.later hb, Nat.le_refl _, by omega, by simp, cell_later hb (cell_wr hw (by simp [go_sem]) (by omega)), cell_later hb (cell_wr hw (by simp [go_sem]) (by omega)), cell_later hb (cell_wr hw (by simp [go_sem]) (by omega)), fun o => ((bcell hb).2 _ _ (by omega)).trans ((hw.frz _ _ (by simp)).trans (by simp [go_sem])), by simp [go_sem], by simp [go_sem], by simp [go_sem], fun o => by simp [go_sem], ?_, hxl⟩
    exact ⟨_, _, (ow_of_owns hxl hown (by omega)).iv.later hb, by omega, Or.inl (Nat.le_refl _)⟩
  have HO := hide (hown.alloc (.cells #[.int .i64 a, .int .i64 b, .slice ao n c] 43))
  have HOb : Hid (∀ g, (Value.slice ao n c).ownBlock = some g → w.heap.size + 1 ≤ g ∧ g < w1.heap.size) := fun g hg => by have := hown.lt _ hg; omega
  obtain ⟨h, hh⟩ : ∃ h, w1.heap.size = h := ⟨_, rfl⟩
  have HH := hide hh
  clear hown hown0 hP0 hd1 D1 D0 E2 hwA hp hpm hpl hrow hgl
  go_wp2_with fail
  refine (l1Next 8 HA.out.dr.1 (by have := HA.out.dr.2.2; omega) (by omega) (by omega)).mono ?_
  rintro e w2 ⟨k, rfl, ka, kb, t2, hd2⟩
  have HB2 := hide (HA.out.on hsl hd2)
  have HO2 := hide (ownsRow_wr HO.out hd2.2.1 (ownBlock_ne HO.out (by omega)))
  rw [hh] at HB2 HOb
  have hz2' : h + 1 ≤ w2.heap.size := by have := hd2.2.1.size; simp at this; omega
  clear hd2 kb HO HA hh hz1' y0 y1 y2 hg0l
  have r0 := HB2.out.r0
  have r1 := HB2.out.r1
  have r2 := HB2.out.r2
  have f0 := HB2.out.rf 0
  have f1 := HB2.out.rf 1
  have f2 := HB2.out.rf 2
  have q0 := HB2.out.h0
  have q1 := HB2.out.h1
  have q2 := HB2.out.h2
  have g0 := HB2.out.hf 0
  have g1 := HB2.out.hf 1
  have g2 := HB2.out.hf 2
  have hrh := HB2.out.rh
  by_cases hk0 : k = 0
  · subst hk0
    clear r0 r1 r2 f0 f1 f2 q0 q1 q2 g0 g1 g2
    go_wp2_with fail
    have H3 := hide (HB2.out.later (below_alloc w2 (.cells #[.int .i64 0, .int .i64 9999, .int .i64 10000] 2)))
    refine (l1Pick (xs := [0, 9999, 10000]) H3.out.dr.1 (by have := H3.out.dr.2.2; omega) (RdI_new s w2 [0, 9999, 10000] 2 (by omega) (by simp)) (by simp) (by simp)).mono ?_
    rintro e w3 ⟨i, hi3, rfl, t3, hd3⟩
    obtain ⟨x, hx⟩ : ∃ x : Int, ([0, 9999, 10000] : List Int).getD i 0 = x := ⟨_, rfl⟩
    rw [hx]
    have H4 := hide (H3.out.on hsl hd3)
    clear hd3 hx hi3 H3
    have HE := hide (H4.out.set0 HS.out x)
    have r0 := H4.out.r0
    have r1 := H4.out.r1
    have r2 := H4.out.r2
    have f0 := H4.out.rf 0
    have f1 := H4.out.rf 1
    have f2 := H4.out.rf 2
    have q0 := H4.out.h0
    have q1 := H4.out.h1
    have q2 := H4.out.h2
    have g0 := H4.out.hf 0
    have e0 := HE.out.r0
    have e1 := HE.out.r1
    have e2 := HE.out.r2
    have d0 := HE.out.h0
    have d1 := HE.out.h1
    have d2 := HE.out.h2
    go_wp2
    have hfin := HE.out.fin HS.out (.int .i64 x) (.int .i64 b) (.slice ao n c)
    exact bodyPost_ret (v := .agg #[.int .i64 x, .int .i64 b, .slice ao n c]) (by simp [results, Tryd.results67, go_sem, e0, e1, e2]) rfl ⟨x, b, .slice ao n c, xs, rfl, by omega, hfin.1, t3, hfin.2.mono (by omega)⟩
  by_cases hk1 : k = 1
  · subst hk1
    clear r0 r1 r2 f0 f1 f2 q0 q1 q2 g0 g1 g2
    go_wp2_with fail
    have H3 := hide (HB2.out.later (below_alloc w2 (.cells #[.int .i64 0, .int .i64 999, .int .i64 1000] 2)))
    refine (l1Pick (xs := [0, 999, 1000]) H3.out.dr.1 (by have := H3.out.dr.2.2; omega) (RdI_new s w2 [0, 999, 1000] 2 (by omega) (by simp)) (by simp) (by simp)).mono ?_
    rintro e w3 ⟨i, hi3, rfl, t3, hd3⟩
    obtain ⟨x, hx⟩ : ∃ x : Int, ([0, 999, 1000] : List Int).getD i 0 = x := ⟨_, rfl⟩
    rw [hx]
    have H4 := hide (H3.out.on hsl hd3)
    clear hd3 hx hi3 H3
    have HE := hide (H4.out.set1 HS.out x)
    have r0 := H4.out.r0
    have r1 := H4.out.r1
    have r2 := H4.out.r2
    have f0 := H4.out.rf 0
    have f1 := H4.out.rf 1
    have f2 := H4.out.rf 2
    have q0 := H4.out.h0
    have q1 := H4.out.h1
    have q2 := H4.out.h2
    have g1 := H4.out.hf 1
    have e0 := HE.out.r0
    have e1 := HE.out.r1
    have e2 := HE.out.r2
    have d0 := HE.out.h0
    have d1 := HE.out.h1
    have d2 := HE.out.h2
    go_wp2
    have hfin := HE.out.fin HS.out (.int .i64 a) (.int .i64 x) (.slice ao n c)
    exact bodyPost_ret (v := .agg #[.int .i64 a, .int .i64 x, .slice ao n c]) (by simp [results, Tryd.results67, go_sem, e0, e1, e2]) rfl ⟨a, x, .slice ao n c, xs, rfl, by omega, hfin.1, t3, hfin.2.mono (by omega)⟩
  by_cases hk2 : k = 2
  · subst hk2
    clear r0 r1 r2 f0 f1 f2 q0 q1 g0 g1 g2
    have d2 : (w2.alloc (.cells #[.int .i64 (-1), .int .i64 65536, .int .i64 65535] 2)).cell? ⟨h, 2, none⟩ = some (.slice ao n c) := cell_later (below_alloc w2 _) q2
    have H3 : Hid (BtAt w s v bs t w.heap.size h a b ao n c xs 103 t2 ((w2.drewN 1).alloc (.cells #[.int .i64 (-1), .int .i64 65536, .int .i64 65535] 2))) := (HB2.out.later (below_drewN w2 1)).later (below_alloc _ _)
    have HPk := hide (l1Pick (xs := [-1, 65536, 65535]) H3.out.dr.1 (by have := H3.out.dr.2.2; omega) (RdI_new s (w2.drewN 1) [-1, 65536, 65535] 2 (show s < w2.heap.size by omega) (by simp)) (by simp) (by simp))
    have HO3 : Hid (((w2.drewN 1).alloc (.cells #[.int .i64 (-1), .int .i64 65536, .int .i64 65535] 2)).ownsRow (w.heap.size + 1) 2 1 (.slice ao n c) n (xs.map (Value.int .i64))) := ownsRow_later (ownsRow_later HO2.out (below_drewN _ 1)) (below_alloc _ _)
    go_wp2_with fail
    go_region_law (first
      | (refine step_append_lies _ (by rfl) _ _ _ (by rfl) (w.heap.size + 1) 2 i0 (.int .i64 0) 1 8 Tryd.underlying24 hi hz0 hz1 hz2 rfl (by omega) (.slice ao n c) n _ (by rfl) (O4.out.alloc (.cells #[.int .i64 x] 2)) ⟨w3.heap.size, 0, none⟩ 1 1 [.int .i64 x] (by rfl) (by rfl) (World.news_of_block (cs := #[.int .i64 x]) (t := 2) (fr := (0, 0)) (heap_alloc_new w3 _)) (by simp [Value.oneCell']) (by omega) (by unfold maxLen; omega) (by omega) (by simp; omega) (w3.heap.size + 1) (by simp) ?_; intro g cap w7 hown hgrow hat hlt7; have s0 := (hgrow.cell_far ⟨h, 2, none⟩ (by simp; omega) (fun e => by have := (HOb.out _ e.symm).2; dsimp only at this; omega)).trans e1; have s1 : w7.frozen? ⟨h, 2, none⟩ = false := (hgrow.frozen_far ⟨h, 2, none⟩ (by simp; omega) (fun e => by have := (HOb.out _ e.symm).2; dsimp only at this; omega)).trans (((bcell (below_alloc w3 _)).2 _ _ (by omega)).trans (H4.out.hf 2)))
      | (go_simp; go_at_call 25; refine HPk.out.mono ?_; rintro e w3 ⟨i, hi3, rfl, t3, hd3⟩; obtain ⟨x, hx⟩ : ∃ x : Int, ([-1, 65536, 65535] : List Int).getD i 0 = x := ⟨_, rfl⟩; rw [hx]; have H4 := hide (H3.out.on hsl hd3); have O4 := hide (ownsRow_wr HO3.out hd3.2.1 (ownBlock_ne HO3.out (by omega))); have e0 := H4.out.h2; have e1 := cell_later (below_alloc w3 (.cells #[.int .i64 x] 2)) e0; have hz3 : h + 1 ≤ w3.heap.size := (by have := H4.out.hl; omega); clear hd3 hx hi3))
    all_goals
      have hl1 : (xs ++ [x]).length = n + 1 := by simp [hxl]
      have hg : g ≠ h ∧ w.heap.size < g := by
        have h1 := hown.lt g rfl
        refine ⟨?_, by omega⟩
        rcases hat with hat | hat
        · have := HOb.out _ hat; omega
        · omega
      have HE : Hid (BtAt w s v bs t w.heap.size h a b (some ⟨g, 0, none⟩) (n + 1) cap (xs ++ [x]) 104 t3 (w7.setCell ⟨h, 2, none⟩ (.slice (some ⟨g, 0, none⟩) (n + 1) cap))) := by
        refine BtAt.set2 (lo := g) (hi := g + 1) HS.out H4.out (fun b o hb => ?_) (fun b o hb => ?_) ?_ (iv_of_owns hl1 (by rw [List.map_append]; exact hown) (by omega)) hg.2 (by omega) hl1
        · exact (hgrow.cell_far ⟨b, o, none⟩ (by simp; omega) (fun e => by have := HOb.out _ e.symm; dsimp only at this; omega)).trans ((bcell (below_alloc w3 _)).1 _ _ (by omega))
        · exact (hgrow.frozen_far ⟨b, o, none⟩ (by simp; omega) (fun e => by have := HOb.out _ e.symm; dsimp only at this; omega)).trans ((bcell (below_alloc w3 _)).2 _ _ (by omega))
        · exact ((below_alloc w3 (.cells #[.int .i64 x] 2)).mono (by omega)).grown hgrow (by simp; omega) (fun r hr => by have := HOb.out _ hr; omega)
      clear hown hgrow hat s0 s1 e0 e1
      have r0 := HE.out.r0
      have r1 := HE.out.r1
      have r2 := HE.out.r2
      have f0 := HE.out.rf 0
      have f1 := HE.out.rf 1
      have f2 := HE.out.rf 2
      have d0 := HE.out.h0
      have d1 := HE.out.h1
      have d2 := HE.out.h2
      obtain ⟨W, hW⟩ : ∃ W, w7.setCell ⟨h, 2, none⟩ (.slice (some ⟨g, 0, none⟩) (n + 1) cap) = W := ⟨_, rfl⟩
      rw [hW] at HE r0 r1 r2 f0 f1 f2 d0 d1 d2
      go_wp2
      have hfin := HE.out.fin HS.out (.int .i64 a) (.int .i64 b) (.slice (some ⟨g, 0, none⟩) (n + 1) cap)
      exact bodyPost_ret (v := .agg #[.int .i64 a, .int .i64 b, .slice (some ⟨g, 0, none⟩) (n + 1) cap]) (by simp [results, Tryd.results67, go_sem, r0, r1, r2]) rfl ⟨a, b, _, xs ++ [x], rfl, by omega, hfin.1, t3, hfin.2.mono (by omega)⟩
  by_cases hk3 : k = 3
  · subst hk3
    clear r0 r1 r2 f0 f1 f2 q0 q1 q2 g0 g1 g2
    have hz3 : h + 1 ≤ w2.heap.size := hz2'
    have HI := hide (made_ints w2 7 (by omega) 2)
    have hmk : ∀ wz : World, (Instr.makeSlice 24 (.int .i64 7) (.int .i64 7)).run Tryd.prog wz = .ok (.slice (some ⟨wz.heap.size, 0, none⟩) 7 7) (wz.alloc (.cells (madeCells #[.int .i64 0] 7) 2)) := fun wz => run_make_row' (P := Tryd.prog) 24 2 (.int .i64 0) 8 Tryd.underlying24 Tryd.infoInt rfl .i64 .i64 7 (by omega) (by omega) wz
    generalize madeCells #[.int .i64 0] 7 = M at hmk HI
    have hb := below_alloc w2 (.cells M 2)
    have HE : Hid (BtAt w s v bs t w.heap.size h a b (some ⟨w2.heap.size, 0, none⟩) 7 7 (List.replicate 7 0) 103 t2 ((w2.alloc (.cells M 2)).setCell ⟨h, 2, none⟩ (.slice (some ⟨w2.heap.size, 0, none⟩) 7 7))) :=
      BtAt.set2 HS.out HB2.out (fun b o hb' => (bcell hb).1 _ _ (by omega)) (fun b o hb' => (bcell hb).2 _ _ (by omega)) (hb.mono (by omega)) HI.out.iv (by omega) (Or.inr (by omega)) (by simp)
    have H5 := hide (HB2.out.later hb)
    have c2 := H5.out.h2
    have k2 := H5.out.hf 2
    clear hb
    go_upto_region 11 with fail
    refine forget' (fun wx => BtAt w s v bs t w.heap.size h a b (some ⟨w2.heap.size, 0, none⟩) 7 7 (List.replicate 7 0) 103 t2 wx) HE.out ?_
    clear HE c2 k2 hmk HI H5
    rintro W hE
    have HE := hide hE
    have r0 := hE.r0
    have r1 := hE.r1
    have r2 := hE.r2
    have f0 := hE.rf 0
    have f1 := hE.rf 1
    have f2 := hE.rf 2
    have d0 := hE.h0
    have d1 := hE.h1
    have d2 := hE.h2
    clear hE
    go_wp2
    have hfin := HE.out.fin HS.out (.int .i64 a) (.int .i64 b) (.slice (some ⟨w2.heap.size, 0, none⟩) 7 7)
    exact bodyPost_ret (v := .agg #[.int .i64 a, .int .i64 b, .slice (some ⟨w2.heap.size, 0, none⟩) 7 7]) (by simp [results, Tryd.results67, go_sem, r0, r1, r2]) rfl ⟨a, b, _, List.replicate 7 0, rfl, by simp, hfin.1, t2, hfin.2.mono (by omega)⟩
  · go_wp2
    have hfin := HB2.out.fin HS.out (.int .i64 a) (.int .i64 b) (.slice ao n c)
    exact bodyPost_ret (v := .agg #[.int .i64 a, .int .i64 b, .slice ao n c]) (by simp [results, Tryd.results67, go_sem, r0, r1, r2]) rfl ⟨a, b, .slice ao n c, xs, rfl, by omega, hfin.1, t2, hfin.2.mono (by omega)⟩

end Go.Proofs.YtncgpfapepminaaDoor
