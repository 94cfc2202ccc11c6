/- The model's draws of a header that may be bent: 'spec.l2Bent', 'spec.DrawPackHeader', walked. -/
import Derived.Test.YtojcjipelgjglaaDraw5
namespace Go.Proofs.Ytojcjipelgjglaa
open Go.RowKit

set_option maxHeartbeats 4000000 in
set_option maxRecDepth 4000 in
/-- 'l2Bent': some header of new memory. -/
theorem l2Bent {s : Nat} {v : Value} {bs : List Nat} {w : World} {t : Nat} (hS : Src s v bs w t) (ht : t ≤ 900000000) :
    Calls Try.prog 47 #[.pointer (some ⟨s, 0, none⟩)] w fun e w' => ∃ (a b : Int) (z : Value) (xs : List Int), e = .returned (.agg #[.int .i64 a, .int .i64 b, z]) ∧ xs.length ≤ 25 ∧ OwI w.heap.size w' z xs ∧ ∃ t', Drawn 30 s v bs t t' w w' := by
  have HS := hide hS
  have hsl := hS.lt
  obtain ⟨i0, hi, hz0, hz1, hz2⟩ := info_parts Try.infoInt
  clear hS
  go_enter Try.func47, Try.ntmps47
  go_wp2_with fail
  have D0 := hide ((Drawn.refl HS.out).later (below_alloc w (.cells #[.int .i64 0, .int .i64 0, .slice none 0 0] 27)))
  refine (l2Draw D0.out.1 (by omega)).mono ?_
  rintro e w1 ⟨a, b, ao, n, c, xs, rfl, hn8, hxl, hown, t1, hd1⟩
  have D1 := hide (D0.out.on hd1)
  have hz1' := hd1.2.1.size
  simp only [World.size_alloc] at hz1' hown
  have HA : Hid (BtAt w s v bs t w.heap.size w1.heap.size a b ao n c xs 20 t1 (w1.alloc (.cells #[.int .i64 a, .int .i64 b, .slice ao n c] 27))) := by
    have hb := below_alloc w1 (.cells #[.int .i64 a, .int .i64 b, .slice ao n c] 27)
    have hw := hd1.2.1
    refine ⟨D1.out.later hb, Nat.le_refl _, by omega, by simp, cell_later hb (cell_wr hw (by simp [go_sem]) (by omega)), cell_later hb (cell_wr hw (by simp [go_sem]) (by omega)), cell_later hb (cell_wr hw (by simp [go_sem]) (by omega)), fun o => ((bcell hb).2 _ _ (by omega)).trans ((hw.frz _ _ (by simp)).trans (by simp [go_sem])), by simp [go_sem], by simp [go_sem], by simp [go_sem], fun o => by simp [go_sem], ?_, hxl⟩
    exact ⟨_, _, (ow_of_owns hxl hown (by omega)).iv.later hb, by omega, Or.inl (Nat.le_refl _)⟩
  have HO := hide (hown.alloc (.cells #[.int .i64 a, .int .i64 b, .slice ao n c] 27))
  have HOb : Hid (∀ g, (Value.slice ao n c).ownBlock = some g → w.heap.size + 1 ≤ g ∧ g < w1.heap.size) := fun g hg => by have := hown.lt _ hg; omega
  obtain ⟨h, hh⟩ : ∃ h, w1.heap.size = h := ⟨_, rfl⟩
  have HH := hide hh
  clear hown hd1 D1 D0
  go_wp2_with fail
  refine (l1Next 10 HA.out.dr.1 (by have := HA.out.dr.2.2; omega) (by omega) (by omega)).mono ?_
  rintro e w2 ⟨k, rfl, ka, kb, t2, hd2⟩
  have HB2 := hide (HA.out.on hsl hd2)
  have HO2 := hide (ownsRow_wr HO.out hd2.2.1 (ownBlock_ne HO.out (by omega)))
  rw [hh] at HB2 HOb
  have hz2' : h + 1 ≤ w2.heap.size := by have := hd2.2.1.size; simp at this; omega
  clear hd2 kb HO HA hh hz1'
  have r0 := HB2.out.r0
  have r1 := HB2.out.r1
  have r2 := HB2.out.r2
  have f0 := HB2.out.rf 0
  have f1 := HB2.out.rf 1
  have f2 := HB2.out.rf 2
  have q0 := HB2.out.h0
  have q1 := HB2.out.h1
  have q2 := HB2.out.h2
  have g0 := HB2.out.hf 0
  have g1 := HB2.out.hf 1
  have g2 := HB2.out.hf 2
  have hrh := HB2.out.rh
  by_cases hk0 : k = 0
  · subst hk0
    clear r0 r1 r2 f0 f1 f2 q0 q1 q2 g0 g1 g2
    go_wp2_with fail
    have H3 := hide (HB2.out.later (below_alloc w2 (.cells #[.int .i64 0, .int .i64 65000, .int .i64 65001] 2)))
    refine (l1Pick (xs := [0, 65000, 65001]) H3.out.dr.1 (by have := H3.out.dr.2.2; omega) (RdI_new s w2 [0, 65000, 65001] 2 (by omega) (by simp)) (by simp) (by simp)).mono ?_
    rintro e w3 ⟨i, hi3, rfl, t3, hd3⟩
    obtain ⟨x, hx⟩ : ∃ x : Int, ([0, 65000, 65001] : List Int).getD i 0 = x := ⟨_, rfl⟩
    rw [hx]
    have H4 := hide (H3.out.on hsl hd3)
    clear hd3 hx hi3 H3
    have HE := hide (H4.out.set0 HS.out x)
    have r0 := H4.out.r0
    have r1 := H4.out.r1
    have r2 := H4.out.r2
    have f0 := H4.out.rf 0
    have f1 := H4.out.rf 1
    have f2 := H4.out.rf 2
    have q0 := H4.out.h0
    have q1 := H4.out.h1
    have q2 := H4.out.h2
    have g0 := H4.out.hf 0
    have e0 := HE.out.r0
    have e1 := HE.out.r1
    have e2 := HE.out.r2
    have d0 := HE.out.h0
    have d1 := HE.out.h1
    have d2 := HE.out.h2
    go_wp2
    have hfin := HE.out.fin HS.out (.int .i64 x) (.int .i64 b) (.slice ao n c)
    exact bodyPost_ret (v := .agg #[.int .i64 x, .int .i64 b, .slice ao n c]) (by simp [results, Try.results47, go_sem, e0, e1, e2]) rfl ⟨x, b, .slice ao n c, xs, rfl, by omega, hfin.1, t3, hfin.2.mono (by omega)⟩
  by_cases hk1 : k = 1
  · subst hk1
    clear r0 r1 r2 f0 f1 f2 q0 q1 q2 g0 g1 g2
    go_wp2_with fail
    have H3 := hide (HB2.out.later (below_alloc w2 (.cells #[.int .i64 (-1), .int .i64 24] 2)))
    refine (l1Pick (xs := [-1, 24]) H3.out.dr.1 (by have := H3.out.dr.2.2; omega) (RdI_new s w2 [-1, 24] 2 (by omega) (by simp)) (by simp) (by simp)).mono ?_
    rintro e w3 ⟨i, hi3, rfl, t3, hd3⟩
    obtain ⟨x, hx⟩ : ∃ x : Int, ([-1, 24] : List Int).getD i 0 = x := ⟨_, rfl⟩
    rw [hx]
    have H4 := hide (H3.out.on hsl hd3)
    clear hd3 hx hi3 H3
    have HE := hide (H4.out.set1 HS.out x)
    have r0 := H4.out.r0
    have r1 := H4.out.r1
    have r2 := H4.out.r2
    have f0 := H4.out.rf 0
    have f1 := H4.out.rf 1
    have f2 := H4.out.rf 2
    have q0 := H4.out.h0
    have q1 := H4.out.h1
    have q2 := H4.out.h2
    have g1 := H4.out.hf 1
    have e0 := HE.out.r0
    have e1 := HE.out.r1
    have e2 := HE.out.r2
    have d0 := HE.out.h0
    have d1 := HE.out.h1
    have d2 := HE.out.h2
    go_wp2
    have hfin := HE.out.fin HS.out (.int .i64 a) (.int .i64 x) (.slice ao n c)
    exact bodyPost_ret (v := .agg #[.int .i64 a, .int .i64 x, .slice ao n c]) (by simp [results, Try.results47, go_sem, e0, e1, e2]) rfl ⟨a, x, .slice ao n c, xs, rfl, by omega, hfin.1, t3, hfin.2.mono (by omega)⟩
  by_cases hk2 : k = 2
  · subst hk2
    clear r0 r1 r2 f0 f1 f2 q0 q1 g0 g1 g2
    have d2 : (w2.alloc (.cells #[.int .i64 (-1), .int .i64 40, .int .i64 39] 2)).cell? ⟨h, 2, none⟩ = some (.slice ao n c) := cell_later (below_alloc w2 _) q2
    have H3 : Hid (BtAt w s v bs t w.heap.size h a b ao n c xs 21 t2 ((w2.drewN 1).alloc (.cells #[.int .i64 (-1), .int .i64 40, .int .i64 39] 2))) := (HB2.out.later (below_drewN w2 1)).later (below_alloc _ _)
    have HPk := hide (l1Pick (xs := [-1, 40, 39]) H3.out.dr.1 (by have := H3.out.dr.2.2; omega) (RdI_new s (w2.drewN 1) [-1, 40, 39] 2 (show s < w2.heap.size by omega) (by simp)) (by simp) (by simp))
    have HO3 : Hid (((w2.drewN 1).alloc (.cells #[.int .i64 (-1), .int .i64 40, .int .i64 39] 2)).ownsRow (w.heap.size + 1 + 1) 2 1 (.slice ao n c) n (xs.map (Value.int .i64))) := ownsRow_later (ownsRow_later HO2.out (below_drewN _ 1)) (below_alloc _ _)
    go_wp2_with fail
    go_region_law (first
      | (refine step_append_lies _ (by rfl) _ _ _ (by rfl) (w.heap.size + 1 + 1) 2 i0 (.int .i64 0) 1 8 Try.underlying24 hi hz0 hz1 hz2 rfl (by omega) (.slice ao n c) n _ (by rfl) (O4.out.alloc (.cells #[.int .i64 x] 2)) ⟨w3.heap.size, 0, none⟩ 1 1 [.int .i64 x] (by rfl) (by rfl) (World.news_of_block (cs := #[.int .i64 x]) (t := 2) (fr := (0, 0)) (heap_alloc_new w3 _)) (by simp [Value.oneCell']) (by omega) (by unfold maxLen; omega) (by omega) (by simp; omega) (w3.heap.size + 1) (by simp) ?_; intro g cap w7 hown hgrow hat hlt7; have s0 := (hgrow.cell_far ⟨h, 2, none⟩ (by simp; omega) (fun e => by have := (HOb.out _ e.symm).2; dsimp only at this; omega)).trans e1; have s1 : w7.frozen? ⟨h, 2, none⟩ = false := (hgrow.frozen_far ⟨h, 2, none⟩ (by simp; omega) (fun e => by have := (HOb.out _ e.symm).2; dsimp only at this; omega)).trans (((bcell (below_alloc w3 _)).2 _ _ (by omega)).trans (H4.out.hf 2)))
      | (go_simp; go_at_call 38; refine HPk.out.mono ?_; rintro e w3 ⟨i, hi3, rfl, t3, hd3⟩; obtain ⟨x, hx⟩ : ∃ x : Int, ([-1, 40, 39] : List Int).getD i 0 = x := ⟨_, rfl⟩; rw [hx]; have H4 := hide (H3.out.on hsl hd3); have O4 := hide (ownsRow_wr HO3.out hd3.2.1 (ownBlock_ne HO3.out (by omega))); have e0 := H4.out.h2; have e1 := cell_later (below_alloc w3 (.cells #[.int .i64 x] 2)) e0; have hz3 : h + 1 ≤ w3.heap.size := (by have := H4.out.hl; omega); clear hd3 hx hi3))
    all_goals
      have hl1 : (xs ++ [x]).length = n + 1 := by simp [hxl]
      have hg : g ≠ h ∧ w.heap.size < g := by
        have h1 := hown.lt g rfl
        refine ⟨?_, by omega⟩
        rcases hat with hat | hat
        · have := HOb.out _ hat; omega
        · omega
      have HE : Hid (BtAt w s v bs t w.heap.size h a b (some ⟨g, 0, none⟩) (n + 1) cap (xs ++ [x]) 22 t3 (w7.setCell ⟨h, 2, none⟩ (.slice (some ⟨g, 0, none⟩) (n + 1) cap))) := by
        refine BtAt.set2 (lo := g) (hi := g + 1) HS.out H4.out (fun b o hb => ?_) (fun b o hb => ?_) ?_ (iv_of_owns hl1 (by rw [List.map_append]; exact hown) (by omega)) hg.2 (by omega) hl1
        · exact (hgrow.cell_far ⟨b, o, none⟩ (by simp; omega) (fun e => by have := HOb.out _ e.symm; dsimp only at this; omega)).trans ((bcell (below_alloc w3 _)).1 _ _ (by omega))
        · exact (hgrow.frozen_far ⟨b, o, none⟩ (by simp; omega) (fun e => by have := HOb.out _ e.symm; dsimp only at this; omega)).trans ((bcell (below_alloc w3 _)).2 _ _ (by omega))
        · exact ((below_alloc w3 (.cells #[.int .i64 x] 2)).mono (by omega)).grown hgrow (by simp; omega) (fun r hr => by have := HOb.out _ hr; omega)
      clear hown hgrow hat s0 s1 e0 e1
      have r0 := HE.out.r0
      have r1 := HE.out.r1
      have r2 := HE.out.r2
      have f0 := HE.out.rf 0
      have f1 := HE.out.rf 1
      have f2 := HE.out.rf 2
      have d0 := HE.out.h0
      have d1 := HE.out.h1
      have d2 := HE.out.h2
      obtain ⟨W, hW⟩ : ∃ W, w7.setCell ⟨h, 2, none⟩ (.slice (some ⟨g, 0, none⟩) (n + 1) cap) = W := ⟨_, rfl⟩
      rw [hW] at HE r0 r1 r2 f0 f1 f2 d0 d1 d2
      go_wp2
      have hfin := HE.out.fin HS.out (.int .i64 a) (.int .i64 b) (.slice (some ⟨g, 0, none⟩) (n + 1) cap)
      exact bodyPost_ret (v := .agg #[.int .i64 a, .int .i64 b, .slice (some ⟨g, 0, none⟩) (n + 1) cap]) (by simp [results, Try.results47, go_sem, r0, r1, r2]) rfl ⟨a, b, _, xs ++ [x], rfl, by omega, hfin.1, t3, hfin.2.mono (by omega)⟩
  by_cases hk3 : k = 3
  · subst hk3
    have HI := hide (made_ints w2 25 (by omega) 2)
    have hmk : ∀ w, (Instr.makeSlice 24 (.int .i64 25) (.int .i64 25)).run Try.prog w = .ok (.slice (some ⟨w.heap.size, 0, none⟩) 25 25) (w.alloc (.cells (madeCells #[.int .i64 0] 25) 2)) := run_make_row' (P := Try.prog) 24 2 (.int .i64 0) 8 Try.underlying24 Try.infoInt rfl .i64 .i64 25 (by omega) (by omega)
    generalize madeCells #[.int .i64 0] 25 = M at hmk HI
    have hb := below_alloc w2 (.cells M 2)
    have HE : Hid (BtAt w s v bs t w.heap.size h a b (some ⟨w2.heap.size, 0, none⟩) 25 25 (List.replicate 25 0) 21 t2 ((w2.alloc (.cells M 2)).setCell ⟨h, 2, none⟩ (.slice (some ⟨w2.heap.size, 0, none⟩) 25 25))) :=
      BtAt.set2 HS.out HB2.out (fun b o hb' => (bcell hb).1 _ _ (by omega)) (fun b o hb' => (bcell hb).2 _ _ (by omega)) (hb.mono (by omega)) HI.out.iv (by omega) (Or.inr (by omega)) (by simp)
    have H3 := hide (HB2.out.later hb)
    clear r0 r1 r2 f0 f1 f2 q0 q1 g0 g1
    have r0 := HE.out.r0
    have r1 := HE.out.r1
    have r2 := HE.out.r2
    have f0 := HE.out.rf 0
    have f1 := HE.out.rf 1
    have f2 := HE.out.rf 2
    have d0 := HE.out.h0
    have d1 := HE.out.h1
    have d2 := HE.out.h2
    have c2 := H3.out.h2
    have k2 := H3.out.hf 2
    clear hb
    go_upto_region 11 with fail
    refine forget' (fun wx => BtAt w s v bs t w.heap.size h a b (some ⟨w2.heap.size, 0, none⟩) 25 25 (List.replicate 25 0) 21 t2 wx) HE.out ?_
    clear HE r0 r1 r2 f0 f1 f2 d0 d1 d2 c2 k2 q2 g2 hmk HI H3
    rintro W hE
    have HE := hide hE
    have r0 := hE.r0
    have r1 := hE.r1
    have r2 := hE.r2
    have f0 := hE.rf 0
    have f1 := hE.rf 1
    have f2 := hE.rf 2
    have d0 := hE.h0
    have d1 := hE.h1
    have d2 := hE.h2
    clear hE
    go_wp2
    have hfin := HE.out.fin HS.out (.int .i64 a) (.int .i64 b) (.slice (some ⟨w2.heap.size, 0, none⟩) 25 25)
    exact bodyPost_ret (v := .agg #[.int .i64 a, .int .i64 b, .slice (some ⟨w2.heap.size, 0, none⟩) 25 25]) (by simp [results, Try.results47, go_sem, r0, r1, r2]) rfl ⟨a, b, _, List.replicate 25 0, rfl, by simp, hfin.1, t2, hfin.2.mono (by omega)⟩
  · go_wp2
    have hfin := HB2.out.fin HS.out (.int .i64 a) (.int .i64 b) (.slice ao n c)
    exact bodyPost_ret (v := .agg #[.int .i64 a, .int .i64 b, .slice ao n c]) (by simp [results, Try.results47, go_sem, r0, r1, r2]) rfl ⟨a, b, .slice ao n c, xs, rfl, by omega, hfin.1, t2, hfin.2.mono (by omega)⟩

set_option maxHeartbeats 1000000 in
set_option maxRecDepth 4000 in
/-- 'DrawPackHeader': some header. -/
theorem drawPack {w : World} {v : Value} {bs : List Nat} (hv : RdB (w.heap.size + 1) w v bs) :
    Calls Try.prog 13 #[v] w fun e w' => ∃ (a b : Int) (z : Value) (xs : List Int), e = .returned (.agg #[.int .i64 a, .int .i64 b, z]) ∧ Below w.heap.size w w' ∧ xs.length ≤ 25 ∧ OwI w.heap.size w' z xs := by
  have hv1 : RdB (w.alloc (.cells #[.int .i64 0, .int .i64 0, .slice none 0 0] 27)).heap.size (w.alloc (.cells #[.int .i64 0, .int .i64 0, .slice none 0 0] 27)) v bs := by
    obtain ⟨ao, c, e1, e2, e3⟩ := hv
    refine ⟨ao, c, e1, e2, fun hne => ?_⟩
    obtain ⟨b, off, f1, f2, f3⟩ := e3 hne
    exact ⟨b, off, f1, by simpa using f2, fun i hi => ⟨cell_later (below_alloc _ _) (f3 i hi).1, (f3 i hi).2⟩⟩
  have HV := hide hv1
  obtain ⟨ao, c, rfl, h2, h3⟩ := hv
  clear h2 h3 hv1
  go_enter Try.func13, Try.ntmps13
  go_wp2_with fail
  refine (l1Source HV.out).mono ?_
  rintro e w1 ⟨he, hb1, hz1, hS1⟩
  rw [World.size_alloc] at he hz1 hS1
  subst he
  have HB1 := hide (below_on (below_alloc w (.cells #[.int .i64 0, .int .i64 0, .slice none 0 0] 27)) hb1)
  have HS1 := hide hS1
  have r0 : w1.cell? ⟨w.heap.size, 0, none⟩ = some (.int .i64 0) := cell_later hb1 (by simp [go_sem])
  have r1 : w1.cell? ⟨w.heap.size, 1, none⟩ = some (.int .i64 0) := cell_later hb1 (by simp [go_sem])
  have r2 : w1.cell? ⟨w.heap.size, 2, none⟩ = some (.slice none 0 0) := cell_later hb1 (by simp [go_sem])
  have rf : ∀ o, w1.frozen? ⟨w.heap.size, o, none⟩ = false := fun o => ((bcell hb1).2 _ _ (by simp)).trans (by simp [go_sem])
  have hz1' : w.heap.size + 1 < w1.heap.size := by omega
  clear hb1 hS1
  go_wp2_with fail
  refine (l2Bent HS1.out (by omega)).mono ?_
  rintro e w2 ⟨a, b, z, xs, rfl, hxl, ho2, t2, hd2⟩
  obtain ⟨az, cz, rfl⟩ := ho2.shape
  obtain ⟨l, hl⟩ : ∃ l, xs.length = l := ⟨_, rfl⟩
  rw [hl] at ho2 hxl ⊢
  have hw := hd2.2.1
  have x0 := cell_wr hw r0 (by omega)
  have x1 := cell_wr hw r1 (by omega)
  have x2 := cell_wr hw r2 (by omega)
  have y0 := (hw.frz _ _ (by omega)).trans (rf 0)
  have y1 := (hw.frz _ _ (by omega)).trans (rf 1)
  have y2 := (hw.frz _ _ (by omega)).trans (rf 2)
  have HB : Hid (Below w.heap.size w w2) := HB1.out.trans (hw.below (by omega) (fun b hb => by omega))
  have HO := hide ho2
  have HLx := hide hl
  clear hd2 hw ho2 hl r0 r1 r2 rf
  go_wp2
  refine bodyPost_ret (v := .agg #[.int .i64 a, .int .i64 b, .slice az l cz]) (by simp [results, Try.results13, go_sem, x0, x1, x2]) rfl ⟨a, b, .slice az l cz, xs, rfl, ?_, by rw [HLx.out]; exact hxl, ?_⟩
  · repeat (first | refine Below.setCell ?_ (by first | (simp; done) | (simp; omega) | omega) _ | exact HB.out)
  · refine OwI.mono (OwI.wr HO.out (T := fun b => b < w1.heap.size) ?_ (fun b hb _ => by omega)) (by omega)
    repeat (first | refine Wr.setCell ?_ (by first | (simp; done) | (simp; omega) | omega) _ | exact Wr.refl _ _)
end Go.Proofs.Ytojcjipelgjglaa
