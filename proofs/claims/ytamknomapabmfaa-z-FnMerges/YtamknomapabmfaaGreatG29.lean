/- DrawP3 Draw12 in one text: what each says stands at its head below. -/
import Derived.Test.YtamknomapabmfaaGreatG15
import Derived.Test.YtamknomapabmfaaGreatG11
/- Chapter 4: the model's draw of puts that may be bent, walked: 'l4Bent'. Made by program (gendrawp3.py). -/
namespace Go.Proofs.YtamknomapabmfaaGreat
open Go.RowKit

set_option maxHeartbeats 8000000 in
set_option maxRecDepth 4000 in
theorem l4Bent_some {s : Nat} {v : Value} {bs : List Nat} {w : World} {t : Nat} (hS : Src s v bs w t) (ht : t ≤ 800000000) :
    Calls Tryz.prog 23 #[.pointer (some ⟨s, 0, none⟩)] w fun e w' => ∃ z ps, e = .returned z ∧ ps.length ≤ 61 ∧ BltM w.heap.size w'.heap.size w' z ps ∧ ∃ t', Drawn 1010 s v bs t t' w w' := by
  have HS := hide hS
  have hsl := hS.lt
  obtain ⟨i0, hi, hz0, hz1, hz2⟩ := info_parts Tryz.infoPut
  clear hS
  go_enter Tryz.func23, Tryz.ntmps23
  go_wp2_with fail
  refine (l3DrawPuts_some HS.out (by omega)).mono ?_
  rintro e w1 ⟨z1, ps, rfl, hl1, hB1, t1, hd1⟩
  have D1 := hide hd1
  have B1 := hide hB1
  have hs1 := hd1.2.1.size
  obtain ⟨ao, c, rfl⟩ := BuiltP.shape hB1
  obtain ⟨n, hn⟩ : ∃ n, ps.length = n := ⟨_, rfl⟩
  rw [hn] at B1 hl1 ⊢
  have HN := hide hn
  obtain ⟨wr, hwr⟩ : ∃ wr, wr = w1 := ⟨_, rfl⟩
  subst hwr
  have hwM : w.heap.size ≤ wr.heap.size := hs1
  clear hd1 hB1 hn
  go_wp2_with fail
  refine (l1Chance 4 D1.out.1 (by have := D1.out.2.2; omega) (by omega) (by omega)).mono ?_
  rintro e w2 ⟨r, rfl, t2, hd2⟩
  have D2 := hide (D1.out.on hd2)
  have B2 := hide (B1.out.drawn hd2.2.1 hsl)
  have hs2 := hd2.2.1.size
  clear hd2
  cases r
  · go_wp2_with fail
    refine (l1Chance 20 D2.out.1 (by have := D2.out.2.2; omega) (by omega) (by omega)).mono ?_
    rintro e wE ⟨rE, rfl, tE, hdE⟩
    have DE := hide (D2.out.on hdE)
    have BE := hide (B2.out.drawn hdE.2.1 hsl)
    have hsE := hdE.2.1.size
    have hwE : w.heap.size ≤ wE.heap.size := DE.out.2.1.size
    clear hdE
    cases rE
    · have HF : Hid (BltM w.heap.size wE.heap.size wE (.slice ao n c) ps) := BuiltP.mono BE.out (fun b hb _ => ⟨hb.1, by omega⟩)
      go_wp2
      go_ret
      exact ⟨_, ps, rfl, by rw [HN.out]; omega, HF.out, tE, DE.out.mono (by omega)⟩
    · have hmk := run_make_puts 61 (by omega)
      have HF : Hid (BltM w.heap.size (wE.heap.size + 1) (wE.alloc (.cells (madeCells #[.int .i64 0, .slice none 0 0] (61 * 2)) 38)) (.slice (some ⟨wE.heap.size, 0, none⟩) 61 61) (List.replicate 61 (0, []))) := BuiltP.mono (made_bltM wE 61 (by omega)) (fun b hb _ => ⟨by omega, hb.2⟩)
      have HD9 := hide (DE.out.later (below_alloc wE (.cells (madeCells #[.int .i64 0, .slice none 0 0] (61 * 2)) 38)))
      have HNl : Hid ((List.replicate 61 ((0, []) : Int × List Int)).length ≤ 61) := by simp [Hid]
      generalize madeCells #[Value.int .i64 0, Value.slice none 0 0] (61 * 2) = Z at hmk HF HD9
      rw [show ((61 : Nat) : Int) = 61 from rfl] at hmk
      go_wp2
      go_ret
      exact ⟨_, List.replicate 61 (0, []), rfl, HNl.out, by simpa using HF.out, tE, HD9.out.mono (by omega)⟩
  · go_wp2_with fail
    refine (l1Next 8 D2.out.1 (by have := D2.out.2.2; omega) (by omega) (by omega)).mono ?_
    rintro e w3 ⟨x, rfl, xa, xb, t3, hd3⟩
    have D3 := hide (D2.out.on hd3)
    have HZw : Hid (OwI wr.heap.size w3 (.slice none 0 0) []) := OwI_nil _ _
    have hs3 := hd3.2.1.size
    obtain ⟨V, Bk, hrw, hpw, hiw⟩ := B2.out.drawn hd3.2.1 hsl
    rw [HN.out] at hrw hiw
    have HRw := hide hrw
    have HPw := hide hpw
    have HIw := hide hiw
    have hMw : wr.heap.size ≤ w3.heap.size := by omega
    clear hd3 hrw hpw hiw xb
    go_wp2_with (at_builtin; refine wpList_append_lies _ rfl _ _ _ rfl 0 38 i0 (.agg #[.int .i64 0, .slice none 0 0]) 2 32 Tryz.underlying30 hi hz0 hz1 hz2 rfl (by omega) (.slice ao n c) n _ (by rfl) (HRw.out.alloc (.cells #[.int .i64 x, .slice none 0 0] 38)) ⟨w3.heap.size, 0, none⟩ 1 1 [.int .i64 x, .slice none 0 0] (by rfl) (by rfl) (World.news_of_block (cs := #[.int .i64 x, .slice none 0 0]) (t := 38) (fr := (0, 0)) (heap_alloc_new w3 _)) cells2_one (by omega) (by unfold maxLen; omega) (by omega) (Nat.zero_le _) (w3.heap.size + 1) (by simp) ?_)
    intro g cap w9 hown hgrow hat hlt9
    have HOne : Hid (BltM w.heap.size w9.heap.size w9 (.slice (some ⟨g, 0, none⟩) (n + 1) cap) (ps ++ [(x, [])])) := by
      have hN := HN.out
      have h2 := HPw.out
      have h3 := HIw.out
      have h4 := hown
      have h5 := hgrow
      have h6 := hat
      rw [← hN] at h2 h3 h4 h5 h6 ⊢
      exact BltM.one h2 h3 hwM hMw HZw.out h4 h5 (by simpa using h6)
    have hB9 : Below w.heap.size w3 w9 := ((below_alloc w3 _).mono (by omega)).grown hgrow (by simp; omega) (fun r hr => (HPw.out r hr).1)
    have HD9 := hide (D3.out.onBelow HS.out hB9)
    have HN9 : Hid ((ps ++ [(x, [])]).length = n + 1) := by rw [Hid, List.length_append, HN.out]; rfl
    clear hown hgrow hat hlt9 hB9
    go_wp2_with fail
    refine (l1Chance 20 HD9.out.1 (by have := HD9.out.2.2; omega) (by omega) (by omega)).mono ?_
    rintro e wE ⟨rE, rfl, tE, hdE⟩
    have DE := hide (HD9.out.on hdE)
    have BE := hide (HOne.out.drawn hdE.2.1 hsl)
    have hsE := hdE.2.1.size
    have hwE : w.heap.size ≤ wE.heap.size := DE.out.2.1.size
    clear hdE
    cases rE
    · have HF : Hid (BltM w.heap.size wE.heap.size wE (.slice (some ⟨g, 0, none⟩) (n + 1) cap) (ps ++ [(x, [])])) := BuiltP.mono BE.out (fun b hb _ => ⟨hb.1, by omega⟩)
      go_wp2
      go_ret
      exact ⟨_, (ps ++ [(x, [])]), rfl, by rw [HN9.out]; omega, HF.out, tE, DE.out.mono (by omega)⟩
    · have hmk := run_make_puts 61 (by omega)
      have HF : Hid (BltM w.heap.size (wE.heap.size + 1) (wE.alloc (.cells (madeCells #[.int .i64 0, .slice none 0 0] (61 * 2)) 38)) (.slice (some ⟨wE.heap.size, 0, none⟩) 61 61) (List.replicate 61 (0, []))) := BuiltP.mono (made_bltM wE 61 (by omega)) (fun b hb _ => ⟨by omega, hb.2⟩)
      have HD8 := hide (DE.out.later (below_alloc wE (.cells (madeCells #[.int .i64 0, .slice none 0 0] (61 * 2)) 38)))
      have HNl : Hid ((List.replicate 61 ((0, []) : Int × List Int)).length ≤ 61) := by simp [Hid]
      generalize madeCells #[Value.int .i64 0, Value.slice none 0 0] (61 * 2) = Z at hmk HF HD8
      rw [show ((61 : Nat) : Int) = 61 from rfl] at hmk
      go_wp2
      go_ret
      exact ⟨_, List.replicate 61 (0, []), rfl, HNl.out, by simpa using HF.out, tE, HD8.out.mono (by omega)⟩
end Go.Proofs.YtamknomapabmfaaGreat
/- The model's draws of an object, right or bent: 'spec.l5Draw', 'spec.l5Bent', walked. Made by program out of the header's (gendraw12.py). -/
namespace Go.Proofs.YtamknomapabmfaaGreat
open Go.RowKit

set_option maxHeartbeats 4000000 in
set_option maxRecDepth 4000 in
/-- 'l5Draw': some object of new memory. -/
theorem l5Draw {s : Nat} {v : Value} {bs : List Nat} {w : World} {t : Nat} (hS : Src s v bs w t) (ht : t ≤ 1000000000) :
    Calls Tryz.prog 16 #[.pointer (some ⟨s, 0, none⟩)] w fun e w' => ∃ (a b : Int) (ao : Option Addr) (n c : Nat) (xs : List Int), e = .returned (.agg #[.int .i64 a, .int .i64 b, .slice ao n c]) ∧ n ≤ 8 ∧ xs.length = n ∧ w'.ownsRow (w.heap.size + 1) 2 1 (.slice ao n c) n (xs.map (Value.int .i64)) ∧ ∃ t', Drawn 20 s v bs t t' w w' := by
  have HS := hide hS
  have hsl := hS.lt
  obtain ⟨i0, hi, hz0, hz1, hz2⟩ := info_parts Tryz.infoInt
  clear hS
  go_enter Tryz.func16, Tryz.ntmps16
  go_wp2_with fail
  have D0 := hide ((Drawn.refl HS.out).later (below_alloc w (.cells #[.int .i64 0, .int .i64 0, .slice none 0 0] 26)))
  refine (l1Next 4 D0.out.1 (by omega) (by omega) (by omega)).mono ?_
  rintro e w1 ⟨a1, rfl, a1a, a1b, t1, hd1⟩
  have a1c := a1b (by omega)
  have D1 := hide (D0.out.on hd1)
  have x0 : w1.cell? ⟨w.heap.size, 0, none⟩ = some (.int .i64 0) := cell_wr hd1.2.1 (by simp [go_sem]) (by omega)
  have x1 : w1.cell? ⟨w.heap.size, 1, none⟩ = some (.int .i64 0) := cell_wr hd1.2.1 (by simp [go_sem]) (by omega)
  have x2 : w1.cell? ⟨w.heap.size, 2, none⟩ = some (.slice none 0 0) := cell_wr hd1.2.1 (by simp [go_sem]) (by omega)
  have xf : ∀ o, w1.frozen? ⟨w.heap.size, o, none⟩ = false := fun o => (hd1.2.1.frz _ _ (by simp)).trans (by simp [go_sem])
  have hz1' : w.heap.size < w1.heap.size := World.block_lt_of_cell? _ _ x0
  clear hd1 a1b
  go_wp2_with fail
  refine (l1Next 50 D1.out.1 (by have := D1.out.2.2; omega) (by omega) (by omega)).mono ?_
  rintro e w2 ⟨b1, rfl, b1a, b1b, t2, hd2⟩
  have D2 := hide (D1.out.on hd2)
  have HA : Hid (DrAt w s v bs t w.heap.size w2.heap.size a1 b1 [] none 0 0 2 t2 (w2.alloc (.cells #[.int .i64 a1, .int .i64 b1, .slice none 0 0] 26))) := by
    have hb := below_alloc w2 (.cells #[.int .i64 a1, .int .i64 b1, .slice none 0 0] 26)
    have hw := hd2.2.1
    have hz2' : w.heap.size < w2.heap.size := Nat.lt_of_lt_of_le hz1' hw.size
    refine ⟨D2.out.later hb, Nat.le_refl _, hz2', by simp, cell_later hb (cell_wr hw x0 (by omega)), cell_later hb (cell_wr hw x1 (by omega)), cell_later hb (cell_wr hw x2 (by omega)), fun o => ((bcell hb).2 _ _ hz2').trans ((hw.frz _ _ hz1').trans (xf o)), by simp [go_sem], by simp [go_sem], by simp [go_sem], fun o => by simp [go_sem], World.ownsRow_nil _ _ _ _, rfl⟩
  clear x0 x1 x2 xf hd2 b1b D1
  go_wp2_with fail
  refine (l1Next 6 HA.out.dr.1 (by have := HA.out.dr.2.2; omega) (by omega) (by omega)).mono ?_
  rintro e w3 ⟨k1, rfl, k1a, k1b, t3, hd3⟩
  have k1c := k1b (by omega)
  obtain ⟨K, rfl⟩ : ∃ K : Nat, k1 = (K : Int) := ⟨k1.toNat, (Int.toNat_of_nonneg k1a).symm⟩
  have HA3 := hide (HA.out.on hsl hd3)
  clear hd3 k1b HA D2
  obtain ⟨hb, hhb⟩ : ∃ hb, w2.heap.size = hb := ⟨_, rfl⟩
  rw [hhb] at HA3 ⊢
  clear hhb
  go_wp2
  go_loopw [4] (fun k wr => ∃ (n K : Nat) (ao : Option Addr) (c : Nat) (xs : List Int) (t5 : Nat), n + K ≤ 8 ∧ k = .int .i64 K ∧ Hid (DrAt w s v bs t w.heap.size hb a1 b1 xs ao n c (3 + n) t5 wr)) (fun k _ => (intOf k).toNat)
  case atStart => exact ⟨0, K + 1, none, 0, [], t3, by omega, by go_num, HA3.out⟩
  case round =>
    clear HA3
    obtain ⟨n, K, ao, c, xs, t5, hnK, rfl, HD⟩ := hrel
    by_cases hK0 : 0 < K
    · have q2 := HD.out.h2
      have qf := HD.out.hf 2
      have hbl := HD.out.hl
      obtain ⟨K', rfl⟩ : ∃ K', K = K' + 1 := ⟨K - 1, by omega⟩
      have HNx := hide (l1Next 99 (HD.out.dr.1.drewN 1) (by have := HD.out.dr.2.2; omega) (by omega) (by omega))
      go_wp2_with fail
      go_region_law (first
        | (refine step_append_lies _ (by rfl) _ _ _ (by rfl) (hb + 1) 2 i0 (.int .i64 0) 1 8 Tryz.underlying24 hi hz0 hz1 hz2 rfl (by omega) (.slice ao n c) n _ (by rfl) (H6.out.own.alloc (.cells #[.int .i64 r] 2)) ⟨w6.heap.size, 0, none⟩ 1 1 [.int .i64 r] (by rfl) (by rfl) (World.news_of_block (cs := #[.int .i64 r]) (t := 2) (fr := (0, 0)) (heap_alloc_new w6 _)) (by simp [Value.oneCell']) (by omega) (by unfold maxLen; omega) (by omega) (by simp; have := H6.out.hl; omega) (w6.heap.size + 1) (by simp) ?_; intro g cap w7 hown hgrow hat hlt7; have s0 := (hgrow.cell_far ⟨hb, 2, none⟩ (by simp; have := H6.out.hl; omega) (fun e => by have := (H6.out.own.lt _ e.symm).1; dsimp only at this; omega)).trans e1; have s1 : w7.frozen? ⟨hb, 2, none⟩ = false := (hgrow.frozen_far ⟨hb, 2, none⟩ (by simp; have := H6.out.hl; omega) (fun e => by have := (H6.out.own.lt _ e.symm).1; dsimp only at this; omega)).trans (((bcell (below_alloc w6 _)).2 _ _ H6.out.hl).trans (H6.out.hf 2)))
        | (go_simp; go_at_call 24; refine HNx.out.mono ?_; rintro e w6 ⟨r, rfl, ra, rb, t6, hd6⟩; have H6 := hide ((HD.out.later (below_drewN wr 1)).on hsl hd6); have e0 := H6.out.h2; have e1 := cell_later (below_alloc w6 (.cells #[.int .i64 r] 2)) e0; clear hd6 rb))
      all_goals
        have HSt := hide (DrAt.step HS.out H6.out (by rw [List.map_append]; exact hown) hgrow)
        clear hown hgrow hat s0 s1 e0 e1
        go_wp2
        go_roundw
        case rel => exact ⟨n + 1, K', _, _, _, t6, by omega, by go_num, HSt.out⟩
        case measure => simp [intOf]
    · have hKz : K = 0 := by omega
      subst hKz
      have q0 := HD.out.h0
      have q1 := HD.out.h1
      have q2 := HD.out.h2
      have r0 := HD.out.r0
      have r1 := HD.out.r1
      have r2 := HD.out.r2
      have f0 := HD.out.rf 0
      have f1 := HD.out.rf 1
      have f2 := HD.out.rf 2
      have hbl := HD.out.hl
      have hrh := HD.out.rh
      go_wp2
      have hB : Below w.heap.size wr (((wr.setCell ⟨w.heap.size, 0, none⟩ (.int .i64 a1)).setCell ⟨w.heap.size, 1, none⟩ (.int .i64 b1)).setCell ⟨w.heap.size, 2, none⟩ (.slice ao n c)) := (((Below.refl _ _).setCell (by simp) _).setCell (by simp) _).setCell (by simp) _
      have hW : Wr (fun y => y = w.heap.size) wr (((wr.setCell ⟨w.heap.size, 0, none⟩ (.int .i64 a1)).setCell ⟨w.heap.size, 1, none⟩ (.int .i64 b1)).setCell ⟨w.heap.size, 2, none⟩ (.slice ao n c)) := (((Wr.refl (fun y => y = w.heap.size) _).setCell (p := ⟨w.heap.size, 0, none⟩) rfl _).setCell (p := ⟨w.heap.size, 1, none⟩) rfl _).setCell (p := ⟨w.heap.size, 2, none⟩) rfl _
      refine bodyPost_ret (v := .agg #[.int .i64 a1, .int .i64 b1, .slice ao n c]) (by simp [results, Tryz.results16, go_sem, r0, r1, r2]) rfl ⟨a1, b1, ao, n, c, xs, rfl, by omega, HD.out.len, ?_, t5, ?_⟩
      · exact ownsRow_mono (ownsRow_wr HD.out.own hW (ownBlock_ne HD.out.own (by omega))) (by omega)
      · exact (HD.out.dr.onBelow HS.out hB).mono (by omega)

set_option maxHeartbeats 4000000 in
set_option maxRecDepth 4000 in
/-- 'l5Bent': some object of new memory. -/
theorem l5Bent {s : Nat} {v : Value} {bs : List Nat} {w : World} {t : Nat} (hS : Src s v bs w t) (ht : t ≤ 900000000) :
    Calls Tryz.prog 15 #[.pointer (some ⟨s, 0, none⟩)] w fun e w' => ∃ (a b : Int) (z : Value) (xs : List Int), e = .returned (.agg #[.int .i64 a, .int .i64 b, z]) ∧ xs.length ≤ 25 ∧ OwI w.heap.size w' z xs ∧ ∃ t', Drawn 30 s v bs t t' w w' := by
  have HS := hide hS
  have hsl := hS.lt
  obtain ⟨i0, hi, hz0, hz1, hz2⟩ := info_parts Tryz.infoInt
  clear hS
  go_enter Tryz.func15, Tryz.ntmps15
  go_wp2_with fail
  have D0 := hide ((Drawn.refl HS.out).later (below_alloc w (.cells #[.int .i64 0, .int .i64 0, .slice none 0 0] 26)))
  refine (l5Draw D0.out.1 (by omega)).mono ?_
  rintro e w1 ⟨a, b, ao, n, c, xs, rfl, hn8, hxl, hown, t1, hd1⟩
  have D1 := hide (D0.out.on hd1)
  have hz1' := hd1.2.1.size
  simp only [World.size_alloc] at hz1' hown
  have HA : Hid (BtAt w s v bs t w.heap.size w1.heap.size a b ao n c xs 20 t1 (w1.alloc (.cells #[.int .i64 a, .int .i64 b, .slice ao n c] 26))) := by
    have hb := below_alloc w1 (.cells #[.int .i64 a, .int .i64 b, .slice ao n c] 26)
    have hw := hd1.2.1
    refine ⟨D1.out.later hb, Nat.le_refl _, by omega, by simp, cell_later hb (cell_wr hw (by simp [go_sem]) (by omega)), cell_later hb (cell_wr hw (by simp [go_sem]) (by omega)), cell_later hb (cell_wr hw (by simp [go_sem]) (by omega)), fun o => ((bcell hb).2 _ _ (by omega)).trans ((hw.frz _ _ (by simp)).trans (by simp [go_sem])), by simp [go_sem], by simp [go_sem], by simp [go_sem], fun o => by simp [go_sem], ?_, hxl⟩
    exact ⟨_, _, (ow_of_owns hxl hown (by omega)).iv.later hb, by omega, Or.inl (Nat.le_refl _)⟩
  have HO := hide (hown.alloc (.cells #[.int .i64 a, .int .i64 b, .slice ao n c] 26))
  have HOb : Hid (∀ g, (Value.slice ao n c).ownBlock = some g → w.heap.size + 1 ≤ g ∧ g < w1.heap.size) := fun g hg => by have := hown.lt _ hg; omega
  obtain ⟨h, hh⟩ : ∃ h, w1.heap.size = h := ⟨_, rfl⟩
  have HH := hide hh
  clear hown hd1 D1 D0
  go_wp2_with fail
  refine (l1Next 10 HA.out.dr.1 (by have := HA.out.dr.2.2; omega) (by omega) (by omega)).mono ?_
  rintro e w2 ⟨k, rfl, ka, kb, t2, hd2⟩
  have HB2 := hide (HA.out.on hsl hd2)
  have HO2 := hide (ownsRow_wr HO.out hd2.2.1 (ownBlock_ne HO.out (by omega)))
  rw [hh] at HB2 HOb
  have hz2' : h + 1 ≤ w2.heap.size := by have := hd2.2.1.size; simp at this; omega
  clear hd2 kb HO HA hh hz1'
  have r0 := HB2.out.r0
  have r1 := HB2.out.r1
  have r2 := HB2.out.r2
  have f0 := HB2.out.rf 0
  have f1 := HB2.out.rf 1
  have f2 := HB2.out.rf 2
  have q0 := HB2.out.h0
  have q1 := HB2.out.h1
  have q2 := HB2.out.h2
  have g0 := HB2.out.hf 0
  have g1 := HB2.out.hf 1
  have g2 := HB2.out.hf 2
  have hrh := HB2.out.rh
  by_cases hk0 : k = 0
  · subst hk0
    clear r0 r1 r2 f0 f1 f2 q0 q1 q2 g0 g1 g2
    go_wp2_with fail
    have H3 := hide (HB2.out.later (below_alloc w2 (.cells #[.int .i64 (-1), .int .i64 40, .int .i64 39] 2)))
    refine (l1Pick (xs := [-1, 40, 39]) H3.out.dr.1 (by have := H3.out.dr.2.2; omega) (RdI_new s w2 [-1, 40, 39] 2 (by omega) (by simp)) (by simp) (by simp)).mono ?_
    rintro e w3 ⟨i, hi3, rfl, t3, hd3⟩
    obtain ⟨x, hx⟩ : ∃ x : Int, ([-1, 40, 39] : List Int).getD i 0 = x := ⟨_, rfl⟩
    rw [hx]
    have H4 := hide (H3.out.on hsl hd3)
    clear hd3 hx hi3 H3
    have HE := hide (H4.out.set0 HS.out x)
    have r0 := H4.out.r0
    have r1 := H4.out.r1
    have r2 := H4.out.r2
    have f0 := H4.out.rf 0
    have f1 := H4.out.rf 1
    have f2 := H4.out.rf 2
    have q0 := H4.out.h0
    have q1 := H4.out.h1
    have q2 := H4.out.h2
    have g0 := H4.out.hf 0
    have e0 := HE.out.r0
    have e1 := HE.out.r1
    have e2 := HE.out.r2
    have d0 := HE.out.h0
    have d1 := HE.out.h1
    have d2 := HE.out.h2
    go_wp2
    have hfin := HE.out.fin HS.out (.int .i64 x) (.int .i64 b) (.slice ao n c)
    exact bodyPost_ret (v := .agg #[.int .i64 x, .int .i64 b, .slice ao n c]) (by simp [results, Tryz.results15, go_sem, e0, e1, e2]) rfl ⟨x, b, .slice ao n c, xs, rfl, by omega, hfin.1, t3, hfin.2.mono (by omega)⟩
  by_cases hk1 : k = 1
  · subst hk1
    clear r0 r1 r2 f0 f1 f2 q0 q1 q2 g0 g1 g2
    go_wp2_with fail
    have H3 := hide (HB2.out.later (below_alloc w2 (.cells #[.int .i64 (-1), .int .i64 64, .int .i64 63, .int .i64 60] 2)))
    refine (l1Pick (xs := [-1, 64, 63, 60]) H3.out.dr.1 (by have := H3.out.dr.2.2; omega) (RdI_new s w2 [-1, 64, 63, 60] 2 (by omega) (by simp)) (by simp) (by simp)).mono ?_
    rintro e w3 ⟨i, hi3, rfl, t3, hd3⟩
    obtain ⟨x, hx⟩ : ∃ x : Int, ([-1, 64, 63, 60] : List Int).getD i 0 = x := ⟨_, rfl⟩
    rw [hx]
    have H4 := hide (H3.out.on hsl hd3)
    clear hd3 hx hi3 H3
    have HE := hide (H4.out.set1 HS.out x)
    have r0 := H4.out.r0
    have r1 := H4.out.r1
    have r2 := H4.out.r2
    have f0 := H4.out.rf 0
    have f1 := H4.out.rf 1
    have f2 := H4.out.rf 2
    have q0 := H4.out.h0
    have q1 := H4.out.h1
    have q2 := H4.out.h2
    have g1 := H4.out.hf 1
    have e0 := HE.out.r0
    have e1 := HE.out.r1
    have e2 := HE.out.r2
    have d0 := HE.out.h0
    have d1 := HE.out.h1
    have d2 := HE.out.h2
    go_wp2
    have hfin := HE.out.fin HS.out (.int .i64 a) (.int .i64 x) (.slice ao n c)
    exact bodyPost_ret (v := .agg #[.int .i64 a, .int .i64 x, .slice ao n c]) (by simp [results, Tryz.results15, go_sem, e0, e1, e2]) rfl ⟨a, x, .slice ao n c, xs, rfl, by omega, hfin.1, t3, hfin.2.mono (by omega)⟩
  by_cases hk2 : k = 2
  · subst hk2
    clear r0 r1 r2 f0 f1 f2 q0 q1 g0 g1 g2
    have d2 : (w2.alloc (.cells #[.int .i64 (-1), .int .i64 65536] 2)).cell? ⟨h, 2, none⟩ = some (.slice ao n c) := cell_later (below_alloc w2 _) q2
    have H3 : Hid (BtAt w s v bs t w.heap.size h a b ao n c xs 21 t2 ((w2.drewN 1).alloc (.cells #[.int .i64 (-1), .int .i64 65536] 2))) := (HB2.out.later (below_drewN w2 1)).later (below_alloc _ _)
    have HPk := hide (l1Pick (xs := [-1, 65536]) H3.out.dr.1 (by have := H3.out.dr.2.2; omega) (RdI_new s (w2.drewN 1) [-1, 65536] 2 (show s < w2.heap.size by omega) (by simp)) (by simp) (by simp))
    have HO3 : Hid (((w2.drewN 1).alloc (.cells #[.int .i64 (-1), .int .i64 65536] 2)).ownsRow (w.heap.size + 1 + 1) 2 1 (.slice ao n c) n (xs.map (Value.int .i64))) := ownsRow_later (ownsRow_later HO2.out (below_drewN _ 1)) (below_alloc _ _)
    go_wp2_with fail
    go_region_law (first
      | (refine step_append_lies _ (by rfl) _ _ _ (by rfl) (w.heap.size + 1 + 1) 2 i0 (.int .i64 0) 1 8 Tryz.underlying24 hi hz0 hz1 hz2 rfl (by omega) (.slice ao n c) n _ (by rfl) (O4.out.alloc (.cells #[.int .i64 x] 2)) ⟨w3.heap.size, 0, none⟩ 1 1 [.int .i64 x] (by rfl) (by rfl) (World.news_of_block (cs := #[.int .i64 x]) (t := 2) (fr := (0, 0)) (heap_alloc_new w3 _)) (by simp [Value.oneCell']) (by omega) (by unfold maxLen; omega) (by omega) (by simp; omega) (w3.heap.size + 1) (by simp) ?_; intro g cap w7 hown hgrow hat hlt7; have s0 := (hgrow.cell_far ⟨h, 2, none⟩ (by simp; omega) (fun e => by have := (HOb.out _ e.symm).2; dsimp only at this; omega)).trans e1; have s1 : w7.frozen? ⟨h, 2, none⟩ = false := (hgrow.frozen_far ⟨h, 2, none⟩ (by simp; omega) (fun e => by have := (HOb.out _ e.symm).2; dsimp only at this; omega)).trans (((bcell (below_alloc w3 _)).2 _ _ (by omega)).trans (H4.out.hf 2)))
      | (go_simp; go_at_call 42; refine HPk.out.mono ?_; rintro e w3 ⟨i, hi3, rfl, t3, hd3⟩; obtain ⟨x, hx⟩ : ∃ x : Int, ([-1, 65536] : List Int).getD i 0 = x := ⟨_, rfl⟩; rw [hx]; have H4 := hide (H3.out.on hsl hd3); have O4 := hide (ownsRow_wr HO3.out hd3.2.1 (ownBlock_ne HO3.out (by omega))); have e0 := H4.out.h2; have e1 := cell_later (below_alloc w3 (.cells #[.int .i64 x] 2)) e0; have hz3 : h + 1 ≤ w3.heap.size := (by have := H4.out.hl; omega); clear hd3 hx hi3))
    all_goals
      have hl1 : (xs ++ [x]).length = n + 1 := by simp [hxl]
      have hg : g ≠ h ∧ w.heap.size < g := by
        have h1 := hown.lt g rfl
        refine ⟨?_, by omega⟩
        rcases hat with hat | hat
        · have := HOb.out _ hat; omega
        · omega
      have HE : Hid (BtAt w s v bs t w.heap.size h a b (some ⟨g, 0, none⟩) (n + 1) cap (xs ++ [x]) 22 t3 (w7.setCell ⟨h, 2, none⟩ (.slice (some ⟨g, 0, none⟩) (n + 1) cap))) := by
        refine BtAt.set2 (lo := g) (hi := g + 1) HS.out H4.out (fun b o hb => ?_) (fun b o hb => ?_) ?_ (iv_of_owns hl1 (by rw [List.map_append]; exact hown) (by omega)) hg.2 (by omega) hl1
        · exact (hgrow.cell_far ⟨b, o, none⟩ (by simp; omega) (fun e => by have := HOb.out _ e.symm; dsimp only at this; omega)).trans ((bcell (below_alloc w3 _)).1 _ _ (by omega))
        · exact (hgrow.frozen_far ⟨b, o, none⟩ (by simp; omega) (fun e => by have := HOb.out _ e.symm; dsimp only at this; omega)).trans ((bcell (below_alloc w3 _)).2 _ _ (by omega))
        · exact ((below_alloc w3 (.cells #[.int .i64 x] 2)).mono (by omega)).grown hgrow (by simp; omega) (fun r hr => by have := HOb.out _ hr; omega)
      clear hown hgrow hat s0 s1 e0 e1
      have r0 := HE.out.r0
      have r1 := HE.out.r1
      have r2 := HE.out.r2
      have f0 := HE.out.rf 0
      have f1 := HE.out.rf 1
      have f2 := HE.out.rf 2
      have d0 := HE.out.h0
      have d1 := HE.out.h1
      have d2 := HE.out.h2
      obtain ⟨W, hW⟩ : ∃ W, w7.setCell ⟨h, 2, none⟩ (.slice (some ⟨g, 0, none⟩) (n + 1) cap) = W := ⟨_, rfl⟩
      rw [hW] at HE r0 r1 r2 f0 f1 f2 d0 d1 d2
      go_wp2
      have hfin := HE.out.fin HS.out (.int .i64 a) (.int .i64 b) (.slice (some ⟨g, 0, none⟩) (n + 1) cap)
      exact bodyPost_ret (v := .agg #[.int .i64 a, .int .i64 b, .slice (some ⟨g, 0, none⟩) (n + 1) cap]) (by simp [results, Tryz.results15, go_sem, r0, r1, r2]) rfl ⟨a, b, _, xs ++ [x], rfl, by omega, hfin.1, t3, hfin.2.mono (by omega)⟩
  by_cases hk3 : k = 3
  · subst hk3
    clear r0 r1 r2 f0 f1 f2 q0 q1 q2 g0 g1 g2
    go_wp2_with fail
    have H3 := hide (HB2.out.later (below_alloc w2 (.cells #[.int .i64 0, .int .i64 16, .int .i64 17] 2)))
    refine (l1Pick (xs := [0, 16, 17]) H3.out.dr.1 (by have := H3.out.dr.2.2; omega) (RdI_new s w2 [0, 16, 17] 2 (by omega) (by simp)) (by simp) (by simp)).mono ?_
    rintro e w3 ⟨i, hi3, rfl, t3, hd3⟩
    obtain ⟨x, hx⟩ : ∃ x : Nat, ([0, 16, 17] : List Int).getD i 0 = (x : Int) ∧ x ≤ 17 := by
      have hi4 : i = 0 ∨ i = 1 ∨ i = 2 := by simp at hi3; omega
      rcases hi4 with rfl | rfl | rfl
      · exact ⟨0, rfl, by omega⟩
      · exact ⟨16, rfl, by omega⟩
      · exact ⟨17, rfl, by omega⟩
    obtain ⟨hx, hx17⟩ := hx
    rw [hx]
    have H4 := hide (H3.out.on hsl hd3)
    have hz3 : h + 1 ≤ w3.heap.size := by have := H4.out.hl; omega
    clear hd3 hx hi3 H3
    have HI := hide (made_ints w3 x (by omega) 2)
    have hmk := run_make_row' (P := Tryz.prog) 24 2 (.int .i64 0) 8 Tryz.underlying24 Tryz.infoInt rfl .i64 .i64 x (by omega) (by omega)
    generalize madeCells #[.int .i64 0] x = M at hmk HI
    have hb := below_alloc w3 (.cells M 2)
    have HE : Hid (BtAt w s v bs t w.heap.size h a b (some ⟨w3.heap.size, 0, none⟩) x x (List.replicate x 0) 22 t3 ((w3.alloc (.cells M 2)).setCell ⟨h, 2, none⟩ (.slice (some ⟨w3.heap.size, 0, none⟩) x x))) :=
      BtAt.set2 HS.out H4.out (fun b o hb' => (bcell hb).1 _ _ (by omega)) (fun b o hb' => (bcell hb).2 _ _ (by omega)) (hb.mono (by omega)) HI.out.iv (by omega) (Or.inr (by omega)) (by simp)
    have H5 := hide (H4.out.later hb)
    have c2 := H5.out.h2
    have k2 := H5.out.hf 2
    clear hb
    go_upto_region 11 with fail
    refine forget' (fun wx => BtAt w s v bs t w.heap.size h a b (some ⟨w3.heap.size, 0, none⟩) x x (List.replicate x 0) 22 t3 wx) HE.out ?_
    clear HE c2 k2 hmk HI H5
    rintro W hE
    have HE := hide hE
    have r0 := hE.r0
    have r1 := hE.r1
    have r2 := hE.r2
    have f0 := hE.rf 0
    have f1 := hE.rf 1
    have f2 := hE.rf 2
    have d0 := hE.h0
    have d1 := hE.h1
    have d2 := hE.h2
    clear hE
    go_wp2
    have hfin := HE.out.fin HS.out (.int .i64 a) (.int .i64 b) (.slice (some ⟨w3.heap.size, 0, none⟩) x x)
    exact bodyPost_ret (v := .agg #[.int .i64 a, .int .i64 b, .slice (some ⟨w3.heap.size, 0, none⟩) x x]) (by simp [results, Tryz.results15, go_sem, r0, r1, r2]) rfl ⟨a, b, _, List.replicate x 0, rfl, by simp; omega, hfin.1, t3, hfin.2.mono (by omega)⟩
  · go_wp2
    have hfin := HB2.out.fin HS.out (.int .i64 a) (.int .i64 b) (.slice ao n c)
    exact bodyPost_ret (v := .agg #[.int .i64 a, .int .i64 b, .slice ao n c]) (by simp [results, Tryz.results15, go_sem, r0, r1, r2]) rfl ⟨a, b, .slice ao n c, xs, rfl, by omega, hfin.1, t2, hfin.2.mono (by omega)⟩

end Go.Proofs.YtamknomapabmfaaGreat
