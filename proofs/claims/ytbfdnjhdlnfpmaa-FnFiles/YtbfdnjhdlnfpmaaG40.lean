/- DrawF5 in one text: what each says stands at its head below. -/
import Derived.Test.YtbfdnjhdlnfpmaaG39
/- Chapter 8, draws: 'l8Bent', walked: a list of files that can be read. -/
namespace Go.Proofs.Ytbfdnjhdlnfpmaa
open Go.RowKit

theorem run_make5 (w : World) : (Instr.makeSlice 26 (.int .i64 5) (.int .i64 5)).run Try.prog w = .ok (.slice (some ⟨w.heap.size, 0, none⟩) 5 5) (w.alloc (.cells (madeCells #[.int .i64 0, .int .i64 0, .slice none 0 0] 15) 35)) := by
  obtain ⟨i, hi, hz, hs, hb⟩ := info_parts Try.infoFl
  have hr := run_make (P := Try.prog) w 26 35 i (.agg #[.int .i64 0, .int .i64 0, .slice none 0 0]) Try.underlying26 hi hz .i64 .i64 5 5 (by omega) (Int.le_refl _) (by rw [hb]; omega) (by omega)
  simp only [hs] at hr
  exact hr
theorem made5 (w : World) (t : TypeId) : RdJ (w.heap.size ≤ ·) (w.alloc (.cells (madeCells #[.int .i64 0, .int .i64 0, .slice none 0 0] 15) t)) (.slice (some ⟨w.heap.size, 0, none⟩) 5 5) (List.replicate 5 oj0) := by
  refine ⟨_, 5, rfl, by simp, fun _ => ⟨w.heap.size, 0, fun _ => .slice none 0 0, rfl, Nat.le_refl _, fun i hi => ?_⟩⟩
  have hi5 : i < 5 := by simpa using hi
  have hsz : (madeCells #[Value.int .i64 0, .int .i64 0, .slice none 0 0] 15).size = 15 := size_madeCells ..
  have e : (List.replicate 5 oj0).getD i oj0 = oj0 := by
    have k : i = 0 ∨ i = 1 ∨ i = 2 ∨ i = 3 ∨ i = 4 := by omega
    rcases k with rfl | rfl | rfl | rfl | rfl <;> rfl
  rw [e]
  have hc : ∀ o, o < 15 → (w.alloc (.cells (madeCells #[.int .i64 0, .int .i64 0, .slice none 0 0] 15) t)).cell? ⟨w.heap.size, o, none⟩ = (madeCells #[Value.int .i64 0, .int .i64 0, .slice none 0 0] 15)[o]? := fun o ho => by simp [go_sem]
  have k : i = 0 ∨ i = 1 ∨ i = 2 ∨ i = 3 ∨ i = 4 := by omega
  refine ⟨?_, ?_, ?_, ⟨none, 0, rfl, by simp [oj0], fun h => absurd rfl h⟩⟩
  · rw [hc _ (by omega)]; rcases k with rfl | rfl | rfl | rfl | rfl <;> kernel_rfl
  · rw [hc _ (by omega)]; rcases k with rfl | rfl | rfl | rfl | rfl <;> kernel_rfl
  · rw [hc _ (by omega)]; rcases k with rfl | rfl | rfl | rfl | rfl <;> kernel_rfl

set_option maxHeartbeats 4000000 in
set_option maxRecDepth 4000 in
theorem l8Bent {s : Nat} {v : Value} {bs : List Nat} {w : World} {t : Nat} (hS : Src s v bs w t) (ht : t ≤ 100000000) :
    Calls Try.prog 54 #[.pointer (some ⟨s, 0, none⟩)] w fun e w' => ∃ (ao : Option Addr) (n c : Nat) (fs : List Oj), e = .returned (.slice ao n c) ∧ fs.length = n ∧ n ≤ 5 ∧ (∀ p, p ∈ fs → p.2.2.length ≤ 6) ∧ RdJ (w.heap.size ≤ ·) w' (.slice ao n c) fs ∧ ∃ t', Drawn 12 s v bs t t' w w' := by
  have HS := hide hS
  have hsl := hS.lt
  obtain ⟨i0, hi, hz0, hz1, hz2⟩ := info_parts Try.infoFl
  obtain ⟨j0, hj, jz0, jz1, jz2⟩ := info_parts Try.infoInt
  clear hS
  go_enter Try.func54, Try.ntmps54
  go_wp2_with fail
  refine (l8Draw HS.out (by omega)).mono ?_
  rintro e w1 ⟨ao, n, c, fs, rfl, hn, hf, hrow, t1, hd1⟩
  have HN := hide hn
  have h4 := (filF_iff.1 hf).len
  rw [hn] at h4
  have HLe : Hid (∀ p, p ∈ fs → p.2.2.length ≤ 5) := fun p hp => oneF_len ((filF_iff.1 hf).one p hp)
  have HLn : Hid (∀ i, i < fs.length → (fs.getD i oj0).2.2.length ≤ 5) := fun i hi => one_len hf hi
  have HR1 := hide hrow
  have HD1 := hide hd1
  have hz1' := hd1.2.1.size
  have ht1 := hd1.2.2
  clear hn hf hrow hd1
  go_wp2_with fail
  refine (l1Next 12 HD1.out.1 (by omega) (by omega) (by omega)).mono ?_
  rintro e w2 ⟨r, rfl, ra, rb, t2, hd2⟩
  have HR2 := hide (HR1.out.drawn hd2.2.1 (by omega))
  have HD2 := hide (HD1.out.on hd2)
  have hz2' := hd2.2.1.size
  have ht2 := HD2.out.2.2
  clear hd2 rb HR1 HD1
  by_cases r0 : r = 0
  · subst r0
    have hsW := HD2.out.1.lt
    have HP1 := hide (l1Pick (HD2.out.1.later (below_alloc w2 (.cells #[.int .i64 0, .int .i64 99, .int .i64 100] 2))) (by omega) (RdI_new s w2 [0, 99, 100] 2 hsW (by simp)) (by simp) (by simp))
    have HD2a := hide (HD2.out.later (below_alloc w2 (.cells #[.int .i64 0, .int .i64 99, .int .i64 100] 2)))
    have HR2a := hide (HR2.out.later (below_alloc w2 (.cells #[.int .i64 0, .int .i64 99, .int .i64 100] 2)))
    go_wp2_with fail
    refine HP1.out.mono ?_
    rintro e w3 ⟨i3, _, rfl, t3, hd3⟩
    obtain ⟨x, hx⟩ : ∃ x, ([0, 99, 100] : List Int).getD i3 0 = x := ⟨_, rfl⟩
    rw [hx]
    have HD3 := hide (HD2a.out.on hd3)
    have HR3 := hide (HR2a.out.drawn hd3.2.1 (by omega))
    have hz3 : w2.heap.size ≤ w3.heap.size := by have := hd3.2.1.size; simp at this; omega
    have ht3 := HD3.out.2.2
    clear hx hd3 HP1 HD2a HR2a
    have hs3 := HD3.out.1.lt
    have HP2 := hide (l1Pick (HD3.out.1.later (below_alloc w3 (.cells #[.int .i64 0, .int .i64 41, .int .i64 3] 2))) (by omega) (RdI_new s w3 [0, 41, 3] 2 hs3 (by simp)) (by simp) (by simp))
    have HD3a := hide (HD3.out.later (below_alloc w3 (.cells #[.int .i64 0, .int .i64 41, .int .i64 3] 2)))
    have HR3a := hide (HR3.out.later (below_alloc w3 (.cells #[.int .i64 0, .int .i64 41, .int .i64 3] 2)))
    go_wp2_with fail
    refine HP2.out.mono ?_
    rintro e w4 ⟨i4, _, rfl, t4, hd4⟩
    obtain ⟨y, hy⟩ : ∃ y, ([0, 41, 3] : List Int).getD i4 0 = y := ⟨_, rfl⟩
    rw [hy]
    have HD4 := hide (HD3a.out.on hd4)
    have HR4 := hide (HR3a.out.drawn hd4.2.1 (by omega))
    have hz4 : w3.heap.size ≤ w4.heap.size := by have := hd4.2.1.size; simp at this; omega
    clear hy hd4 HP2 HD3a HR3a
    have hR4 := HR4.out
    rw [← HN.out] at hR4
    have HSn := hide (hR4.snoc (x, y, []))
    rw [HN.out] at HSn
    clear hR4
    obtain ⟨V, hrow, hpr, h3⟩ := HSn.out
    have HRow := hide hrow
    have HPr := hide hpr
    have H3 := hide h3
    have HG : Hid ((fs ++ [(x, y, ([] : List Int))]).getD n oj0 = (x, y, [])) := by rw [Hid, ← HN.out]; simp [List.getD]
    clear hrow hpr h3
    go_wp2_with (at_builtin; refine wpList_append_lies _ rfl _ _ _ rfl 0 35 i0 (.agg #[.int .i64 0, .int .i64 0, .slice none 0 0]) 3 40 Try.underlying26 hi hz0 hz1 hz2 rfl (by omega) _ n _ (by rfl) (ownsRow_later HRow.out (below_alloc w4 (.cells #[.int .i64 x, .int .i64 y, .slice none 0 0] 35))) ⟨w4.heap.size, 0, none⟩ 1 1 [.int .i64 x, .int .i64 y, .slice none 0 0] (by rfl) (by rfl) (World.news_of_block (cs := #[.int .i64 x, .int .i64 y, .slice none 0 0]) (t := 35) (fr := (0, 0)) (heap_alloc_new w4 _)) cellsFi_one (by omega) (by unfold maxLen; omega) (by omega) (Nat.zero_le _) (w4.heap.size + 1) (by simp) ?_; intro g cap w5 hown5 hgrow hat hlt5)
    have hSt := FoRow.step (P := (w.heap.size ≤ ·)) H3.out HRow.out HPr.out (fun b hb => by omega) (Below.refl w4.heap.size w4) (z := .slice none 0 0) (by rw [HG.out]; exact World.ownsRow_nil _ _ _ _) (below_alloc w4 (.cells #[.int .i64 x, .int .i64 y, .slice none 0 0] 35)) (by rw [HG.out]; exact hown5) hgrow (by simpa using hat)
    have HRd := hide (hSt.rdP (by simp [HN.out]) (by omega) (fun i hi => by
      by_cases e : i < fs.length
      · have h5 := HLn.out i e
        have e2 : (fs ++ [(x, y, ([] : List Int))]).getD i oj0 = fs.getD i oj0 := by simp [List.getD, List.getElem?_append_left e]
        rw [e2]; omega
      · have e3 : i = fs.length := by simp at hi; omega
        rw [e3, HN.out, HG.out]; simp))
    have HD5 := hide (HD4.out.onBelow HS.out (((below_alloc w4 (.cells #[.int .i64 x, .int .i64 y, .slice none 0 0] 35)).mono (show w.heap.size ≤ w4.heap.size by omega)).grown hgrow (by simp; omega) (fun r hr => HPr.out r hr)))
    clear hSt hown5 hgrow hat hlt5
    go_wp2
    go_ret
    refine ⟨_, n + 1, cap, fs ++ [(x, y, [])], rfl, by simp [HN.out], by omega, fun p hp => ?_, HRd.out, t4, HD5.out.mono (by omega)⟩
    rcases List.mem_append.1 hp with h | h
    · have := HLe.out p h; omega
    · rw [List.mem_singleton] at h; subst h; simp
  · have r0b : (r == 0) = false := by simpa using r0
    by_cases r1 : r = 1
    · subst r1
      by_cases hn0 : n = 0
      · subst hn0
        have HRd := hide (HR2.out.rdP HN.out (by omega) (fun i hi => by have := HLn.out i hi; omega))
        go_wp2
        go_ret
        exact ⟨ao, 0, c, fs, rfl, HN.out, by omega, fun p hp => by have := HLe.out p hp; omega, HRd.out, t2, HD2.out.mono (by omega)⟩
      · have hnp : (0 : Int) < (n : Int) := by omega
        have hnp' : 0 < n := by omega
        obtain ⟨V, hrow, hpr, h3⟩ := HR2.out
        rcases hrow.2 with ⟨e, e0⟩ | ⟨g, cap, cur, e, hg, hh, hnc, _⟩
        · exact absurd e0 (by omega)
        injection e with e1 _ e3
        subst e1 e3
        obtain ⟨a0, c0, hV0⟩ := owns_shapeM (h3.1 0 hnp').1
        dsimp only at hV0
        obtain ⟨l0, hl0⟩ : ∃ l, (fs.getD 0 oj0).2.2.length = l := ⟨_, rfl⟩
        rw [hl0] at hV0
        have HL0 := hide hl0
        have g2 : w2.cell? ⟨g, 2, none⟩ = some (.slice a0 l0 c0) := by rw [hrow.cellAt 2 (by omega), ← hV0]; simpa using cellsFi_words fs n V 0 hnp'
        have gf : w2.frozen? ⟨g, 2, none⟩ = false := hrow.frozenAt 2
        have hgP : w.heap.size ≤ g := hpr g rfl
        have hgl : g < w2.heap.size := (hrow.lt g rfl).2
        have hl5 := HLn.out 0 (by rw [HN.out]; exact hnp')
        rw [hl0] at hl5
        have HRow := hide hrow
        have H3 := hide h3
        have HV0 := hide hV0
        clear hrow hpr h3 hh hnc hV0 hl0 HR2
        have hgs : g ≠ s := by omega
        obtain ⟨W, hW⟩ : ∃ W, (w2.alloc (.cells #[.int .i64 2, .int .i64 5] 2)).drew = W := ⟨_, rfl⟩
        have HBW : Hid (Below w2.heap.size w2 W) := by rw [Hid, ← hW]; exact below_on (below_alloc _ _) (below_drewN _ 1)
        have HSW : Hid (Src s v bs W t2) := HD2.out.1.later HBW.out
        have HRW : Hid (RdI (· ≠ s) W (.slice (some ⟨w2.heap.size, 0, none⟩) 2 2) [2, 5]) := by
          rw [Hid, ← hW]
          exact RdI.drewN (RdI_new s w2 [2, 5] 2 (by omega) (by simp)) 1
        have HDW := hide (HD2.out.later HBW.out)
        have hzW := HBW.out.size
        have gW : W.cell? ⟨g, 2, none⟩ = some (.slice a0 l0 c0) := cell_later HBW.out g2
        have HGW := hide gW
        have HFW : Hid (W.frozen? ⟨g, 2, none⟩ = false) := ((bcell HBW.out).2 _ _ hgl).trans gf
        have HRo : Hid (W.ownsRow 0 35 3 (.slice (some ⟨g, 0, none⟩) n c) n (cellsFi fs n V)) := ownsRow_later HRow.out HBW.out
        have HRi : Hid (∀ i, i < n → W.ownsRow 0 2 1 (V i) (fs.getD i oj0).2.2.length ((fs.getD i oj0).2.2.map (Value.int .i64))) := fun i hi => ownsRow_later (H3.out.1 i hi).1 HBW.out
        have HWW := hide hW
        clear hW gW
        go_wp2_with fail
        go_region_law (first
          | (go_simp; go_at_call 25; rw [HWW.out]; refine (l1Pick HSW.out (by omega) HRW.out (by simp) (by simp)).mono ?_; rintro e w5 ⟨ix, _, rfl, t5, hd5⟩; obtain ⟨x, hx⟩ : ∃ x, ([2, 5] : List Int).getD ix 0 = x := ⟨_, rfl⟩; rw [hx]; clear hx; have e2 : w5.cell? ⟨g, 2, none⟩ = some (.slice a0 l0 c0) := (hd5.2.1.cell (World.block_lt_of_cell? _ _ HGW.out) (by dsimp only; omega)).trans HGW.out; have e2f : w5.frozen? ⟨g, 2, none⟩ = false := (hd5.2.1.frz _ _ (World.block_lt_of_cell? _ _ HGW.out)).trans HFW.out; have HD5 := hide (HDW.out.on hd5); have HRo5 := hide (ownsRow_wr HRo.out hd5.2.1 (by intro e; injection e with e; dsimp only at e; omega)); have HRi5 : Hid (∀ i, i < n → w5.ownsRow 0 2 1 (V i) (fs.getD i oj0).2.2.length ((fs.getD i oj0).2.2.map (Value.int .i64))) := fun i hi => ownsRow_wr (HRi.out i hi) hd5.2.1 (fun e => by have := ((H3.out.1 i hi).2 s e).1; omega); have hz5 := hd5.2.1.size; have HE2 := hide e2; have HE2f := hide e2f; have hg5 : g < w5.heap.size := (by omega); have e3 : (w5.alloc (.cells #[.int .i64 x] 2)).cell? ⟨g, 2, none⟩ = some (.slice a0 l0 c0) := cell_later (below_alloc _ _) e2; clear hd5)
          | (refine step_append_lies _ (by rfl) _ _ _ (by rfl) 0 2 j0 (.int .i64 0) 1 8 Try.underlying24 hj jz0 jz1 jz2 rfl (by omega) (.slice a0 l0 c0) l0 _ (by rfl) (by have h := HRi5.out 0 hnp'; rw [HV0.out, HL0.out] at h; exact ownsRow_later h (below_alloc w5 (.cells #[.int .i64 x] 2))) ⟨w5.heap.size, 0, none⟩ 1 1 [.int .i64 x] (by rfl) (by rfl) (World.news_of_block (cs := #[.int .i64 x]) (t := 2) (fr := (0, 0)) (heap_alloc_new w5 _)) (by simp [Value.oneCell']) (by omega) (by unfold maxLen; omega) (by omega) (by simp) (w5.heap.size + 1) (by simp) ?_; intro g' cap' w6 hown hgrow hat hlt6; have hne0 : (Value.slice a0 l0 c0).ownBlock ≠ some g := (by rw [← HV0.out]; exact fun e => ((H3.out.1 0 hnp').2 g e).2 rfl); have y1 : w6.cell? ⟨g, 2, none⟩ = some (.slice a0 l0 c0) := (hgrow.cell_far ⟨g, 2, none⟩ (by simp; omega) (fun e => hne0 e.symm)).trans (cell_later (below_alloc w5 _) HE2.out); have yf : w6.frozen? ⟨g, 2, none⟩ = false := (hgrow.frozen_far ⟨g, 2, none⟩ (by simp; omega) (fun e => hne0 e.symm)).trans (((bcell (below_alloc w5 _)).2 _ _ (by omega)).trans HE2f.out)))
        all_goals
          have hF := FoRow.first (P := (w.heap.size ≤ ·)) (w := w2) (w2 := w5.alloc (.cells #[.int .i64 x] 2)) (w3 := w6) (g := g) (n := n) (cap := c) (g' := g') (cap' := cap') (fs := fs) (V := V) (x := x) hgP H3.out HN.out hnp' (by omega) (fun i hi => by have := HLn.out i hi; omega) (fun i hi => ownsRow_later (HRi5.out i hi) (below_alloc w5 _)) (ownsRow_later HRo5.out (below_alloc w5 _)) (fun b hb => by simp at hb; omega) (by rw [HL0.out]; exact hown) (by rw [HV0.out]; exact hgrow) (by rw [HV0.out]; simpa using hat)
          rw [HL0.out] at hF
          have HFF := hide hF
          have HD6 := hide (HD5.out.onBelow HS.out ((((below_alloc w5 (.cells #[.int .i64 x] 2)).mono (show w.heap.size ≤ w5.heap.size by omega)).grown hgrow (by simp; omega) (fun r hr => by rw [← HV0.out] at hr; exact ((H3.out.1 0 hnp').2 r hr).1)).setCell (p := ⟨g, 2, none⟩) hgP (.slice (some ⟨g', 0, none⟩) (l0 + 1) cap')))
          clear hF hown hgrow hat hlt6 hne0
          go_wp2
          go_ret
          refine ⟨_, n, c, _, rfl, by simp, by omega, fun p hp => ?_, HFF.out, t5, HD6.out.mono (by omega)⟩
          obtain ⟨i, hi, rfl⟩ := List.mem_map.1 hp
          have hi' := List.mem_range.1 hi
          by_cases e : i = 0
          · subst e
            simp only [if_true]
            rw [List.length_append, HL0.out]
            simp only [List.length_cons, List.length_nil]
            omega
          · simp only [if_neg e]
            have := HLn.out i (by rw [HN.out]; exact hi')
            omega
    · have r1b : (r == 1) = false := by simpa using r1
      by_cases r2 : r = 2
      · subst r2
        have hmk := run_make5
        have HRd := hide (made5 w2 35)
        have HD3 := hide (HD2.out.later (below_alloc w2 (.cells (madeCells #[.int .i64 0, .int .i64 0, .slice none 0 0] 15) 35)))
        go_wp2
        go_ret
        refine ⟨_, 5, 5, List.replicate 5 oj0, rfl, by simp, by omega, fun p hp => by rw [List.eq_of_mem_replicate hp]; simp [oj0], ?_, t2, HD3.out.mono (by omega)⟩
        obtain ⟨a1, c1, q1, q2, q3⟩ := HRd.out
        refine ⟨a1, c1, q1, q2, fun hne => ?_⟩
        obtain ⟨b, off, V, p1, p2, p3⟩ := q3 hne
        exact ⟨b, off, V, p1, by omega, fun i hi => ⟨(p3 i hi).1, (p3 i hi).2.1, (p3 i hi).2.2.1, (p3 i hi).2.2.2.narrow (fun _ b hb => by omega)⟩⟩
      · have r2b : (r == 2) = false := by simpa using r2
        have HRd := hide (HR2.out.rdP HN.out (by omega) (fun i hi => by have := HLn.out i hi; omega))
        go_wp2
        go_ret
        exact ⟨ao, n, c, fs, rfl, HN.out, by omega, fun p hp => by have := HLe.out p hp; omega, HRd.out, t2, HD2.out.mono (by omega)⟩
end Go.Proofs.Ytbfdnjhdlnfpmaa
