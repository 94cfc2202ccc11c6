/- Chapter 6, the model's side: 'HeldBy', walked. -/
import Derived.Test.YtkpkoapcmnapoaaLkHeld
import Derived.Deep.RegionLaw
namespace Go.Proofs.Ytkpkoapcmnapoaa
open Go.RowKit Go.Maps

theorem l6TxnB (v : Int) (w : World) : Calls Try.prog 37 #[.int .i64 v] w fun e w' => e = .returned (.bool (decide (0 < v ∧ v ≤ 99))) ∧ w' = w := by
  by_cases h : 0 < v ∧ v ≤ 99
  · rw [decide_eq_true h]; exact l6TxnY v h.1 h.2 w
  · rw [decide_eq_false h]; exact l6TxnN v h w
theorem hbL_snoc (os : List Wn) (t : Int) (k : Nat) (h : k < os.length) : hbL (os.take (k + 1)) t = hbL (os.take k) t ++ if (os.getD k wn0).2 = t then [(os.getD k wn0).1] else [] := by
  rw [take_snoc os k h]
  unfold hbL
  rw [List.filter_append, List.map_append]
  generalize os.getD k wn0 = o
  by_cases e : o.2 = t
  · simp [e]
  · simp [e]
/-- What the loop knows behind k owners. -/
structure HbAt (w : World) (O : Nat) (xs : List Int) (ao : Option Addr) (j c : Nat) (wr : World) : Prop where
  below : Below w.heap.size w wr
  o : w.heap.size < O ∧ O < wr.heap.size
  r0 : wr.cell? ⟨w.heap.size, 0, none⟩ = some (.int .i64 0)
  r1 : wr.cell? ⟨w.heap.size, 1, none⟩ = some (.slice none 0 0)
  rf : ∀ o, wr.frozen? ⟨w.heap.size, o, none⟩ = false
  o0 : wr.cell? ⟨O, 0, none⟩ = some (.int .i64 0)
  o1 : wr.cell? ⟨O, 1, none⟩ = some (.slice ao j c)
  of : ∀ o, wr.frozen? ⟨O, o, none⟩ = false
  row : wr.ownsRow (O + 1) 2 1 (.slice ao j c) j (xs.map (Value.int .i64))
theorem HbAt.step {w : World} {O : Nat} {xs : List Int} {ao : Option Addr} {j c g cap : Nat} {x : Int} {wr w6 : World} (h : HbAt w O xs ao j c wr)
    (hown : w6.ownsRow (O + 1) 2 1 (.slice (some ⟨g, 0, none⟩) (j + 1) cap) (j + 1) (xs.map (Value.int .i64) ++ [.int .i64 x])) (hgrow : (wr.drew.alloc (.cells #[.int .i64 x] 2)).grownBy w6 (Value.slice ao j c).ownBlock) :
    HbAt w O (xs ++ [x]) (some ⟨g, 0, none⟩) (j + 1) cap (w6.setCell ⟨O, 1, none⟩ (.slice (some ⟨g, 0, none⟩) (j + 1) cap)) := by
  have hb := below_on (below_drewN wr 1) (below_alloc (wr.drewN 1) (.cells #[.int .i64 x] 2))
  have hlo : ∀ b, (Value.slice ao j c).ownBlock = some b → O + 1 ≤ b := fun b e => (h.row.lt b e).1
  have hz : wr.heap.size ≤ w6.heap.size := Nat.le_trans (by simp) hgrow.size
  have far : ∀ b o v, b ≤ O → wr.cell? ⟨b, o, none⟩ = some v → w6.cell? ⟨b, o, none⟩ = some v := fun b o v hb' hv => by
    have h1 := cell_later hb hv
    exact (World.cell?_of_block (hgrow.block b (World.block_lt_of_cell? _ _ h1) (fun e => by have := hlo b e.symm; omega))).trans h1
  have ffar : ∀ b o, b ≤ O → wr.frozen? ⟨b, o, none⟩ = false → w6.frozen? ⟨b, o, none⟩ = false := fun b o hb' hv =>
    (hgrow.frozen_far ⟨b, o, none⟩ (by have := h.o; simp; omega) (fun e => by have := hlo b e.symm; omega)).trans (((bcell hb).2 _ _ (by have := h.o; omega)).trans hv)
  have ho := h.o
  refine ⟨(((below_on h.below hb).grown hgrow (by have := h.below.size; simp; omega) (fun r hr => by have := hlo r hr; omega)).setCell (by simp; omega) _), ⟨ho.1, by simp; omega⟩, ?_, ?_, fun o => ?_, ?_, ?_, fun o => ?_, ?_⟩
  · rw [World.cell?_setCell_other _ _ _ _ (by intro e; injection e with e1 _; omega)]; exact far _ _ _ (by omega) h.r0
  · rw [World.cell?_setCell_other _ _ _ _ (by intro e; injection e with e1 _; omega)]; exact far _ _ _ (by omega) h.r1
  · rw [World.frozen?_setCell]; exact ffar _ _ (by omega) (h.rf o)
  · rw [World.cell?_setCell_other _ _ _ _ (by simp)]; exact far _ _ _ (by omega) h.o0
  · exact World.cell?_setCell_same _ _ _ (far _ _ _ (by omega) h.o1)
  · rw [World.frozen?_setCell]; exact ffar _ _ (by omega) (h.of o)
  · have e : (xs ++ [x]).map (Value.int .i64) = xs.map (Value.int .i64) ++ [.int .i64 x] := by simp
    rw [e]
    refine hown.kept (row := some O) ⟨rfl, rfl, rfl, by simp, fun b hb' hne => ?_⟩ (Or.inr (fun e => ?_))
    · exact Below.heap_setCell _ _ _ _ (fun e => hne (congrArg some e))
    · have := (hown.lt O e).1; omega

set_option maxHeartbeats 4000000 in
set_option maxRecDepth 4000 in
theorem specHeldBy {S : Nat → Prop} {w : World} {v : Value} {os : List Wn} (t : Int) (hv : RdO S w v os) :
    Calls Try.prog 22 #[v, .int .i64 t] w (EndsI (hbC os t) (hbR os t) w) := by
  obtain ⟨ao, c, rfl⟩ := hv.shape
  have HV := hide hv
  obtain ⟨i0, hi, hz0, hz1, hz2⟩ := info_parts Try.infoI6
  obtain ⟨m, hm⟩ : ∃ m, os.length = m := ⟨_, rfl⟩
  have HM := hide hm
  rw [hm] at HV ⊢
  clear hv hm
  obtain ⟨C, hC⟩ : ∃ C, hbC os t = C := ⟨_, rfl⟩
  obtain ⟨R, hR⟩ : ∃ R, hbR os t = R := ⟨_, rfl⟩
  unfold hbR at hR
  rw [hC] at hR ⊢
  have HG : Hid (hbR os t = R) := by unfold Hid hbR; rw [hC]; exact hR
  rw [HG.out]
  unfold hbC at hC
  obtain ⟨z, hz⟩ : ∃ z, ownF os = z := ⟨_, rfl⟩
  rw [hz] at hC
  have HZ := hide hz
  clear hz HG
  by_cases hz0' : z = 0
  · subst hz0'
    rw [if_neg (by simp)] at hC
    by_cases ht : 0 < t ∧ t ≤ 99
    · rw [if_pos ht] at hC
      subst hC
      rw [if_pos rfl] at hR
      have HT := hide ht
      have HR := hide hR
      have HOw := hide (own_of HZ.out)
      have hm40 : m ≤ 40 := by have := HOw.out.len; rw [HM.out] at this; exact this
      have HSn := hide (hbL_snoc os t)
      rw [HM.out] at HSn
      clear ht hR
      go_enter Try.func22, Try.ntmps22
      go_wp2_with fail
      refine (l6Fault (HV.out.later (below_alloc _ _))).mono ?_
      rintro e w2 ⟨he, hb⟩
      rw [HZ.out] at he
      subst he
      have HB2 := hide (below_on (below_alloc _ _) hb)
      have HC0 : Hid (w2.cell? ⟨w.heap.size, 0, none⟩ = some (.int .i64 0)) := cell_later hb (by simp [go_sem])
      have HC1 : Hid (w2.cell? ⟨w.heap.size, 1, none⟩ = some (.slice none 0 0)) := cell_later hb (by simp [go_sem])
      have HF0 : Hid (∀ o, w2.frozen? ⟨w.heap.size, o, none⟩ = false) := fun o => ((bcell hb).2 _ _ (by simp)).trans (by simp [go_sem])
      have hw2 : w.heap.size < w2.heap.size := World.block_lt_of_cell? _ _ HC0.out
      clear hb
      go_wp2_with fail
      refine (l6TxnY t HT.out.1 HT.out.2 _).mono ?_
      rintro e w3 ⟨rfl, rfl⟩
      go_wp2
      go_loopw [7] (fun i wr => ∃ (k j c : Nat) (ao : Option Addr), k ≤ m ∧ i = .int .i64 k ∧ Hid (j = (hbL (os.take k) t).length) ∧ Hid (HbAt w w3.heap.size (hbL (os.take k) t) ao j c wr)) (fun i _ => m - (RowKit.intOf i).toNat)
      case atStart =>
        have bA := below_alloc w3 (.cells #[.int .i64 0, .slice none 0 0] 40)
        exact ⟨0, 0, 0, none, Nat.zero_le _, rfl, rfl, below_on HB2.out bA, ⟨hw2, by simp⟩, cell_later bA HC0.out, cell_later bA HC1.out, fun o => ((bcell bA).2 _ _ hw2).trans (HF0.out o), by simp [go_sem], by simp [go_sem], fun o => by simp [go_sem], ⟨rfl, .inl ⟨rfl, rfl⟩⟩⟩
      case round =>
        obtain ⟨k, j, cj, aj, hk, rfl, HJ, HT2⟩ := hrel
        by_cases hlt : k < m
        · obtain ⟨b, off, rfl, q1, q2⟩ := HV.out.at (k := k) (by rw [HM.out]; exact hlt)
          have g1 := cell_later HT2.out.below q1
          have g2 := cell_later HT2.out.below q2
          have HSk := hide (HSn.out k hlt)
          obtain ⟨x, hx⟩ : ∃ x, (os.getD k wn0).1 = x := ⟨_, rfl⟩
          obtain ⟨y, hy⟩ : ∃ y, (os.getD k wn0).2 = y := ⟨_, rfl⟩
          rw [hx] at g1 HSk
          rw [hy] at g2 HSk
          clear q1 q2 hx hy
          have hjk : j ≤ 40 := by
            have h := HJ.out
            have h2 : (hbL (os.take k) t).length ≤ (os.take k).length := by unfold hbL; rw [List.length_map]; exact List.length_filter_le _ _
            simp at h2
            omega
          generalize hbL (os.take k) t = P at HJ HT2 HSk
          by_cases hxa : y = t
          · subst hxa
            rw [if_pos rfl] at HSk
            have HRow : Hid (wr.drew.ownsRow (w3.heap.size + 1) 2 1 (.slice aj j cj) j (P.map (Value.int .i64))) := HT2.out.row
            have hO1 := HT2.out.o1
            have hOl := HT2.out.o.2
            have hO0 := HT2.out.o0
            have HOf := hide HT2.out.of
            have hbl := World.block_lt_of_cell? _ _ g1
            dsimp only at hbl
            have hbO : Hid (b < w3.heap.size + 1 ∨ True) := Or.inr trivial
            have hO1d : wr.drew.cell? ⟨w3.heap.size, 1, none⟩ = some (.slice aj j cj) := hO1
            go_wp2_with fail
            go_region_law (first | (refine step_append_lies _ (by rfl) _ _ _ (by rfl) (w3.heap.size + 1) 2 i0 (.int .i64 0) 1 8 Try.underlying38 hi hz0 hz1 hz2 rfl (by omega) (.slice aj j cj) j _ (by rfl) (HRow.out.alloc (.cells #[.int .i64 x] 2)) ⟨wr.heap.size, 0, none⟩ 1 1 [.int .i64 x] (by rfl) (by rfl) (World.news_of_block (cs := #[.int .i64 x]) (t := 2) (fr := (0, 0)) (heap_alloc_new wr.drew _)) (by simp [Value.oneCell']) (by omega) (by unfold maxLen; omega) (by omega) (by simp; omega) (wr.heap.size + 1) (by simp) ?_; intro g cap w6 hown hgrow hat hlt3; have y1 : w6.cell? ⟨w3.heap.size, 1, none⟩ = some (.slice aj j cj) := (hgrow.cell_far ⟨w3.heap.size, 1, none⟩ (by simp; omega) (fun e => by have := (HRow.out.lt _ e.symm).1; dsimp only at this; omega)).trans (cell_later (below_alloc wr.drew _) hO1d); have yf : w6.frozen? ⟨w3.heap.size, 1, none⟩ = false := (hgrow.frozen_far ⟨w3.heap.size, 1, none⟩ (by simp; omega) (fun e => by have := (HRow.out.lt _ e.symm).1; dsimp only at this; omega)).trans (((bcell (below_alloc wr.drew _)).2 _ _ hOl).trans (HOf.out 1))))
            all_goals
              have HSt := hide (HT2.out.step hown hgrow)
              rw [← HSk.out] at HSt
              have HJ' : Hid (j + 1 = (hbL (os.take (k + 1)) y).length) := by rw [Hid, HSk.out, List.length_append, ← HJ.out]; rfl
              clear hown hgrow hat hlt3 y1 yf
              go_wp2
              go_roundw
              case rel => exact ⟨k + 1, j + 1, cap, some ⟨g, 0, none⟩, hlt, by go_num, HJ'.out, HSt.out⟩
              case measure => simp [RowKit.intOf]; omega
          · have hxb : (y == t) = false := by simpa using hxa
            rw [if_neg hxa, List.append_nil] at HSk
            have HJ' : Hid (j = (hbL (os.take (k + 1)) t).length) := by rw [Hid, HSk.out]; exact HJ.out
            have HT3 : Hid (HbAt w w3.heap.size (hbL (os.take (k + 1)) t) aj j cj wr) := by rw [Hid, HSk.out]; exact HT2.out
            go_wp2
            go_roundw
            case rel => exact ⟨k + 1, j, cj, aj, hlt, by go_num, HJ'.out, HT3.out⟩
            case measure => simp [RowKit.intOf]; omega
        · have hkm : k = m := by omega
          subst hkm
          have hfin : os.take k = os := by rw [← HM.out]; simp
          rw [hfin, HR.out] at HJ HT2
          have c0 := HT2.out.r0
          have c1 := HT2.out.r1
          have F0 := HT2.out.rf 0
          have F1 := HT2.out.rf 1
          have p0 := HT2.out.o0
          have p1 := HT2.out.o1
          have hol := HT2.out.o
          have hjk : j ≤ 40 := by
            have h := HJ.out
            have h2 : R.length ≤ os.length := by rw [← HR.out]; unfold hbL; rw [List.length_map]; exact List.length_filter_le _ _
            rw [HM.out] at h2
            omega
          have HF := hide (ret_code (x := .int .i64 0) HT2.out.below (Nat.le_refl _) (ow_of_owns HJ.out.symm HT2.out.row (by rw [← HJ.out]; omega)) (by omega))
          go_wp2
          refine bodyPost_ret (v := .agg #[.int .i64 0, .slice aj j cj]) (by simp [results, Try.results22, go_sem, c0, c1]) rfl ⟨_, rfl, HF.out.1, HF.out.2⟩
    · rw [if_neg ht] at hC
      subst hC
      rw [if_neg (by decide)] at hR
      subst hR
      have HT := hide ht
      clear ht
      go_enter Try.func22, Try.ntmps22
      go_wp2_with fail
      refine (l6Fault (HV.out.later (below_alloc _ _))).mono ?_
      rintro e w2 ⟨he, hb⟩
      rw [HZ.out] at he
      subst he
      have HB2 := hide (below_on (below_alloc _ _) hb)
      have c0 : w2.cell? ⟨w.heap.size, 0, none⟩ = some (.int .i64 0) := cell_later hb (by simp [go_sem])
      have c1 : w2.cell? ⟨w.heap.size, 1, none⟩ = some (.slice none 0 0) := cell_later hb (by simp [go_sem])
      have F0 : w2.frozen? ⟨w.heap.size, 0, none⟩ = false := ((bcell hb).2 _ _ (by simp)).trans (by simp [go_sem])
      have F1 : w2.frozen? ⟨w.heap.size, 1, none⟩ = false := ((bcell hb).2 _ _ (by simp)).trans (by simp [go_sem])
      clear hb
      go_wp2_with fail
      refine (l6TxnN t HT.out _).mono ?_
      rintro e w3 ⟨rfl, rfl⟩
      go_wp2
      refine bodyPost_ret (v := .agg #[.int .i64 3, .slice none 0 0]) (by simp [results, Try.results22, go_sem, c0, c1]) rfl ⟨_, rfl, ?_, OwI_nil _ _⟩
      exact (HB2.out.setCell (Nat.le_refl _) _).setCell (Nat.le_refl _) _
  · rw [if_pos hz0'] at hC
    subst hC
    rw [if_neg hz0'] at hR
    subst hR
    go_enter Try.func22, Try.ntmps22
    go_wp2_with fail
    refine (l6Fault (HV.out.later (below_alloc _ _))).mono ?_
    rintro e w2 ⟨he, hb⟩
    rw [HZ.out] at he
    subst he
    have HB2 := hide (below_on (below_alloc _ _) hb)
    have c0 : w2.cell? ⟨w.heap.size, 0, none⟩ = some (.int .i64 0) := cell_later hb (by simp [go_sem])
    have c1 : w2.cell? ⟨w.heap.size, 1, none⟩ = some (.slice none 0 0) := cell_later hb (by simp [go_sem])
    have F0 : w2.frozen? ⟨w.heap.size, 0, none⟩ = false := ((bcell hb).2 _ _ (by simp)).trans (by simp [go_sem])
    have F1 : w2.frozen? ⟨w.heap.size, 1, none⟩ = false := ((bcell hb).2 _ _ (by simp)).trans (by simp [go_sem])
    clear hb
    go_wp2
    refine bodyPost_ret (v := .agg #[.int .i64 z, .slice none 0 0]) (by simp [results, Try.results22, go_sem, c0, c1]) rfl ⟨_, rfl, ?_, OwI_nil _ _⟩
    exact (HB2.out.setCell (Nat.le_refl _) _).setCell (Nat.le_refl _) _
end Go.Proofs.Ytkpkoapcmnapoaa
