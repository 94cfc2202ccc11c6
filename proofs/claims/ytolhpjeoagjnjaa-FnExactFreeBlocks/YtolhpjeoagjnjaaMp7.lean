/- Chapter 7: 'FreeBlocks' of the model, walked. -/
import Derived.Test.YtolhpjeoagjnjaaMp7a
import Derived.Test.YtolhpjeoagjnjaaHbA
import Derived.Deep.RegionLaw
namespace Go.Proofs.Ytolhpjeoagjnjaa
open Go.RowKit

theorem filt_snoc (xs : List Int) (p : Int → Bool) (k : Nat) (h : k < xs.length) : (xs.take (k + 1)).filter p = (xs.take k).filter p ++ if p (xs.getD k 0) then [xs.getD k 0] else [] := by
  have e : xs.getD k 0 = xs[k] := by simp [List.getD, h]
  rw [List.take_add_one, List.getElem?_eq_getElem h, List.filter_append, e]
  by_cases hp : p xs[k] = true
  · simp [hp]
  · simp [hp]

set_option maxHeartbeats 4000000 in
set_option maxRecDepth 4000 in
theorem specFreeBlocks {S T : Nat → Prop} {w : World} {u v : Value} {xs ys : List Int} (hu : RdI S w u xs) (hv : RdI T w v ys) :
    Calls Try.prog 32 #[u, v] w (EndsI (fbC xs ys) (fbR xs ys) w) := by
  have hml := hv.max
  obtain ⟨i0, hi, hz0, hz1, hz2⟩ := info_parts Try.infoInt
  obtain ⟨ao, c, rfl⟩ := hu.shape
  obtain ⟨ao', c', rfl⟩ := hv.shape
  have HU := hide hu
  have HV := hide hv
  clear hu hv
  obtain ⟨z, hz⟩ : ∃ z, mapF xs = z := ⟨_, rfl⟩
  have HZ := hide hz
  by_cases h0 : z = 0
  · subst h0
    obtain ⟨z', hz'⟩ : ∃ z', mapF ys = z' := ⟨_, rfl⟩
    have HZ' := hide hz'
    by_cases h0' : z' = 0
    · subst h0'
      have HC : Hid (fbC xs ys = if ∀ y, y ∈ ys → y ∈ xs then 0 else 4) := by rw [Hid, fbC, hz, hz', if_neg (by simp), if_neg (by simp)]
      have HR : Hid (fbR xs ys = if fbC xs ys = 0 then xs.filter (fun x => !decide (x ∈ ys)) else []) := rfl
      have hm20 := isMap_len (mapF_iff.1 HZ.out)
      generalize fbC xs ys = C at HC HR ⊢
      generalize fbR xs ys = R at HR ⊢
      obtain ⟨n, hn⟩ : ∃ n, ys.length = n := ⟨_, rfl⟩
      have HN := hide hn
      rw [hn] at hml HV ⊢
      have HSn := hide (filt_snoc xs (fun x => !decide (x ∈ ys)))
      obtain ⟨m, hm⟩ : ∃ m, xs.length = m := ⟨_, rfl⟩
      have HM := hide hm
      rw [hm] at hm20 HU HSn ⊢
      clear hz hz' hn hm
      go_enter Try.func32, Try.ntmps32
      go_wp2_with fail
      refine (l7Fault (HU.out.later (below_alloc w _))).mono ?_
      rintro e w1 ⟨he, q, hq⟩
      rw [HZ.out] at he
      subst he
      have HRs : Hid (ResI w w1) := hq ▸ (ResI.start w).later (below_drewN _ q)
      clear hq
      go_wp2_with fail
      refine (l7Fault (HV.out.later HRs.out.below)).mono ?_
      rintro e w2 ⟨he, q, hq⟩
      rw [HZ'.out] at he
      subst he
      have HRs2 : Hid (ResI w w2) := hq ▸ HRs.out.later (below_drewN _ q)
      clear hq HRs
      go_wp2
      go_loopw [7] (fun i wr => ∃ k : Nat, k ≤ n ∧ i = .int .i64 k ∧ Hid (∀ j, j < k → ys.getD j 0 ∈ xs) ∧ wr = w2) (fun i _ => n - (RowKit.intOf i).toNat)
      case atStart => exact ⟨0, Nat.zero_le _, rfl, fun j hj => absurd hj (Nat.not_lt_zero _), rfl⟩
      case round =>
        obtain ⟨k, hk, rfl, HA, hwr⟩ := hrel
        subst hwr
        by_cases hlt : k < n
        · obtain ⟨b, off, rfl, q0⟩ := HV.out.at (k := k) (by rw [HN.out]; exact hlt)
          have q1 := cell_later HRs2.out.below q0
          obtain ⟨x, hx⟩ : ∃ x, ys.getD k 0 = x := ⟨_, rfl⟩
          rw [hx] at q1
          have HX := hide hx
          have hmem : Hid (x ∈ ys) := by rw [Hid, ← hx]; simp [List.getD, show k < ys.length by rw [HN.out]; exact hlt]
          have hk0 : (0 : Int) ≤ (k : Int) := by omega
          have hk1 : (k : Int) < (n : Int) := by omega
          clear hx q0
          have HTk := hide (l7Among x (HU.out.later HRs2.out.below))
          by_cases hin : x ∈ xs
          · rw [decide_eq_true hin] at HTk
            have HA' : Hid (∀ j, j < k + 1 → ys.getD j 0 ∈ xs) := fun j hj => by
              by_cases e : j = k
              · subst e; rw [HX.out]; exact hin
              · exact HA.out j (by omega)
            clear hin
            go_wp2_with fail
            refine HTk.out.mono ?_
            rintro e w6 ⟨hw, rfl⟩
            have hw := hw.symm
            subst hw
            go_wp2
            go_roundw
            case rel => exact ⟨k + 1, hlt, by go_num, HA'.out, by first | rfl | trivial⟩
            case measure => simp [RowKit.intOf]; omega
          · rw [decide_eq_false hin] at HTk
            have hC4 : C = 4 := by rw [HC.out, if_neg (fun h => hin (h x hmem.out))]
            subst hC4
            have hRn : R = [] := by rw [HR.out, if_neg (by decide)]
            subst hRn
            clear hin
            go_wp2_with fail
            refine HTk.out.mono ?_
            rintro e w6 ⟨hw, rfl⟩
            have hw := hw.symm
            subst hw
            have c0 := HRs2.out.c0
            have c1 := HRs2.out.c1
            have F0 := HRs2.out.fr 0
            have F1 := HRs2.out.fr 1
            have HBe := hide HRs2.out.below
            go_wp2
            refine bodyPost_ret (v := .agg #[.int .i64 4, .slice none 0 0]) (by simp [results, Try.results32, go_sem, c0, c1]) rfl ⟨_, rfl, ?_, OwI_nil _ _⟩
            exact (HBe.out.setCell (Nat.le_refl _) _).setCell (Nat.le_refl _) _
        · have hall : ∀ y, y ∈ ys → y ∈ xs := fun y hy => by
            obtain ⟨j, hj, rfl⟩ := List.mem_iff_getElem.1 hy
            have := HA.out j (by rw [HN.out] at hj; omega)
            simpa [List.getD, hj] using this
          have hC0 : C = 0 := by rw [HC.out, if_pos hall]
          subst hC0
          have HRe : Hid (xs.filter (fun x => !decide (x ∈ ys)) = R) := by rw [Hid, HR.out, if_pos rfl]
          have hw2 := HRs2.out.lt
          clear hall HC HR
          go_wp2
          go_loopw [9] (fun i w5 => ∃ (k j c : Nat) (ao : Option Addr), k ≤ m ∧ i = .int .i64 k ∧ Hid (j = ((xs.take k).filter (fun x => !decide (x ∈ ys))).length) ∧ Hid (HbAt w wr.heap.size ((xs.take k).filter (fun x => !decide (x ∈ ys))) ao j c w5)) (fun i _ => m - (RowKit.intOf i).toNat)
          case atStart =>
            have bA := below_alloc wr (.cells #[.int .i64 0, .slice none 0 0] 27)
            exact ⟨0, 0, 0, none, Nat.zero_le _, rfl, rfl, below_on HRs2.out.below bA, ⟨hw2, by simp⟩, cell_later bA HRs2.out.c0, cell_later bA HRs2.out.c1, fun o => ((bcell bA).2 _ _ hw2).trans (HRs2.out.fr o), by simp [go_sem], by simp [go_sem], fun o => by simp [go_sem], ⟨rfl, .inl ⟨rfl, rfl⟩⟩⟩
          case round =>
            rename World => w5
            obtain ⟨k, j, cj, aj, hk, rfl, HJ, HT2⟩ := hrel
            by_cases hlt2 : k < m
            · obtain ⟨b, off, rfl, q0⟩ := HU.out.at (k := k) (by rw [HM.out]; exact hlt2)
              have g1 := cell_later HT2.out.below q0
              have HSk := hide (HSn.out k hlt2)
              obtain ⟨x, hx⟩ : ∃ x, xs.getD k 0 = x := ⟨_, rfl⟩
              rw [hx] at g1 HSk
              clear q0 hx
              have hjk : j ≤ 20 := by
                have h := HJ.out
                have h2 : ((xs.take k).filter (fun x => !decide (x ∈ ys))).length ≤ (xs.take k).length := List.length_filter_le _ _
                simp only [List.length_take] at h2
                omega
              have HTk := hide (l7Among x (HV.out.later HT2.out.below))
              generalize (xs.take k).filter (fun x => !decide (x ∈ ys)) = P at HJ HT2 HSk
              have hk0 : (0 : Int) ≤ (k : Int) := by omega
              have hk1 : (k : Int) < (m : Int) := by omega
              by_cases hin : x ∈ ys
              · rw [decide_eq_true hin] at HTk
                rw [if_neg (by simp [hin]), List.append_nil] at HSk
                clear hin
                have HJ' : Hid (j = ((xs.take (k + 1)).filter (fun x => !decide (x ∈ ys))).length) := by rw [Hid, HSk.out]; exact HJ.out
                have HT3 : Hid (HbAt w wr.heap.size ((xs.take (k + 1)).filter (fun x => !decide (x ∈ ys))) aj j cj w5) := by rw [Hid, HSk.out]; exact HT2.out
                go_wp2_with fail
                refine HTk.out.mono ?_
                rintro e w6 ⟨hw, rfl⟩
                have hw := hw.symm
                subst hw
                go_wp2
                go_roundw
                case rel => exact ⟨k + 1, j, cj, aj, hlt2, by go_num, HJ'.out, HT3.out⟩
                case measure => simp [RowKit.intOf]; omega
              · rw [decide_eq_false hin] at HTk
                rw [if_pos (by simp [hin])] at HSk
                clear hin
                go_wp2_with fail
                refine HTk.out.mono ?_
                rintro e w6 ⟨hw, rfl⟩
                have hw := hw.symm
                subst hw
                have HRow : Hid (w5.drew.ownsRow (wr.heap.size + 1) 2 1 (.slice aj j cj) j (P.map (Value.int .i64))) := HT2.out.row
                have hO1 := HT2.out.o1
                have hOl := HT2.out.o.2
                have hO0 := HT2.out.o0
                have HOf := hide HT2.out.of
                have hO1d : w5.drew.cell? ⟨wr.heap.size, 1, none⟩ = some (.slice aj j cj) := hO1
                go_wp2_with fail
                go_region_law (first | (refine step_append_lies _ (by rfl) _ _ _ (by rfl) (wr.heap.size + 1) 2 i0 (.int .i64 0) 1 8 Try.underlying24 hi hz0 hz1 hz2 rfl (by omega) (.slice aj j cj) j _ (by rfl) (HRow.out.alloc (.cells #[.int .i64 x] 2)) ⟨w5.heap.size, 0, none⟩ 1 1 [.int .i64 x] (by rfl) (by rfl) (World.news_of_block (cs := #[.int .i64 x]) (t := 2) (fr := (0, 0)) (heap_alloc_new w5.drew _)) (by simp [Value.oneCell']) (by omega) (by unfold maxLen; omega) (by omega) (by simp; omega) (w5.heap.size + 1) (by simp) ?_; intro g cap w6 hown hgrow hat hlt3; have y1 : w6.cell? ⟨wr.heap.size, 1, none⟩ = some (.slice aj j cj) := (hgrow.cell_far ⟨wr.heap.size, 1, none⟩ (by simp; omega) (fun e => by have := (HRow.out.lt _ e.symm).1; dsimp only at this; omega)).trans (cell_later (below_alloc w5.drew _) hO1d); have yf : w6.frozen? ⟨wr.heap.size, 1, none⟩ = false := (hgrow.frozen_far ⟨wr.heap.size, 1, none⟩ (by simp; omega) (fun e => by have := (HRow.out.lt _ e.symm).1; dsimp only at this; omega)).trans (((bcell (below_alloc w5.drew _)).2 _ _ hOl).trans (HOf.out 1))))
                all_goals
                  have HSt := hide (HT2.out.step hown hgrow)
                  rw [← HSk.out] at HSt
                  have HJ' : Hid (j + 1 = ((xs.take (k + 1)).filter (fun x => !decide (x ∈ ys))).length) := by rw [Hid, HSk.out, List.length_append, ← HJ.out]; rfl
                  clear hown hgrow hat hlt3 y1 yf
                  go_wp2
                  go_roundw
                  case rel => exact ⟨k + 1, j + 1, cap, some ⟨g, 0, none⟩, hlt2, by go_num, HJ'.out, HSt.out⟩
                  case measure => simp [RowKit.intOf]; omega
            · have hkm : k = m := by omega
              subst hkm
              have hfin : xs.take k = xs := by rw [← HM.out]; simp
              rw [hfin, HRe.out] at HJ HT2
              have c0 := HT2.out.r0
              have c1 := HT2.out.r1
              have F0 := HT2.out.rf 0
              have F1 := HT2.out.rf 1
              have p0 := HT2.out.o0
              have p1 := HT2.out.o1
              have hol := HT2.out.o
              have hjk : j ≤ 20 := by
                have h := HJ.out
                have h2 : R.length ≤ xs.length := by rw [← HRe.out]; exact List.length_filter_le _ _
                rw [HM.out] at h2
                omega
              have HF := hide (ret_ints (x := .int .i64 0) HT2.out.below (Nat.le_refl _) (ow_of_owns HJ.out.symm HT2.out.row (by rw [← HJ.out]; omega)) (by omega))
              go_wp2
              refine bodyPost_ret (v := .agg #[.int .i64 0, .slice aj j cj]) (by simp [results, Try.results32, go_sem, c0, c1]) rfl ⟨_, rfl, HF.out.1, HF.out.2⟩
    · have hC : fbC xs ys = z' := by rw [fbC, hz, hz', if_neg (by simp), if_pos h0']
      have hR : fbR xs ys = [] := by rw [fbR, hC, if_neg h0']
      rw [hC, hR]
      have h0b : (z' == 0) = false := by simpa using h0'
      clear hz hz' hC hR
      go_enter Try.func32, Try.ntmps32
      go_wp2_with fail
      refine (l7Fault (HU.out.later (below_alloc w _))).mono ?_
      rintro e w1 ⟨he, q, hq⟩
      rw [HZ.out] at he
      subst he
      have HRs : Hid (ResI w w1) := hq ▸ (ResI.start w).later (below_drewN _ q)
      clear hq
      go_wp2_with fail
      refine (l7Fault (HV.out.later HRs.out.below)).mono ?_
      rintro e w2 ⟨he, q, hq⟩
      rw [HZ'.out] at he
      subst he
      have HRs2 : Hid (ResI w w2) := hq ▸ HRs.out.later (below_drewN _ q)
      clear hq HRs
      have c0 := HRs2.out.c0
      have c1 := HRs2.out.c1
      have F0 := HRs2.out.fr 0
      have F1 := HRs2.out.fr 1
      have HBe := hide HRs2.out.below
      go_wp2
      refine bodyPost_ret (v := .agg #[.int .i64 z', .slice none 0 0]) (by simp [results, Try.results32, go_sem, c0, c1]) rfl ⟨_, rfl, ?_, OwI_nil _ _⟩
      exact (HBe.out.setCell (Nat.le_refl _) _).setCell (Nat.le_refl _) _
  · have hC : fbC xs ys = z := by rw [fbC, hz, if_pos h0]
    have hR : fbR xs ys = [] := by rw [fbR, hC, if_neg h0]
    rw [hC, hR]
    have h0b : (z == 0) = false := by simpa using h0
    clear hz hC hR
    go_enter Try.func32, Try.ntmps32
    go_wp2_with fail
    refine (l7Fault (HU.out.later (below_alloc w _))).mono ?_
    rintro e w1 ⟨he, q, hq⟩
    rw [HZ.out] at he
    subst he
    have HRs : Hid (ResI w w1) := hq ▸ (ResI.start w).later (below_drewN _ q)
    clear hq
    have c0 := HRs.out.c0
    have c1 := HRs.out.c1
    have F0 := HRs.out.fr 0
    have F1 := HRs.out.fr 1
    have HBe := hide HRs.out.below
    go_wp2
    refine bodyPost_ret (v := .agg #[.int .i64 z, .slice none 0 0]) (by simp [results, Try.results32, go_sem, c0, c1]) rfl ⟨_, rfl, ?_, OwI_nil _ _⟩
    exact (HBe.out.setCell (Nat.le_refl _) _).setCell (Nat.le_refl _) _
end Go.Proofs.Ytolhpjeoagjnjaa
