/- Chapter 6, the model's side: 'l6Free', 'FreeLocks', walked. -/
import Derived.Test.YtkpkoapcmnapoaaLkFree
namespace Go.Proofs.Ytkpkoapcmnapoaa
open Go.RowKit Go.Maps

theorem frL_snoc (os : List Wn) (t : Int) (k : Nat) (h : k < os.length) : frL (os.take (k + 1)) t = frL (os.take k) t ++ if (os.getD k wn0).2 = t then [] else [os.getD k wn0] := by
  rw [take_snoc os k h]
  unfold frL
  rw [List.filter_append]
  generalize os.getD k wn0 = o
  by_cases e : o.2 = t
  · simp [e]
  · simp [e]

set_option maxHeartbeats 2000000 in
set_option maxRecDepth 4000 in
theorem l6Free {S : Nat → Prop} {w : World} {v : Value} {os : List Wn} (t : Int) (hv : RdO S w v os) (hl : os.length ≤ 40) :
    Calls Try.prog 46 #[v, .int .i64 t] w fun e w' => ∃ z, e = .returned z ∧ Below w.heap.size w w' ∧ OwO w.heap.size w' z (frL os t) := by
  obtain ⟨ao, c, rfl⟩ := hv.shape
  have HV := hide hv
  obtain ⟨i0, hi, hz0, hz1, hz2⟩ := info_parts Try.infoOwner
  have HSn := hide (frL_snoc os t)
  obtain ⟨m, hm⟩ : ∃ m, os.length = m := ⟨_, rfl⟩
  have HM := hide hm
  rw [hm] at HV hl HSn ⊢
  clear hv hm
  go_enter Try.func46, Try.ntmps46
  go_wp2
  go_loopw [5, 6] (fun u i wr => ∃ (k j c : Nat) (ao : Option Addr), k ≤ m ∧ i = .int .i64 k ∧ u = .slice ao j c ∧ j ≤ k ∧ Hid (j = (frL (os.take k) t).length) ∧ Hid (wr.ownsRow w.heap.size 50 2 u j (cellsW (frL (os.take k) t))) ∧ Hid (Below w.heap.size w wr)) (fun _ i _ => m - (RowKit.intOf i).toNat)
  case atStart =>
    exact ⟨0, 0, 0, some ⟨w.heap.size, 0, none⟩, Nat.zero_le _, rfl, rfl, Nat.le_refl _, rfl, ⟨rfl, .inr ⟨w.heap.size, 0, #[], rfl, Nat.le_refl _, heap_alloc_new w _, Nat.le_refl _, Nat.zero_le _, rfl, rfl⟩⟩, below_alloc _ _⟩
  case round =>
    obtain ⟨k, j, cj, aj, hk, rfl, rfl, hjk, HJ, HRow, HB⟩ := hrel
    by_cases hlt : k < m
    · obtain ⟨b, off, rfl, q1, q2⟩ := HV.out.at (k := k) (by rw [HM.out]; exact hlt)
      have g1 := cell_later HB.out q1
      have g2 := cell_later HB.out q2
      have HSk := hide (HSn.out k hlt)
      obtain ⟨o, ho⟩ : ∃ o, os.getD k wn0 = o := ⟨_, rfl⟩
      rw [ho] at g1 g2 HSk
      obtain ⟨x, y⟩ := o
      dsimp only at g1 g2 HSk
      clear q1 q2 ho
      have hzw := HB.out.size
      generalize frL (os.take k) t = P at HJ HRow HSk
      by_cases hxa : y = t
      · subst hxa
        rw [if_pos rfl, List.append_nil] at HSk
        have HJ' : Hid (j = (frL (os.take (k + 1)) y).length) := by rw [Hid, HSk.out]; exact HJ.out
        have HRow' : Hid (wr.ownsRow w.heap.size 50 2 (.slice aj j cj) j (cellsW (frL (os.take (k + 1)) y))) := by rw [Hid, HSk.out]; exact HRow.out
        go_wp2
        go_roundw
        case rel => exact ⟨k + 1, j, cj, aj, hlt, by go_num, rfl, by omega, HJ'.out, HRow'.out, HB.out⟩
        case measure => simp [RowKit.intOf]; omega
      · have hxb : (y == t) = false := by simpa using hxa
        rw [if_neg hxa] at HSk
        go_wp2_with (at_builtin; refine wpList_append_lies _ rfl _ _ _ rfl w.heap.size 50 i0 (.agg #[.int .i64 0, .int .i64 0]) 2 16 Try.underlying25 hi hz0 hz1 hz2 rfl (by omega) _ j _ (by rfl) (HRow.out.alloc (.cells #[.int .i64 x, .int .i64 y] 50)) ⟨wr.heap.size, 0, none⟩ 1 1 [.int .i64 x, .int .i64 y] (by rfl) (by rfl) (World.news_of_block (cs := #[.int .i64 x, .int .i64 y]) (t := 50) (fr := (0, 0)) (heap_alloc_new wr _)) (by simp [Value.oneCell']) (by omega) (by unfold maxLen; omega) (by omega) (by simp; omega) (wr.heap.size + 1) (by simp) ?_; intro g cap w4 hown3 hgrow hat hlt3)
        have HRow' : Hid (w4.ownsRow w.heap.size 50 2 (.slice (some ⟨g, 0, none⟩) (j + 1) cap) (j + 1) (cellsW (frL (os.take (k + 1)) t))) := by rw [Hid, HSk.out, cellsW_snoc]; exact hown3
        have HJ' : Hid (j + 1 = (frL (os.take (k + 1)) t).length) := by rw [Hid, HSk.out, List.length_append, ← HJ.out]; rfl
        have HB' := hide ((below_on HB.out (below_alloc wr (.cells #[.int .i64 x, .int .i64 y] 50))).grown hgrow (by simp; omega) (fun r hr => (HRow.out.lt r hr).1))
        clear hown3 hgrow hat hlt3
        go_wp2
        go_roundw
        case rel => exact ⟨k + 1, j + 1, cap, some ⟨g, 0, none⟩, hlt, by go_num, rfl, by omega, HJ'.out, HRow'.out, HB'.out⟩
        case measure => simp [RowKit.intOf]; omega
    · have hkm : k = m := by omega
      subst hkm
      have hfin : os.take k = os := by rw [← HM.out]; simp
      rw [hfin] at HJ HRow
      go_wp2
      go_ret
      exact ⟨_, rfl, HB.out, owO_of_row HRow.out HJ.out.symm (by omega)⟩

set_option maxHeartbeats 2000000 in
set_option maxRecDepth 4000 in
theorem specFreeLocks {S : Nat → Prop} {w : World} {v : Value} {os : List Wn} (t : Int) (hv : RdO S w v os) :
    Calls Try.prog 20 #[v, .int .i64 t] w (EndsO (frC os t) (frR os t) w) := by
  obtain ⟨ao, c, rfl⟩ := hv.shape
  have HV := hide hv
  obtain ⟨m, hm⟩ : ∃ m, os.length = m := ⟨_, rfl⟩
  have HM := hide hm
  rw [hm] at HV ⊢
  clear hv hm
  unfold frC
  obtain ⟨C, hC⟩ : ∃ C, hbC os t = C := ⟨_, rfl⟩
  obtain ⟨R, hR⟩ : ∃ R, frR os t = R := ⟨_, rfl⟩
  rw [hR]
  unfold frR at hR
  rw [hC] at hR ⊢
  unfold hbC at hC
  obtain ⟨z, hz⟩ : ∃ z, ownF os = z := ⟨_, rfl⟩
  rw [hz] at hC
  have HZ := hide hz
  clear hz
  by_cases hz0' : z = 0
  · subst hz0'
    rw [if_neg (by simp)] at hC
    by_cases ht : 0 < t ∧ t ≤ 99
    · rw [if_pos ht] at hC
      subst hC
      rw [if_pos rfl] at hR
      subst hR
      have HT := hide ht
      have HOw := hide (own_of HZ.out)
      clear ht
      go_enter Try.func20, Try.ntmps20
      go_wp2_with fail
      refine (l6Fault (HV.out.later (below_alloc _ _))).mono ?_
      rintro e w2 ⟨he, hb⟩
      rw [HZ.out] at he
      subst he
      have HB2 := hide (below_on (below_alloc _ _) hb)
      have c0 : w2.cell? ⟨w.heap.size, 0, none⟩ = some (.int .i64 0) := cell_later hb (by simp [go_sem])
      have c1 : w2.cell? ⟨w.heap.size, 1, none⟩ = some (.slice none 0 0) := cell_later hb (by simp [go_sem])
      have f0 : ∀ o, w2.frozen? ⟨w.heap.size, o, none⟩ = false := fun o => ((bcell hb).2 _ _ (by simp)).trans (by simp [go_sem])
      have hw2 : w.heap.size < w2.heap.size := World.block_lt_of_cell? _ _ c0
      clear hb
      go_wp2_with fail
      refine (l6TxnY t HT.out.1 HT.out.2 _).mono ?_
      rintro e w3 ⟨rfl, rfl⟩
      go_wp2_with fail
      refine (l6Free t (HV.out.later HB2.out) HOw.out.len).mono ?_
      rintro e w4 ⟨zz, rfl, hb, ho⟩
      obtain ⟨az, cz, hzz⟩ := ho.shape
      obtain ⟨l, hl⟩ : ∃ l, (frL os t).length = l := ⟨_, rfl⟩
      rw [hl] at hzz
      subst hzz
      have HB4 := hide (below_on HB2.out hb)
      have d0 := cell_later hb c0
      have d1 := cell_later hb c1
      have F0 := ((bcell hb).2 _ 0 (World.block_lt_of_cell? _ _ c0)).trans (f0 0)
      have F1 := ((bcell hb).2 _ 1 (World.block_lt_of_cell? _ _ c0)).trans (f0 1)
      have HF := hide (ret_owns (x := .int .i64 0) HB4.out (Nat.le_refl _) ho hw2)
      clear hb ho c0 c1 f0 hl
      go_wp2
      refine bodyPost_ret (v := .agg #[.int .i64 0, .slice az l cz]) (by simp [results, Try.results20, go_sem, d0, d1]) rfl ⟨_, rfl, HF.out.1, HF.out.2⟩
    · rw [if_neg ht] at hC
      subst hC
      rw [if_neg (by decide)] at hR
      subst hR
      have HT := hide ht
      clear ht
      go_enter Try.func20, Try.ntmps20
      go_wp2_with fail
      refine (l6Fault (HV.out.later (below_alloc _ _))).mono ?_
      rintro e w2 ⟨he, hb⟩
      rw [HZ.out] at he
      subst he
      have HB2 := hide (below_on (below_alloc _ _) hb)
      have c0 : w2.cell? ⟨w.heap.size, 0, none⟩ = some (.int .i64 0) := cell_later hb (by simp [go_sem])
      have c1 : w2.cell? ⟨w.heap.size, 1, none⟩ = some (.slice none 0 0) := cell_later hb (by simp [go_sem])
      have F0 : w2.frozen? ⟨w.heap.size, 0, none⟩ = false := ((bcell hb).2 _ _ (by simp)).trans (by simp [go_sem])
      have F1 : w2.frozen? ⟨w.heap.size, 1, none⟩ = false := ((bcell hb).2 _ _ (by simp)).trans (by simp [go_sem])
      clear hb
      go_wp2_with fail
      refine (l6TxnN t HT.out _).mono ?_
      rintro e w3 ⟨rfl, rfl⟩
      go_wp2
      refine bodyPost_ret (v := .agg #[.int .i64 3, .slice none 0 0]) (by simp [results, Try.results20, go_sem, c0, c1]) rfl ⟨_, rfl, ?_, OwO_nil _ _⟩
      exact (HB2.out.setCell (Nat.le_refl _) _).setCell (Nat.le_refl _) _
  · rw [if_pos hz0'] at hC
    subst hC
    rw [if_neg hz0'] at hR
    subst hR
    go_enter Try.func20, Try.ntmps20
    go_wp2_with fail
    refine (l6Fault (HV.out.later (below_alloc _ _))).mono ?_
    rintro e w2 ⟨he, hb⟩
    rw [HZ.out] at he
    subst he
    have HB2 := hide (below_on (below_alloc _ _) hb)
    have c0 : w2.cell? ⟨w.heap.size, 0, none⟩ = some (.int .i64 0) := cell_later hb (by simp [go_sem])
    have c1 : w2.cell? ⟨w.heap.size, 1, none⟩ = some (.slice none 0 0) := cell_later hb (by simp [go_sem])
    have F0 : w2.frozen? ⟨w.heap.size, 0, none⟩ = false := ((bcell hb).2 _ _ (by simp)).trans (by simp [go_sem])
    have F1 : w2.frozen? ⟨w.heap.size, 1, none⟩ = false := ((bcell hb).2 _ _ (by simp)).trans (by simp [go_sem])
    clear hb
    go_wp2
    refine bodyPost_ret (v := .agg #[.int .i64 z, .slice none 0 0]) (by simp [results, Try.results20, go_sem, c0, c1]) rfl ⟨_, rfl, ?_, OwO_nil _ _⟩
    exact (HB2.out.setCell (Nat.le_refl _) _).setCell (Nat.le_refl _) _
end Go.Proofs.Ytkpkoapcmnapoaa
