/- Chapter 7: 'UnpackMap' of the model, walked. -/
import Derived.Test.YtolhpjeoagjnjaaMp6b
namespace Go.Proofs.Ytolhpjeoagjnjaa
open Go.RowKit

set_option maxHeartbeats 2000000 in
set_option maxRecDepth 4000 in
/-- 'l7Unpack' of two words without a bit beyond. -/
theorem l7Unpack_ok {w : World} {bb off c : Nat} {v0 v1 : Int} (g0 : w.cell? ⟨bb, off, none⟩ = some (.int .i64 v0)) (g1 : w.cell? ⟨bb, off + 1, none⟩ = some (.int .i64 v1)) (h0 : v0 ≤ 1023) (h1 : v1 ≤ 1023) :
    Calls Try.prog 45 #[.slice (some ⟨bb, off, none⟩) 2 c] w fun e w' => ∃ z, e = .returned (.tuple #[z, .bool true]) ∧ Below w.heap.size w w' ∧ w'.ownsRow w.heap.size 2 1 z (blk (bitB v0 v1)).length ((blk (bitB v0 v1)).map (Value.int .i64)) := by
  obtain ⟨i0, hi, hz0, hz1, hz2⟩ := info_parts Try.infoInt
  have k0 : ¬ 1023 < v0 := by omega
  have k1 : ¬ 1023 < v1 := by omega
  have O0 := hide (World.ownsRow_made (base := w.heap.size) (e := 2) (size := 1) w #[] 0 (Nat.le_refl _) (by unfold maxLen; omega) (by simp))
  have hbw : bb ≠ w.heap.size := by have := World.block_lt_of_cell? _ _ g0; dsimp only at this; omega
  go_enter Try.func45, Try.ntmps45
  go_wp2
  go_loopw [4, 5] (fun v i wr => ∃ (k j : Nat), k ≤ 20 ∧ i = .int .i64 k ∧ Hid ((blkTo (bitB v0 v1) k).length = j) ∧ Hid (wr.ownsRow w.heap.size 2 1 v j ((blkTo (bitB v0 v1) k).map (Value.int .i64))) ∧ Hid (Below w.heap.size w wr)) (fun _ i _ => 20 - (RowKit.intOf i).toNat)
  case atStart => exact ⟨0, 0, by omega, rfl, rfl, O0.out, below_alloc _ _⟩
  case round =>
    obtain ⟨k, j, hk, rfl, HJ, HRow, HB⟩ := hrel
    have hzz := HB.out.size
    by_cases hlt : k < 20
    · have hlti : (k : Int) < 20 := by omega
      have HSn := hide (blkTo_succ (bitB v0 v1) hlt)
      have hjk : j ≤ 20 := by have := blkTo_len (bitB v0 v1) k; rw [HJ.out] at this; omega
      have q0 := cell_later HB.out g0
      have q1 := cell_later HB.out g1
      by_cases h10 : k < 10
      · obtain ⟨y, hy0⟩ : ∃ y : Nat, k = y := ⟨_, rfl⟩
        have hy : y < 10 := by omega
        have hdiv : IntKind.i64.wrap (Int.tdiv (k : Int) 10) = 0 := by rw [Int.tdiv_eq_ediv_of_nonneg (by omega), show (k : Int) / 10 = 0 by omega]; decide
        have hmod : Int.tmod (k : Int) 10 = (y : Int) := by rw [Int.tmod_eq_emod_of_nonneg (by omega)]; omega
        have hdn : k / 10 = 0 := by omega
        have hmn : k % 10 = y := by omega
        have hdi : (k : Int) / 10 = 0 := by omega
        have hmi : (k : Int) % 10 = (y : Int) := by omega
        have huw : IntKind.u64.wrap (y : Int) = (y : Int) := by simp [IntKind.wrap, IntKind.bits, IntKind.signed]; omega
        have hbit : bitB v0 v1 (3 + (k : Int)) = bitW v0 y := by
          rw [bitB, if_pos (by omega), show (3 + (k : Int) - 3).toNat = y by omega]
        rw [hbit] at HSn
        have HBW : Hid (bitW v0 y = (bits .and .i64 (v0 / 2 ^ y) 1 == 1)) := rfl
        obtain ⟨X, hX⟩ : ∃ X, bits .and .i64 (v0 / 2 ^ y) 1 = X := ⟨_, rfl⟩
        rw [hX] at HBW
        rw [HBW.out] at HSn
        clear hbit HBW hy0
        by_cases hb1 : X = 1
        · subst hb1
          rw [if_pos (by rfl)] at HSn
          go_wp2_with (at_builtin; refine wpList_append_lies _ rfl _ _ _ rfl w.heap.size 2 i0 (.int .i64 0) 1 8 Try.underlying24 hi hz0 hz1 hz2 rfl (by omega) _ j _ (by rfl) (HRow.out.alloc (.cells #[.int .i64 (3 + (k : Int))] 2)) ⟨wr.heap.size, 0, none⟩ 1 1 [.int .i64 (3 + (k : Int))] (by rfl) (by rfl) (World.news_of_block (cs := #[.int .i64 (3 + (k : Int))]) (t := 2) (fr := (0, 0)) (heap_alloc_new wr _)) (by simp [Value.oneCell']) (by omega) (by unfold maxLen; omega) (by omega) (by simp; omega) (wr.heap.size + 1) (by simp) ?_; intro g cap w4 hown3 hgrow hat hlt3)
          have HRow4 : Hid (w4.ownsRow w.heap.size 2 1 (.slice (some ⟨g, 0, none⟩) (j + 1) cap) (j + 1) ((blkTo (bitB v0 v1) (k + 1)).map (Value.int .i64))) := by
            rw [Hid, HSn.out]
            simpa using hown3
          have HB4 := hide ((below_on HB.out (below_alloc wr (.cells #[.int .i64 (3 + (k : Int))] 2))).grown hgrow (by simp; omega) (fun r hr => (HRow.out.lt r hr).1))
          have HJ4 : Hid ((blkTo (bitB v0 v1) (k + 1)).length = j + 1) := by rw [Hid, HSn.out, List.length_append, HJ.out]; rfl
          clear hown3 hgrow hat hlt3
          go_wp2
          go_roundw
          case rel => exact ⟨k + 1, j + 1, by omega, by go_num, HJ4.out, HRow4.out, HB4.out⟩
          case measure => simp [RowKit.intOf]; omega
        · have hb1' : (X == 1) = false := by simpa using hb1
          rw [if_neg (by rw [hb1']; simp), List.append_nil] at HSn
          have HRow1 : Hid (wr.ownsRow w.heap.size 2 1 u4 j ((blkTo (bitB v0 v1) (k + 1)).map (Value.int .i64))) := by
            rw [Hid, HSn.out]
            exact HRow.out
          have HJ4 : Hid ((blkTo (bitB v0 v1) (k + 1)).length = j) := by rw [Hid, HSn.out, HJ.out]
          go_wp2
          go_roundw
          case rel => exact ⟨k + 1, j, by omega, by go_num, HJ4.out, HRow1.out, HB.out⟩
          case measure => simp [RowKit.intOf]; omega
      · obtain ⟨y, hy0⟩ : ∃ y : Nat, k - 10 = y := ⟨_, rfl⟩
        have hy : y < 10 := by omega
        have hdiv : IntKind.i64.wrap (Int.tdiv (k : Int) 10) = 1 := by rw [Int.tdiv_eq_ediv_of_nonneg (by omega), show (k : Int) / 10 = 1 by omega]; decide
        have hmod : Int.tmod (k : Int) 10 = (y : Int) := by rw [Int.tmod_eq_emod_of_nonneg (by omega)]; omega
        have hdn : k / 10 = 1 := by omega
        have hmn : k % 10 = y := by omega
        have hdi : (k : Int) / 10 = 1 := by omega
        have hmi : (k : Int) % 10 = (y : Int) := by omega
        have huw : IntKind.u64.wrap (y : Int) = (y : Int) := by simp [IntKind.wrap, IntKind.bits, IntKind.signed]; omega
        have hbit : bitB v0 v1 (3 + (k : Int)) = bitW v1 y := by
          rw [bitB, if_neg (by omega), show (3 + (k : Int) - 13).toNat = y by omega]
        rw [hbit] at HSn
        have HBW : Hid (bitW v1 y = (bits .and .i64 (v1 / 2 ^ y) 1 == 1)) := rfl
        obtain ⟨X, hX⟩ : ∃ X, bits .and .i64 (v1 / 2 ^ y) 1 = X := ⟨_, rfl⟩
        rw [hX] at HBW
        rw [HBW.out] at HSn
        clear hbit HBW hy0
        by_cases hb1 : X = 1
        · subst hb1
          rw [if_pos (by rfl)] at HSn
          go_wp2_with (at_builtin; refine wpList_append_lies _ rfl _ _ _ rfl w.heap.size 2 i0 (.int .i64 0) 1 8 Try.underlying24 hi hz0 hz1 hz2 rfl (by omega) _ j _ (by rfl) (HRow.out.alloc (.cells #[.int .i64 (3 + (k : Int))] 2)) ⟨wr.heap.size, 0, none⟩ 1 1 [.int .i64 (3 + (k : Int))] (by rfl) (by rfl) (World.news_of_block (cs := #[.int .i64 (3 + (k : Int))]) (t := 2) (fr := (0, 0)) (heap_alloc_new wr _)) (by simp [Value.oneCell']) (by omega) (by unfold maxLen; omega) (by omega) (by simp; omega) (wr.heap.size + 1) (by simp) ?_; intro g cap w4 hown3 hgrow hat hlt3)
          have HRow4 : Hid (w4.ownsRow w.heap.size 2 1 (.slice (some ⟨g, 0, none⟩) (j + 1) cap) (j + 1) ((blkTo (bitB v0 v1) (k + 1)).map (Value.int .i64))) := by
            rw [Hid, HSn.out]
            simpa using hown3
          have HB4 := hide ((below_on HB.out (below_alloc wr (.cells #[.int .i64 (3 + (k : Int))] 2))).grown hgrow (by simp; omega) (fun r hr => (HRow.out.lt r hr).1))
          have HJ4 : Hid ((blkTo (bitB v0 v1) (k + 1)).length = j + 1) := by rw [Hid, HSn.out, List.length_append, HJ.out]; rfl
          clear hown3 hgrow hat hlt3
          go_wp2
          go_roundw
          case rel => exact ⟨k + 1, j + 1, by omega, by go_num, HJ4.out, HRow4.out, HB4.out⟩
          case measure => simp [RowKit.intOf]; omega
        · have hb1' : (X == 1) = false := by simpa using hb1
          rw [if_neg (by rw [hb1']; simp), List.append_nil] at HSn
          have HRow1 : Hid (wr.ownsRow w.heap.size 2 1 u4 j ((blkTo (bitB v0 v1) (k + 1)).map (Value.int .i64))) := by
            rw [Hid, HSn.out]
            exact HRow.out
          have HJ4 : Hid ((blkTo (bitB v0 v1) (k + 1)).length = j) := by rw [Hid, HSn.out, HJ.out]
          go_wp2
          go_roundw
          case rel => exact ⟨k + 1, j, by omega, by go_num, HJ4.out, HRow1.out, HB.out⟩
          case measure => simp [RowKit.intOf]; omega
    · have hk20 : k = 20 := by omega
      subst hk20
      have HF : Hid (wr.ownsRow w.heap.size 2 1 u4 (blk (bitB v0 v1)).length ((blk (bitB v0 v1)).map (Value.int .i64))) := by
        rw [Hid, ← blkTo_all, HJ.out]
        exact HRow.out
      go_wp2
      refine bodyPost_ret (v := .tuple #[u4, .bool true]) (by simp [results, Try.results45, go_sem]) rfl ⟨_, rfl, HB.out, HF.out⟩

set_option maxHeartbeats 2000000 in
set_option maxRecDepth 4000 in
theorem l7Unpack {S : Nat → Prop} {w : World} {v : Value} {xs : List Int} (hv : RdI S w v xs) (hz : wordsF xs = 0) :
    Calls Try.prog 45 #[v] w fun e w' => ∃ z, e = .returned (.tuple #[z, .bool (decide (umC xs = 0))]) ∧ Below w.heap.size w w' ∧ OwI w.heap.size w' z (umR xs) := by
  have hml := hv.max
  obtain ⟨ao, c, rfl⟩ := hv.shape
  have HV := hide hv
  clear hv
  rcases umC_cases xs hz with ⟨hl, hc, hr⟩ | ⟨hl0, hl2, hc, hr⟩ | ⟨hl, v0, v1, rfl, hv0, hv1, h⟩
  · rw [hc, hr, decide_eq_true rfl]
    rw [hl] at HV ⊢
    go_enter Try.func45, Try.ntmps45
    go_wp2
    refine bodyPost_ret (v := .tuple #[.slice (some ⟨w.heap.size, 0, none⟩) 0 0, .bool true]) (by simp [results, Try.results45, go_sem]) rfl ⟨_, rfl, below_alloc _ _, 0, RdI_nil _ _ _ _, fun h => absurd rfl h⟩
  · rw [hc, hr, decide_eq_false (by decide)]
    obtain ⟨n, hn⟩ : ∃ n, xs.length = n := ⟨_, rfl⟩
    rw [hn] at hl0 hl2 hml HV ⊢
    have e0 : ((n : Int) == 0) = false := by simp; omega
    have e2 : ((n : Int) == 2) = false := by simp; omega
    clear hz hc hr hn
    go_enter Try.func45, Try.ntmps45
    go_wp2
    refine bodyPost_ret (v := .tuple #[.slice none 0 0, .bool false]) (by simp [results, Try.results45, go_sem]) rfl ⟨_, rfl, Below.refl _ _, OwI_nil _ _⟩
  · rw [show ([v0, v1] : List Int).length = 2 from rfl] at HV ⊢
    obtain ⟨bb, off, rfl, g0, g1⟩ := rd_two HV.out
    rcases h with ⟨k0, k1, hc, hr⟩ | ⟨hn, hc, hr⟩
    · rw [hc, hr, decide_eq_true rfl]
      refine (l7Unpack_ok g0 g1 k0 k1).mono fun e w' ⟨z, he, hb, ho⟩ => ⟨z, he, hb, ow_of_owns rfl ho (by have := blk_len (bitB v0 v1); omega)⟩
    · rw [hc, hr, decide_eq_false (by decide)]
      clear hc hr hz
      by_cases k0 : 1023 < v0
      · go_enter Try.func45, Try.ntmps45
        go_wp2
        refine bodyPost_ret (v := .tuple #[.slice none 0 0, .bool false]) (by simp [results, Try.results45, go_sem]) rfl ⟨_, rfl, Below.refl _ _, OwI_nil _ _⟩
      · have k1 : 1023 < v1 := by omega
        clear hn
        go_enter Try.func45, Try.ntmps45
        go_wp2
        refine bodyPost_ret (v := .tuple #[.slice none 0 0, .bool false]) (by simp [results, Try.results45, go_sem]) rfl ⟨_, rfl, Below.refl _ _, OwI_nil _ _⟩

set_option maxHeartbeats 2000000 in
set_option maxRecDepth 4000 in
theorem specUnpackMap {S : Nat → Prop} {w : World} {v : Value} {xs : List Int} (hv : RdI S w v xs) :
    Calls Try.prog 14 #[v] w (EndsI (umC xs) (umR xs) w) := by
  have hml := hv.max
  obtain ⟨ao, c, rfl⟩ := hv.shape
  have HV := hide hv
  clear hv
  obtain ⟨z, hz⟩ : ∃ z, wordsF xs = z := ⟨_, rfl⟩
  have HZ := hide hz
  by_cases h0 : z = 0
  · subst h0
    have HUn := hide (fun (w' : World) (hb : Below w.heap.size w w') => l7Unpack (HV.out.later hb) HZ.out)
    have hc5 : umC xs = 0 ∨ (umC xs = 5 ∧ umR xs = []) := by
      rcases umC_cases xs hz with ⟨hl, hc, hr⟩ | ⟨hl0, hl2, hc, hr⟩ | ⟨hl, v0, v1, rfl, hv0, hv1, h⟩
      · exact Or.inl hc
      · exact Or.inr ⟨hc, hr⟩
      · rcases h with ⟨_, _, hc, hr⟩ | ⟨_, hc, hr⟩
        · exact Or.inl hc
        · exact Or.inr ⟨hc, hr⟩
    have hlen : (umR xs).length ≤ 1048576 := umR_len xs
    obtain ⟨C, hC⟩ : ∃ C, umC xs = C := ⟨_, rfl⟩
    obtain ⟨R, hR⟩ : ∃ R, umR xs = R := ⟨_, rfl⟩
    rw [hC, hR] at hc5 ⊢
    rw [hR] at hlen
    simp only [hC, hR] at HUn
    clear hC hR hz
    go_enter Try.func14, Try.ntmps14
    go_wp2_with fail
    refine (l1Words (HV.out.later (below_alloc w _))).mono ?_
    rintro e w1 ⟨he, q, hq⟩
    rw [HZ.out] at he
    subst he
    have HRs : Hid (ResI w w1) := hq ▸ (ResI.start w).later (below_drewN _ q)
    clear hq
    go_wp2_with fail
    refine (HUn.out _ HRs.out.below).mono ?_
    rintro e w2 ⟨z2, rfl, hb, ho⟩
    obtain ⟨a2, c2, hz2⟩ := ho.shape
    have HRs2 := hide (HRs.out.later hb)
    have HFn := hide (ret_ints (x := .int .i64 0) HRs2.out.below (Nat.le_refl _) ho HRs.out.lt)
    generalize R.length = g at hz2 hlen
    subst hz2
    have c0 := HRs2.out.c0
    have c1 := HRs2.out.c1
    have F0 := HRs2.out.fr 0
    have F1 := HRs2.out.fr 1
    have HBe := hide HRs2.out.below
    clear hb ho HRs HRs2
    rcases hc5 with rfl | ⟨rfl, rfl⟩
    · go_wp2
      refine bodyPost_ret (v := .agg #[.int .i64 0, .slice a2 g c2]) (by simp [results, Try.results14, go_sem, c0, c1]) rfl ⟨_, rfl, HFn.out.1, HFn.out.2⟩
    · go_wp2
      refine bodyPost_ret (v := .agg #[.int .i64 5, .slice none 0 0]) (by simp [results, Try.results14, go_sem, c0, c1]) rfl ⟨_, rfl, ?_, OwI_nil _ _⟩
      exact (HBe.out.setCell (Nat.le_refl _) _).setCell (Nat.le_refl _) _
  · have hub := umC_bad (by rw [hz]; exact h0)
    rw [hub.1, hub.2, hz]
    have h0b : (z == 0) = false := by simpa using h0
    clear hz hub
    go_enter Try.func14, Try.ntmps14
    go_wp2_with fail
    refine (l1Words (HV.out.later (below_alloc w _))).mono ?_
    rintro e w1 ⟨he, q, hq⟩
    rw [HZ.out] at he
    subst he
    have HRs : Hid (ResI w w1) := hq ▸ (ResI.start w).later (below_drewN _ q)
    clear hq
    have c0 := HRs.out.c0
    have c1 := HRs.out.c1
    have F0 := HRs.out.fr 0
    have F1 := HRs.out.fr 1
    have HBe := hide HRs.out.below
    go_wp2
    refine bodyPost_ret (v := .agg #[.int .i64 z, .slice none 0 0]) (by simp [results, Try.results14, go_sem, c0, c1]) rfl ⟨_, rfl, ?_, OwI_nil _ _⟩
    exact (HBe.out.setCell (Nat.le_refl _) _).setCell (Nat.le_refl _) _
end Go.Proofs.Ytolhpjeoagjnjaa
