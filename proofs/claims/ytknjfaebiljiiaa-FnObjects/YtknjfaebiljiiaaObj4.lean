/- Chapter 5: ReadObject of the model, walked: a list in a struct that is appended to. -/
import Derived.Test.YtknjfaebiljiiaaObj3
import Derived.Test.YtknjfaebiljiiaaBuilt4
import Derived.Deep.AppendLies
namespace Go.Proofs.Ytknjfaebiljiiaa
open Go.RowKit

/-- A code with a list that is being built, in the block behind the result's variable. -/
structure OutAt (w : World) (L : List Int) (n : Nat) (ao : Option Addr) (c : Nat) (wr : World) : Prop where
  own : wr.ownsRow (w.heap.size + 2) 2 1 (.slice ao n c) n (L.map (Value.int .i64))
  below : Below w.heap.size w wr
  lt : w.heap.size + 1 < wr.heap.size
  h0 : wr.cell? ⟨w.heap.size + 1, 0, none⟩ = some (.int .i64 0)
  h1 : wr.cell? ⟨w.heap.size + 1, 1, none⟩ = some (.slice ao n c)
  hf : ∀ o, wr.frozen? ⟨w.heap.size + 1, o, none⟩ = false
  r0 : wr.cell? ⟨w.heap.size, 0, none⟩ = some (.int .i64 0)
  r1 : wr.cell? ⟨w.heap.size, 1, none⟩ = some (.slice none 0 0)
  rf : ∀ o, wr.frozen? ⟨w.heap.size, o, none⟩ = false
theorem OutAt.step {w wr w3 : World} {n c g cap : Nat} {x : Int} {L : List Int} {ao : Option Addr} {o : Obj} (h : OutAt w L n ao c wr)
    (hown : w3.ownsRow (w.heap.size + 2) 2 1 (.slice (some ⟨g, 0, none⟩) (n + 1) cap) (n + 1) ((L.map (Value.int .i64)) ++ [.int .i64 x])) (hg : (wr.alloc o).grownBy w3 (Value.slice ao n c).ownBlock) :
    OutAt w (L ++ [x]) (n + 1) (some ⟨g, 0, none⟩) cap (w3.setCell ⟨w.heap.size + 1, 1, none⟩ (.slice (some ⟨g, 0, none⟩) (n + 1) cap)) := by
  have hl := h.lt
  have hB : Below (w.heap.size + 2) wr w3 := ((below_alloc wr o).mono (by omega)).grown hg (by simp; omega) (fun r hr => (h.own.lt r hr).1)
  have hs := hB.size
  have hc : ∀ b o, b < w.heap.size + 2 → w3.cell? ⟨b, o, none⟩ = wr.cell? ⟨b, o, none⟩ := fun b o hb => hB.cell (p := ⟨b, o, none⟩) hb
  have hz : ∀ b o, b < w.heap.size + 2 → w3.frozen? ⟨b, o, none⟩ = wr.frozen? ⟨b, o, none⟩ := fun b o hb => hB.frozen (p := ⟨b, o, none⟩) hb
  refine ⟨?_, ?_, by simp; omega, ?_, ?_, fun o => ?_, ?_, ?_, fun o => ?_⟩
  · exact ownsRow_set (by simpa using hown) (fun e => by have := (hown.lt _ e).1; omega)
  · exact (h.below.trans (hB.mono (by omega))).setCell (by simp) _
  · rw [World.cell?_setCell_other _ _ _ _ (by intro e; injection e with _ e; omega), hc _ _ (by omega)]; exact h.h0
  · exact World.cell?_setCell_same _ _ _ ((hc _ _ (by omega)).trans h.h1)
  · rw [World.frozen?_setCell, hz _ _ (by omega)]; exact h.hf o
  · rw [World.cell?_setCell_other _ _ _ _ (by intro e; injection e with e _; omega), hc _ _ (by omega)]; exact h.r0
  · rw [World.cell?_setCell_other _ _ _ _ (by intro e; injection e with e _; omega), hc _ _ (by omega)]; exact h.r1
  · rw [World.frozen?_setCell, hz _ _ (by omega)]; exact h.rf o

theorem readL_succ (xs : List Int) (f k : Nat) : readL xs f (k + 1) = readL xs f k ++ [xs.getD (f + k) 0] := by simp [readL, List.range_succ]

set_option maxHeartbeats 2000000 in
set_option maxRecDepth 4000 in
theorem specReadObject {S : Nat → Prop} {w : World} {y : Value} {xs : List Int} (f n : Int) (hy : RdI S w y xs) :
    Calls Try.prog 19 #[y, .int .i64 f, .int .i64 n] w (EndsI (readC xs f n) (rdL xs f n) w) := by
  unfold readC rdL
  have HY := hide hy
  obtain ⟨ay, cy, rfl, hyl, hyr⟩ := hy
  have HWF := hide (fun (w' : World) (hb : Below w.heap.size w w') => l1Words (HY.out.later hb))
  obtain ⟨z, hz⟩ : ∃ z, wordsF xs = z := ⟨_, rfl⟩
  rw [hz] at HWF ⊢
  clear hz
  have A0 := hide (below_alloc w (.cells #[.int .i64 0, .slice none 0 0] 30))
  obtain ⟨l, hl⟩ : ∃ l, xs.length = l := ⟨_, rfl⟩
  rw [hl] at hyl HY HWF ⊢
  have HL := hide hl
  clear hl
  by_cases h0 : z = 0
  · subst h0
    rw [if_pos rfl, if_pos rfl]
    by_cases hf : 0 ≤ f ∧ f ≤ 64
    · by_cases hn : 0 ≤ n ∧ n ≤ 64
      · by_cases hs : f + n ≤ 64
        · rw [if_pos ⟨hf.1, hf.2, hn.1, hs⟩, if_pos ⟨hf.1, hf.2, hn.1, hs⟩]
          obtain ⟨F, rfl⟩ : ∃ F : Nat, f = (F : Int) := ⟨f.toNat, by omega⟩
          obtain ⟨N, rfl⟩ : ∃ N : Nat, n = (N : Int) := ⟨n.toNat, by omega⟩
          simp only [Int.toNat_natCast]
          obtain ⟨i0, hi, hz0, hz1, hz2⟩ := info_parts Try.infoInt
          have hs' : ¬ (64 : Int) < (F : Int) + (N : Int) := by omega
          have hFN : F + N ≤ 64 := by omega
          obtain ⟨R, hR⟩ : ∃ R, readL xs F N = R := ⟨_, rfl⟩
          have HRR := hide hR
          rw [hR]
          clear hR
          go_enter Try.func19, Try.ntmps19
          go_wp2_with fail
          refine (HWF.out _ A0.out).mono ?_
          rintro e w1 ⟨rfl, q, rfl⟩
          go_wp2_with fail
          refine (l1In_yes _ 0 64 hf.1 hf.2 _).mono ?_
          rintro e w2 ⟨rfl, rfl⟩
          go_wp2_with fail
          refine (l1In_yes _ 0 64 hn.1 hn.2 _).mono ?_
          rintro e w2 ⟨rfl, rfl⟩
          have HO : Hid (OutAt w [] 0 none 0 (((w.alloc (.cells #[.int .i64 0, .slice none 0 0] 30)).drewN q).alloc (.cells #[.int .i64 0, .slice none 0 0] 30))) :=
            ⟨World.ownsRow_nil _ _ _ _, below_on (below_on A0.out (below_drewN _ q)) (below_alloc _ _), by simp, by simp [go_sem], by simp [go_sem], fun o => by simp [go_sem], by simp [go_sem], by simp [go_sem], fun o => by simp [go_sem]⟩
          go_wp2
          go_loopw [9, 10] (fun i _ wr => ∃ (I k : Nat) (ao : Option Addr) (c : Nat), I = F + k ∧ k ≤ N ∧ i = .int .i64 (I : Int) ∧ Hid (OutAt w (readL xs F k) k ao c wr)) (fun i _ _ => F + N - (intOf i).toNat)
          case atStart => exact ⟨F, 0, none, 0, rfl, Nat.zero_le _, rfl, by have := HO.out; simpa [Hid, readL] using this⟩
          case round =>
            clear HO
            obtain ⟨I, k, ao, c, hIk, hk, rfl, HS⟩ := hrel
            have h1 := HS.out.h1
            have hf1 := HS.out.hf 1
            have hlt' := HS.out.lt
            have HIk := hide hIk
            by_cases hlt : k < N
            · have hkF : (I : Int) < (F : Int) + (N : Int) := by omega
              have hk64 : k ≤ 64 := by omega
              have HAll : Hid (∀ x : Int, xs.getD (F + k) 0 = x → ∀ (g cap : Nat) (w3 : World), w3.ownsRow (w.heap.size + 2) 2 1 (.slice (some ⟨g, 0, none⟩) (k + 1) cap) (k + 1) (((readL xs F k).map (Value.int .i64)) ++ [.int .i64 x]) → (wr.alloc (.cells #[.int .i64 x] 2)).grownBy w3 (Value.slice ao k c).ownBlock →
                  OutAt w (readL xs F (k + 1)) (k + 1) (some ⟨g, 0, none⟩) cap (w3.setCell ⟨w.heap.size + 1, 1, none⟩ (.slice (some ⟨g, 0, none⟩) (k + 1) cap))) := fun x hx g cap w3 ho hg => by
                rw [readL_succ, hx]; exact HS.out.step ho hg
              have HOw := hide (fun x : Int => ownsRow_later HS.out.own (below_alloc wr (.cells #[.int .i64 x] 2)))
              clear hIk
              by_cases hIl : I < l
              · obtain ⟨b, off, rfl, g1⟩ := (HY.out.later HS.out.below).at (k := I) (by rw [HL.out]; exact hIl)
                obtain ⟨x, hx⟩ : ∃ x, xs.getD I 0 = x := ⟨_, rfl⟩
                rw [hx] at g1
                have HX := hide (show xs.getD (F + k) 0 = x by rw [← HIk.out]; exact hx)
                clear hx
                go_wp2_with (at_builtin; refine wpList_append_lies _ rfl _ _ _ rfl (w.heap.size + 2) 2 i0 (.int .i64 0) 1 8 Try.underlying24 hi hz0 hz1 hz2 rfl (by omega) _ k _ (by rfl) (HOw.out x) ⟨wr.heap.size, 0, none⟩ 1 1 [.int .i64 x] (by rfl) (by rfl) (World.news_of_block (cs := #[.int .i64 x]) (t := 2) (fr := (0, 0)) (heap_alloc_new wr _)) (by simp [Value.oneCell']) (by omega) (by unfold maxLen; omega) (by omega) (by simp; omega) (wr.heap.size + 1) (by simp) ?_)
                intro g cap w3 hown hgrow hat hlt3
                have HS3 := hide (HAll.out x HX.out g cap w3 hown hgrow)
                have q0 : w3.cell? ⟨w.heap.size + 1, 1, none⟩ = some (.slice ao k c) := (hgrow.cell_far ⟨w.heap.size + 1, 1, none⟩ (by simp; omega) (fun e => by have := (HS.out.own.lt _ e.symm).1; dsimp only at this; omega)).trans (cell_later (below_alloc _ _) h1)
                have q1 : w3.frozen? ⟨w.heap.size + 1, 1, none⟩ = false := (hgrow.frozen_far ⟨w.heap.size + 1, 1, none⟩ (by simp; omega) (fun e => by have := (HS.out.own.lt _ e.symm).1; dsimp only at this; omega)).trans (((bcell (below_alloc _ _)).2 _ _ hlt').trans hf1)
                clear hown hgrow hat hlt3 HAll HOw
                go_wp2
                go_roundw
                case rel => exact ⟨I + 1, k + 1, some ⟨g, 0, none⟩, cap, by rw [HIk.out]; omega, hlt, by go_num, HS3.out⟩
                case measure => simp [intOf]; omega
              · have HX : Hid (xs.getD (F + k) 0 = 0) := by rw [← HIk.out]; simp [Hid, List.getD, List.getElem?_eq_none (show xs.length ≤ I by rw [HL.out]; omega)]
                have hIl' : ¬ (I : Int) < (l : Int) := by omega
                go_wp2_with (at_builtin; refine wpList_append_lies _ rfl _ _ _ rfl (w.heap.size + 2) 2 i0 (.int .i64 0) 1 8 Try.underlying24 hi hz0 hz1 hz2 rfl (by omega) _ k _ (by rfl) (HOw.out 0) ⟨wr.heap.size, 0, none⟩ 1 1 [.int .i64 0] (by rfl) (by rfl) (World.news_of_block (cs := #[.int .i64 0]) (t := 2) (fr := (0, 0)) (heap_alloc_new wr _)) (by simp [Value.oneCell']) (by omega) (by unfold maxLen; omega) (by omega) (by simp; omega) (wr.heap.size + 1) (by simp) ?_)
                intro g cap w3 hown hgrow hat hlt3
                have HS3 := hide (HAll.out 0 HX.out g cap w3 hown hgrow)
                have q0 : w3.cell? ⟨w.heap.size + 1, 1, none⟩ = some (.slice ao k c) := (hgrow.cell_far ⟨w.heap.size + 1, 1, none⟩ (by simp; omega) (fun e => by have := (HS.out.own.lt _ e.symm).1; dsimp only at this; omega)).trans (cell_later (below_alloc _ _) h1)
                have q1 : w3.frozen? ⟨w.heap.size + 1, 1, none⟩ = false := (hgrow.frozen_far ⟨w.heap.size + 1, 1, none⟩ (by simp; omega) (fun e => by have := (HS.out.own.lt _ e.symm).1; dsimp only at this; omega)).trans (((bcell (below_alloc _ _)).2 _ _ hlt').trans hf1)
                clear hown hgrow hat hlt3 HAll HOw
                go_wp2
                go_roundw
                case rel => exact ⟨I + 1, k + 1, some ⟨g, 0, none⟩, cap, by rw [HIk.out]; omega, hlt, by go_num, HS3.out⟩
                case measure => simp [intOf]; omega
            · have hkN : k = N := by omega
              subst hkN
              have hkF : ¬ ((I : Int) < (F : Int) + (k : Int)) := by omega
              have h0' := HS.out.h0
              have r0 := HS.out.r0
              have r1 := HS.out.r1
              have f0 := HS.out.rf 0
              have f1 := HS.out.rf 1
              go_wp2
              have hfin := ret_ints (x := .int .i64 0) HS.out.below (r := w.heap.size) (Nat.le_refl _) (ow_of_owns (readL_len _ _ _) HS.out.own (by rw [readL_len]; omega)) (by omega)
              rw [HRR.out] at hfin
              exact bodyPost_ret (v := .agg #[.int .i64 0, .slice ao k c]) (by simp [results, Try.results19, go_sem, r0, r1]) rfl ⟨_, rfl, hfin⟩
        · rw [if_neg (fun h => hs h.2.2.2), if_neg (fun h => hs h.2.2.2)]
          have hs' : (64 : Int) < f + n := by omega
          obtain ⟨hf0, hf1⟩ := hf
          obtain ⟨hn0, hn1⟩ := hn
          clear hyr
          go_enter Try.func19, Try.ntmps19
          go_wp2_with fail
          refine (HWF.out _ A0.out).mono ?_
          rintro e w1 ⟨rfl, q, rfl⟩
          have HB := hide (below_on A0.out (below_drewN _ q))
          go_wp2_with fail
          refine (l1In_yes _ 0 64 hf0 hf1 _).mono ?_
          rintro e w2 ⟨rfl, rfl⟩
          go_wp2_with fail
          refine (l1In_yes _ 0 64 hn0 hn1 _).mono ?_
          rintro e w2 ⟨rfl, rfl⟩
          go_wp2
          refine bodyPost_ret (v := .agg #[.int .i64 3, .slice none 0 0]) (by simp [results, Try.results19, go_sem]) rfl ⟨_, rfl, ?_, OwI_nil _ _⟩
          repeat (first | refine Below.setCell ?_ (by first | (simp; done) | (simp; omega) | omega) _ | exact HB.out)
      · rw [if_neg (fun h => hn (by omega)), if_neg (fun h => hn (by omega))]
        clear hyr
        go_enter Try.func19, Try.ntmps19
        go_wp2_with fail
        refine (HWF.out _ A0.out).mono ?_
        rintro e w1 ⟨rfl, q, rfl⟩
        have HB := hide (below_on A0.out (below_drewN _ q))
        go_wp2_with fail
        refine (l1In_yes _ 0 64 hf.1 hf.2 _).mono ?_
        rintro e w2 ⟨rfl, rfl⟩
        go_wp2_with fail
        refine (l1In_no _ 0 64 (by omega) _).mono ?_
        rintro e w2 ⟨rfl, rfl⟩
        go_wp2
        refine bodyPost_ret (v := .agg #[.int .i64 3, .slice none 0 0]) (by simp [results, Try.results19, go_sem]) rfl ⟨_, rfl, ?_, OwI_nil _ _⟩
        repeat (first | refine Below.setCell ?_ (by first | (simp; done) | (simp; omega) | omega) _ | exact HB.out)
    · rw [if_neg (fun h => hf ⟨h.1, h.2.1⟩), if_neg (fun h => hf ⟨h.1, h.2.1⟩)]
      clear hyr
      go_enter Try.func19, Try.ntmps19
      go_wp2_with fail
      refine (HWF.out _ A0.out).mono ?_
      rintro e w1 ⟨rfl, q, rfl⟩
      have HB := hide (below_on A0.out (below_drewN _ q))
      go_wp2_with fail
      refine (l1In_no _ 0 64 (by omega) _).mono ?_
      rintro e w2 ⟨rfl, rfl⟩
      go_wp2
      refine bodyPost_ret (v := .agg #[.int .i64 3, .slice none 0 0]) (by simp [results, Try.results19, go_sem]) rfl ⟨_, rfl, ?_, OwI_nil _ _⟩
      repeat (first | refine Below.setCell ?_ (by first | (simp; done) | (simp; omega) | omega) _ | exact HB.out)
  · rw [if_neg h0, if_neg h0]
    clear hyr
    go_enter Try.func19, Try.ntmps19
    go_wp2_with fail
    refine (HWF.out _ A0.out).mono ?_
    rintro e w1 ⟨rfl, q, rfl⟩
    have HB := hide (below_on A0.out (below_drewN _ q))
    go_wp2
    refine bodyPost_ret (v := .agg #[.int .i64 z, .slice none 0 0]) (by simp [results, Try.results19, go_sem]) rfl ⟨_, rfl, ?_, OwI_nil _ _⟩
    repeat (first | refine Below.setCell ?_ (by first | (simp; done) | (simp; omega) | omega) _ | exact HB.out)
end Go.Proofs.Ytknjfaebiljiiaa
