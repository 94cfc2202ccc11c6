/- Chapter 5: ReadObject of the program, walked: rows that are made and copied over. -/
import Derived.Test.YtknjfaebiljiiaaObj1
import Derived.Test.YtknjfaebiljiiaaRet
import Derived.Laws.CopyOwn
namespace Go.Proofs.Ytknjfaebiljiiaa
open Go.RowKit

/-- A made row that is known whole. -/
theorem owns_row {w : World} {g n t : Nat} {xs : List Int} (hg : w.heap[g]? = some (.cells (xs.map (Value.int .i64)).toArray t (0, 0))) (hn : xs.length = n) (hm : n ≤ 1048576) :
    w.ownsRow g t 1 (.slice (some ⟨g, 0, none⟩) n n) n (xs.map (Value.int .i64)) :=
  ⟨by simp [hn], Or.inr ⟨g, n, _, rfl, Nat.le_refl _, hg, Nat.le_refl _, by unfold maxLen; omega, by simp [hn], by simp [List.take_of_length_le, hn]⟩⟩
theorem ow_row {w : World} {g n t : Nat} {xs : List Int} (hg : w.heap[g]? = some (.cells (xs.map (Value.int .i64)).toArray t (0, 0))) (hn : xs.length = n) (hm : n ≤ 1048576) :
    OwI g w (.slice (some ⟨g, 0, none⟩) n n) xs := ow_of_owns hn (owns_row hg hn hm) (by omega)
theorem made_rep (n : Nat) : madeCells #[Value.int .i64 0] n = (List.replicate n (Value.int .i64 0)).toArray := by
  apply Array.ext'
  rw [List.toList_toArray, List.eq_replicate_iff]
  refine ⟨by simp [madeCells], fun b hb => ?_⟩
  simp [madeCells] at hb
  obtain ⟨i, _, rfl⟩ := hb
  simp [Nat.mod_one]

/-- The n words from f on; 0 where there are none. -/
def readL (xs : List Int) (f n : Nat) : List Int := (List.range n).map fun i => xs.getD (f + i) 0
theorem readL_len (xs : List Int) (f n : Nat) : (readL xs f n).length = n := by simp [readL]
theorem readL_none (xs : List Int) (f n : Nat) (h : xs.length ≤ f) : readL xs f n = List.replicate n 0 := by
  unfold readL
  rw [List.eq_replicate_iff]
  refine ⟨by simp, fun b hb => ?_⟩
  obtain ⟨i, _, rfl⟩ := List.mem_map.1 hb
  simp [List.getD, List.getElem?_eq_none (show xs.length ≤ f + i by omega)]
theorem splice_read (xs : List Int) (f n : Nat) : splice (List.replicate n (Value.int .i64 0)) 0 (((xs.drop f).take n).map (Value.int .i64)) = (readL xs f n).map (Value.int .i64) := by
  unfold splice readL
  apply List.ext_getElem?
  intro i
  simp only [List.take_zero, List.nil_append, Nat.zero_add, List.length_map, List.map_map]
  by_cases hi : i < n
  · by_cases hl : i < ((xs.drop f).take n).length
    · have hl' : i < n ∧ i < xs.length - f := by simpa [List.length_take, Nat.lt_min] using hl
      rw [List.getElem?_append_left (by simpa using hl)]
      simp [hi, List.getD, List.getElem?_drop, List.getElem?_eq_getElem (show f + i < xs.length by omega)]
    · have hl' : xs.length ≤ f + i := by
        simp [List.length_take, Nat.lt_min] at hl
        omega
      rw [List.getElem?_append_right (by simpa using hl)]
      simp [hi, List.getD, List.getElem?_eq_none hl', List.getElem?_replicate]
      simp [List.length_take] at hl
      omega
  · rw [List.getElem?_eq_none (by simp [List.length_take]; omega), List.getElem?_eq_none (by simp; omega)]

/-- copy, run: what lies there goes over the row that is known whole. -/
theorem copy_run {w : World} {g o dLen dCap b p sLen sCap : Nat} {cur X : List Value} (hg : w.heap[g]? = some (.cells cur.toArray 2 (0, 0))) (hn : X.length = Nat.min sLen dLen)
    (hsrc : ∀ j v, X[j]? = some v → w.cell? ((⟨b, p, none⟩ : Addr).add j) = some v) (hfit : o + X.length ≤ cur.length) (h1 : ∀ v ∈ X, v.oneCell' = true) :
    ∃ w', (Builtin.copy_ #[24, 24] 3 #[.slice (some ⟨g, o, none⟩) dLen dCap, .slice (some ⟨b, p, none⟩) sLen sCap]).run Try.prog w = .ok (goInt X.length) w' ∧
      w'.heap[g]? = some (.cells (splice cur o X).toArray 2 (0, 0)) ∧ Below g w w' :=
  ⟨_, run_copy_row (P := Try.prog) w 24 24 3 2 g o dLen dCap ⟨b, p, none⟩ sLen sCap cur.toArray 2 X Try.underlying24 (by kernel_rfl) hg hn hsrc (by simpa using hfit) h1,
    by simpa [splice] using setRow_heap w g _ _ 2 _ hg, below_setRow (Below.refl _ _) (Nat.le_refl _) _⟩

/-- The code of ReadObject. -/
def readC (xs : List Int) (f n : Int) : Int := if wordsF xs = 0 then (if 0 ≤ f ∧ f ≤ 64 ∧ 0 ≤ n ∧ f + n ≤ 64 then 0 else 3) else wordsF xs
/-- What ReadObject tells. -/
def rdL (xs : List Int) (f n : Int) : List Int := if wordsF xs = 0 then (if 0 ≤ f ∧ f ≤ 64 ∧ 0 ≤ n ∧ f + n ≤ 64 then readL xs f.toNat n.toNat else []) else []
theorem rdL_len (xs : List Int) (f n : Int) : (rdL xs f n).length ≤ 64 := by
  unfold rdL
  split
  · split
    · rw [readL_len]; omega
    · simp
  · simp

theorem isRange_yes (w : World) (f n : Int) (h : 0 ≤ f ∧ f ≤ 64 ∧ 0 ≤ n ∧ f + n ≤ 64) : Calls Try.prog 37 #[.int .i64 f, .int .i64 n] w fun e w' => e = .returned (.bool true) ∧ w' = w := by
  obtain ⟨h1, h2, h3, h4⟩ := h
  have h5 : n ≤ 64 - f := by omega
  go_enter Try.func37, Try.ntmps37
  go_wp2
  go_ret
  exact ⟨by first | rfl | simp [h5], rfl⟩
theorem isRange_no (w : World) (f n : Int) (h : ¬ (0 ≤ f ∧ f ≤ 64 ∧ 0 ≤ n ∧ f + n ≤ 64)) : Calls Try.prog 37 #[.int .i64 f, .int .i64 n] w fun e w' => e = .returned (.bool false) ∧ w' = w := by
  by_cases h1 : 0 ≤ f
  · by_cases h2 : f ≤ 64
    · by_cases h3 : 0 ≤ n
      · have h5 : ¬ n ≤ 64 - f := by omega
        have h6 : 64 - f < n := by omega
        clear h
        go_enter Try.func37, Try.ntmps37
        go_wp2
        go_ret
        exact ⟨by first | rfl | simp [h6], rfl⟩
      · clear h
        go_enter Try.func37, Try.ntmps37
        go_wp2
        go_ret
        exact ⟨rfl, rfl⟩
    · clear h
      go_enter Try.func37, Try.ntmps37
      go_wp2
      go_ret
      exact ⟨rfl, rfl⟩
  · clear h
    go_enter Try.func37, Try.ntmps37
    go_wp2
    go_ret
    exact ⟨rfl, rfl⟩

set_option maxHeartbeats 2000000 in
set_option maxRecDepth 4000 in
theorem implReadObject {S : Nat → Prop} {w : World} {y : Value} {xs : List Int} (f n : Int) (hy : RdI S w y xs) :
    Calls Try.prog 12 #[y, .int .i64 f, .int .i64 n] w (EndsI (readC xs f n) (rdL xs f n) w) := by
  unfold readC rdL
  have HY := hide hy
  obtain ⟨ay, cy, rfl, hyl, hyr⟩ := hy
  have HWF := hide (fun (w' : World) (hb : Below w.heap.size w w') => wordsFault (HY.out.later hb))
  obtain ⟨z, hz⟩ : ∃ z, wordsF xs = z := ⟨_, rfl⟩
  rw [hz] at HWF ⊢
  have HZ := hide hz
  clear hz
  have A0 := hide (below_alloc w (.cells #[.int .i64 0, .slice none 0 0] 30))
  by_cases h0 : z = 0
  · subst h0
    rw [if_pos rfl, if_pos rfl]
    by_cases hr : 0 ≤ f ∧ f ≤ 64 ∧ 0 ≤ n ∧ f + n ≤ 64
    · rw [if_pos hr, if_pos hr]
      obtain ⟨F, rfl⟩ : ∃ F : Nat, f = (F : Int) := ⟨f.toNat, by omega⟩
      obtain ⟨N, rfl⟩ : ∃ N : Nat, n = (N : Int) := ⟨n.toNat, by omega⟩
      have HR := hide hr
      simp only [Int.toNat_natCast]
      obtain ⟨R, hR⟩ : ∃ R, readL xs F N = R := ⟨_, rfl⟩
      have HRR := hide hR
      rw [hR]
      clear hR
      have hN : N ≤ 64 := by omega
      have hmk := run_make_row' (P := Try.prog) 24 2 (.int .i64 0) 8 Try.underlying24 Try.infoInt rfl .i64 .i64 N (by omega) (by omega)
      rw [made_rep] at hmk
      obtain ⟨Z, hZ⟩ : ∃ Z, List.replicate N (Value.int .i64 0) = Z := ⟨_, rfl⟩
      rw [hZ] at hmk
      have HZ' := hide hZ
      clear hZ hr
      obtain ⟨l, hl⟩ : ∃ l, xs.length = l := ⟨_, rfl⟩
      rw [hl] at hyl HY HWF ⊢
      have HL := hide hl
      clear hl
      by_cases hfl : F < l
      · obtain ⟨b, off, rfl, _, hc⟩ := hyr (by rintro rfl; have := HL.out; simp at this; omega)
        rw [HL.out] at hc
        obtain ⟨X, hX⟩ : ∃ X, ((xs.drop F).take N).map (Value.int .i64) = X := ⟨_, rfl⟩
        have HX := hide hX
        have hXl : X.length = Nat.min (l - F) N := by rw [← hX, List.length_map, List.length_take, List.length_drop, HL.out]; exact Nat.min_comm _ _
        have hsrc : ∀ (w' : World), Below w.heap.size w w' → ∀ j v, X[j]? = some v → w'.cell? ((⟨b, off + F, none⟩ : Addr).add j) = some v := by
          intro w' hb j v hv
          rw [← hX] at hv
          have hj : j < X.length := by rw [← hX]; exact (List.getElem?_eq_some_iff.1 hv).1
          rw [hXl] at hj
          have hj' : j < l - F ∧ j < N := ⟨Nat.lt_of_lt_of_le hj (Nat.min_le_left _ _), Nat.lt_of_lt_of_le hj (Nat.min_le_right _ _)⟩
          rw [Addr.add_lit, Nat.add_assoc, cell_later hb (hc (F + j) (by omega)), ← hv]
          simp [hj'.2, List.getElem?_drop, List.getD, List.getElem?_eq_getElem (show F + j < xs.length by rw [HL.out]; omega)]
        have HSrc := hide hsrc
        have HXl := hide hXl
        have hone : Hid (∀ v ∈ X, v.oneCell' = true) := by rw [← hX]; exact ints_oneCell _ _
        have hZl : Z.length = N := by rw [← HZ'.out]; simp
        have HZl := hide hZl
        clear hX hXl hsrc hc hyr hZl
        go_enter Try.func12, Try.ntmps12
        go_wp2_with fail
        refine (HWF.out _ A0.out).mono ?_
        rintro e w1 ⟨rfl, q, rfl⟩
        go_wp2_with fail
        refine (isRange_yes _ _ _ HR.out).mono ?_
        rintro e w2 ⟨rfl, rfl⟩
        have BB := hide (below_on (below_on A0.out (below_drewN _ q)) (below_alloc _ (.cells Z.toArray 2)))
        have hnew := hide (heap_alloc_new ((w.alloc (.cells #[.int .i64 0, .slice none 0 0] 30)).drewN q) (.cells Z.toArray 2))
        go_wp2_with fail
        obtain ⟨w3, hrun, hg3, hb3⟩ := copy_run (w := ((w.alloc (.cells #[.int .i64 0, .slice none 0 0] 30)).drewN q).alloc (.cells Z.toArray 2)) (g := w.heap.size + 1) (o := 0) (dLen := N) (dCap := N) (b := b) (p := off + F) (sLen := l - F) (sCap := l + cy - F) (cur := Z) (X := X) (by have := hnew.out; simpa using this) HXl.out (HSrc.out _ BB.out) (by rw [HXl.out, HZl.out, Nat.zero_add]; exact Nat.min_le_right _ _) hone.out
        rw [hrun]
        have HG3 : Hid (w3.heap[w.heap.size + 1]? = some (.cells (R.map (Value.int .i64)).toArray 2 (0, 0))) := by
          have h := hg3
          rw [← HZ'.out, ← HX.out, splice_read, HRR.out] at h
          exact h
        have HB3 := hide (BB.out.trans (hb3.mono (by omega)))
        have r0 : w3.cell? ⟨w.heap.size, 0, none⟩ = some (.int .i64 0) := (hb3.cell (p := ⟨w.heap.size, 0, none⟩) (by simp)).trans (by simp [go_sem])
        have r1 : w3.cell? ⟨w.heap.size, 1, none⟩ = some (.slice none 0 0) := (hb3.cell (p := ⟨w.heap.size, 1, none⟩) (by simp)).trans (by simp [go_sem])
        have f0 : w3.frozen? ⟨w.heap.size, 0, none⟩ = false := (hb3.frozen (p := ⟨w.heap.size, 0, none⟩) (by simp)).trans (by simp [go_sem])
        have f1 : w3.frozen? ⟨w.heap.size, 1, none⟩ = false := (hb3.frozen (p := ⟨w.heap.size, 1, none⟩) (by simp)).trans (by simp [go_sem])
        clear hrun hg3 hb3 hmk
        go_wp2
        have hfin := ret_ints (x := .int .i64 0) HB3.out (r := w.heap.size) (Nat.le_refl _) (ow_row HG3.out (by rw [← HRR.out, readL_len]) (by omega)) (by omega)
        exact bodyPost_ret (v := .agg #[.int .i64 0, .slice (some ⟨w.heap.size + 1, 0, none⟩) N N]) (by simp [results, Try.results12, go_sem, r0, r1]) rfl ⟨_, rfl, hfin⟩
      · have HRz : Hid (Z = R.map (Value.int .i64)) := by
          rw [Hid, ← HZ'.out, ← HRR.out, readL_none _ _ _ (by rw [HL.out]; omega)]
          simp
        clear hyr
        go_enter Try.func12, Try.ntmps12
        go_wp2_with fail
        refine (HWF.out _ A0.out).mono ?_
        rintro e w1 ⟨rfl, q, rfl⟩
        go_wp2_with fail
        refine (isRange_yes _ _ _ HR.out).mono ?_
        rintro e w2 ⟨rfl, rfl⟩
        have HB3 := hide (below_on (below_on A0.out (below_drewN _ q)) (below_alloc _ (.cells Z.toArray 2)))
        have hnew := hide (heap_alloc_new ((w.alloc (.cells #[.int .i64 0, .slice none 0 0] 30)).drewN q) (.cells Z.toArray 2))
        have HG3 : Hid ((((w.alloc (.cells #[.int .i64 0, .slice none 0 0] 30)).drewN q).alloc (.cells Z.toArray 2)).heap[w.heap.size + 1]? = some (.cells (R.map (Value.int .i64)).toArray 2 (0, 0))) := by
          have := hnew.out
          rw [Hid, ← HRz.out]
          simpa using this
        obtain ⟨w3, hw3⟩ : ∃ w3, ((w.alloc (.cells #[.int .i64 0, .slice none 0 0] 30)).drewN q).alloc (.cells Z.toArray 2) = w3 := ⟨_, rfl⟩
        have r0 : w3.cell? ⟨w.heap.size, 0, none⟩ = some (.int .i64 0) := by rw [← hw3]; simp [go_sem]
        have r1 : w3.cell? ⟨w.heap.size, 1, none⟩ = some (.slice none 0 0) := by rw [← hw3]; simp [go_sem]
        have f0 : w3.frozen? ⟨w.heap.size, 0, none⟩ = false := by rw [← hw3]; simp [go_sem]
        have f1 : w3.frozen? ⟨w.heap.size, 1, none⟩ = false := by rw [← hw3]; simp [go_sem]
        rw [hw3] at HB3 HG3
        clear hnew
        have hlF : ¬ ((F : Int) < (l : Int)) := by omega
        go_wp2
        have hfin := ret_ints (x := .int .i64 0) HB3.out (r := w.heap.size) (Nat.le_refl _) (ow_row HG3.out (by rw [← HRR.out, readL_len]) (by omega)) (by omega)
        exact bodyPost_ret (v := .agg #[.int .i64 0, .slice (some ⟨w.heap.size + 1, 0, none⟩) N N]) (by simp [results, Try.results12, go_sem, r0, r1]) rfl ⟨_, rfl, hfin⟩
    · rw [if_neg hr, if_neg hr]
      have HR := hide hr
      clear hyr hr
      go_enter Try.func12, Try.ntmps12
      go_wp2_with fail
      refine (HWF.out _ A0.out).mono ?_
      rintro e w1 ⟨rfl, q, rfl⟩
      have HB := hide (below_on A0.out (below_drewN _ q))
      go_wp2_with fail
      refine (isRange_no _ _ _ HR.out).mono ?_
      rintro e w2 ⟨rfl, rfl⟩
      go_wp2
      refine bodyPost_ret (v := .agg #[.int .i64 3, .slice none 0 0]) (by simp [results, Try.results12, go_sem]) rfl ⟨_, rfl, ?_, OwI_nil _ _⟩
      repeat (first | refine Below.setCell ?_ (by first | (simp; done) | (simp; omega) | omega) _ | exact HB.out)
  · rw [if_neg h0, if_neg h0]
    clear hyr
    go_enter Try.func12, Try.ntmps12
    go_wp2_with fail
    refine (HWF.out _ A0.out).mono ?_
    rintro e w1 ⟨rfl, q, rfl⟩
    have HB := hide (below_on A0.out (below_drewN _ q))
    go_wp2
    refine bodyPost_ret (v := .agg #[.int .i64 z, .slice none 0 0]) (by simp [results, Try.results12, go_sem]) rfl ⟨_, rfl, ?_, OwI_nil _ _⟩
    repeat (first | refine Below.setCell ?_ (by first | (simp; done) | (simp; omega) | omega) _ | exact HB.out)
end Go.Proofs.Ytknjfaebiljiiaa
