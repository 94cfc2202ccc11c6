/- Chapter 11: 'spec.DiffPuts', walked. -/
import Derived.Test.YtiommfabhchgdaaDf3
import Derived.Test.YtiommfabhchgdaaImpl2b
namespace Go.Proofs.Ytiommfabhchgdaa
open Go.RowKit Go.Maps

theorem apC_nil (vs : List (Int × List Int)) : apC vs [] = vF vs := by
  unfold apC vF
  have h : hpF 60 ([] : List (Int × List Int)) = 0 := by decide
  rw [if_pos h]
theorem vF_hp {vs : List (Int × List Int)} (h : vF vs = 0) : hpF 60 vs = 0 := by
  unfold vF at h
  by_cases h0 : hpF 60 vs = 0
  · exact h0
  · rw [if_neg h0] at h; exact absurd h h0
theorem dfR_tot (vs ps : List (Int × List Int)) : totP (dfR vs ps) (dfR vs ps).length ≤ 1048576 := by
  unfold dfR
  by_cases h : dfC vs ps = 0
  · rw [if_pos h]
    unfold dfC at h
    by_cases h1 : vF vs = 0
    · rw [if_pos h1] at h
      by_cases h2 : vF ps = 0
      · rw [if_pos h2] at h
        have hA := hpF_all (vF_hp h2)
        have h12 : (dfL vs ps).length ≤ 12 := by
          rcases Nat.lt_or_ge 12 (dfL vs ps).length with h9 | h9
          · rw [if_pos h9] at h; exact absurd h (by decide)
          · exact h9
        have hw : ∀ i, i < (dfL vs ps).length → ((dfL vs ps).getD i (0, [])).2.length ≤ 64 := by
          intro i hil
          have hm : (dfL vs ps).getD i (0, []) ∈ dfL vs ps := by simp [List.getD, hil]
          obtain ⟨p, hp⟩ : ∃ p, (dfL vs ps).getD i (0, []) = p := ⟨_, rfl⟩
          rw [hp] at hm ⊢
          unfold dfL at hm
          rcases List.mem_append.1 hm with h | h
          · have h3 := (List.mem_filter.1 h).1
            obtain ⟨j, hj, rfl⟩ := List.getElem_of_mem h3
            have := (hA.2 j hj).2.2
            simpa only [List.getD, List.getElem?_eq_getElem hj, Option.getD_some] using this
          · unfold dfB at h
            obtain ⟨a, _, rfl⟩ := List.mem_map.1 h
            simp
        have h9 := totP_mostA hw _ (Nat.le_refl _)
        have h10 : (dfL vs ps).length * (64 + 1) ≤ 12 * 65 := Nat.mul_le_mul h12 (Nat.le_refl _)
        omega
      · rw [if_neg h2] at h; exact absurd h h2
    · rw [if_neg h1] at h; exact absurd h h1
  · rw [if_neg h]
    simp [totP]

set_option maxHeartbeats 4000000 in
set_option maxRecDepth 4000 in
theorem specDiffPuts {S T : Nat → Prop} {w : World} {u v : Value} {vs ps : List (Int × List Int)} (hu : RdP S w u vs) (hv : RdP T w v ps) :
    Calls Try.prog 15 #[u, v] w (EndsP (dfC vs ps) (dfR vs ps) w) := by
  unfold EndsP
  obtain ⟨au, cu, rfl, _⟩ := hu.shape
  obtain ⟨av, cv, rfl, _⟩ := hv.shape
  have HF1 := hide (fun (w' : World) (hb : Below w.heap.size w w') => specApplyPuts (hu.later hb) (⟨none, 0, rfl, Nat.zero_le _, fun h => absurd rfl h⟩ : RdP (fun _ => False) w' (.slice none 0 0) []))
  have HF2 := hide (fun (w' : World) (hb : Below w.heap.size w w') => specApplyPuts (hv.later hb) (⟨none, 0, rfl, Nat.zero_le _, fun h => absurd rfl h⟩ : RdP (fun _ => False) w' (.slice none 0 0) []))
  unfold EndsP at HF1 HF2
  rw [apC_nil] at HF1 HF2
  have HDf := hide (fun (h : vF ps = 0) (w' : World) (hb : Below w.heap.size w w') => l11DiffP (hu.later hb) (hv.later hb) (vF_hp h))
  have A0 := hide (below_alloc w (.cells #[.int .i64 0, .slice none 0 0] 29))
  obtain ⟨n, hn⟩ : ∃ n, vs.length = n := ⟨_, rfl⟩
  obtain ⟨m, hm⟩ : ∃ m, ps.length = m := ⟨_, rfl⟩
  rw [hn] at HF1 HDf ⊢
  rw [hm] at HF2 HDf ⊢
  obtain ⟨C, hC⟩ : ∃ C, dfC vs ps = C := ⟨_, rfl⟩
  obtain ⟨R, hR⟩ : ∃ R, dfR vs ps = R := ⟨_, rfl⟩
  have HC := hide hC
  have HR := hide hR
  rw [hC, hR]
  clear hu hv hn hm hC hR
  go_enter Try.func15, Try.ntmps15
  go_wp2_with fail
  refine (HF1.out _ A0.out).mono ?_
  rintro e w1 ⟨z1, rfl, hb1, ho1⟩
  obtain ⟨x1, n1, y1, rfl⟩ : ∃ x1 n1 y1, z1 = .slice x1 n1 y1 := by obtain ⟨a, c, e⟩ := ho1.shape; exact ⟨_, _, _, e⟩
  have r0 : w1.cell? ⟨w.heap.size, 0, none⟩ = some (.int .i64 0) := cell_later hb1 (by simp [go_sem])
  have r1 : w1.cell? ⟨w.heap.size, 1, none⟩ = some (.slice none 0 0) := cell_later hb1 (by simp [go_sem])
  have rf : ∀ o, w1.frozen? ⟨w.heap.size, o, none⟩ = false := fun o => ((bcell hb1).2 _ _ (by simp)).trans (by simp [go_sem])
  have B1 := hide (below_on A0.out hb1)
  have hs1 : w.heap.size < w1.heap.size := World.block_lt_of_cell? _ _ r0
  clear hb1 ho1
  go_upto_region 2 with fail
  refine forget (fun W => Below w.heap.size w W ∧ Var2 W w.heap.size (.int .i64 0) (.slice none 0 0) ∧ (∀ o, W.frozen? ⟨w.heap.size, o, none⟩ = false) ∧ Var2 W w1.heap.size (.int .i64 (vF vs)) (.slice x1 n1 y1) ∧ W.heap.size = w1.heap.size + 1) ⟨below_on B1.out (below_alloc _ _), (show Var2 w1 w.heap.size _ _ from ⟨r0, r1⟩).later (below_alloc _ _), fun o => ((bcell (below_alloc _ _)).2 _ _ hs1).trans (rf o), Var2_new _ _ _ _, by simp⟩ ?_
  clear B1 r0 r1 rf
  rintro W ⟨hbW, ⟨r0, r1⟩, rf, ⟨d0, d1⟩, hsW⟩
  have B1 := hide hbW
  have f0 := rf 0
  have f1 := rf 1
  clear hbW
  by_cases h1 : vF vs = 0
  · rw [h1] at d0
    go_wp2_with fail
    refine (HF2.out _ B1.out).mono ?_
    rintro e w2 ⟨z2, rfl, hb2, ho2⟩
    obtain ⟨x2, n2, y2, rfl⟩ : ∃ x1 n1 y1, z2 = .slice x1 n1 y1 := by obtain ⟨a, c, e⟩ := ho2.shape; exact ⟨_, _, _, e⟩
    have B2 := hide (below_on B1.out hb2)
    have V2 := hide ((show Var2 W w.heap.size (.int .i64 0) (.slice none 0 0) from ⟨r0, r1⟩).later hb2)
    have F2 : Hid (∀ o, w2.frozen? ⟨w.heap.size, o, none⟩ = false) := fun o => ((bcell hb2).2 _ _ (by omega)).trans (rf o)
    have hs2 : w.heap.size < w2.heap.size := by have := hb2.size; omega
    clear hb2 ho2 r0 r1 rf f0 f1 B1 d0 d1
    go_upto_region 5 with fail
    refine forget (fun W => Below w.heap.size w W ∧ Var2 W w.heap.size (.int .i64 0) (.slice none 0 0) ∧ (∀ o, W.frozen? ⟨w.heap.size, o, none⟩ = false) ∧ Var2 W w2.heap.size (.int .i64 (vF ps)) (.slice x2 n2 y2) ∧ W.heap.size = w2.heap.size + 1) ⟨below_on B2.out (below_alloc _ _), V2.out.later (below_alloc _ _), fun o => ((bcell (below_alloc _ _)).2 _ _ hs2).trans (F2.out o), Var2_new _ _ _ _, by simp⟩ ?_
    clear B2 V2 F2
    rintro W3 ⟨hbW, ⟨r0, r1⟩, rf, ⟨d0, d1⟩, hsW3⟩
    have B3 := hide hbW
    have f0 := rf 0
    have f1 := rf 1
    clear hbW
    by_cases h2 : vF ps = 0
    · rw [h2] at d0
      have hCR : C = (if 12 < (dfL vs ps).length then 2 else 0) ∧ R = (if C = 0 then dfL vs ps else []) := by
        constructor
        · rw [← HC.out]; unfold dfC; rw [if_pos h1, if_pos h2]
        · rw [← HR.out, ← HC.out]; unfold dfR; rfl
      have HCR := hide hCR
      have HDt := hide (HDf.out h2 _ B3.out)
      clear hCR HC HR HDf HF1 HF2
      go_wp2_with fail
      refine HDt.out.mono ?_
      rintro e w4 ⟨z4, rfl, hb4, ho4⟩
      obtain ⟨a4, c4, rfl⟩ := ho4.shape
      have B4 := hide (below_on B3.out hb4)
      have q0 := cell_later hb4 r0
      have q1 := cell_later hb4 r1
      have qf : ∀ o, w4.frozen? ⟨w.heap.size, o, none⟩ = false := fun o => ((bcell hb4).2 _ _ (by omega)).trans (rf o)
      have g0 := qf 0
      have g1 := qf 1
      have HO := hide ho4
      clear hb4 ho4 HDt r0 r1 rf f0 f1 d0 d1 B3 qf
      by_cases h12 : 12 < (dfL vs ps).length
      · have hC2 : C = 2 := by rw [HCR.out.1, if_pos h12]
        have hRn : R = [] := by rw [HCR.out.2, if_neg (by omega)]
        subst hC2
        subst hRn
        have h12i : (12 : Int) < ((dfL vs ps).length : Int) := by omega
        have HFn := hide (ret_putsA (r := w.heap.size) (x := .int .i64 2) B4.out (Nat.le_refl _) (OwP_nil (fun _ => False) w4) (fun b hb => hb.elim))
        go_wp2
        refine bodyPost_ret (v := .agg #[.int .i64 2, .slice none 0 0]) (by simp [results, Try.results15, go_sem, q0, q1]) rfl ⟨_, rfl, HFn.out.1, HFn.out.2⟩
      · have hC0 : C = 0 := by rw [HCR.out.1, if_neg h12]
        have hRq : R = dfL vs ps := by rw [HCR.out.2, if_pos hC0]
        subst hC0
        have h12i : ¬ (12 : Int) < ((dfL vs ps).length : Int) := by omega
        rw [← hRq] at HO h12i ⊢
        have HFn := hide (ret_putsA (r := w.heap.size) (x := .int .i64 0) B4.out (Nat.le_refl _) HO.out (fun b hb => ⟨by omega, hb.2⟩))
        clear h12 hRq
        go_wp2
        refine bodyPost_ret (v := .agg #[.int .i64 0, .slice a4 R.length c4]) (by simp [results, Try.results15, go_sem, q0, q1]) rfl ⟨_, rfl, HFn.out.1, HFn.out.2⟩
    · have hC : C = vF ps ∧ R = [] := by
        have e : dfC vs ps = vF ps := by unfold dfC; rw [if_pos h1, if_neg h2]
        exact ⟨by rw [← HC.out, e], by rw [← HR.out]; unfold dfR; rw [e, if_neg h2]⟩
      obtain ⟨rfl, rfl⟩ := hC
      have h2b : (vF ps == 0) = false := by simpa using h2
      have HFn := hide (ret_putsA (r := w.heap.size) (x := .int .i64 (vF ps)) B3.out (Nat.le_refl _) (OwP_nil (fun _ => False) W3) (fun b hb => hb.elim))
      clear HF1 HF2 HDf
      go_wp2
      refine bodyPost_ret (v := .agg #[.int .i64 (vF ps), .slice none 0 0]) (by simp [results, Try.results15, go_sem, r0, r1]) rfl ⟨_, rfl, HFn.out.1, HFn.out.2⟩
  · have hC : C = vF vs ∧ R = [] := by
      have e : dfC vs ps = vF vs := by unfold dfC; rw [if_neg h1]
      exact ⟨by rw [← HC.out, e], by rw [← HR.out]; unfold dfR; rw [e, if_neg h1]⟩
    obtain ⟨rfl, rfl⟩ := hC
    have h2b : (vF vs == 0) = false := by simpa using h1
    have HFn := hide (ret_putsA (r := w.heap.size) (x := .int .i64 (vF vs)) B1.out (Nat.le_refl _) (OwP_nil (fun _ => False) W) (fun b hb => hb.elim))
    clear HF1 HF2 HDf
    go_wp2
    refine bodyPost_ret (v := .agg #[.int .i64 (vF vs), .slice none 0 0]) (by simp [results, Try.results15, go_sem, r0, r1]) rfl ⟨_, rfl, HFn.out.1, HFn.out.2⟩
end Go.Proofs.Ytiommfabhchgdaa
