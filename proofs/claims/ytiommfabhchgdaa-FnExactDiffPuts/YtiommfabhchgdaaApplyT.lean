/- Chapter 4: 'spec.ApplyPuts', walked; how great the answer is. -/
import Derived.Test.YtiommfabhchgdaaApplyS
import Derived.Test.YtiommfabhchgdaaL4
namespace Go.Proofs.Ytiommfabhchgdaa
open Go.RowKit Go.Maps

theorem totP_mostA {ps : List (Int × List Int)} {B : Nat} (h : ∀ i, i < ps.length → (ps.getD i (0, [])).2.length ≤ B) : ∀ i, i ≤ ps.length → totP ps i ≤ i * (B + 1) := by
  intro i
  induction i with
  | zero => intro _; rw [totP_zero]; omega
  | succ i ih =>
    intro hi
    rw [totP_succ ps i (by omega), Nat.succ_mul]
    have := ih (by omega)
    have := h i (by omega)
    omega
theorem ap_boundA (vs ps : List (Int × List Int)) : totP (apR vs ps) (apR vs ps).length ≤ 1073741824 := by
  unfold apR
  split
  · rename_i h
    obtain ⟨h1, h2, _⟩ := apC_zero h
    have hrl : ∀ a : Int, (apM vs ps a).length ≤ 64 := fun a => apM_len h1 h2 a
    generalize apM vs ps = M at hrl
    have hl : (viewTo M 40).length ≤ 40 := by rw [viewTo, List.length_map]; exact keysTo_len _ _
    have := totP_mostA (ps := viewTo M 40) (B := 64) (fun i hi => by
      have hi' : i < (keysTo M 40).length := by simpa [viewTo] using hi
      have e : (viewTo M 40).getD i (0, []) = ((keysTo M 40).getD i 0, M ((keysTo M 40).getD i 0)) := by simp [viewTo, List.getD, hi']
      rw [e]
      exact hrl _) _ (Nat.le_refl _)
    have h2 : (viewTo M 40).length * (64 + 1) ≤ 40 * (64 + 1) := Nat.mul_le_mul_right _ hl
    omega
  · simp [totP]

set_option maxHeartbeats 4000000 in
set_option maxRecDepth 4000 in
theorem specApplyPuts {S T : Nat → Prop} {w : World} {u v : Value} {vs ps : List (Int × List Int)} (hu : RdP S w u vs) (hv : RdP T w v ps) :
    Calls Try.prog 35 #[u, v] w (EndsP (apC vs ps) (apR vs ps) w) := by
  unfold EndsP
  have HU := hide (RdP_old hu)
  obtain ⟨au, cu, rfl, _⟩ := hu.shape
  obtain ⟨av, cv, rfl, _⟩ := hv.shape
  have HF1 := hide (fun (w' : World) (hb : Below w.heap.size w w') => l4Puts (hu.later hb))
  have HF2 := hide (fun (w' : World) (hb : Below w.heap.size w w') => l4Puts (hv.later hb))
  have HAp := hide (fun (w' : World) (hb : Below w.heap.size w w') (h : apC vs ps = 0) => l4Apply (hu.later hb) (hv.later hb) (apC_zero h).1 (apC_zero h).2.1 (apC_zero h).2.2)
  have HC : Hid (apC vs ps = if hpF 60 vs = 0 then (if hpF 60 ps = 0 then (if isVw vs then 0 else 1) else hpF 60 ps) else hpF 60 vs) := rfl
  have HR : Hid (apR vs ps = if apC vs ps = 0 then viewTo (apM vs ps) 40 else []) := rfl
  generalize hpF 60 vs = p at HF1 HC
  generalize hpF 60 ps = q at HF2 HC
  generalize viewTo (apM vs ps) 40 = VW at HR HAp
  generalize apR vs ps = R at HR ⊢
  generalize apC vs ps = C at HC HR HAp ⊢
  obtain ⟨n, hn⟩ : ∃ n, vs.length = n := ⟨_, rfl⟩
  obtain ⟨m, hm⟩ : ∃ m, ps.length = m := ⟨_, rfl⟩
  have HN := hide hn
  rw [hn] at HU HF1 HAp ⊢
  rw [hm] at HF2 HAp ⊢
  have hnl : n ≤ 9223372036854775807 := by obtain ⟨_, _, e1, e2, _⟩ := hu; rw [hn] at e2; exact e2
  clear hu hv hn hm
  have A0 := hide (below_alloc w (.cells #[.int .i64 0, .slice none 0 0] 29))
  by_cases hp0 : p = 0
  · subst hp0
    by_cases hq0 : q = 0
    · subst hq0
      go_enter Try.func35, Try.ntmps35
      go_wp2_with fail
      refine (HF1.out _ A0.out).mono ?_
      rintro e w1 ⟨rfl, nq1, hw1⟩
      have B1 := hide (below_on A0.out (by rw [hw1]; exact below_drewN _ nq1 : Below _ _ w1))
      have q0 : w1.cell? ⟨w.heap.size, 0, none⟩ = some (.int .i64 0) := by rw [hw1]; exact cell_later (below_drewN _ nq1) (by simp [go_sem])
      have q1 : w1.cell? ⟨w.heap.size, 1, none⟩ = some (.slice none 0 0) := by rw [hw1]; exact cell_later (below_drewN _ nq1) (by simp [go_sem])
      have qf : ∀ o, w1.frozen? ⟨w.heap.size, o, none⟩ = false := fun o => by rw [hw1]; exact ((bcell (below_drewN _ nq1)).2 _ _ (by simp)).trans (by simp [go_sem])
      have hz1 : w.heap.size < w1.heap.size := World.block_lt_of_cell? _ _ q0
      clear hw1
      go_wp2_with fail
      refine (HF2.out _ B1.out).mono ?_
      rintro e w2 ⟨rfl, nq2, hw2⟩
      have hb2 : Below w1.heap.size w1 w2 := by rw [hw2]; exact below_drewN _ nq2
      have B2 := hide (below_on B1.out hb2)
      have HQ0 := hide (cell_later hb2 q0)
      have HQ1 := hide (cell_later hb2 q1)
      have HQf : Hid (∀ o, w2.frozen? ⟨w.heap.size, o, none⟩ = false) := fun o => ((bcell hb2).2 _ _ hz1).trans (qf o)
      have hz2 : w.heap.size < w2.heap.size := World.block_lt_of_cell? _ _ HQ0.out
      clear hw2 hb2 q0 q1 qf hz1 B1
      go_wp2
      go_loopw [7] (fun i wr => ∃ k : Nat, k ≤ n ∧ i = .int .i64 (k : Int) ∧ Hid (∀ i, i < k → (vs.getD i (0, [])).2 ≠ [] ∧ (0 < i → (vs.getD (i - 1) (0, [])).1 < (vs.getD i (0, [])).1)) ∧ Hid (Below w2.heap.size w2 wr)) (fun i _ => n - (RowKit.intOf i).toNat)
      case atStart => exact ⟨0, Nat.zero_le _, rfl, fun i hi => absurd hi (Nat.not_lt_zero _), Below.refl _ _⟩
      case round =>
        obtain ⟨k, hk, rfl, HA, HB0⟩ := hrel
        have HB := hide (below_on B2.out HB0.out)
        have r0 := cell_later HB0.out HQ0.out
        have r1 := cell_later HB0.out HQ1.out
        have rf0 := ((bcell HB0.out).2 _ _ hz2).trans (HQf.out 0)
        have rf1 := ((bcell HB0.out).2 _ _ hz2).trans (HQf.out 1)
        have HR0 := hide r0
        have HR1 := hide r1
        have HF0 := hide rf0
        have HF1' := hide rf1
        clear r0 r1 rf0 rf1
        by_cases hlt : k < n
        · obtain ⟨b, off, V, rfl, g1', g2', q3⟩ := HU.out.at (k := k) (by rw [HN.out]; exact hlt)
          obtain ⟨a3, c3, rfl⟩ := q3.shape
          have g1 := cell_later HB.out g1'
          have g2 := cell_later HB.out g2'
          obtain ⟨x, hx⟩ : ∃ x, (vs.getD k (0, [])).1 = x := ⟨_, rfl⟩
          obtain ⟨l, hl⟩ : ∃ l, (vs.getD k (0, [])).2.length = l := ⟨_, rfl⟩
          rw [hx] at g1
          rw [hl] at g2
          have HX := hide hx
          have HL := hide hl
          clear g1' g2' q3 hx hl
          by_cases hl0 : l = 0
          · subst hl0
            have hno : ¬ isVw vs := fun h => (h k (by rw [HN.out]; exact hlt)).1 (List.eq_nil_of_length_eq_zero HL.out)
            have hC1 : C = 1 := by have h := HC.out; simpa [hno] using h
            subst hC1
            have hRn : R = [] := by rw [HR.out]; rfl
            subst hRn
            clear hno
            go_wp2_with fail
            go_quiet (fail)
            have HBq := hide (below_on HB.out (below_drewN _ nq))
            have x0 := cell_later (below_drewN _ nq) HR0.out
            have x1 := cell_later (below_drewN _ nq) HR1.out
            have y0 := ((bcell (below_drewN _ nq)).2 _ _ (World.block_lt_of_cell? _ _ HR0.out)).trans HF0.out
            have y1 := ((bcell (below_drewN _ nq)).2 _ _ (World.block_lt_of_cell? _ _ HR0.out)).trans HF1'.out
            go_wp2
            refine bodyPost_ret (v := .agg #[.int .i64 1, .slice none 0 0]) (by simp [results, Try.results35, go_sem, x0, x1]) rfl ⟨_, rfl, ?_, OwP_nil _ _⟩
            repeat (first | refine Below.setCell ?_ (by first | (simp; done) | (simp; omega) | omega) _ | exact HBq.out)
          · have hl0' : ¬ ((l : Int) = 0) := by omega
            have hl0b : ((l : Int) == 0) = false := by simpa using hl0
            have HNe : Hid ((vs.getD k (0, [])).2 ≠ []) := fun h => hl0 (by rw [← HL.out, h]; rfl)
            by_cases hk0 : k = 0
            · subst hk0
              have e1' : wr.cell? ⟨b, off, none⟩ = some (.int .i64 x) := by simpa using g1
              have e2' : wr.cell? ⟨b, off + 1, none⟩ = some (.slice a3 l c3) := by simpa using g2
              clear g1 g2
              have HA' : Hid (∀ i, i < 0 + 1 → (vs.getD i (0, [])).2 ≠ [] ∧ (0 < i → (vs.getD (i - 1) (0, [])).1 < (vs.getD i (0, [])).1)) := fun i hi => by
                have : i = 0 := by omega
                subst this
                exact ⟨HNe.out, fun h => absurd h (Nat.lt_irrefl _)⟩
              go_wp2_with fail
              go_quiet (fail)
              have HBq := hide (below_on HB0.out (below_drewN _ nq))
              go_wp2
              go_roundw
              case rel => exact ⟨0 + 1, by omega, by go_num, HA'.out, HBq.out⟩
              case measure => simp [RowKit.intOf]; omega
            · have hkp : 0 < k := by omega
              obtain ⟨j, hjk⟩ : ∃ j, k = j + 1 := ⟨k - 1, by omega⟩
              obtain ⟨b', off', V', e', q1', _, _⟩ := HU.out.at (k := j) (by rw [HN.out]; omega)
              injection e' with e'
              injection e' with e1 e2
              subst e1 e2
              have g0 := cell_later HB.out q1'
              obtain ⟨y, hy⟩ : ∃ y, (vs.getD j (0, [])).1 = y := ⟨_, rfl⟩
              rw [hy] at g0
              have HY := hide hy
              clear hy q1'
              have hw1 : IntKind.i64.wrap ((k : Int) - 1) = (j : Int) := by simp [IntKind.wrap, IntKind.bits, IntKind.signed]; omega
              have hj0 : (0 : Int) < (k : Int) := by omega
              have hjp : (0 : Int) ≤ (j : Int) := by omega
              have hjn : (j : Int) < (n : Int) := by omega
              have HJK := hide hjk
              clear hk0 hjk
              by_cases hxy : x ≤ y
              · have hno : ¬ isVw vs := fun h => by
                  have := (h k (by rw [HN.out]; exact hlt)).2 (by have := HJK.out; omega)
                  rw [HX.out, show k - 1 = j by have := HJK.out; omega, HY.out] at this
                  omega
                have hC1 : C = 1 := by have h := HC.out; simpa [hno] using h
                subst hC1
                have hRn : R = [] := by rw [HR.out]; rfl
                subst hRn
                clear hno
                go_wp2_with fail
                go_quiet (fail)
                have HBq := hide (below_on HB.out (below_drewN _ nq))
                have x0 := cell_later (below_drewN _ nq) HR0.out
                have x1 := cell_later (below_drewN _ nq) HR1.out
                have y0 := ((bcell (below_drewN _ nq)).2 _ _ (World.block_lt_of_cell? _ _ HR0.out)).trans HF0.out
                have y1 := ((bcell (below_drewN _ nq)).2 _ _ (World.block_lt_of_cell? _ _ HR0.out)).trans HF1'.out
                go_wp2
                refine bodyPost_ret (v := .agg #[.int .i64 1, .slice none 0 0]) (by simp [results, Try.results35, go_sem, x0, x1]) rfl ⟨_, rfl, ?_, OwP_nil _ _⟩
                repeat (first | refine Below.setCell ?_ (by first | (simp; done) | (simp; omega) | omega) _ | exact HBq.out)
              · have hxy' : y < x := by omega
                have HA' : Hid (∀ i, i < k + 1 → (vs.getD i (0, [])).2 ≠ [] ∧ (0 < i → (vs.getD (i - 1) (0, [])).1 < (vs.getD i (0, [])).1)) := fun i hi => by
                  by_cases e : i = k
                  · subst e
                    exact ⟨HNe.out, fun _ => by rw [HX.out, show i - 1 = j by have := HJK.out; omega, HY.out]; exact hxy'⟩
                  · exact HA.out i (by omega)
                go_wp2_with fail
                go_quiet (fail)
                have HBq := hide (below_on HB0.out (below_drewN _ nq))
                go_wp2
                go_roundw
                case rel => exact ⟨k + 1, by omega, by go_num, HA'.out, HBq.out⟩
                case measure => simp [RowKit.intOf]; omega
        · have hkn : k = n := by omega
          subst hkn
          have hyes : isVw vs := fun i hi => HA.out i (by rw [HN.out] at hi; exact hi)
          have hC0 : C = 0 := by have h := HC.out; simpa [hyes] using h
          subst hC0
          have hRn : R = VW := by rw [HR.out]; rfl
          subst hRn
          have HA2 := hide (HAp.out wr HB.out rfl)
          have hzr := HB0.out.size
          clear hyes HA HAp HC HR
          go_wp2_with fail
          refine HA2.out.mono ?_
          rintro e w5 ⟨z5, rfl, hb5, ho5⟩
          obtain ⟨a5, k5, rfl⟩ := ho5.shape
          have x0 := cell_later hb5 HR0.out
          have x1 := cell_later hb5 HR1.out
          have y0 := ((bcell hb5).2 _ _ (show w.heap.size < wr.heap.size by omega)).trans HF0.out
          have y1 := ((bcell hb5).2 _ _ (show w.heap.size < wr.heap.size by omega)).trans HF1'.out
          have HFin := hide (ret_putsA (x := .int .i64 0) (below_on HB.out hb5) (r := w.heap.size) (Nat.le_refl _) ho5 (fun b hb => ⟨by omega, hb.2⟩))
          obtain ⟨lr, hlr⟩ : ∃ lr, R.length = lr := ⟨_, rfl⟩
          rw [hlr] at HFin ⊢
          clear hb5 ho5 hlr
          go_wp2
          exact bodyPost_ret (v := .agg #[.int .i64 0, .slice a5 lr k5]) (by simp [results, Try.results35, go_sem, x0, x1]) rfl ⟨_, rfl, HFin.out.1, HFin.out.2⟩
    · have hCp : C = q := by rw [HC.out, if_pos rfl, if_neg hq0]
      subst hCp
      have hRn : R = [] := by rw [HR.out, if_neg hq0]
      subst hRn
      go_enter Try.func35, Try.ntmps35
      go_wp2_with fail
      refine (HF1.out _ A0.out).mono ?_
      rintro e w1 ⟨rfl, nq1, hw1⟩
      have hb1 : Below (w.alloc (.cells #[.int .i64 0, .slice none 0 0] 29)).heap.size (w.alloc (.cells #[.int .i64 0, .slice none 0 0] 29)) w1 := by rw [hw1]; exact below_drewN _ nq1
      have B1 := hide (below_on A0.out hb1)
      clear hw1
      have q0 : w1.cell? ⟨w.heap.size, 0, none⟩ = some (.int .i64 0) := cell_later hb1 (by simp [go_sem])
      have q1 : w1.cell? ⟨w.heap.size, 1, none⟩ = some (.slice none 0 0) := cell_later hb1 (by simp [go_sem])
      have qf : ∀ o, w1.frozen? ⟨w.heap.size, o, none⟩ = false := fun o => ((bcell hb1).2 _ _ (by simp)).trans (by simp [go_sem])
      have hz1 : w.heap.size < w1.heap.size := World.block_lt_of_cell? _ _ q0
      clear hb1
      go_wp2_with fail
      refine (HF2.out _ B1.out).mono ?_
      rintro e w2 ⟨rfl, nq2, hw2⟩
      have hb2 : Below w1.heap.size w1 w2 := by rw [hw2]; exact below_drewN _ nq2
      have B2 := hide (below_on B1.out hb2)
      have r0 := cell_later hb2 q0
      have r1 := cell_later hb2 q1
      have f0 := ((bcell hb2).2 _ _ hz1).trans (qf 0)
      have f1 := ((bcell hb2).2 _ _ hz1).trans (qf 1)
      clear hw2 hb2 q0 q1 qf hz1 B1
      go_wp2
      refine bodyPost_ret (v := .agg #[.int .i64 C, .slice none 0 0]) (by simp [results, Try.results35, go_sem, r0, r1]) rfl ⟨_, rfl, ?_, OwP_nil _ _⟩
      repeat (first | refine Below.setCell ?_ (by first | (simp; done) | (simp; omega) | omega) _ | exact B2.out)
  · have hCp : C = p := by rw [HC.out, if_neg hp0]
    subst hCp
    have hRn : R = [] := by rw [HR.out, if_neg hp0]
    subst hRn
    go_enter Try.func35, Try.ntmps35
    go_wp2_with fail
    refine (HF1.out _ A0.out).mono ?_
    rintro e w1 ⟨rfl, nq1, hw1⟩
    have hb1 : Below (w.alloc (.cells #[.int .i64 0, .slice none 0 0] 29)).heap.size (w.alloc (.cells #[.int .i64 0, .slice none 0 0] 29)) w1 := by rw [hw1]; exact below_drewN _ nq1
    have B1 := hide (below_on A0.out hb1)
    clear hw1
    have q0 : w1.cell? ⟨w.heap.size, 0, none⟩ = some (.int .i64 0) := cell_later hb1 (by simp [go_sem])
    have q1 : w1.cell? ⟨w.heap.size, 1, none⟩ = some (.slice none 0 0) := cell_later hb1 (by simp [go_sem])
    have f0 : w1.frozen? ⟨w.heap.size, 0, none⟩ = false := ((bcell hb1).2 _ _ (by simp)).trans (by simp [go_sem])
    have f1 : w1.frozen? ⟨w.heap.size, 1, none⟩ = false := ((bcell hb1).2 _ _ (by simp)).trans (by simp [go_sem])
    clear hb1
    go_wp2
    refine bodyPost_ret (v := .agg #[.int .i64 C, .slice none 0 0]) (by simp [results, Try.results35, go_sem, q0, q1]) rfl ⟨_, rfl, ?_, OwP_nil _ _⟩
    repeat (first | refine Below.setCell ?_ (by first | (simp; done) | (simp; omega) | omega) _ | exact B1.out)
end Go.Proofs.Ytiommfabhchgdaa
