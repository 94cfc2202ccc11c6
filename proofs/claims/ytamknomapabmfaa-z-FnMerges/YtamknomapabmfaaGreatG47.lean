/- ApplyT Po7 in one text: what each says stands at its head below. -/
import Derived.Test.YtamknomapabmfaaGreatG46
import Derived.Test.YtamknomapabmfaaGreatG30
import Derived.Test.YtamknomapabmfaaGreatG44
import Derived.Test.YtamknomapabmfaaGreatG35
/- Chapter 4: 'spec.ApplyPuts', walked; how great the answer is. -/
namespace Go.Proofs.YtamknomapabmfaaGreat
open Go.RowKit Go.Maps

theorem totP_mostA {ps : List (Int × List Int)} {B : Nat} (h : ∀ i, i < ps.length → (ps.getD i (0, [])).2.length ≤ B) : ∀ i, i ≤ ps.length → totP ps i ≤ i * (B + 1) := by
  intro i
  induction i with
  | zero => intro _; rw [totP_zero]; omega
  | succ i ih =>
    intro hi
    rw [totP_succ ps i (by omega), Nat.succ_mul]
    have := ih (by omega)
    have := h i (by omega)
    omega
theorem ap_boundA (vs ps : List (Int × List Int)) : totP (apR vs ps) (apR vs ps).length ≤ 1073741824 := by
  unfold apR
  split
  · rename_i h
    obtain ⟨h1, h2, _⟩ := apC_zero h
    have hrl : ∀ a : Int, (apM vs ps a).length ≤ 64 := fun a => apM_len h1 h2 a
    generalize apM vs ps = M at hrl
    have hl : (viewTo M 40).length ≤ 40 := by rw [viewTo, List.length_map]; exact keysTo_len _ _
    have := totP_mostA (ps := viewTo M 40) (B := 64) (fun i hi => by
      have hi' : i < (keysTo M 40).length := by simpa [viewTo] using hi
      have e : (viewTo M 40).getD i (0, []) = ((keysTo M 40).getD i 0, M ((keysTo M 40).getD i 0)) := by simp [viewTo, List.getD, hi']
      rw [e]
      exact hrl _) _ (Nat.le_refl _)
    have h2 : (viewTo M 40).length * (64 + 1) ≤ 40 * (64 + 1) := Nat.mul_le_mul_right _ hl
    omega
  · simp [totP]

set_option maxHeartbeats 4000000 in
set_option maxRecDepth 4000 in
theorem specApplyPuts {S T : Nat → Prop} {w : World} {u v : Value} {vs ps : List (Int × List Int)} (hu : RdP S w u vs) (hv : RdP T w v ps) :
    Calls Tryz.prog 28 #[u, v] w (EndsP (apC vs ps) (apR vs ps) w) := by
  unfold EndsP
  have HU := hide (RdP_old hu)
  obtain ⟨au, cu, rfl, _⟩ := hu.shape
  obtain ⟨av, cv, rfl, _⟩ := hv.shape
  have HF1 := hide (fun (w' : World) (hb : Below w.heap.size w w') => l4Puts (hu.later hb))
  have HF2 := hide (fun (w' : World) (hb : Below w.heap.size w w') => l4Puts (hv.later hb))
  have HAp := hide (fun (w' : World) (hb : Below w.heap.size w w') (h : apC vs ps = 0) => l4Apply (hu.later hb) (hv.later hb) (apC_zero h).1 (apC_zero h).2.1 (apC_zero h).2.2)
  have HC : Hid (apC vs ps = if hpF 60 vs = 0 then (if hpF 60 ps = 0 then (if isVw vs then 0 else 1) else hpF 60 ps) else hpF 60 vs) := rfl
  have HR : Hid (apR vs ps = if apC vs ps = 0 then viewTo (apM vs ps) 40 else []) := rfl
  generalize hpF 60 vs = p at HF1 HC
  generalize hpF 60 ps = q at HF2 HC
  generalize viewTo (apM vs ps) 40 = VW at HR HAp
  generalize apR vs ps = R at HR ⊢
  generalize apC vs ps = C at HC HR HAp ⊢
  obtain ⟨n, hn⟩ : ∃ n, vs.length = n := ⟨_, rfl⟩
  obtain ⟨m, hm⟩ : ∃ m, ps.length = m := ⟨_, rfl⟩
  have HN := hide hn
  rw [hn] at HU HF1 HAp ⊢
  rw [hm] at HF2 HAp ⊢
  have hnl : n ≤ 9223372036854775807 := by obtain ⟨_, _, e1, e2, _⟩ := hu; rw [hn] at e2; exact e2
  clear hu hv hn hm
  have A0 := hide (below_alloc w (.cells #[.int .i64 0, .slice none 0 0] 35))
  by_cases hp0 : p = 0
  · subst hp0
    by_cases hq0 : q = 0
    · subst hq0
      go_enter Tryz.func28, Tryz.ntmps28
      go_wp2_with fail
      refine (HF1.out _ A0.out).mono ?_
      rintro e w1 ⟨rfl, nq1, hw1⟩
      have B1 := hide (below_on A0.out (by rw [hw1]; exact below_drewN _ nq1 : Below _ _ w1))
      have q0 : w1.cell? ⟨w.heap.size, 0, none⟩ = some (.int .i64 0) := by rw [hw1]; exact cell_later (below_drewN _ nq1) (by simp [go_sem])
      have q1 : w1.cell? ⟨w.heap.size, 1, none⟩ = some (.slice none 0 0) := by rw [hw1]; exact cell_later (below_drewN _ nq1) (by simp [go_sem])
      have qf : ∀ o, w1.frozen? ⟨w.heap.size, o, none⟩ = false := fun o => by rw [hw1]; exact ((bcell (below_drewN _ nq1)).2 _ _ (by simp)).trans (by simp [go_sem])
      have hz1 : w.heap.size < w1.heap.size := World.block_lt_of_cell? _ _ q0
      clear hw1
      go_wp2_with fail
      refine (HF2.out _ B1.out).mono ?_
      rintro e w2 ⟨rfl, nq2, hw2⟩
      have hb2 : Below w1.heap.size w1 w2 := by rw [hw2]; exact below_drewN _ nq2
      have B2 := hide (below_on B1.out hb2)
      have HQ0 := hide (cell_later hb2 q0)
      have HQ1 := hide (cell_later hb2 q1)
      have HQf : Hid (∀ o, w2.frozen? ⟨w.heap.size, o, none⟩ = false) := fun o => ((bcell hb2).2 _ _ hz1).trans (qf o)
      have hz2 : w.heap.size < w2.heap.size := World.block_lt_of_cell? _ _ HQ0.out
      clear hw2 hb2 q0 q1 qf hz1 B1
      go_wp2
      go_loopw [7] (fun i wr => ∃ k : Nat, k ≤ n ∧ i = .int .i64 (k : Int) ∧ Hid (∀ i, i < k → (vs.getD i (0, [])).2 ≠ [] ∧ (0 < i → (vs.getD (i - 1) (0, [])).1 < (vs.getD i (0, [])).1)) ∧ Hid (Below w2.heap.size w2 wr)) (fun i _ => n - (RowKit.intOf i).toNat)
      case atStart => exact ⟨0, Nat.zero_le _, rfl, fun i hi => absurd hi (Nat.not_lt_zero _), Below.refl _ _⟩
      case round =>
        obtain ⟨k, hk, rfl, HA, HB0⟩ := hrel
        have HB := hide (below_on B2.out HB0.out)
        have r0 := cell_later HB0.out HQ0.out
        have r1 := cell_later HB0.out HQ1.out
        have rf0 := ((bcell HB0.out).2 _ _ hz2).trans (HQf.out 0)
        have rf1 := ((bcell HB0.out).2 _ _ hz2).trans (HQf.out 1)
        have HR0 := hide r0
        have HR1 := hide r1
        have HF0 := hide rf0
        have HF1' := hide rf1
        clear r0 r1 rf0 rf1
        by_cases hlt : k < n
        · obtain ⟨b, off, V, rfl, g1', g2', q3⟩ := HU.out.at (k := k) (by rw [HN.out]; exact hlt)
          obtain ⟨a3, c3, rfl⟩ := q3.shape
          have g1 := cell_later HB.out g1'
          have g2 := cell_later HB.out g2'
          obtain ⟨x, hx⟩ : ∃ x, (vs.getD k (0, [])).1 = x := ⟨_, rfl⟩
          obtain ⟨l, hl⟩ : ∃ l, (vs.getD k (0, [])).2.length = l := ⟨_, rfl⟩
          rw [hx] at g1
          rw [hl] at g2
          have HX := hide hx
          have HL := hide hl
          clear g1' g2' q3 hx hl
          by_cases hl0 : l = 0
          · subst hl0
            have hno : ¬ isVw vs := fun h => (h k (by rw [HN.out]; exact hlt)).1 (List.eq_nil_of_length_eq_zero HL.out)
            have hC1 : C = 1 := by have h := HC.out; simpa [hno] using h
            subst hC1
            have hRn : R = [] := by rw [HR.out]; rfl
            subst hRn
            clear hno
            go_wp2_with fail
            go_quiet (fail)
            have HBq := hide (below_on HB.out (below_drewN _ nq))
            have x0 := cell_later (below_drewN _ nq) HR0.out
            have x1 := cell_later (below_drewN _ nq) HR1.out
            have y0 := ((bcell (below_drewN _ nq)).2 _ _ (World.block_lt_of_cell? _ _ HR0.out)).trans HF0.out
            have y1 := ((bcell (below_drewN _ nq)).2 _ _ (World.block_lt_of_cell? _ _ HR0.out)).trans HF1'.out
            go_wp2
            refine bodyPost_ret (v := .agg #[.int .i64 1, .slice none 0 0]) (by simp [results, Tryz.results28, go_sem, x0, x1]) rfl ⟨_, rfl, ?_, OwP_nil _ _⟩
            repeat (first | refine Below.setCell ?_ (by first | (simp; done) | (simp; omega) | omega) _ | exact HBq.out)
          · have hl0' : ¬ ((l : Int) = 0) := by omega
            have hl0b : ((l : Int) == 0) = false := by simpa using hl0
            have HNe : Hid ((vs.getD k (0, [])).2 ≠ []) := fun h => hl0 (by rw [← HL.out, h]; rfl)
            by_cases hk0 : k = 0
            · subst hk0
              have e1' : wr.cell? ⟨b, off, none⟩ = some (.int .i64 x) := by simpa using g1
              have e2' : wr.cell? ⟨b, off + 1, none⟩ = some (.slice a3 l c3) := by simpa using g2
              clear g1 g2
              have HA' : Hid (∀ i, i < 0 + 1 → (vs.getD i (0, [])).2 ≠ [] ∧ (0 < i → (vs.getD (i - 1) (0, [])).1 < (vs.getD i (0, [])).1)) := fun i hi => by
                have : i = 0 := by omega
                subst this
                exact ⟨HNe.out, fun h => absurd h (Nat.lt_irrefl _)⟩
              go_wp2_with fail
              go_quiet (fail)
              have HBq := hide (below_on HB0.out (below_drewN _ nq))
              go_wp2
              go_roundw
              case rel => exact ⟨0 + 1, by omega, by go_num, HA'.out, HBq.out⟩
              case measure => simp [RowKit.intOf]; omega
            · have hkp : 0 < k := by omega
              obtain ⟨j, hjk⟩ : ∃ j, k = j + 1 := ⟨k - 1, by omega⟩
              obtain ⟨b', off', V', e', q1', _, _⟩ := HU.out.at (k := j) (by rw [HN.out]; omega)
              injection e' with e'
              injection e' with e1 e2
              subst e1 e2
              have g0 := cell_later HB.out q1'
              obtain ⟨y, hy⟩ : ∃ y, (vs.getD j (0, [])).1 = y := ⟨_, rfl⟩
              rw [hy] at g0
              have HY := hide hy
              clear hy q1'
              have hw1 : IntKind.i64.wrap ((k : Int) - 1) = (j : Int) := by simp [IntKind.wrap, IntKind.bits, IntKind.signed]; omega
              have hj0 : (0 : Int) < (k : Int) := by omega
              have hjp : (0 : Int) ≤ (j : Int) := by omega
              have hjn : (j : Int) < (n : Int) := by omega
              have HJK := hide hjk
              clear hk0 hjk
              by_cases hxy : x ≤ y
              · have hno : ¬ isVw vs := fun h => by
                  have := (h k (by rw [HN.out]; exact hlt)).2 (by have := HJK.out; omega)
                  rw [HX.out, show k - 1 = j by have := HJK.out; omega, HY.out] at this
                  omega
                have hC1 : C = 1 := by have h := HC.out; simpa [hno] using h
                subst hC1
                have hRn : R = [] := by rw [HR.out]; rfl
                subst hRn
                clear hno
                go_wp2_with fail
                go_quiet (fail)
                have HBq := hide (below_on HB.out (below_drewN _ nq))
                have x0 := cell_later (below_drewN _ nq) HR0.out
                have x1 := cell_later (below_drewN _ nq) HR1.out
                have y0 := ((bcell (below_drewN _ nq)).2 _ _ (World.block_lt_of_cell? _ _ HR0.out)).trans HF0.out
                have y1 := ((bcell (below_drewN _ nq)).2 _ _ (World.block_lt_of_cell? _ _ HR0.out)).trans HF1'.out
                go_wp2
                refine bodyPost_ret (v := .agg #[.int .i64 1, .slice none 0 0]) (by simp [results, Tryz.results28, go_sem, x0, x1]) rfl ⟨_, rfl, ?_, OwP_nil _ _⟩
                repeat (first | refine Below.setCell ?_ (by first | (simp; done) | (simp; omega) | omega) _ | exact HBq.out)
              · have hxy' : y < x := by omega
                have HA' : Hid (∀ i, i < k + 1 → (vs.getD i (0, [])).2 ≠ [] ∧ (0 < i → (vs.getD (i - 1) (0, [])).1 < (vs.getD i (0, [])).1)) := fun i hi => by
                  by_cases e : i = k
                  · subst e
                    exact ⟨HNe.out, fun _ => by rw [HX.out, show i - 1 = j by have := HJK.out; omega, HY.out]; exact hxy'⟩
                  · exact HA.out i (by omega)
                go_wp2_with fail
                go_quiet (fail)
                have HBq := hide (below_on HB0.out (below_drewN _ nq))
                go_wp2
                go_roundw
                case rel => exact ⟨k + 1, by omega, by go_num, HA'.out, HBq.out⟩
                case measure => simp [RowKit.intOf]; omega
        · have hkn : k = n := by omega
          subst hkn
          have hyes : isVw vs := fun i hi => HA.out i (by rw [HN.out] at hi; exact hi)
          have hC0 : C = 0 := by have h := HC.out; simpa [hyes] using h
          subst hC0
          have hRn : R = VW := by rw [HR.out]; rfl
          subst hRn
          have HA2 := hide (HAp.out wr HB.out rfl)
          have hzr := HB0.out.size
          clear hyes HA HAp HC HR
          go_wp2_with fail
          refine HA2.out.mono ?_
          rintro e w5 ⟨z5, rfl, hb5, ho5⟩
          obtain ⟨a5, k5, rfl⟩ := ho5.shape
          have x0 := cell_later hb5 HR0.out
          have x1 := cell_later hb5 HR1.out
          have y0 := ((bcell hb5).2 _ _ (show w.heap.size < wr.heap.size by omega)).trans HF0.out
          have y1 := ((bcell hb5).2 _ _ (show w.heap.size < wr.heap.size by omega)).trans HF1'.out
          have HFin := hide (ret_putsA (x := .int .i64 0) (below_on HB.out hb5) (r := w.heap.size) (Nat.le_refl _) ho5 (fun b hb => ⟨by omega, hb.2⟩))
          obtain ⟨lr, hlr⟩ : ∃ lr, R.length = lr := ⟨_, rfl⟩
          rw [hlr] at HFin ⊢
          clear hb5 ho5 hlr
          go_wp2
          exact bodyPost_ret (v := .agg #[.int .i64 0, .slice a5 lr k5]) (by simp [results, Tryz.results28, go_sem, x0, x1]) rfl ⟨_, rfl, HFin.out.1, HFin.out.2⟩
    · have hCp : C = q := by rw [HC.out, if_pos rfl, if_neg hq0]
      subst hCp
      have hRn : R = [] := by rw [HR.out, if_neg hq0]
      subst hRn
      go_enter Tryz.func28, Tryz.ntmps28
      go_wp2_with fail
      refine (HF1.out _ A0.out).mono ?_
      rintro e w1 ⟨rfl, nq1, hw1⟩
      have hb1 : Below (w.alloc (.cells #[.int .i64 0, .slice none 0 0] 35)).heap.size (w.alloc (.cells #[.int .i64 0, .slice none 0 0] 35)) w1 := by rw [hw1]; exact below_drewN _ nq1
      have B1 := hide (below_on A0.out hb1)
      clear hw1
      have q0 : w1.cell? ⟨w.heap.size, 0, none⟩ = some (.int .i64 0) := cell_later hb1 (by simp [go_sem])
      have q1 : w1.cell? ⟨w.heap.size, 1, none⟩ = some (.slice none 0 0) := cell_later hb1 (by simp [go_sem])
      have qf : ∀ o, w1.frozen? ⟨w.heap.size, o, none⟩ = false := fun o => ((bcell hb1).2 _ _ (by simp)).trans (by simp [go_sem])
      have hz1 : w.heap.size < w1.heap.size := World.block_lt_of_cell? _ _ q0
      clear hb1
      go_wp2_with fail
      refine (HF2.out _ B1.out).mono ?_
      rintro e w2 ⟨rfl, nq2, hw2⟩
      have hb2 : Below w1.heap.size w1 w2 := by rw [hw2]; exact below_drewN _ nq2
      have B2 := hide (below_on B1.out hb2)
      have r0 := cell_later hb2 q0
      have r1 := cell_later hb2 q1
      have f0 := ((bcell hb2).2 _ _ hz1).trans (qf 0)
      have f1 := ((bcell hb2).2 _ _ hz1).trans (qf 1)
      clear hw2 hb2 q0 q1 qf hz1 B1
      go_wp2
      refine bodyPost_ret (v := .agg #[.int .i64 C, .slice none 0 0]) (by simp [results, Tryz.results28, go_sem, r0, r1]) rfl ⟨_, rfl, ?_, OwP_nil _ _⟩
      repeat (first | refine Below.setCell ?_ (by first | (simp; done) | (simp; omega) | omega) _ | exact B2.out)
  · have hCp : C = p := by rw [HC.out, if_neg hp0]
    subst hCp
    have hRn : R = [] := by rw [HR.out, if_neg hp0]
    subst hRn
    go_enter Tryz.func28, Tryz.ntmps28
    go_wp2_with fail
    refine (HF1.out _ A0.out).mono ?_
    rintro e w1 ⟨rfl, nq1, hw1⟩
    have hb1 : Below (w.alloc (.cells #[.int .i64 0, .slice none 0 0] 35)).heap.size (w.alloc (.cells #[.int .i64 0, .slice none 0 0] 35)) w1 := by rw [hw1]; exact below_drewN _ nq1
    have B1 := hide (below_on A0.out hb1)
    clear hw1
    have q0 : w1.cell? ⟨w.heap.size, 0, none⟩ = some (.int .i64 0) := cell_later hb1 (by simp [go_sem])
    have q1 : w1.cell? ⟨w.heap.size, 1, none⟩ = some (.slice none 0 0) := cell_later hb1 (by simp [go_sem])
    have f0 : w1.frozen? ⟨w.heap.size, 0, none⟩ = false := ((bcell hb1).2 _ _ (by simp)).trans (by simp [go_sem])
    have f1 : w1.frozen? ⟨w.heap.size, 1, none⟩ = false := ((bcell hb1).2 _ _ (by simp)).trans (by simp [go_sem])
    clear hb1
    go_wp2
    refine bodyPost_ret (v := .agg #[.int .i64 C, .slice none 0 0]) (by simp [results, Tryz.results28, go_sem, q0, q1]) rfl ⟨_, rfl, ?_, OwP_nil _ _⟩
    repeat (first | refine Below.setCell ?_ (by first | (simp; done) | (simp; omega) | omega) _ | exact B1.out)
end Go.Proofs.YtamknomapabmfaaGreat
/- Chapter 5: what the loop of 'spec.PutsOf' keeps. -/
namespace Go.Proofs.YtamknomapabmfaaGreat
open Go.RowKit Go.Maps

theorem l4Last_no {S : Nat → Prop} {w : World} {v : Value} {qs : List (Int × List Int)} (a : Int) (hv : RdP S w v qs) (h : ∀ j, j < qs.length → (qs.getD j (0, [])).1 ≠ a) :
    Calls Tryz.prog 29 #[v, .int .i64 a] w fun e w' => e = .returned (.int .i64 (-1)) ∧ w' = w :=
  (l4Last a hv).mono fun e w' ⟨hw, h1⟩ => by
    rcases h1 with ⟨he, _⟩ | ⟨i, _, hi, ha, _⟩
    · exact ⟨he, hw⟩
    · exact absurd ha (h i hi)
theorem l4Last_at {S : Nat → Prop} {w : World} {v : Value} {qs : List (Int × List Int)} (a : Int) (hv : RdP S w v qs) (t : Nat) (ht : t < qs.length) (ha : (qs.getD t (0, [])).1 = a) (h : ∀ j, j < qs.length → (qs.getD j (0, [])).1 = a → j = t) :
    Calls Tryz.prog 29 #[v, .int .i64 a] w fun e w' => e = .returned (.int .i64 (t : Int)) ∧ w' = w :=
  (l4Last a hv).mono fun e w' ⟨hw, h1⟩ => by
    rcases h1 with ⟨_, hn⟩ | ⟨i, he, hi, hai, _⟩
    · exact absurd ha (hn t ht)
    · have := h i hi hai
      subst this
      exact ⟨he, hw⟩
theorem Inner.congrJ {P : Nat → Prop} {w : World} {row : Option Nat} {k : Nat} {V : Nat → Value} {Bk : Nat → Nat} {X X' : Nat → List Int} (h : Inner P w row k V Bk X) (hX : ∀ i, i < k → X' i = X i) : Inner P w row k V Bk X' :=
  ⟨fun i hi => by rw [hX i hi]; exact h.rd i hi, fun i hi hn => by
    rw [hX i hi] at hn
    obtain ⟨h1, h2, h3, h4, h5⟩ := h.own i hi hn
    exact ⟨h1, h2, h3, h4, fun j hj hj' => by rw [hX j hj] at hj'; exact h5 j hj hj'⟩⟩

/-- The answer that grows in the variable at block O: its row and its words are the call's own. -/
structure PoS (W : World) (O : Nat) (P : List (Int × List Int)) (j : Nat) (ao : Option Addr) (c : Nat) (wr : World) : Prop where
  row : ∃ V Bk, wr.ownsRow (O + 1) 38 2 (.slice ao j c) j (cellsP P j V) ∧ Inner (O < ·) wr (Value.slice ao j c).ownBlock j V Bk (fun i => (P.getD i (0, [])).2)
  below : Below O W wr
  lt : O < wr.heap.size
  h0 : wr.cell? ⟨O, 0, none⟩ = some (.int .i64 0)
  h1 : wr.cell? ⟨O, 1, none⟩ = some (.slice ao j c)
  hf : ∀ o, wr.frozen? ⟨O, o, none⟩ = false
theorem PoS.later {W wr w1 : World} {O j c : Nat} {P : List (Int × List Int)} {ao : Option Addr} (h : PoS W O P j ao c wr) (hb : Below wr.heap.size wr w1) : PoS W O P j ao c w1 := by
  obtain ⟨V, Bk, h1, h2⟩ := h.row
  exact ⟨⟨V, Bk, ownsRow_later h1 hb, h2.later hb⟩, h.below.trans (hb.mono (Nat.le_of_lt h.lt)), Nat.lt_of_lt_of_le h.lt hb.size, cell_later hb h.h0, cell_later hb h.h1, fun o => ((bcell hb).2 _ _ h.lt).trans (h.hf o)⟩
theorem PoS.built {W wr : World} {O j c : Nat} {P : List (Int × List Int)} {ao : Option Addr} (h : PoS W O P j ao c wr) : BuiltP (O < ·) wr (.slice ao j c) j P := by
  obtain ⟨V, Bk, h1, h2⟩ := h.row
  refine ⟨V, Bk, ⟨h1.1, ?_⟩, fun r hr => (h1.lt r hr).1, h2⟩
  rcases h1.2 with k | ⟨g, cap, cur, e, hg, hh, t⟩
  · exact Or.inl k
  · exact Or.inr ⟨g, cap, cur, e, Nat.zero_le _, hh, t⟩
theorem PoS.ow {W wr : World} {O j c : Nat} {P : List (Int × List Int)} {ao : Option Addr} (h : PoS W O P j ao c wr) (hj : P.length = j) (hm : j ≤ 64) : OwP (fun b => O < b ∧ b < wr.heap.size) wr (.slice ao j c) P := h.built.ow hj (by omega)
theorem PoS.at {W wr : World} {O j c t : Nat} {P : List (Int × List Int)} {ao : Option Addr} (h : PoS W O P j ao c wr) (ht : t < j) :
    ∃ g V, ao = some ⟨g, 0, none⟩ ∧ O < g ∧ g < wr.heap.size ∧ wr.cell? ⟨g, t * 2 + 1, none⟩ = some V ∧ (∀ o, wr.frozen? ⟨g, o, none⟩ = false) ∧ RdI (fun b => b < wr.heap.size) wr V (P.getD t (0, [])).2 := by
  obtain ⟨V, Bk, h1, h2⟩ := h.row
  obtain ⟨b, k1, k2⟩ : ∃ g, ao = some ⟨g, 0, none⟩ ∧ O + 1 ≤ g := by
    rcases h1.2 with ⟨_, e⟩ | ⟨g, cap, cur, e, hg, _⟩
    · omega
    · injection e with e1 _ _
      exact ⟨g, e1, hg⟩
  subst k1
  have hl := h1.lt b rfl
  refine ⟨b, V t, rfl, by omega, hl.2, (h1.cellAt (t * 2 + 1) (by omega)).trans (cellsP_words _ _ _ _ ht), fun o => ?_, ?_⟩
  · exact h1.frozenAt o
  · obtain ⟨a', c', e1, e2, e3⟩ := h2.rd t ht
    refine ⟨a', c', e1, e2, fun hne => ?_⟩
    obtain ⟨b', off, f1, f2, f3⟩ := e3 hne
    exact ⟨b', off, f1, World.block_lt_of_cell? _ _ (f3 0 (List.length_pos_iff.2 hne)), f3⟩
theorem PoS.app {W wr w2 w3 : World} {O j c g cap : Nat} {P : List (Int × List Int)} {ao : Option Addr} {z : Value} {x : Int} {ws : List Int} {o : Obj} {V : Nat → Value} {Bk : Nat → Nat} (h : PoS W O P j ao c wr)
    (hr : wr.ownsRow (O + 1) 38 2 (.slice ao j c) j (cellsP P j V)) (hI : Inner (O < ·) wr (Value.slice ao j c).ownBlock j V Bk (fun i => (P.getD i (0, [])).2)) (hj : P.length = j) (hb2 : Below wr.heap.size wr w2) (hz : OwI wr.heap.size w2 z ws)
    (hown : w3.ownsRow (O + 1) 38 2 (.slice (some ⟨g, 0, none⟩) (j + 1) cap) (j + 1) (cellsP P j V ++ [.int .i64 x, z])) (hg : (w2.alloc o).grownBy w3 (Value.slice ao j c).ownBlock) (hat : (Value.slice ao j c).ownBlock = some g ∨ g = (w2.alloc o).heap.size) :
    PoS W O (P ++ [(x, ws)]) (j + 1) (some ⟨g, 0, none⟩) cap (w3.setCell ⟨O, 1, none⟩ (.slice (some ⟨g, 0, none⟩) (j + 1) cap)) := by
  have hl := h.lt
  have hs2 := hb2.size
  have hnew : (P ++ [(x, ws)]).getD j (0, []) = (x, ws) := by rw [← hj]; simp [List.getD]
  have hold : ∀ i, i < j → (P ++ [(x, ws)]).getD i (0, []) = P.getD i (0, []) := fun i hi => by simp [List.getD, List.getElem?_append_left (show i < P.length by omega)]
  have hI2 := hI.congrJ (X' := fun i => ((P ++ [(x, ws)]).getD i (0, [])).2) (fun i hi => by rw [hold i hi])
  obtain ⟨Bk', hI3⟩ := hI2.step (P' := (O < ·)) (fun _ h => h) (fun b hb => by omega) (fun r hr' => (hr.lt r hr').2) hb2 (z := z) (by rw [hnew]; exact hz) (below_alloc w2 o) hg hat
  have hB : Below (O + 1) wr w3 := ((below_on hb2 (below_alloc w2 o)).mono (by omega)).grown hg (by simp; omega) (fun r hr' => (hr.lt r hr').1)
  have hs := hB.size
  have hc : ∀ o, w3.cell? ⟨O, o, none⟩ = wr.cell? ⟨O, o, none⟩ := fun o => hB.cell (p := ⟨O, o, none⟩) (Nat.lt_succ_self _)
  have hz' : ∀ o, w3.frozen? ⟨O, o, none⟩ = wr.frozen? ⟨O, o, none⟩ := fun o => hB.frozen (p := ⟨O, o, none⟩) (Nat.lt_succ_self _)
  refine ⟨⟨fun i => if i = j then z else V i, Bk', ?_, hI3.set (fun b hb e => by omega)⟩, ?_, by simp; omega, ?_, ?_, fun o => ?_⟩
  · have e := cellsP_snoc P (x, ws) V z
    rw [show (P ++ [(x, ws)]).length = j + 1 by simp [hj], hj] at e
    rw [e]
    exact ownsRow_set hown (fun e => by injection e with e; have := (hown.lt g rfl).1; dsimp only at e; omega)
  · exact (h.below.trans (hB.mono (by omega))).setCell (Nat.le_refl _) _
  · rw [World.cell?_setCell_other _ _ _ _ (by intro e; injection e with _ e; omega), hc]; exact h.h0
  · exact World.cell?_setCell_same _ _ _ ((hc _).trans h.h1)
  · rw [World.frozen?_setCell, hz']; exact h.hf o
theorem PoS.put {W wr w1 : World} {O j c t g : Nat} {P P' : List (Int × List Int)} {z : Value} {ws : List Int} (h : PoS W O P j (some ⟨g, 0, none⟩) c wr) (ht : t < j) (hb : Below wr.heap.size wr w1) (hz : OwI wr.heap.size w1 z ws)
    (hP : ∀ i, i < j → P'.getD i (0, []) = if i = t then ((P.getD i (0, [])).1, ws) else P.getD i (0, [])) : PoS W O P' j (some ⟨g, 0, none⟩) c (w1.setCell ⟨g, t * 2 + 1, none⟩ z) := by
  obtain ⟨V, Bk, h1, h2⟩ := h.row
  have hg := h1.lt g rfl
  obtain ⟨k1, Bk', k2⟩ := puts_set (P' := P') ht h1 h2 hb hz hP
  have hL := h.later hb
  refine ⟨⟨_, Bk', k1, k2⟩, hL.below.setCell (by dsimp only; omega) _, by simpa using hL.lt, ?_, ?_, fun o => by rw [World.frozen?_setCell]; exact hL.hf o⟩
  · rw [World.cell?_setCell_other _ _ _ _ (by intro e; injection e with e _; omega)]; exact hL.h0
  · rw [World.cell?_setCell_other _ _ _ _ (by intro e; injection e with e _; omega)]; exact hL.h1

/-- How the answer of k objects becomes that of one more. -/
theorem poR_len (L : List Int) (M : Int → List Int) : (poR L M).length = L.length := by simp [poR]
theorem poR_set {L : List Int} {M : Int → List Int} {a : Int} {ws : List Int} {t : Nat} (hn : L.Nodup) (ht : t < L.length) (ha : L.getD t 0 = a) (i : Nat) (hi : i < L.length) :
    (poR L (putM M (a, ws))).getD i (0, []) = if i = t then (((poR L M).getD i (0, [])).1, ws) else (poR L M).getD i (0, []) := by
  rw [poR_at _ _ _ hi, poR_at _ _ _ hi]
  by_cases e : i = t
  · subst e
    rw [if_pos rfl, ha]
    simp [putM]
  · rw [if_neg e]
    have : L.getD i 0 ≠ a := fun h => e (by
      have e1 : L.getD i 0 = L[i] := by simp [List.getD, hi]
      have e2 : L.getD t 0 = L[t] := by simp [List.getD, ht]
      rw [← ha, e1, e2] at h
      rcases Nat.lt_trichotomy i t with q | q | q
      · exact absurd h (List.pairwise_iff_getElem.1 hn i t hi ht q)
      · exact q
      · exact absurd h.symm (List.pairwise_iff_getElem.1 hn t i ht hi q))
    rw [show putM M (a, ws) (L.getD i 0) = M (L.getD i 0) from if_neg this]
theorem poM_out {M : Int → List Int} {os : List Oj} {a : Int} : ∀ k, k ≤ os.length → a ∉ poL os k → poM M os k a = M a
  | 0, _, _ => by simp [poM]
  | k + 1, hk, hn => by
    rw [poL_succ _ _ (by omega), ordL] at hn
    have h1 : a ∉ poL os k ∧ a ≠ (os.getD k oj0).1 := by
      by_cases e : (os.getD k oj0).1 ∈ poL os k
      · rw [if_pos e] at hn
        exact ⟨hn, fun h => hn (h ▸ e)⟩
      · rw [if_neg e] at hn
        exact ⟨fun h => hn (List.mem_append_left _ h), fun h => hn (List.mem_append_right _ (by simp [h]))⟩
    rw [poM_succ _ _ _ (by omega), ojM]
    have h2 := poM_out (M := M) k (by omega) h1.1
    exact (if_neg h1.2).trans h2
end Go.Proofs.YtamknomapabmfaaGreat
