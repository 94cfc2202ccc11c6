/- ApplyT Df3 Fi5b in one text: what each says stands at its head below. -/
import Derived.Test.YtlmaopljihbdkaaGreatG39
import Derived.Test.YtlmaopljihbdkaaGreatG28
import Derived.Test.YtlmaopljihbdkaaGreatG34
import Derived.Test.YtlmaopljihbdkaaGreatG13
import Derived.BigQuiet
import Derived.Test.YtlmaopljihbdkaaGreatG33
import Derived.Deep.AppendLies
namespace Go.Proofs.YtlmaopljihbdkaaGreat
open Go.RowKit Go.Maps
set_option maxHeartbeats 4000000 in
set_option maxRecDepth 4000 in
theorem specApplyPuts {S T : Nat → Prop} {w : World} {u v : Value} {vs ps : List (Int × List Int)} (hu : RdP S w u vs) (hv : RdP T w v ps) :
    Calls Tryz.prog 46 #[u, v] w (EndsP (apC vs ps) (apR vs ps) w) := by
  unfold EndsP
  have HU := hide (RdP_old hu)
  obtain ⟨au, cu, rfl, _⟩ := hu.shape
  obtain ⟨av, cv, rfl, _⟩ := hv.shape
  have HF1 := hide (fun (w' : World) (hb : Below w.heap.size w w') => l4Puts (hu.later hb))
  have HF2 := hide (fun (w' : World) (hb : Below w.heap.size w w') => l4Puts (hv.later hb))
  have HAp := hide (fun (w' : World) (hb : Below w.heap.size w w') (h : apC vs ps = 0) => l4Apply (hu.later hb) (hv.later hb) (apC_zero h).1 (apC_zero h).2.1 (apC_zero h).2.2)
  have HC : Hid (apC vs ps = if hpF 60 vs = 0 then (if hpF 60 ps = 0 then (if isVw vs then 0 else 1) else hpF 60 ps) else hpF 60 vs) := rfl
  have HR : Hid (apR vs ps = if apC vs ps = 0 then viewTo (apM vs ps) 40 else []) := rfl
  generalize hpF 60 vs = p at HF1 HC
  generalize hpF 60 ps = q at HF2 HC
  generalize viewTo (apM vs ps) 40 = VW at HR HAp
  generalize apR vs ps = R at HR ⊢
  generalize apC vs ps = C at HC HR HAp ⊢
  obtain ⟨n, hn⟩ : ∃ n, vs.length = n := ⟨_, rfl⟩
  obtain ⟨m, hm⟩ : ∃ m, ps.length = m := ⟨_, rfl⟩
  have HN := hide hn
  rw [hn] at HU HF1 HAp ⊢
  rw [hm] at HF2 HAp ⊢
  have hnl : n ≤ 9223372036854775807 := by obtain ⟨_, _, e1, e2, _⟩ := hu; rw [hn] at e2; exact e2
  clear hu hv hn hm
  have A0 := hide (below_alloc w (.cells #[.int .i64 0, .slice none 0 0] 29))
  by_cases hp0 : p = 0
  · subst hp0
    by_cases hq0 : q = 0
    · subst hq0
      go_enter Tryz.func46, Tryz.ntmps46
      go_wp2_with fail
      refine (HF1.out _ A0.out).mono ?_
      rintro e w1 ⟨rfl, nq1, hw1⟩
      have B1 := hide (below_on A0.out (by rw [hw1]; exact below_drewN _ nq1 : Below _ _ w1))
      have q0 : w1.cell? ⟨w.heap.size, 0, none⟩ = some (.int .i64 0) := by rw [hw1]; exact cell_later (below_drewN _ nq1) (by simp [go_sem])
      have q1 : w1.cell? ⟨w.heap.size, 1, none⟩ = some (.slice none 0 0) := by rw [hw1]; exact cell_later (below_drewN _ nq1) (by simp [go_sem])
      have qf : ∀ o, w1.frozen? ⟨w.heap.size, o, none⟩ = false := fun o => by rw [hw1]; exact ((bcell (below_drewN _ nq1)).2 _ _ (by simp)).trans (by simp [go_sem])
      have hz1 : w.heap.size < w1.heap.size := World.block_lt_of_cell? _ _ q0
      clear hw1
      go_wp2_with fail
      refine (HF2.out _ B1.out).mono ?_
      rintro e w2 ⟨rfl, nq2, hw2⟩
      have hb2 : Below w1.heap.size w1 w2 := by rw [hw2]; exact below_drewN _ nq2
      have B2 := hide (below_on B1.out hb2)
      have HQ0 := hide (cell_later hb2 q0)
      have HQ1 := hide (cell_later hb2 q1)
      have HQf : Hid (∀ o, w2.frozen? ⟨w.heap.size, o, none⟩ = false) := fun o => ((bcell hb2).2 _ _ hz1).trans (qf o)
      have hz2 : w.heap.size < w2.heap.size := World.block_lt_of_cell? _ _ HQ0.out
      clear hw2 hb2 q0 q1 qf hz1 B1
      go_wp2
      go_loopw [7] (fun i wr => ∃ k : Nat, k ≤ n ∧ i = .int .i64 (k : Int) ∧ Hid (∀ i, i < k → (vs.getD i (0, [])).2 ≠ [] ∧ (0 < i → (vs.getD (i - 1) (0, [])).1 < (vs.getD i (0, [])).1)) ∧ Hid (Below w2.heap.size w2 wr)) (fun i _ => n - (RowKit.intOf i).toNat)
      case atStart => exact ⟨0, Nat.zero_le _, rfl, fun i hi => absurd hi (Nat.not_lt_zero _), Below.refl _ _⟩
      case round =>
        obtain ⟨k, hk, rfl, HA, HB0⟩ := hrel
        have HB := hide (below_on B2.out HB0.out)
        have r0 := cell_later HB0.out HQ0.out
        have r1 := cell_later HB0.out HQ1.out
        have rf0 := ((bcell HB0.out).2 _ _ hz2).trans (HQf.out 0)
        have rf1 := ((bcell HB0.out).2 _ _ hz2).trans (HQf.out 1)
        have HR0 := hide r0
        have HR1 := hide r1
        have HF0 := hide rf0
        have HF1' := hide rf1
        clear r0 r1 rf0 rf1
        by_cases hlt : k < n
        · obtain ⟨b, off, V, rfl, g1', g2', q3⟩ := HU.out.at (k := k) (by rw [HN.out]; exact hlt)
          obtain ⟨a3, c3, rfl⟩ := q3.shape
          have g1 := cell_later HB.out g1'
          have g2 := cell_later HB.out g2'
          obtain ⟨x, hx⟩ : ∃ x, (vs.getD k (0, [])).1 = x := ⟨_, rfl⟩
          obtain ⟨l, hl⟩ : ∃ l, (vs.getD k (0, [])).2.length = l := ⟨_, rfl⟩
          rw [hx] at g1
          rw [hl] at g2
          have HX := hide hx
          have HL := hide hl
          clear g1' g2' q3 hx hl
          by_cases hl0 : l = 0
          · subst hl0
            have hno : ¬ isVw vs := fun h => (h k (by rw [HN.out]; exact hlt)).1 (List.eq_nil_of_length_eq_zero HL.out)
            have hC1 : C = 1 := by have h := HC.out; simpa [hno] using h
            subst hC1
            have hRn : R = [] := by rw [HR.out]; rfl
            subst hRn
            clear hno
            go_wp2_with fail
            go_quiet (fail)
            have HBq := hide (below_on HB.out (below_drewN _ nq))
            have x0 := cell_later (below_drewN _ nq) HR0.out
            have x1 := cell_later (below_drewN _ nq) HR1.out
            have y0 := ((bcell (below_drewN _ nq)).2 _ _ (World.block_lt_of_cell? _ _ HR0.out)).trans HF0.out
            have y1 := ((bcell (below_drewN _ nq)).2 _ _ (World.block_lt_of_cell? _ _ HR0.out)).trans HF1'.out
            go_wp2
            refine bodyPost_ret (v := .agg #[.int .i64 1, .slice none 0 0]) (by simp [results, Tryz.results46, go_sem, x0, x1]) rfl ⟨_, rfl, ?_, OwP_nil _ _⟩
            repeat (first | refine Below.setCell ?_ (by first | (simp; done) | (simp; omega) | omega) _ | exact HBq.out)
          · have hl0' : ¬ ((l : Int) = 0) := by omega
            have hl0b : ((l : Int) == 0) = false := by simpa using hl0
            have HNe : Hid ((vs.getD k (0, [])).2 ≠ []) := fun h => hl0 (by rw [← HL.out, h]; rfl)
            by_cases hk0 : k = 0
            · subst hk0
              have e1' : wr.cell? ⟨b, off, none⟩ = some (.int .i64 x) := by simpa using g1
              have e2' : wr.cell? ⟨b, off + 1, none⟩ = some (.slice a3 l c3) := by simpa using g2
              clear g1 g2
              have HA' : Hid (∀ i, i < 0 + 1 → (vs.getD i (0, [])).2 ≠ [] ∧ (0 < i → (vs.getD (i - 1) (0, [])).1 < (vs.getD i (0, [])).1)) := fun i hi => by
                have : i = 0 := by omega
                subst this
                exact ⟨HNe.out, fun h => absurd h (Nat.lt_irrefl _)⟩
              go_wp2_with fail
              go_quiet (fail)
              have HBq := hide (below_on HB0.out (below_drewN _ nq))
              go_wp2
              go_roundw
              case rel => exact ⟨0 + 1, by omega, by go_num, HA'.out, HBq.out⟩
              case measure => simp [RowKit.intOf]; omega
            · have hkp : 0 < k := by omega
              obtain ⟨j, hjk⟩ : ∃ j, k = j + 1 := ⟨k - 1, by omega⟩
              obtain ⟨b', off', V', e', q1', _, _⟩ := HU.out.at (k := j) (by rw [HN.out]; omega)
              injection e' with e'
              injection e' with e1 e2
              subst e1 e2
              have g0 := cell_later HB.out q1'
              obtain ⟨y, hy⟩ : ∃ y, (vs.getD j (0, [])).1 = y := ⟨_, rfl⟩
              rw [hy] at g0
              have HY := hide hy
              clear hy q1'
              have hw1 : IntKind.i64.wrap ((k : Int) - 1) = (j : Int) := by simp [IntKind.wrap, IntKind.bits, IntKind.signed]; omega
              have hj0 : (0 : Int) < (k : Int) := by omega
              have hjp : (0 : Int) ≤ (j : Int) := by omega
              have hjn : (j : Int) < (n : Int) := by omega
              have HJK := hide hjk
              clear hk0 hjk
              by_cases hxy : x ≤ y
              · have hno : ¬ isVw vs := fun h => by
                  have := (h k (by rw [HN.out]; exact hlt)).2 (by have := HJK.out; omega)
                  rw [HX.out, show k - 1 = j by have := HJK.out; omega, HY.out] at this
                  omega
                have hC1 : C = 1 := by have h := HC.out; simpa [hno] using h
                subst hC1
                have hRn : R = [] := by rw [HR.out]; rfl
                subst hRn
                clear hno
                go_wp2_with fail
                go_quiet (fail)
                have HBq := hide (below_on HB.out (below_drewN _ nq))
                have x0 := cell_later (below_drewN _ nq) HR0.out
                have x1 := cell_later (below_drewN _ nq) HR1.out
                have y0 := ((bcell (below_drewN _ nq)).2 _ _ (World.block_lt_of_cell? _ _ HR0.out)).trans HF0.out
                have y1 := ((bcell (below_drewN _ nq)).2 _ _ (World.block_lt_of_cell? _ _ HR0.out)).trans HF1'.out
                go_wp2
                refine bodyPost_ret (v := .agg #[.int .i64 1, .slice none 0 0]) (by simp [results, Tryz.results46, go_sem, x0, x1]) rfl ⟨_, rfl, ?_, OwP_nil _ _⟩
                repeat (first | refine Below.setCell ?_ (by first | (simp; done) | (simp; omega) | omega) _ | exact HBq.out)
              · have hxy' : y < x := by omega
                have HA' : Hid (∀ i, i < k + 1 → (vs.getD i (0, [])).2 ≠ [] ∧ (0 < i → (vs.getD (i - 1) (0, [])).1 < (vs.getD i (0, [])).1)) := fun i hi => by
                  by_cases e : i = k
                  · subst e
                    exact ⟨HNe.out, fun _ => by rw [HX.out, show i - 1 = j by have := HJK.out; omega, HY.out]; exact hxy'⟩
                  · exact HA.out i (by omega)
                go_wp2_with fail
                go_quiet (fail)
                have HBq := hide (below_on HB0.out (below_drewN _ nq))
                go_wp2
                go_roundw
                case rel => exact ⟨k + 1, by omega, by go_num, HA'.out, HBq.out⟩
                case measure => simp [RowKit.intOf]; omega
        · have hkn : k = n := by omega
          subst hkn
          have hyes : isVw vs := fun i hi => HA.out i (by rw [HN.out] at hi; exact hi)
          have hC0 : C = 0 := by have h := HC.out; simpa [hyes] using h
          subst hC0
          have hRn : R = VW := by rw [HR.out]; rfl
          subst hRn
          have HA2 := hide (HAp.out wr HB.out rfl)
          have hzr := HB0.out.size
          clear hyes HA HAp HC HR
          go_wp2_with fail
          refine HA2.out.mono ?_
          rintro e w5 ⟨z5, rfl, hb5, ho5⟩
          obtain ⟨a5, k5, rfl⟩ := ho5.shape
          have x0 := cell_later hb5 HR0.out
          have x1 := cell_later hb5 HR1.out
          have y0 := ((bcell hb5).2 _ _ (show w.heap.size < wr.heap.size by omega)).trans HF0.out
          have y1 := ((bcell hb5).2 _ _ (show w.heap.size < wr.heap.size by omega)).trans HF1'.out
          have HFin := hide (ret_putsA (x := .int .i64 0) (below_on HB.out hb5) (r := w.heap.size) (Nat.le_refl _) ho5 (fun b hb => ⟨by omega, hb.2⟩))
          obtain ⟨lr, hlr⟩ : ∃ lr, R.length = lr := ⟨_, rfl⟩
          rw [hlr] at HFin ⊢
          clear hb5 ho5 hlr
          go_wp2
          exact bodyPost_ret (v := .agg #[.int .i64 0, .slice a5 lr k5]) (by simp [results, Tryz.results46, go_sem, x0, x1]) rfl ⟨_, rfl, HFin.out.1, HFin.out.2⟩
    · have hCp : C = q := by rw [HC.out, if_pos rfl, if_neg hq0]
      subst hCp
      have hRn : R = [] := by rw [HR.out, if_neg hq0]
      subst hRn
      go_enter Tryz.func46, Tryz.ntmps46
      go_wp2_with fail
      refine (HF1.out _ A0.out).mono ?_
      rintro e w1 ⟨rfl, nq1, hw1⟩
      have hb1 : Below (w.alloc (.cells #[.int .i64 0, .slice none 0 0] 29)).heap.size (w.alloc (.cells #[.int .i64 0, .slice none 0 0] 29)) w1 := by rw [hw1]; exact below_drewN _ nq1
      have B1 := hide (below_on A0.out hb1)
      clear hw1
      have q0 : w1.cell? ⟨w.heap.size, 0, none⟩ = some (.int .i64 0) := cell_later hb1 (by simp [go_sem])
      have q1 : w1.cell? ⟨w.heap.size, 1, none⟩ = some (.slice none 0 0) := cell_later hb1 (by simp [go_sem])
      have qf : ∀ o, w1.frozen? ⟨w.heap.size, o, none⟩ = false := fun o => ((bcell hb1).2 _ _ (by simp)).trans (by simp [go_sem])
      have hz1 : w.heap.size < w1.heap.size := World.block_lt_of_cell? _ _ q0
      clear hb1
      go_wp2_with fail
      refine (HF2.out _ B1.out).mono ?_
      rintro e w2 ⟨rfl, nq2, hw2⟩
      have hb2 : Below w1.heap.size w1 w2 := by rw [hw2]; exact below_drewN _ nq2
      have B2 := hide (below_on B1.out hb2)
      have r0 := cell_later hb2 q0
      have r1 := cell_later hb2 q1
      have f0 := ((bcell hb2).2 _ _ hz1).trans (qf 0)
      have f1 := ((bcell hb2).2 _ _ hz1).trans (qf 1)
      clear hw2 hb2 q0 q1 qf hz1 B1
      go_wp2
      refine bodyPost_ret (v := .agg #[.int .i64 C, .slice none 0 0]) (by simp [results, Tryz.results46, go_sem, r0, r1]) rfl ⟨_, rfl, ?_, OwP_nil _ _⟩
      repeat (first | refine Below.setCell ?_ (by first | (simp; done) | (simp; omega) | omega) _ | exact B2.out)
  · have hCp : C = p := by rw [HC.out, if_neg hp0]
    subst hCp
    have hRn : R = [] := by rw [HR.out, if_neg hp0]
    subst hRn
    go_enter Tryz.func46, Tryz.ntmps46
    go_wp2_with fail
    refine (HF1.out _ A0.out).mono ?_
    rintro e w1 ⟨rfl, nq1, hw1⟩
    have hb1 : Below (w.alloc (.cells #[.int .i64 0, .slice none 0 0] 29)).heap.size (w.alloc (.cells #[.int .i64 0, .slice none 0 0] 29)) w1 := by rw [hw1]; exact below_drewN _ nq1
    have B1 := hide (below_on A0.out hb1)
    clear hw1
    have q0 : w1.cell? ⟨w.heap.size, 0, none⟩ = some (.int .i64 0) := cell_later hb1 (by simp [go_sem])
    have q1 : w1.cell? ⟨w.heap.size, 1, none⟩ = some (.slice none 0 0) := cell_later hb1 (by simp [go_sem])
    have f0 : w1.frozen? ⟨w.heap.size, 0, none⟩ = false := ((bcell hb1).2 _ _ (by simp)).trans (by simp [go_sem])
    have f1 : w1.frozen? ⟨w.heap.size, 1, none⟩ = false := ((bcell hb1).2 _ _ (by simp)).trans (by simp [go_sem])
    clear hb1
    go_wp2
    refine bodyPost_ret (v := .agg #[.int .i64 C, .slice none 0 0]) (by simp [results, Tryz.results46, go_sem, q0, q1]) rfl ⟨_, rfl, ?_, OwP_nil _ _⟩
    repeat (first | refine Below.setCell ?_ (by first | (simp; done) | (simp; omega) | omega) _ | exact B1.out)
end Go.Proofs.YtlmaopljihbdkaaGreat
namespace Go.Proofs.YtlmaopljihbdkaaGreat
open Go.RowKit Go.Maps
theorem lk_upto (ps : List (Int × List Int)) (a : Int) (i : Nat) (hi : i < ps.length) (ha : (ps.getD i (0, [])).1 = a) (hl : ∀ j, i < j → j < ps.length → (ps.getD j (0, [])).1 ≠ a) : ∀ k, i < k → k ≤ ps.length → (ps.take k).foldl putM (fun _ => []) a = (ps.getD i (0, [])).2 := by
  intro k
  induction k with
  | zero => intro h; omega
  | succ k ih =>
    intro h1 h2
    rw [foldl_take putM (0, []) _ ps k (by omega)]
    by_cases e : k = i
    · subst e
      unfold putM
      rw [if_pos ha.symm]
    · have := hl k (by omega) (by omega)
      unfold putM at ih ⊢
      rw [if_neg (fun h => this h.symm)]
      exact ih (by omega) (by omega)
theorem lk_none (ps : List (Int × List Int)) (a : Int) (hl : ∀ j, j < ps.length → (ps.getD j (0, [])).1 ≠ a) : ∀ k, k ≤ ps.length → (ps.take k).foldl putM (fun _ => []) a = [] := by
  intro k
  induction k with
  | zero => intro _; rfl
  | succ k ih =>
    intro h2
    rw [foldl_take putM (0, []) _ ps k (by omega)]
    have := hl k (by omega)
    unfold putM at ih ⊢
    rw [if_neg (fun h => this h.symm)]
    exact ih (by omega)
set_option maxHeartbeats 2000000 in
set_option maxRecDepth 4000 in
theorem l11AtQ {S : Nat → Prop} {w : World} {v : Value} {ps : List (Int × List Int)} (hv : RdP S w v ps) (a : Int) :
    ∃ z, RdI S w z (lkP ps a) ∧ ∀ q, Calls Tryz.prog 91 #[v, .int .i64 a] (w.drewN q) fun e w' => e = .returned z ∧ ∃ q', w' = (w.drewN q).drewN q' := by
  obtain ⟨ao, c, rfl, _⟩ := hv.shape
  by_cases hex : ∃ i, i < ps.length ∧ (ps.getD i (0, [])).1 = a ∧ ∀ j, i < j → j < ps.length → (ps.getD j (0, [])).1 ≠ a
  · obtain ⟨i, hi, ha, hl⟩ := hex
    obtain ⟨b, off, z, rfl, q1, q2, q3⟩ := hv.at (k := i) hi
    have hlk : lkP ps a = (ps.getD i (0, [])).2 := by have := lk_upto ps a i hi ha hl ps.length hi (Nat.le_refl _); rwa [List.take_length] at this
    refine ⟨z, by rw [hlk]; exact q3, fun q => ?_⟩
    obtain ⟨az, cz, rfl⟩ := q3.shape
    have HL := hide (l4Last a (hv.later (below_drewN _ q)))
    have HQ := hide (hv.later (below_drewN _ q))
    have p2 : (w.drewN q).cell? ⟨b, off + i * 2 + 1, none⟩ = some (.slice az (ps.getD i (0, [])).2.length cz) := q2
    have HU : Hid (∀ i', i' < ps.length → (ps.getD i' (0, [])).1 = a → (∀ j, i' < j → j < ps.length → (ps.getD j (0, [])).1 ≠ a) → i' = i) := fun i' h1 h2 h3 => by
      rcases Nat.lt_trichotomy i' i with h | h | h
      · exact absurd ha (h3 i h hi)
      · exact h
      · exact absurd h2 (hl i' h h1)
    have HNo : Hid (¬ ∀ j, j < ps.length → (ps.getD j (0, [])).1 ≠ a) := fun h => h i hi ha
    obtain ⟨n, hn⟩ : ∃ n, ps.length = n := ⟨_, rfl⟩
    have hi' : (i : Int) < (n : Int) := by omega
    rw [hn] at HL ⊢
    obtain ⟨lz, hlz⟩ : ∃ n, (ps.getD i (0, [])).2.length = n := ⟨_, rfl⟩
    rw [hlz] at p2 ⊢
    obtain ⟨wq, hwq⟩ : ∃ wq, w.drewN q = wq := ⟨_, rfl⟩
    rw [hwq] at HL p2 ⊢
    clear hwq hv q1 q2 q3 hlk ha hl HQ hlz
    go_enter Tryz.func91, Tryz.ntmps91
    go_wp2_with fail
    refine HL.out.mono ?_
    rintro e w1 ⟨hw1, (⟨_, h2⟩ | ⟨i', rfl, h1, h2, h3⟩)⟩
    · exact absurd (by rw [hn]; exact h2) HNo.out
    · obtain rfl := HU.out i' (by omega) h2 (by rw [hn]; exact h3)
      have e1 := hw1.symm
      subst e1
      have hi0 : (0 : Int) ≤ (i' : Int) := by omega
      clear h1 h2 h3 hw1
      go_wp2
      go_ret
      exact ⟨rfl, 0, rfl⟩
  · have hno : ∀ j, j < ps.length → (ps.getD j (0, [])).1 ≠ a := by
      have hh : ∀ d j, ps.length - j = d → j < ps.length → (ps.getD j (0, [])).1 = a → False := by
        intro d
        induction d using Nat.strongRecOn with
        | ind d ih =>
          intro j hd hj ha
          refine hex ⟨j, hj, ha, fun k hk hkl e => ih (ps.length - k) (by omega) k rfl hkl e⟩
      exact fun j hj ha => hh _ j rfl hj ha
    have hlk : lkP ps a = [] := by have := lk_none ps a hno ps.length (Nat.le_refl _); rwa [List.take_length] at this
    refine ⟨.slice none 0 0, by rw [hlk]; exact RdI_nil _ _ none 0, fun q => ?_⟩
    have HL := hide (l4Last a (hv.later (below_drewN _ q)))
    obtain ⟨wq, hwq⟩ : ∃ wq, w.drewN q = wq := ⟨_, rfl⟩
    rw [hwq] at HL ⊢
    have HEx := hide hex
    clear hwq hv hno hlk hex
    go_enter Tryz.func91, Tryz.ntmps91
    go_wp2_with fail
    refine HL.out.mono ?_
    rintro e w1 ⟨hw1, (⟨rfl, h2⟩ | ⟨i', _, h1, h2, h3⟩)⟩
    · have e1 := hw1.symm
      subst e1
      clear hw1 h2
      go_wp2
      go_ret
      exact ⟨rfl, 0, rfl⟩
    · exact absurd ⟨i', h1, h2, h3⟩ HEx.out
theorem RowP.empty (w : World) : RowP w.heap.size (w.alloc (.cells #[] 74)) (.slice (some ⟨w.heap.size, 0, none⟩) 0 0) [] :=
  ⟨fun _ => .bool false, World.ownsRow_made w #[] 0 (Nat.le_refl _) (by unfold maxLen; omega) (by simp), fun i hi => absurd hi (by simp)⟩
end Go.Proofs.YtlmaopljihbdkaaGreat
namespace Go.Proofs.YtlmaopljihbdkaaGreat
open Go.RowKit
set_option maxHeartbeats 4000000 in
set_option maxRecDepth 4000 in
theorem l8Pack {S : Nat → Prop} {w : World} {v : Value} {fs : List Oj} (hv : RdJ S w v fs) (hsm : (pkF fs).length ≤ 1048576) :
    Calls Tryz.prog 68 #[v] w fun e w' => ∃ z, e = .returned z ∧ Below w.heap.size w w' ∧ w'.ownsRow w.heap.size 2 1 z (pkF fs).length ((pkF fs).map (Value.int .i64)) := by
  obtain ⟨av, cv, rfl, hm⟩ := hv.shape
  have HV := hide hv
  obtain ⟨n, hn⟩ : ∃ n, fs.length = n := ⟨_, rfl⟩
  have HN := hide hn
  rw [hn] at HV hm ⊢
  clear hv hn
  obtain ⟨i0, hi, hz0, hz1, hz2⟩ := info_parts Tryz.infoInt
  have HAll := hide (pkTo_all HN.out)
  have HLs := hide (fun k hk => pkTo_len n fs k hk)
  obtain ⟨R, hR⟩ : ∃ R, pkF fs = R := ⟨_, rfl⟩
  rw [hR] at HAll HLs hsm ⊢
  clear hR
  have HRow0 : Hid ((w.alloc (.cells #[.int .i64 (n : Int)] 2)).ownsRow w.heap.size 2 1 (.slice (some ⟨w.heap.size, 0, none⟩) 1 1) 1 ((pkTo n fs 0).map (Value.int .i64))) :=
    ownsRow_fullF w [.int .i64 (n : Int)] 2 (by simp)
  have HB0 := hide (below_alloc w (.cells #[.int .i64 (n : Int)] 2))
  go_enter Tryz.func68, Tryz.ntmps68
  go_wp2
  go_loopw [3, 4] (fun v i wr => ∃ (k j : Nat), k ≤ n ∧ i = .int .i64 k ∧ Hid ((pkTo n fs k).length = j) ∧ Hid (wr.ownsRow w.heap.size 2 1 v j ((pkTo n fs k).map (Value.int .i64))) ∧ Hid (Below w.heap.size w wr)) (fun _ i _ => n - (RowKit.intOf i).toNat)
  case atStart => exact ⟨0, 1, Nat.zero_le _, rfl, rfl, HRow0.out, HB0.out⟩
  case round =>
    clear HRow0 HB0
    obtain ⟨k, j, hk, rfl, HJ, HRow, HB⟩ := hrel
    by_cases hlt : k < n
    · obtain ⟨b, off, rfl, y, q0, q1, q2, q3⟩ := HV.out.file (k := k) (by rw [HN.out]; exact hlt)
      have HSn := hide (pkTo_succ n fs k (by rw [HN.out]; exact hlt))
      have hjl : j + 2 + (fs.getD k oj0).2.2.length ≤ 1048576 := by
        have h1 := HLs.out (k + 1) (by rw [HN.out]; exact hlt)
        rw [HSn.out] at h1
        simp only [List.length_append, HJ.out, List.length_cons, List.length_nil] at h1
        omega
      obtain ⟨p, hp⟩ : ∃ p, fs.getD k oj0 = p := ⟨_, rfl⟩
      rw [hp] at q0 q1 q3 HSn hjl
      obtain ⟨a, s, xs⟩ := p
      dsimp only at q0 q1 q3 HSn hjl
      have g0 := cell_later HB.out q0
      have g1 := cell_later HB.out q1
      have g2 := cell_later HB.out q2
      obtain ⟨a3, c3, rfl⟩ := q3.shape
      obtain ⟨l, hl⟩ : ∃ l, xs.length = l := ⟨_, rfl⟩
      rw [hl] at g2 q2 q3 hjl
      have HQ2 := hide q2
      have HQ3 := hide q3
      have HL := hide hl
      have hzz := HB.out.size
      have hbl : b < wr.heap.size := World.block_lt_of_cell? _ _ g0
      have hbw : b < w.heap.size := World.block_lt_of_cell? _ _ q0
      clear hp q0 q1 q2 q3 hl
      have hk0 : (0 : Int) ≤ (k : Int) := by omega
      have hk1 : (k : Int) < (n : Int) := by omega
      obtain ⟨P, hP⟩ : ∃ P, pkTo n fs k = P := ⟨_, rfl⟩
      rw [hP] at HJ HRow HSn
      clear hP
      have HRowd : Hid (wr.drew.ownsRow w.heap.size 2 1 u3 j (P.map (Value.int .i64))) := HRow.out
      have HPk : Hid (∀ (cap g : Nat) (w4 : World), w4.ownsRow w.heap.size 2 1 (.slice (some ⟨g, 0, none⟩) (j + 2) cap) (j + 2) (P.map (Value.int .i64) ++ [.int .i64 a, .int .i64 s]) → (wr.drew.alloc (.cells #[.int .i64 a, .int .i64 s] 2)).grownBy w4 u3.ownBlock →
          w4.cell? ⟨b, off + k * 3 + 2, none⟩ = some (.slice a3 l c3) ∧ Below w.heap.size w w4 ∧ w.heap.size ≤ w4.heap.size ∧ (l ≠ 0 → ∃ ad, a3 = some ad ∧ ∀ j u, (xs.map (Value.int .i64))[j]? = some u → w4.cell? (ad.add j) = some u)) := by
        intro cap g w4 hown3 hgrow
        have bB := below_on (below_drewN wr 1) (below_alloc (wr.drewN 1) (.cells #[.int .i64 a, .int .i64 s] 2))
        have HB4 := (below_on HB.out bB).grown hgrow (by simp; omega) (fun r hr => (HRow.out.lt r hr).1)
        obtain ⟨a4, c4, e4, hsrc⟩ := (HQ3.out.later HB4).src
        injection e4 with e5 _ e6
        subst e5
        rw [HL.out] at hsrc
        exact ⟨cell_later HB4 HQ2.out, HB4, HB4.size, hsrc⟩
      go_wp2_with fail
      go_region_law (first
        | (refine step_append_fi _ (by rfl) _ _ _ (by rfl) w.heap.size 2 i0 (.int .i64 0) 1 8 Tryz.underlying22 hi hz0 hz1 hz2 rfl (by decide) (.slice (some ⟨g, 0, none⟩) (j + 2) cap) (j + 2) _ (by rfl) HRow4.out a3 l c3 (xs.map (Value.int .i64)) (by rfl) (by simp [HL.out]) HS.out (ints_oneCell _ _) (by unfold maxLen; omega) (by omega) (by omega) ?_; intro v' w5 hown hgrow)
        | (refine step_append_lies _ (by rfl) _ _ _ (by rfl) w.heap.size 2 i0 (.int .i64 0) 1 8 Tryz.underlying22 hi hz0 hz1 hz2 rfl (by omega) u3 j _ (by rfl) (HRowd.out.alloc (.cells #[.int .i64 a, .int .i64 s] 2)) ⟨wr.heap.size, 0, none⟩ 2 2 [.int .i64 a, .int .i64 s] (by rfl) (by rfl) (World.news_of_block (cs := #[.int .i64 a, .int .i64 s]) (t := 2) (fr := (0, 0)) (heap_alloc_new wr.drew _)) (by simp [Value.oneCell']) (by omega) (by unfold maxLen; omega) (by omega) (by simp; omega) (wr.heap.size + 1) (by simp) ?_; intro g cap w4 hown3 hgrow3 hat hlt3; obtain ⟨d2, hb4, hz4, hsrc⟩ := HPk.out cap g w4 hown3 hgrow3; have HB4 := hide hb4; have HS := hide hsrc; have HRow4 := hide hown3; clear hown3 hgrow3 hat hlt3 hb4 hsrc HPk))
      all_goals
        have HRow5 : Hid (w5.ownsRow w.heap.size 2 1 v' (j + 2 + l) ((pkTo n fs (k + 1)).map (Value.int .i64))) := by
          rw [Hid, HSn.out, List.map_append, List.map_append]
          exact hown
        have HB5 := hide (HB4.out.grown hgrow (by omega) (fun r hr => (HRow4.out.lt r hr).1))
        have HJ5 : Hid ((pkTo n fs (k + 1)).length = j + 2 + l) := by rw [Hid, HSn.out, List.length_append, List.length_append, HJ.out, HL.out]; rfl
        clear hown hgrow
        go_wp2
        go_roundw
        case rel => exact ⟨k + 1, j + 2 + l, by omega, by go_num, HJ5.out, HRow5.out, HB5.out⟩
        case measure => simp [RowKit.intOf]; omega
    · have hkn : k = n := by omega
      subst hkn
      rw [HAll.out] at HJ HRow
      go_wp2
      go_ret
      exact ⟨_, rfl, HB.out, by rw [HJ.out]; exact HRow.out⟩
end Go.Proofs.YtlmaopljihbdkaaGreat
