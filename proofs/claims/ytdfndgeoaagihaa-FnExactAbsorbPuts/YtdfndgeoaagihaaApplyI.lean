/- Chapter 4: 'impl.ApplyPuts', walked. -/
import Derived.Test.YtdfndgeoaagihaaApplyM
import Derived.Test.YtdfndgeoaagihaaIvP
import Derived.Carry
namespace Go.Proofs.Ytdfndgeoaagihaa
open Go.RowKit Go.Maps

instance (ps : List (Int × List Int)) : Decidable (isVw ps) := by unfold isVw; infer_instance

/-- The code of ApplyPuts; the view that it tells. -/
def apC (vs ps : List (Int × List Int)) : Int := if hpF 60 vs = 0 then (if hpF 60 ps = 0 then (if isVw vs then 0 else 1) else hpF 60 ps) else hpF 60 vs
def apM (vs ps : List (Int × List Int)) : Int → List Int := ps.foldl putM (vs.foldl putM fun _ => [])
def apR (vs ps : List (Int × List Int)) : List (Int × List Int) := if apC vs ps = 0 then viewTo (apM vs ps) 40 else []
theorem apC_zero {vs ps : List (Int × List Int)} (h : apC vs ps = 0) : hpF 60 vs = 0 ∧ hpF 60 ps = 0 ∧ isVw vs := by
  unfold apC at h
  by_cases h1 : hpF 60 vs = 0
  · rw [if_pos h1] at h
    by_cases h2 : hpF 60 ps = 0
    · rw [if_pos h2] at h
      by_cases h3 : isVw vs
      · exact ⟨h1, h2, h3⟩
      · rw [if_neg h3] at h; exact absurd h (by decide)
    · rw [if_neg h2] at h; exact absurd h h2
  · rw [if_neg h1] at h; exact absurd h h1
theorem apM_len {vs ps : List (Int × List Int)} (h1 : hpF 60 vs = 0) (h2 : hpF 60 ps = 0) (a : Int) : (apM vs ps a).length ≤ 64 :=
  foldl_len (foldl_len (by simp) (fun i hi => ((hpF_all h1).2 i hi).2.2)) (fun i hi => ((hpF_all h2).2 i hi).2.2)
theorem RdP_old {S : Nat → Prop} {w : World} {v : Value} {ps : List (Int × List Int)} (h : RdP S w v ps) : RdP (fun b => b < w.heap.size) w v ps := by
  obtain ⟨ao, c, e1, e2, e3⟩ := h
  refine ⟨ao, c, e1, e2, fun hne => ?_⟩
  obtain ⟨b, off, V, f1, f2, f3⟩ := e3 hne
  refine ⟨b, off, V, f1, World.block_lt_of_cell? _ _ (f3 0 (List.length_pos_iff.2 hne)).1, fun i hi => ⟨(f3 i hi).1, (f3 i hi).2.1, ?_⟩⟩
  obtain ⟨ao', c', k1, k2, k3⟩ := (f3 i hi).2.2
  refine ⟨ao', c', k1, k2, fun hn => ?_⟩
  obtain ⟨b', off', m1, m2, m3⟩ := k3 hn
  exact ⟨b', off', m1, World.block_lt_of_cell? _ _ (m3 0 (List.length_pos_iff.2 hn)), m3⟩
theorem below_grown {w w1 w2 : World} {B : Nat} (hb : Below w.heap.size w w1) (hg : w1.grownBy w2 (some B)) (hB : w.heap.size ≤ B) : Below w.heap.size w w2 :=
  hb.grown hg hb.size (fun r hr => by injection hr with hr; omega)
/-- The end of a function that stores a code and puts into its result's variable. -/
theorem ret_putsA {w w3 : World} {P : Nat → Prop} {r : Nat} {z x : Value} {ps : List (Int × List Int)} (hb : Below w.heap.size w w3) (hr : w.heap.size ≤ r) (ho : OwP P w3 z ps) (hP : ∀ b, P b → r < b ∧ b < w3.heap.size) :
    Below w.heap.size w ((w3.setCell ⟨r, 0, none⟩ x).setCell ⟨r, 1, none⟩ z) ∧ OwP (fun b => w.heap.size ≤ b ∧ b < ((w3.setCell ⟨r, 0, none⟩ x).setCell ⟨r, 1, none⟩ z).heap.size) ((w3.setCell ⟨r, 0, none⟩ x).setCell ⟨r, 1, none⟩ z) z ps := by
  have hw : Wr (fun y => y = r) w3 ((w3.setCell ⟨r, 0, none⟩ x).setCell ⟨r, 1, none⟩ z) := ((Wr.refl (fun y => y = r) _).setCell (p := ⟨r, 0, none⟩) rfl _).setCell (p := ⟨r, 1, none⟩) rfl _
  exact ⟨(hb.setCell (p := ⟨r, 0, none⟩) hr _).setCell (p := ⟨r, 1, none⟩) hr _, (ho.wr hw (fun b h1 e => by have := hP b h1; omega)).mono (fun b hb => by have := hP b hb; simp; omega)⟩

set_option maxHeartbeats 2000000 in
set_option maxRecDepth 4000 in
theorem implApplyPuts {S T : Nat → Prop} {w : World} {u v : Value} {vs ps : List (Int × List Int)} (hu : RdP S w u vs) (hv : RdP T w v ps) :
    Calls Try.prog 16 #[u, v] w (EndsP (apC vs ps) (apR vs ps) w) := by
  unfold EndsP
  have HU := hide (RdP_old hu)
  have HV := hide (RdP_old hv)
  obtain ⟨au, cu, rfl, _⟩ := hu.shape
  obtain ⟨av, cv, rfl, _⟩ := hv.shape
  have HTw := hide (fun (w' : World) (hb : Below w.heap.size w w') => twoPutsFault (hu.later hb) (hv.later hb))
  have HIs := hide (fun (w' : World) (hb : Below w.heap.size w w') => isViewP (hu.later hb))
  have HZ := hide (fun h => apC_zero (vs := vs) (ps := ps) h)
  have HC : Hid (apC vs ps = if (if hpF 60 vs = 0 then hpF 60 ps else hpF 60 vs) = 0 then (if isVw vs then 0 else 1) else (if hpF 60 vs = 0 then hpF 60 ps else hpF 60 vs)) := by
    unfold Hid apC
    by_cases h1 : hpF 60 vs = 0
    · rw [if_pos h1, if_pos h1]
    · rw [if_neg h1, if_neg h1, if_neg h1]
  obtain ⟨p, hp⟩ : ∃ p, (if hpF 60 vs = 0 then hpF 60 ps else hpF 60 vs) = p := ⟨_, rfl⟩
  rw [hp] at HTw HC
  obtain ⟨C, hCC⟩ : ∃ C, apC vs ps = C := ⟨_, rfl⟩
  obtain ⟨R, hRR⟩ : ∃ R, apR vs ps = R := ⟨_, rfl⟩
  have HR := hide hRR
  have HCC := hide hCC
  rw [hCC, hRR]
  rw [hCC] at HC HZ
  obtain ⟨n, hn⟩ : ∃ n, vs.length = n := ⟨_, rfl⟩
  obtain ⟨m, hm⟩ : ∃ m, ps.length = m := ⟨_, rfl⟩
  have HN := hide hn
  have HM := hide hm
  rw [hn] at HU HTw HIs ⊢
  rw [hm] at HV HTw ⊢
  clear hu hv hp hCC hRR hn hm
  have A0 := hide (below_alloc w (.cells #[.int .i64 0, .slice none 0 0] 26))
  have hmm := @run_makeMap Try.prog
  by_cases h0 : p = 0
  · subst h0
    go_enter Try.func16, Try.ntmps16
    go_wp2_with fail
    refine (HTw.out _ A0.out).mono ?_
    rintro e w1 ⟨rfl, hb1⟩
    have q0 : w1.cell? ⟨w.heap.size, 0, none⟩ = some (.int .i64 0) := cell_later hb1 (by simp [go_sem])
    have q1 : w1.cell? ⟨w.heap.size, 1, none⟩ = some (.slice none 0 0) := cell_later hb1 (by simp [go_sem])
    have qf : ∀ o, w1.frozen? ⟨w.heap.size, o, none⟩ = false := fun o => ((bcell hb1).2 _ _ (by simp)).trans (by simp [go_sem])
    have hz1 : w.heap.size < w1.heap.size := World.block_lt_of_cell? _ _ q0
    have B1 := hide (below_on A0.out hb1)
    clear hb1
    go_wp2_with fail
    refine (HIs.out _ B1.out).mono ?_
    rintro e w2 ⟨⟨r, rfl, hr⟩, hb2⟩
    have r0 := cell_later hb2 q0
    have r1 := cell_later hb2 q1
    have rf : ∀ o, w2.frozen? ⟨w.heap.size, o, none⟩ = false := fun o => ((bcell hb2).2 _ _ hz1).trans (qf o)
    have hz2 : w.heap.size < w2.heap.size := World.block_lt_of_cell? _ _ r0
    have B2 := hide (below_on B1.out hb2)
    have HRr := hide hr
    clear hb2 q0 q1 qf B1 hr
    cases r with
    | true =>
      have hvw := HRr.out.1 rfl
      have hC0 : C = 0 := by have h := HC.out; simpa [hvw] using h
      subst hC0
      obtain ⟨h1, h2, h3⟩ := HZ.out rfl
      have HRe : Hid (viewTo (apM vs ps) 40 = R) := by rw [Hid, ← HR.out]; unfold apR; rw [if_pos HCC.out]
      have H1 := hide (hpF_all h1)
      have H2 := hide (hpF_all h2)
      have HLn := hide (fun a => apM_len h1 h2 a)
      clear h1 h2 h3 hvw HRr HC HR HCC HZ
      have bM := hide (below_alloc w2 (.map #[] 0))
      have HS0 : Hid (SeenAt (w2.alloc (.map #[] 0)) w2.heap.size 0 fun _ => []) :=
        ⟨_, World.ownsMap_made w2 Try.prog 2 asIs, fun a _ _ => ⟨.slice none 0 0, rfl, ⟨none, 0, rfl, Nat.zero_le _, fun h => absurd rfl h⟩⟩, fun a => ⟨fun h => absurd h (by simp [has_eq]), fun h => absurd rfl h.2.2⟩⟩
      have HP1 := hide (seenPut HS0.out (HU.out.later (below_on B2.out bM.out)) (fun b hb => by omega) (fun i hi => ⟨(H1.out.2 i hi).1, (H1.out.2 i hi).2.1⟩) (by have := H1.out.1; omega))
      rw [HN.out] at HP1
      go_wp2_with fail
      refine HP1.out.mono ?_
      rintro e w3 ⟨rfl, hg3, hs3⟩
      have B3 := hide (below_grown (below_on B2.out bM.out) hg3 (by omega))
      have fr3 : ∀ o, w3.frozen? ⟨w.heap.size, o, none⟩ = false := fun o => (World.frozen?_of_block (hg3.block w.heap.size (by simp; omega) (fun e => by injection e with e; omega))).trans (((bcell bM.out).2 _ _ hz2).trans (rf o))
      have cl3 : ∀ o x, w2.cell? ⟨w.heap.size, o, none⟩ = some x → w3.cell? ⟨w.heap.size, o, none⟩ = some x := fun o x h => (World.cell?_of_block (hg3.block w.heap.size (by simp; omega) (fun e => by injection e with e; omega))).trans (cell_later bM.out h)
      have s0 := cl3 _ _ r0
      have s1 := cl3 _ _ r1
      have hz3 := hg3.size
      have HP2 := hide (seenPut hs3 (HV.out.later B3.out) (fun b hb => by omega) (fun i hi => ⟨(H2.out.2 i hi).1, (H2.out.2 i hi).2.1⟩) (by have h1 := H1.out.1; have h2 := H2.out.1; have h3 := HN.out; omega))
      rw [HM.out] at HP2
      clear hg3 hs3 cl3 r0 r1 rf HP1 HS0
      simp at hz3
      go_wp2_with fail
      refine HP2.out.mono ?_
      rintro e w4 ⟨rfl, hg4, hs4⟩
      have B4 := hide (below_grown B3.out hg4 (by omega))
      have hz4 := hg4.size
      have f0 : w4.frozen? ⟨w.heap.size, 0, none⟩ = false := (World.frozen?_of_block (hg4.block w.heap.size (by omega) (fun e => by injection e with e; omega))).trans (fr3 0)
      have f1 : w4.frozen? ⟨w.heap.size, 1, none⟩ = false := (World.frozen?_of_block (hg4.block w.heap.size (by omega) (fun e => by injection e with e; omega))).trans (fr3 1)
      have t0 : w4.cell? ⟨w.heap.size, 0, none⟩ = some (.int .i64 0) := (World.cell?_of_block (hg4.block w.heap.size (by omega) (fun e => by injection e with e; omega))).trans s0
      have t1 : w4.cell? ⟨w.heap.size, 1, none⟩ = some (.slice none 0 0) := (World.cell?_of_block (hg4.block w.heap.size (by omega) (fun e => by injection e with e; omega))).trans s1
      have HVw := hide (seenView (M := apM vs ps) hs4 (by have h1 := H1.out.1; have h2 := H2.out.1; have h3 := HN.out; have h4 := HM.out; omega) (fun a _ _ => Nat.le_trans (HLn.out a) (by omega)))
      rw [HRe.out] at HVw
      clear hg4 hs4 fr3 s0 s1 HP2
      go_wp2_with fail
      refine HVw.out.mono ?_
      rintro e w5 ⟨z5, rfl, hb5, ho5⟩
      obtain ⟨a5, k5, rfl⟩ := ho5.shape
      have x0 := cell_later hb5 t0
      have x1 := cell_later hb5 t1
      have y0 := ((bcell hb5).2 _ _ (show w.heap.size < w4.heap.size by omega)).trans f0
      have y1 := ((bcell hb5).2 _ _ (show w.heap.size < w4.heap.size by omega)).trans f1
      have HFin := hide (ret_putsA (x := .int .i64 0) (below_on B4.out hb5) (r := w.heap.size) (Nat.le_refl _) ho5 (fun b hb => ⟨by omega, hb.2⟩))
      obtain ⟨lr, hlr⟩ : ∃ lr, R.length = lr := ⟨_, rfl⟩
      rw [hlr] at HFin ⊢
      clear hb5 ho5 t0 t1 f0 f1 hlr
      go_wp2
      exact bodyPost_ret (v := .agg #[.int .i64 0, .slice a5 lr k5]) (by simp [results, Try.results16, go_sem, x0, x1]) rfl ⟨_, rfl, HFin.out.1, HFin.out.2⟩
    | false =>
      have hnv : ¬ isVw vs := fun h => by have := HRr.out.2 h; cases this
      have hC1 : C = 1 := by have h := HC.out; simpa [hnv] using h
      subst hC1
      have hRn : R = [] := by rw [← HR.out]; unfold apR; rw [if_neg (by rw [HCC.out]; decide)]
      subst hRn
      have f0 := rf 0
      have f1 := rf 1
      clear hnv HRr HZ
      go_wp2
      refine bodyPost_ret (v := .agg #[.int .i64 1, .slice none 0 0]) (by simp [results, Try.results16, go_sem, r0, r1]) rfl ⟨_, rfl, ?_, OwP_nil _ _⟩
      repeat (first | refine Below.setCell ?_ (by first | (simp; done) | (simp; omega) | omega) _ | exact B2.out)
  · have hCp : C = p := by rw [HC.out, if_neg h0]
    subst hCp
    have hRn : R = [] := by rw [← HR.out]; unfold apR; rw [if_neg (by rw [HCC.out]; exact h0)]
    subst hRn
    clear HZ HC HR HCC
    go_enter Try.func16, Try.ntmps16
    go_wp2_with fail
    refine (HTw.out _ A0.out).mono ?_
    rintro e w1 ⟨rfl, hb1⟩
    have q0 : w1.cell? ⟨w.heap.size, 0, none⟩ = some (.int .i64 0) := cell_later hb1 (by simp [go_sem])
    have q1 : w1.cell? ⟨w.heap.size, 1, none⟩ = some (.slice none 0 0) := cell_later hb1 (by simp [go_sem])
    have f0 : w1.frozen? ⟨w.heap.size, 0, none⟩ = false := ((bcell hb1).2 _ _ (by simp)).trans (by simp [go_sem])
    have f1 : w1.frozen? ⟨w.heap.size, 1, none⟩ = false := ((bcell hb1).2 _ _ (by simp)).trans (by simp [go_sem])
    have B1 := hide (below_on A0.out hb1)
    clear hb1
    go_wp2
    refine bodyPost_ret (v := .agg #[.int .i64 C, .slice none 0 0]) (by simp [results, Try.results16, go_sem, q0, q1]) rfl ⟨_, rfl, ?_, OwP_nil _ _⟩
    repeat (first | refine Below.setCell ?_ (by first | (simp; done) | (simp; omega) | omega) _ | exact B1.out)
end Go.Proofs.Ytdfndgeoaagihaa
