/- ApplyM ApplyI Po1 Po2 in one text: what each says stands at its head below. -/
import Derived.Test.YtamknomapabmfaaGreatG40
import Derived.Test.YtamknomapabmfaaGreatG13
import Derived.Carry
import Derived.Test.YtamknomapabmfaaGreatG31
import Derived.Test.YtamknomapabmfaaGreatG32
/- Views as maps: what a put does to one. -/
namespace Go.Proofs.YtamknomapabmfaaGreat
open Go.Maps

theorem firstP_all {n : Nat} {ps : List (Int × List Int)} (h : firstP n ps = 0) : ∀ i, i < ps.length → 0 ≤ (ps.getD i (0, [])).1 ∧ (ps.getD i (0, [])).1 < (n : Int) ∧ wordsF (ps.getD i (0, [])).2 = 0 := by
  have key : ∀ k, k ≤ ps.length → firstP n (ps.drop k) = 0 ∧ ∀ i, i < k → 0 ≤ (ps.getD i (0, [])).1 ∧ (ps.getD i (0, [])).1 < (n : Int) ∧ wordsF (ps.getD i (0, [])).2 = 0 := by
    intro k
    induction k with
    | zero => intro _; exact ⟨by simpa using h, fun i hi => absurd hi (Nat.not_lt_zero _)⟩
    | succ k ih =>
      intro hk
      obtain ⟨h1, h2⟩ := ih (by omega)
      by_cases ha : 0 ≤ (ps.getD k (0, [])).1 ∧ (ps.getD k (0, [])).1 < (n : Int)
      · by_cases hw : wordsF (ps.getD k (0, [])).2 = 0
        · rw [firstP_ok (by omega) ha hw] at h1
          refine ⟨h1, fun i hi => ?_⟩
          by_cases e : i = k
          · subst e; exact ⟨ha.1, ha.2, hw⟩
          · exact h2 i (by omega)
        · rw [firstP_no (by omega) ha hw] at h1
          exact absurd h1 hw
      · rw [firstP_at (by omega) ha] at h1
        exact absurd h1 (by decide)
  exact fun i hi => (key ps.length (Nat.le_refl _)).2 i hi
theorem hpF_all {most : Nat} {ps : List (Int × List Int)} (h : hpF most ps = 0) : ps.length ≤ most ∧ ∀ i, i < ps.length → 0 ≤ (ps.getD i (0, [])).1 ∧ (ps.getD i (0, [])).1 < 40 ∧ (ps.getD i (0, [])).2.length ≤ 64 := by
  unfold hpF at h
  split at h
  · exact absurd h (by decide)
  · rename_i h1
    refine ⟨by omega, fun i hi => ?_⟩
    obtain ⟨a, b, c⟩ := firstP_all h i hi
    refine ⟨a, b, ?_⟩
    by_cases h64 : 64 < (ps.getD i (0, [])).2.length
    · unfold wordsF at c
      rw [wF_many h64] at c
      exact absurd c (by decide)
    · omega

theorem view_mem (M : Int → List Int) (k : Nat) (x : Int × List Int) : x ∈ viewTo M k ↔ 0 ≤ x.1 ∧ x.1 < (k : Int) ∧ x.2 ≠ [] ∧ x.2 = M x.1 := by
  unfold viewTo
  rw [List.mem_map]
  constructor
  · rintro ⟨a, ha, rfl⟩
    obtain ⟨h1, h2, h3⟩ := (keysTo_mem M k a).1 ha
    exact ⟨h1, h2, h3, rfl⟩
  · rintro ⟨h1, h2, h3, h4⟩
    exact ⟨x.1, (keysTo_mem M k x.1).2 ⟨h1, h2, by rw [← h4]; exact h3⟩, by rw [← h4]⟩
theorem view_lt (M : Int → List Int) (k : Nat) : (viewTo M k).Pairwise fun a b => a.1 < b.1 := List.pairwise_map.2 (keysTo_lt M k)
theorem rising_eq {l m : List (Int × List Int)} (h1 : l.Pairwise fun a b => a.1 < b.1) (h2 : m.Pairwise fun a b => a.1 < b.1) (h : ∀ x, x ∈ l ↔ x ∈ m) : l = m := by
  have nd : ∀ {l : List (Int × List Int)}, (l.Pairwise fun a b => a.1 < b.1) → l.Nodup := fun h => h.imp (fun h e => by rw [e] at h; omega)
  exact List.Perm.eq_of_pairwise (fun a b _ _ h1 h2 => by omega) h1 h2 ((List.perm_ext_iff_of_nodup (nd h1) (nd h2)).2 h)
theorem vw_lt {ps : List (Int × List Int)} (h : isVw ps) : ps.Pairwise fun a b => a.1 < b.1 := by
  have key : ∀ (d i : Nat), i + d + 1 < ps.length → (ps.getD i (0, [])).1 < (ps.getD (i + d + 1) (0, [])).1 := by
    intro d
    induction d with
    | zero => intro i hi; have := (h (i + 1) hi).2 (by omega); simpa using this
    | succ d ih =>
      intro i hi
      have h1 := ih i (by omega)
      have h2 := (h (i + (d + 1) + 1) hi).2 (by omega)
      rw [show i + (d + 1) + 1 - 1 = i + d + 1 by omega] at h2
      omega
  rw [List.pairwise_iff_getElem]
  intro i j hi hj hij
  have := key (j - i - 1) i (by omega)
  rw [show i + (j - i - 1) + 1 = j by omega] at this
  simpa [List.getD, hi, hj] using this
/-- A view is told by what it puts. -/
theorem vw_eq {ps : List (Int × List Int)} (h : isVw ps) (hr : ∀ i, i < ps.length → 0 ≤ (ps.getD i (0, [])).1 ∧ (ps.getD i (0, [])).1 < 40) : ps = viewTo (ps.foldl putM fun _ => []) 40 := by
  have hlt := vw_lt h
  have hinj : ∀ i j, i < ps.length → j < ps.length → i < j → (ps.getD i (0, [])).1 < (ps.getD j (0, [])).1 := fun i j hi hj hij => by
    have := List.pairwise_iff_getElem.1 hlt i j hi hj hij
    simpa [List.getD, hi, hj] using this
  refine rising_eq hlt (view_lt _ _) fun x => ?_
  rw [view_mem]
  constructor
  · intro hx
    obtain ⟨i, hi, rfl⟩ := List.getElem_of_mem hx
    have e : ps.getD i (0, []) = ps[i] := by simp [List.getD, hi]
    have hl := foldl_last (qs := ps) (M := fun _ => []) (a := ps[i].1) (i := i) hi (by rw [e]) (fun j h1 h2 => by have := hinj i j hi h2 h1; rw [e] at this; omega)
    have hri := hr i hi
    have hne := (h i hi).1
    rw [e] at hl hri hne
    exact ⟨hri.1, hri.2, hne, hl.symm⟩
  · rintro ⟨h1, h2, h3, h4⟩
    by_cases hex : ∃ i, i < ps.length ∧ (ps.getD i (0, [])).1 = x.1
    · obtain ⟨i, hi, hix⟩ := hex
      have hl := foldl_last (qs := ps) (M := fun _ => []) (a := x.1) (i := i) hi hix (fun j h1 h2 => by have := hinj i j hi h2 h1; omega)
      have e : ps.getD i (0, []) = ps[i] := by simp [List.getD, hi]
      have : x = ps[i] := by
        rw [← e]
        exact Prod.ext hix.symm (h4.trans hl)
      rw [this]
      exact List.getElem_mem hi
    · have := foldl_none (qs := ps) (M := fun _ => []) (a := x.1) (fun i hi e => hex ⟨i, hi, e⟩)
      rw [this] at h4
      exact absurd h4 h3
end Go.Proofs.YtamknomapabmfaaGreat
/- Chapter 4: 'impl.ApplyPuts', walked. -/
namespace Go.Proofs.YtamknomapabmfaaGreat
open Go.RowKit Go.Maps

instance (ps : List (Int × List Int)) : Decidable (isVw ps) := by unfold isVw; infer_instance

/-- The code of ApplyPuts; the view that it tells. -/
def apC (vs ps : List (Int × List Int)) : Int := if hpF 60 vs = 0 then (if hpF 60 ps = 0 then (if isVw vs then 0 else 1) else hpF 60 ps) else hpF 60 vs
def apM (vs ps : List (Int × List Int)) : Int → List Int := ps.foldl putM (vs.foldl putM fun _ => [])
def apR (vs ps : List (Int × List Int)) : List (Int × List Int) := if apC vs ps = 0 then viewTo (apM vs ps) 40 else []
theorem apC_zero {vs ps : List (Int × List Int)} (h : apC vs ps = 0) : hpF 60 vs = 0 ∧ hpF 60 ps = 0 ∧ isVw vs := by
  unfold apC at h
  by_cases h1 : hpF 60 vs = 0
  · rw [if_pos h1] at h
    by_cases h2 : hpF 60 ps = 0
    · rw [if_pos h2] at h
      by_cases h3 : isVw vs
      · exact ⟨h1, h2, h3⟩
      · rw [if_neg h3] at h; exact absurd h (by decide)
    · rw [if_neg h2] at h; exact absurd h h2
  · rw [if_neg h1] at h; exact absurd h h1
theorem apM_len {vs ps : List (Int × List Int)} (h1 : hpF 60 vs = 0) (h2 : hpF 60 ps = 0) (a : Int) : (apM vs ps a).length ≤ 64 :=
  foldl_len (foldl_len (by simp) (fun i hi => ((hpF_all h1).2 i hi).2.2)) (fun i hi => ((hpF_all h2).2 i hi).2.2)
theorem RdP_old {S : Nat → Prop} {w : World} {v : Value} {ps : List (Int × List Int)} (h : RdP S w v ps) : RdP (fun b => b < w.heap.size) w v ps := by
  obtain ⟨ao, c, e1, e2, e3⟩ := h
  refine ⟨ao, c, e1, e2, fun hne => ?_⟩
  obtain ⟨b, off, V, f1, f2, f3⟩ := e3 hne
  refine ⟨b, off, V, f1, World.block_lt_of_cell? _ _ (f3 0 (List.length_pos_iff.2 hne)).1, fun i hi => ⟨(f3 i hi).1, (f3 i hi).2.1, ?_⟩⟩
  obtain ⟨ao', c', k1, k2, k3⟩ := (f3 i hi).2.2
  refine ⟨ao', c', k1, k2, fun hn => ?_⟩
  obtain ⟨b', off', m1, m2, m3⟩ := k3 hn
  exact ⟨b', off', m1, World.block_lt_of_cell? _ _ (m3 0 (List.length_pos_iff.2 hn)), m3⟩
theorem below_grown {w w1 w2 : World} {B : Nat} (hb : Below w.heap.size w w1) (hg : w1.grownBy w2 (some B)) (hB : w.heap.size ≤ B) : Below w.heap.size w w2 :=
  hb.grown hg hb.size (fun r hr => by injection hr with hr; omega)
/-- The end of a function that stores a code and puts into its result's variable. -/
theorem ret_putsA {w w3 : World} {P : Nat → Prop} {r : Nat} {z x : Value} {ps : List (Int × List Int)} (hb : Below w.heap.size w w3) (hr : w.heap.size ≤ r) (ho : OwP P w3 z ps) (hP : ∀ b, P b → r < b ∧ b < w3.heap.size) :
    Below w.heap.size w ((w3.setCell ⟨r, 0, none⟩ x).setCell ⟨r, 1, none⟩ z) ∧ OwP (fun b => w.heap.size ≤ b ∧ b < ((w3.setCell ⟨r, 0, none⟩ x).setCell ⟨r, 1, none⟩ z).heap.size) ((w3.setCell ⟨r, 0, none⟩ x).setCell ⟨r, 1, none⟩ z) z ps := by
  have hw : Wr (fun y => y = r) w3 ((w3.setCell ⟨r, 0, none⟩ x).setCell ⟨r, 1, none⟩ z) := ((Wr.refl (fun y => y = r) _).setCell (p := ⟨r, 0, none⟩) rfl _).setCell (p := ⟨r, 1, none⟩) rfl _
  exact ⟨(hb.setCell (p := ⟨r, 0, none⟩) hr _).setCell (p := ⟨r, 1, none⟩) hr _, (ho.wr hw (fun b h1 e => by have := hP b h1; omega)).mono (fun b hb => by have := hP b hb; simp; omega)⟩

set_option maxHeartbeats 2000000 in
set_option maxRecDepth 4000 in
theorem implApplyPuts {S T : Nat → Prop} {w : World} {u v : Value} {vs ps : List (Int × List Int)} (hu : RdP S w u vs) (hv : RdP T w v ps) :
    Calls Tryz.prog 13 #[u, v] w (EndsP (apC vs ps) (apR vs ps) w) := by
  unfold EndsP
  have HU := hide (RdP_old hu)
  have HV := hide (RdP_old hv)
  obtain ⟨au, cu, rfl, _⟩ := hu.shape
  obtain ⟨av, cv, rfl, _⟩ := hv.shape
  have HTw := hide (fun (w' : World) (hb : Below w.heap.size w w') => twoPutsFault (hu.later hb) (hv.later hb))
  have HIs := hide (fun (w' : World) (hb : Below w.heap.size w w') => isViewP (hu.later hb))
  have HZ := hide (fun h => apC_zero (vs := vs) (ps := ps) h)
  have HC : Hid (apC vs ps = if (if hpF 60 vs = 0 then hpF 60 ps else hpF 60 vs) = 0 then (if isVw vs then 0 else 1) else (if hpF 60 vs = 0 then hpF 60 ps else hpF 60 vs)) := by
    unfold Hid apC
    by_cases h1 : hpF 60 vs = 0
    · rw [if_pos h1, if_pos h1]
    · rw [if_neg h1, if_neg h1, if_neg h1]
  obtain ⟨p, hp⟩ : ∃ p, (if hpF 60 vs = 0 then hpF 60 ps else hpF 60 vs) = p := ⟨_, rfl⟩
  rw [hp] at HTw HC
  obtain ⟨C, hCC⟩ : ∃ C, apC vs ps = C := ⟨_, rfl⟩
  obtain ⟨R, hRR⟩ : ∃ R, apR vs ps = R := ⟨_, rfl⟩
  have HR := hide hRR
  have HCC := hide hCC
  rw [hCC, hRR]
  rw [hCC] at HC HZ
  obtain ⟨n, hn⟩ : ∃ n, vs.length = n := ⟨_, rfl⟩
  obtain ⟨m, hm⟩ : ∃ m, ps.length = m := ⟨_, rfl⟩
  have HN := hide hn
  have HM := hide hm
  rw [hn] at HU HTw HIs ⊢
  rw [hm] at HV HTw ⊢
  clear hu hv hp hCC hRR hn hm
  have A0 := hide (below_alloc w (.cells #[.int .i64 0, .slice none 0 0] 35))
  have hmm := @run_makeMap Tryz.prog
  by_cases h0 : p = 0
  · subst h0
    go_enter Tryz.func13, Tryz.ntmps13
    go_wp2_with fail
    refine (HTw.out _ A0.out).mono ?_
    rintro e w1 ⟨rfl, hb1⟩
    have q0 : w1.cell? ⟨w.heap.size, 0, none⟩ = some (.int .i64 0) := cell_later hb1 (by simp [go_sem])
    have q1 : w1.cell? ⟨w.heap.size, 1, none⟩ = some (.slice none 0 0) := cell_later hb1 (by simp [go_sem])
    have qf : ∀ o, w1.frozen? ⟨w.heap.size, o, none⟩ = false := fun o => ((bcell hb1).2 _ _ (by simp)).trans (by simp [go_sem])
    have hz1 : w.heap.size < w1.heap.size := World.block_lt_of_cell? _ _ q0
    have B1 := hide (below_on A0.out hb1)
    clear hb1
    go_wp2_with fail
    refine (HIs.out _ B1.out).mono ?_
    rintro e w2 ⟨⟨r, rfl, hr⟩, hb2⟩
    have r0 := cell_later hb2 q0
    have r1 := cell_later hb2 q1
    have rf : ∀ o, w2.frozen? ⟨w.heap.size, o, none⟩ = false := fun o => ((bcell hb2).2 _ _ hz1).trans (qf o)
    have hz2 : w.heap.size < w2.heap.size := World.block_lt_of_cell? _ _ r0
    have B2 := hide (below_on B1.out hb2)
    have HRr := hide hr
    clear hb2 q0 q1 qf B1 hr
    cases r with
    | true =>
      have hvw := HRr.out.1 rfl
      have hC0 : C = 0 := by have h := HC.out; simpa [hvw] using h
      subst hC0
      obtain ⟨h1, h2, h3⟩ := HZ.out rfl
      have HRe : Hid (viewTo (apM vs ps) 40 = R) := by rw [Hid, ← HR.out]; unfold apR; rw [if_pos HCC.out]
      have H1 := hide (hpF_all h1)
      have H2 := hide (hpF_all h2)
      have HLn := hide (fun a => apM_len h1 h2 a)
      clear h1 h2 h3 hvw HRr HC HR HCC HZ
      have bM := hide (below_alloc w2 (.map #[] 0))
      have HS0 : Hid (SeenAt (w2.alloc (.map #[] 0)) w2.heap.size 0 fun _ => []) :=
        ⟨_, World.ownsMap_made w2 Tryz.prog 2 asIs, fun a _ _ => ⟨.slice none 0 0, rfl, ⟨none, 0, rfl, Nat.zero_le _, fun h => absurd rfl h⟩⟩, fun a => ⟨fun h => absurd h (by simp [has_eq]), fun h => absurd rfl h.2.2⟩⟩
      have HP1 := hide (seenPut HS0.out (HU.out.later (below_on B2.out bM.out)) (fun b hb => by omega) (fun i hi => ⟨(H1.out.2 i hi).1, (H1.out.2 i hi).2.1⟩) (by have := H1.out.1; omega))
      rw [HN.out] at HP1
      go_wp2_with fail
      refine HP1.out.mono ?_
      rintro e w3 ⟨rfl, hg3, hs3⟩
      have B3 := hide (below_grown (below_on B2.out bM.out) hg3 (by omega))
      have fr3 : ∀ o, w3.frozen? ⟨w.heap.size, o, none⟩ = false := fun o => (World.frozen?_of_block (hg3.block w.heap.size (by simp; omega) (fun e => by injection e with e; omega))).trans (((bcell bM.out).2 _ _ hz2).trans (rf o))
      have cl3 : ∀ o x, w2.cell? ⟨w.heap.size, o, none⟩ = some x → w3.cell? ⟨w.heap.size, o, none⟩ = some x := fun o x h => (World.cell?_of_block (hg3.block w.heap.size (by simp; omega) (fun e => by injection e with e; omega))).trans (cell_later bM.out h)
      have s0 := cl3 _ _ r0
      have s1 := cl3 _ _ r1
      have hz3 := hg3.size
      have HP2 := hide (seenPut hs3 (HV.out.later B3.out) (fun b hb => by omega) (fun i hi => ⟨(H2.out.2 i hi).1, (H2.out.2 i hi).2.1⟩) (by have h1 := H1.out.1; have h2 := H2.out.1; have h3 := HN.out; omega))
      rw [HM.out] at HP2
      clear hg3 hs3 cl3 r0 r1 rf HP1 HS0
      simp at hz3
      go_wp2_with fail
      refine HP2.out.mono ?_
      rintro e w4 ⟨rfl, hg4, hs4⟩
      have B4 := hide (below_grown B3.out hg4 (by omega))
      have hz4 := hg4.size
      have f0 : w4.frozen? ⟨w.heap.size, 0, none⟩ = false := (World.frozen?_of_block (hg4.block w.heap.size (by omega) (fun e => by injection e with e; omega))).trans (fr3 0)
      have f1 : w4.frozen? ⟨w.heap.size, 1, none⟩ = false := (World.frozen?_of_block (hg4.block w.heap.size (by omega) (fun e => by injection e with e; omega))).trans (fr3 1)
      have t0 : w4.cell? ⟨w.heap.size, 0, none⟩ = some (.int .i64 0) := (World.cell?_of_block (hg4.block w.heap.size (by omega) (fun e => by injection e with e; omega))).trans s0
      have t1 : w4.cell? ⟨w.heap.size, 1, none⟩ = some (.slice none 0 0) := (World.cell?_of_block (hg4.block w.heap.size (by omega) (fun e => by injection e with e; omega))).trans s1
      have HVw := hide (seenView (M := apM vs ps) hs4 (by have h1 := H1.out.1; have h2 := H2.out.1; have h3 := HN.out; have h4 := HM.out; omega) (fun a _ _ => Nat.le_trans (HLn.out a) (by omega)))
      rw [HRe.out] at HVw
      clear hg4 hs4 fr3 s0 s1 HP2
      go_wp2_with fail
      refine HVw.out.mono ?_
      rintro e w5 ⟨z5, rfl, hb5, ho5⟩
      obtain ⟨a5, k5, rfl⟩ := ho5.shape
      have x0 := cell_later hb5 t0
      have x1 := cell_later hb5 t1
      have y0 := ((bcell hb5).2 _ _ (show w.heap.size < w4.heap.size by omega)).trans f0
      have y1 := ((bcell hb5).2 _ _ (show w.heap.size < w4.heap.size by omega)).trans f1
      have HFin := hide (ret_putsA (x := .int .i64 0) (below_on B4.out hb5) (r := w.heap.size) (Nat.le_refl _) ho5 (fun b hb => ⟨by omega, hb.2⟩))
      obtain ⟨lr, hlr⟩ : ∃ lr, R.length = lr := ⟨_, rfl⟩
      rw [hlr] at HFin ⊢
      clear hb5 ho5 t0 t1 f0 f1 hlr
      go_wp2
      exact bodyPost_ret (v := .agg #[.int .i64 0, .slice a5 lr k5]) (by simp [results, Tryz.results13, go_sem, x0, x1]) rfl ⟨_, rfl, HFin.out.1, HFin.out.2⟩
    | false =>
      have hnv : ¬ isVw vs := fun h => by have := HRr.out.2 h; cases this
      have hC1 : C = 1 := by have h := HC.out; simpa [hnv] using h
      subst hC1
      have hRn : R = [] := by rw [← HR.out]; unfold apR; rw [if_neg (by rw [HCC.out]; decide)]
      subst hRn
      have f0 := rf 0
      have f1 := rf 1
      clear hnv HRr HZ
      go_wp2
      refine bodyPost_ret (v := .agg #[.int .i64 1, .slice none 0 0]) (by simp [results, Tryz.results13, go_sem, r0, r1]) rfl ⟨_, rfl, ?_, OwP_nil _ _⟩
      repeat (first | refine Below.setCell ?_ (by first | (simp; done) | (simp; omega) | omega) _ | exact B2.out)
  · have hCp : C = p := by rw [HC.out, if_neg h0]
    subst hCp
    have hRn : R = [] := by rw [← HR.out]; unfold apR; rw [if_neg (by rw [HCC.out]; exact h0)]
    subst hRn
    clear HZ HC HR HCC
    go_enter Tryz.func13, Tryz.ntmps13
    go_wp2_with fail
    refine (HTw.out _ A0.out).mono ?_
    rintro e w1 ⟨rfl, hb1⟩
    have q0 : w1.cell? ⟨w.heap.size, 0, none⟩ = some (.int .i64 0) := cell_later hb1 (by simp [go_sem])
    have q1 : w1.cell? ⟨w.heap.size, 1, none⟩ = some (.slice none 0 0) := cell_later hb1 (by simp [go_sem])
    have f0 : w1.frozen? ⟨w.heap.size, 0, none⟩ = false := ((bcell hb1).2 _ _ (by simp)).trans (by simp [go_sem])
    have f1 : w1.frozen? ⟨w.heap.size, 1, none⟩ = false := ((bcell hb1).2 _ _ (by simp)).trans (by simp [go_sem])
    have B1 := hide (below_on A0.out hb1)
    clear hb1
    go_wp2
    refine bodyPost_ret (v := .agg #[.int .i64 C, .slice none 0 0]) (by simp [results, Tryz.results13, go_sem, q0, q1]) rfl ⟨_, rfl, ?_, OwP_nil _ _⟩
    repeat (first | refine Below.setCell ?_ (by first | (simp; done) | (simp; omega) | omega) _ | exact B1.out)
end Go.Proofs.YtamknomapabmfaaGreat
/- Chapter 5: the codes that PutsOf asks, the program's side, walked. -/
namespace Go.Proofs.YtamknomapabmfaaGreat
open Go.RowKit Go.Maps

/-- The code of a view; the code of a list of objects. -/
def vF (vs : List (Int × List Int)) : Int := if hpF 60 vs = 0 then (if isVw vs then 0 else 1) else hpF 60 vs
def firstJ : List Oj → Int
  | [] => 0
  | o :: r => if objF o.1 o.2.1 o.2.2 = 0 then firstJ r else objF o.1 o.2.1 o.2.2
def ojsF (os : List Oj) : Int := if 12 < os.length then 2 else firstJ os
theorem firstJ_drop (os : List Oj) (k : Nat) (h : k < os.length) : firstJ (os.drop k) = if objF (os.getD k oj0).1 (os.getD k oj0).2.1 (os.getD k oj0).2.2 = 0 then firstJ (os.drop (k + 1)) else objF (os.getD k oj0).1 (os.getD k oj0).2.1 (os.getD k oj0).2.2 := by
  rw [List.drop_eq_getElem_cons h, firstJ]
  have e : os.getD k oj0 = os[k] := by simp [List.getD, h]
  rw [e]
theorem firstJ_all : ∀ {os : List Oj}, firstJ os = 0 → ∀ i, i < os.length → objF (os.getD i oj0).1 (os.getD i oj0).2.1 (os.getD i oj0).2.2 = 0
  | [], _, i, hi => absurd hi (Nat.not_lt_zero _)
  | o :: r, h, i, hi => by
    rw [firstJ] at h
    by_cases e : objF o.1 o.2.1 o.2.2 = 0
    · rw [if_pos e] at h
      cases i with
      | zero => exact e
      | succ i => simpa using firstJ_all h i (by simpa using hi)
    · rw [if_neg e] at h; exact absurd h e
theorem RdJ.at {S : Nat → Prop} {w : World} {ao : Option Addr} {n c k : Nat} {os : List Oj} (h : RdJ S w (.slice ao n c) os) (hk : k < os.length) :
    ∃ b off v, ao = some ⟨b, off, none⟩ ∧ w.cell? ⟨b, off + k * 3, none⟩ = some (.int .i64 (os.getD k oj0).1) ∧ w.cell? ⟨b, off + k * 3 + 1, none⟩ = some (.int .i64 (os.getD k oj0).2.1) ∧ w.cell? ⟨b, off + k * 3 + 2, none⟩ = some v ∧ RdI S w v (os.getD k oj0).2.2 := by
  obtain ⟨ao', c', e, _, h3⟩ := h
  injection e with e1 e2 e3
  subst e1
  obtain ⟨b, off, V, e, _, hc⟩ := h3 (by rintro rfl; exact absurd hk (Nat.not_lt_zero _))
  obtain ⟨k0, k1, k2, k3⟩ := hc k hk
  exact ⟨b, off, V k, e, k0, k1, k2, k3⟩

theorem viewFaultP {S : Nat → Prop} {w : World} {u : Value} {vs : List (Int × List Int)} (hu : RdP S w u vs) :
    Calls Tryz.prog 25 #[u] w fun e w' => e = .returned (.int .i64 (vF vs)) ∧ Below w.heap.size w w' := by
  obtain ⟨au, cu, rfl, _⟩ := hu.shape
  have HU := hide (homePutsFault 60 hu)
  have HI := hide (fun (w' : World) (hb : Below w.heap.size w w') => isViewP (hu.later hb))
  have HV : Hid (vF vs = if hpF 60 vs = 0 then (if isVw vs then 0 else 1) else hpF 60 vs) := rfl
  clear hu
  generalize hpF 60 vs = p at HU HV
  generalize vF vs = C at HV ⊢
  by_cases h0 : p = 0
  · subst h0
    go_enter Tryz.func25, Tryz.ntmps25
    go_wp2_with fail
    refine HU.out.mono ?_
    rintro e w1 ⟨rfl, hb1⟩
    have HB1 := hide hb1
    clear hb1
    go_wp2_with fail
    refine (HI.out _ HB1.out).mono ?_
    rintro e w2 ⟨⟨r, rfl, hr⟩, hb2⟩
    have HB2 := hide (below_on HB1.out hb2)
    have HRr := hide hr
    clear hb2 hr
    cases r with
    | true =>
      have hC : C = 0 := by have h := HV.out; have h2 := HRr.out.1 rfl; simpa [h2] using h
      subst hC
      clear HRr
      go_wp2
      go_ret
      exact ⟨rfl, HB2.out⟩
    | false =>
      have hC : C = 1 := by have h := HV.out; have h2 : ¬ isVw vs := fun h => (by have := HRr.out.2 h; cases this); simpa [h2] using h
      subst hC
      clear HRr
      go_wp2
      go_ret
      exact ⟨rfl, HB2.out⟩
  · have hC : C = p := by rw [HV.out, if_neg h0]
    subst hC
    go_enter Tryz.func25, Tryz.ntmps25
    go_wp2_with fail
    refine HU.out.mono ?_
    rintro e w1 ⟨rfl, hb1⟩
    have HB1 := hide hb1
    clear hb1
    go_wp2
    go_ret
    exact ⟨rfl, HB1.out⟩

set_option maxHeartbeats 2000000 in
set_option maxRecDepth 4000 in
theorem objectsFaultJ {S : Nat → Prop} {w : World} {u : Value} {os : List Oj} (hu : RdJ S w u os) :
    Calls Tryz.prog 26 #[u] w fun e w' => e = .returned (.int .i64 (ojsF os)) ∧ Below w.heap.size w w' := by
  obtain ⟨au, cu, rfl, hml⟩ := hu.shape
  have HU := hide hu
  have HD := hide (firstJ_drop os)
  have HE : Hid (ojsF os = if 12 < os.length then 2 else firstJ os) := rfl
  obtain ⟨n, hn⟩ : ∃ n, os.length = n := ⟨_, rfl⟩
  have HN := hide hn
  have HD0 : Hid (firstJ os = firstJ (os.drop 0)) := by rw [Hid, List.drop_zero]
  have HDn : Hid (firstJ (os.drop n) = 0) := by rw [Hid, ← hn, List.drop_length]; rfl
  rw [hn] at HU HD HE hml ⊢
  clear hu hn
  generalize ojsF os = C at HE ⊢
  generalize firstJ os = F0 at HE HD0
  obtain ⟨FD, hFD⟩ : ∃ FD : Nat → Int, (fun k => firstJ (os.drop k)) = FD := ⟨_, rfl⟩
  have HFs : Hid (∀ k, k < n → FD k = if objF (os.getD k oj0).1 (os.getD k oj0).2.1 (os.getD k oj0).2.2 = 0 then FD (k + 1) else objF (os.getD k oj0).1 (os.getD k oj0).2.1 (os.getD k oj0).2.2) := fun k hk => by rw [← hFD]; exact HD.out k hk
  have HF0 : Hid (F0 = FD 0) := by rw [← hFD]; exact HD0.out
  have HFn : Hid (FD n = 0) := by rw [← hFD]; exact HDn.out
  clear hFD HD HD0 HDn
  by_cases hbig : 12 < n
  · have hC : C = 2 := by rw [HE.out, if_pos hbig]
    subst hC
    have hb' : (12 : Int) < (n : Int) := by omega
    go_enter Tryz.func26, Tryz.ntmps26
    go_wp2
    go_ret
    exact ⟨rfl, Below.refl _ _⟩
  · have hC : C = FD 0 := by rw [HE.out, if_neg hbig]; exact HF0.out
    subst hC
    have hb' : ¬ (12 : Int) < (n : Int) := by omega
    obtain ⟨C, hC⟩ : ∃ C, FD 0 = C := ⟨_, rfl⟩
    have HC := hide hC
    rw [hC]
    clear hC
    go_enter Tryz.func26, Tryz.ntmps26
    go_wp2
    go_loopw [11] (fun i wr => ∃ k : Nat, k ≤ n ∧ i = .int .i64 (k : Int) ∧ Hid (FD k = C) ∧ Hid (Below w.heap.size w wr)) (fun i _ => n - (RowKit.intOf i).toNat)
    case atStart => exact ⟨0, Nat.zero_le _, rfl, HC.out, Below.refl _ _⟩
    case round =>
      obtain ⟨k, hk, rfl, HK, HB⟩ := hrel
      clear HC HE HF0
      by_cases hlt : k < n
      · obtain ⟨b, off, v, rfl, q0, q1, q2, q3⟩ := HU.out.at (k := k) (by rw [HN.out]; exact hlt)
        obtain ⟨a3, c3, rfl⟩ := q3.shape
        have g0 := cell_later HB.out q0
        have g1 := cell_later HB.out q1
        have g2 := cell_later HB.out q2
        have R := hide (q3.later HB.out)
        have HSu := hide (HFs.out k hlt)
        obtain ⟨p, hp⟩ : ∃ p, os.getD k oj0 = p := ⟨_, rfl⟩
        rw [hp] at g0 g1 g2 R HSu
        obtain ⟨a, f, xs⟩ := p
        dsimp only at g0 g1 g2 R HSu
        have HOf := hide (fun (w' : World) (hb : Below wr.heap.size wr w') => implObjectFault a f (R.out.later hb))
        obtain ⟨l, hl⟩ : ∃ l, xs.length = l := ⟨_, rfl⟩
        rw [hl] at g2 R HOf
        generalize objF a f xs = z at HSu HOf
        clear q0 q1 q2 q3 hp hl
        have bA := hide (below_alloc wr (.cells #[.int .i64 a, .int .i64 f, .slice a3 l c3] 26))
        go_wp2_with fail
        refine (HOf.out _ bA.out).mono ?_
        rintro e w2 ⟨rfl, hb2⟩
        have HB2 := hide (below_on (below_on HB.out bA.out) hb2)
        clear hb2
        by_cases hz : z = 0
        · subst hz
          have HKn : Hid (FD (k + 1) = C) := by rw [Hid, ← HK.out]; have h := HSu.out; simpa using h.symm
          clear HSu HK
          go_wp2
          go_roundw
          case rel => exact ⟨k + 1, hlt, by go_num, HKn.out, HB2.out⟩
          case measure => simp [RowKit.intOf]; omega
        · have hzC : z = C := by rw [← HK.out, HSu.out, if_neg hz]
          subst hzC
          clear HSu HK
          go_wp2
          go_ret
          exact ⟨rfl, HB2.out⟩
      · have hkn : k = n := by omega
        subst hkn
        have hC0 : C = 0 := by rw [← HK.out]; exact HFn.out
        subst hC0
        go_wp2
        go_ret
        exact ⟨rfl, HB.out⟩
end Go.Proofs.YtamknomapabmfaaGreat
/- Chapter 5: slices.Contains over numbers (Cont) beside what chapter 5 asks. -/
