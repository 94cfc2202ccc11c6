/- Po5 MathM Po6 in one text: what each says stands at its head below. -/
import Derived.Test.YtamknomapabmfaaGreatG43
import Derived.Test.YtamknomapabmfaaGreatG34
import Derived.Test.YtamknomapabmfaaGreatG35
import Derived.Test.YtamknomapabmfaaGreatG12
/- Chapter 5: 'impl.PutsOf', walked. -/
namespace Go.Proofs.YtamknomapabmfaaGreat
open Go.RowKit Go.Maps

/-- The code of PutsOf; the puts that it tells. -/
def poC (vs : List (Int × List Int)) (os : List Oj) : Int := if vF vs = 0 then ojsF os else vF vs
def poV (vs : List (Int × List Int)) (os : List Oj) : List (Int × List Int) := if poC vs os = 0 then poR (poL os os.length) (poM (vs.foldl putM fun _ => []) os os.length) else []
theorem poC_zero {vs : List (Int × List Int)} {os : List Oj} (h : poC vs os = 0) : hpF 60 vs = 0 ∧ isVw vs ∧ os.length ≤ 12 ∧ ∀ i, i < os.length → objF (os.getD i oj0).1 (os.getD i oj0).2.1 (os.getD i oj0).2.2 = 0 := by
  unfold poC at h
  by_cases h1 : vF vs = 0
  · rw [if_pos h1] at h
    unfold ojsF at h
    by_cases h2 : 12 < os.length
    · rw [if_pos h2] at h; exact absurd h (by decide)
    · rw [if_neg h2] at h
      unfold vF at h1
      by_cases h3 : hpF 60 vs = 0
      · rw [if_pos h3] at h1
        by_cases h4 : isVw vs
        · exact ⟨h3, h4, by omega, firstJ_all h⟩
        · rw [if_neg h4] at h1; exact absurd h1 (by decide)
      · rw [if_neg h3] at h1; exact absurd h1 h3
  · rw [if_neg h1] at h; exact absurd h h1

set_option maxHeartbeats 2000000 in
set_option maxRecDepth 4000 in
theorem implPutsOf {S T : Nat → Prop} {w : World} {u v : Value} {vs : List (Int × List Int)} {os : List Oj} (hu : RdP S w u vs) (hv : RdJ T w v os) :
    Calls Tryz.prog 9 #[u, v] w (EndsP (poC vs os) (poV vs os) w) := by
  unfold EndsP
  obtain ⟨au, cu, rfl, _⟩ := hu.shape
  obtain ⟨av, cv, rfl, _⟩ := hv.shape
  have HF1 := hide (fun (w' : World) (hb : Below w.heap.size w w') => viewFaultP (hu.later hb))
  have HF2 := hide (fun (w' : World) (hb : Below w.heap.size w w') => objectsFaultJ (hv.later hb))
  have HPp := hide (fun (w' : World) (hb : Below w.heap.size w w') (h : poC vs os = 0) => putsOfParts (hu.later hb) (hv.later hb) (poC_zero h).1 (poC_zero h).2.2.2 (poC_zero h).2.2.1)
  have HC : Hid (poC vs os = if vF vs = 0 then ojsF os else vF vs) := rfl
  have HR : Hid (poV vs os = if poC vs os = 0 then poR (poL os os.length) (poM (vs.foldl putM fun _ => []) os os.length) else []) := rfl
  generalize vF vs = p at HF1 HC
  generalize ojsF os = q at HF2 HC
  generalize poR (poL os os.length) (poM (vs.foldl putM fun _ => []) os os.length) = VW at HR HPp
  generalize poV vs os = R at HR ⊢
  generalize poC vs os = C at HC HR HPp ⊢
  generalize vs.length = n at HF1 HPp ⊢
  generalize os.length = m at HF2 HPp ⊢
  clear hu hv
  have A0 := hide (below_alloc w (.cells #[.int .i64 0, .slice none 0 0] 35))
  by_cases hp0 : p = 0
  · subst hp0
    by_cases hq0 : q = 0
    · subst hq0
      have hC : C = 0 := by rw [HC.out, if_pos rfl]
      subst hC
      have hRn : R = VW := by rw [HR.out]; rfl
      subst hRn
      clear HC HR
      go_enter Tryz.func9, Tryz.ntmps9
      go_wp2_with fail
      refine (HF1.out _ A0.out).mono ?_
      rintro e w1 ⟨rfl, hb1⟩
      have q0 : w1.cell? ⟨w.heap.size, 0, none⟩ = some (.int .i64 0) := cell_later hb1 (by simp [go_sem])
      have q1 : w1.cell? ⟨w.heap.size, 1, none⟩ = some (.slice none 0 0) := cell_later hb1 (by simp [go_sem])
      have qf : ∀ o, w1.frozen? ⟨w.heap.size, o, none⟩ = false := fun o => ((bcell hb1).2 _ _ (by simp)).trans (by simp [go_sem])
      have hz1 : w.heap.size < w1.heap.size := World.block_lt_of_cell? _ _ q0
      have B1 := hide (below_on A0.out hb1)
      clear hb1
      go_wp2_with fail
      refine (HF2.out _ B1.out).mono ?_
      rintro e w2 ⟨rfl, hb2⟩
      have B2 := hide (below_on B1.out hb2)
      have r0 := cell_later hb2 q0
      have r1 := cell_later hb2 q1
      have f0 := ((bcell hb2).2 _ _ hz1).trans (qf 0)
      have f1 := ((bcell hb2).2 _ _ hz1).trans (qf 1)
      clear hb2 q0 q1 qf B1
      go_wp2_with fail
      refine (HPp.out _ B2.out (by trivial)).mono ?_
      rintro e w5 ⟨z5, rfl, hb5, ho5⟩
      obtain ⟨a5, k5, rfl⟩ := ho5.shape
      have hz2 : w.heap.size < w2.heap.size := World.block_lt_of_cell? _ _ r0
      have x0 := cell_later hb5 r0
      have x1 := cell_later hb5 r1
      have y0 := ((bcell hb5).2 _ _ hz2).trans f0
      have y1 := ((bcell hb5).2 _ _ hz2).trans f1
      have HFin := hide (ret_putsA (x := .int .i64 0) (below_on B2.out hb5) (r := w.heap.size) (Nat.le_refl _) ho5 (fun b hb => ⟨by omega, hb.2⟩))
      obtain ⟨lr, hlr⟩ : ∃ lr, R.length = lr := ⟨_, rfl⟩
      rw [hlr] at HFin ⊢
      clear hb5 ho5 hlr r0 r1 f0 f1
      go_wp2
      exact bodyPost_ret (v := .agg #[.int .i64 0, .slice a5 lr k5]) (by simp [results, Tryz.results9, go_sem, x0, x1]) rfl ⟨_, rfl, HFin.out.1, HFin.out.2⟩
    · have hCp : C = q := by rw [HC.out, if_pos rfl]
      subst hCp
      have hRn : R = [] := by rw [HR.out, if_neg hq0]
      subst hRn
      clear HC HR HPp
      go_enter Tryz.func9, Tryz.ntmps9
      go_wp2_with fail
      refine (HF1.out _ A0.out).mono ?_
      rintro e w1 ⟨rfl, hb1⟩
      have q0 : w1.cell? ⟨w.heap.size, 0, none⟩ = some (.int .i64 0) := cell_later hb1 (by simp [go_sem])
      have q1 : w1.cell? ⟨w.heap.size, 1, none⟩ = some (.slice none 0 0) := cell_later hb1 (by simp [go_sem])
      have qf : ∀ o, w1.frozen? ⟨w.heap.size, o, none⟩ = false := fun o => ((bcell hb1).2 _ _ (by simp)).trans (by simp [go_sem])
      have hz1 : w.heap.size < w1.heap.size := World.block_lt_of_cell? _ _ q0
      have B1 := hide (below_on A0.out hb1)
      clear hb1
      go_wp2_with fail
      refine (HF2.out _ B1.out).mono ?_
      rintro e w2 ⟨rfl, hb2⟩
      have B2 := hide (below_on B1.out hb2)
      have r0 := cell_later hb2 q0
      have r1 := cell_later hb2 q1
      have f0 := ((bcell hb2).2 _ _ hz1).trans (qf 0)
      have f1 := ((bcell hb2).2 _ _ hz1).trans (qf 1)
      clear hb2 q0 q1 qf B1
      go_wp2
      refine bodyPost_ret (v := .agg #[.int .i64 C, .slice none 0 0]) (by simp [results, Tryz.results9, go_sem, r0, r1]) rfl ⟨_, rfl, ?_, OwP_nil _ _⟩
      repeat (first | refine Below.setCell ?_ (by first | (simp; done) | (simp; omega) | omega) _ | exact B2.out)
  · have hCp : C = p := by rw [HC.out, if_neg hp0]
    subst hCp
    have hRn : R = [] := by rw [HR.out, if_neg hp0]
    subst hRn
    clear HC HR HPp
    go_enter Tryz.func9, Tryz.ntmps9
    go_wp2_with fail
    refine (HF1.out _ A0.out).mono ?_
    rintro e w1 ⟨rfl, hb1⟩
    have q0 : w1.cell? ⟨w.heap.size, 0, none⟩ = some (.int .i64 0) := cell_later hb1 (by simp [go_sem])
    have q1 : w1.cell? ⟨w.heap.size, 1, none⟩ = some (.slice none 0 0) := cell_later hb1 (by simp [go_sem])
    have f0 : w1.frozen? ⟨w.heap.size, 0, none⟩ = false := ((bcell hb1).2 _ _ (by simp)).trans (by simp [go_sem])
    have f1 : w1.frozen? ⟨w.heap.size, 1, none⟩ = false := ((bcell hb1).2 _ _ (by simp)).trans (by simp [go_sem])
    have B1 := hide (below_on A0.out hb1)
    clear hb1
    go_wp2
    refine bodyPost_ret (v := .agg #[.int .i64 C, .slice none 0 0]) (by simp [results, Tryz.results9, go_sem, q0, q1]) rfl ⟨_, rfl, ?_, OwP_nil _ _⟩
    repeat (first | refine Below.setCell ?_ (by first | (simp; done) | (simp; omega) | omega) _ | exact B1.out)
end Go.Proofs.YtamknomapabmfaaGreat
/- Chapter 5: two objects that do not clash come to the same in either order. -/
namespace Go.Proofs.YtamknomapabmfaaGreat
open Go.RowKit

theorem mrgL_getD (ws : List Int) (f : Nat) (xs : List Int) (i : Nat) : (mrgL ws f xs).getD i 0 = if f ≤ i ∧ i < f + xs.length then xs.getD (i - f) 0 else ws.getD i 0 := by
  by_cases hi : i < max ws.length (f + xs.length)
  · exact mrgL_at ws f xs i hi
  · rw [if_neg (by omega)]
    have h1 : ws.length ≤ i := by omega
    have h2 : (mrgL ws f xs).length ≤ i := by rw [mrgL_len]; omega
    simp [List.getD, h1, h2]
theorem mrgL_comm (ws : List Int) (f : Nat) (xs : List Int) (g : Nat) (ys : List Int) (h : ¬ (f < g + ys.length ∧ g < f + xs.length)) : mrgL (mrgL ws f xs) g ys = mrgL (mrgL ws g ys) f xs := by
  refine list_ext (d := 0) (by simp only [mrgL_len]; omega) fun i _ => ?_
  rw [mrgL_getD, mrgL_getD, mrgL_getD, mrgL_getD]
  by_cases h1 : g ≤ i ∧ i < g + ys.length
  · rw [if_pos h1, if_neg (by omega), if_pos h1]
  · rw [if_neg h1]
    by_cases h2 : f ≤ i ∧ i < f + xs.length
    · rw [if_pos h2, if_pos h2]
    · rw [if_neg h2, if_neg h2, if_neg h1]
theorem mrgL_words {ws : List Int} {f : Nat} {xs : List Int} (h : wordsF ws = 0) (hx : wordsF xs = 0) (hf : f + xs.length ≤ 64) : wordsF (mrgL ws f xs) = 0 := by
  obtain ⟨a1, a2⟩ := wordsF_zero h
  obtain ⟨b1, b2⟩ := wordsF_zero hx
  unfold wordsF
  refine wF_ok (by rw [mrgL_len]; omega) fun i hi => ?_
  rw [mrgL_getD]
  by_cases h1 : f ≤ i ∧ i < f + xs.length
  · rw [if_pos h1]; exact b2 (i - f) (by omega)
  · rw [if_neg h1]
    by_cases h2 : i < ws.length
    · exact a2 i h2
    · simp [List.getD, show ws.length ≤ i by omega]
theorem foldl_words : ∀ {ps : List (Int × List Int)} {M : Int → List Int}, (∀ p, p ∈ ps → wordsF p.2 = 0) → (∀ x, wordsF (M x) = 0) → ∀ x, wordsF (ps.foldl putM M x) = 0
  | [], _, _, hM, x => hM x
  | p :: ps, M, hp, hM, x => by
    rw [List.foldl_cons]
    refine foldl_words (fun q hq => hp q (by simp [hq])) (fun y => ?_) x
    unfold putM
    split
    · exact hp p (by simp)
    · exact hM y
theorem hpF_mem {n : Nat} {ps : List (Int × List Int)} (h : hpF n ps = 0) : ps.length ≤ n ∧ ∀ p, p ∈ ps → (0 ≤ p.1 ∧ p.1 < 40) ∧ wordsF p.2 = 0 := by
  unfold hpF at h
  by_cases h1 : n < ps.length
  · rw [if_pos h1] at h; exact absurd h (by decide)
  · rw [if_neg h1] at h
    refine ⟨by omega, fun p hp => ?_⟩
    obtain ⟨i, hi, rfl⟩ := List.mem_iff_getElem.1 hp
    have := firstP_zero h i hi
    simpa [List.getD, hi] using this
theorem hpF_of {n : Nat} {ps : List (Int × List Int)} (hl : ps.length ≤ n) (h : ∀ p, p ∈ ps → (0 ≤ p.1 ∧ p.1 < 40) ∧ wordsF p.2 = 0) : hpF n ps = 0 := by
  unfold hpF
  rw [if_neg (by omega)]
  refine firstP_of fun i hi => ?_
  have := h ps[i] (List.getElem_mem hi)
  simpa [List.getD, hi] using this
theorem foldl_poR : ∀ (L : List Int) (N M : Int → List Int) (x : Int), (poR L N).foldl putM M x = if x ∈ L then N x else M x
  | [], N, M, x => by simp [poR]
  | a :: L, N, M, x => by
    have ih := foldl_poR L N (putM M (a, N a)) x
    unfold poR at ih ⊢
    rw [List.map_cons, List.foldl_cons, ih]
    by_cases h : x ∈ L
    · rw [if_pos h, if_pos (by simp [h])]
    · rw [if_neg h]
      unfold putM
      by_cases e : x = a
      · subst e; rw [if_pos rfl, if_pos (by simp)]
      · rw [if_neg e, if_neg (by simp [h, e])]
/-- Two objects merged, block by block. -/
theorem ojM_comm (M : Int → List Int) (a b : Oj) (h : ¬ (a.1 = b.1 ∧ a.2.1 < b.2.1 + (b.2.2.length : Int) ∧ b.2.1 < a.2.1 + (a.2.2.length : Int))) (ha : 0 ≤ a.2.1) (hb : 0 ≤ b.2.1) : ojM (ojM M a) b = ojM (ojM M b) a := by
  funext x
  unfold ojM putM
  by_cases hab : a.1 = b.1
  · have hc := mrgL_comm (M b.1) a.2.1.toNat a.2.2 b.2.1.toNat b.2.2 (by omega)
    simp only [hab, if_true]
    split
    · exact hc
    · rfl
  · have hba : ¬ b.1 = a.1 := fun e => hab e.symm
    simp only [hab, hba, if_false]
    by_cases h1 : x = a.1
    · have h2 : ¬ x = b.1 := fun e => hab (h1.symm.trans e)
      rw [if_neg h2, if_pos h1, if_pos h1]
    · rw [if_neg h1, if_neg h1]
theorem ojM_words {M : Int → List Int} {o : Oj} (hM : ∀ x, wordsF (M x) = 0) (ho : objF o.1 o.2.1 o.2.2 = 0) : ∀ x, wordsF (ojM M o x) = 0 := fun x => by
  have h := objF_zero ho
  unfold ojM putM
  split
  · exact mrgL_words (hM _) h.2.2 (by omega)
  · exact hM x
/-- What two objects come to: the code, and what is seen behind them. -/
theorem two_objects {vs : List (Int × List Int)} {a b : Oj} (hv : vF vs = 0) (ha : objF a.1 a.2.1 a.2.2 = 0) (hb : objF b.1 b.2.1 b.2.2 = 0) :
    poC vs [a, b] = 0 ∧ apC vs (poV vs [a, b]) = 0 ∧ apM vs (poV vs [a, b]) = ojM (ojM (vs.foldl putM fun _ => []) a) b := by
  have hh : hpF 60 vs = 0 ∧ isVw vs := by
    unfold vF at hv
    by_cases h1 : hpF 60 vs = 0
    · rw [if_pos h1] at hv
      by_cases h2 : isVw vs
      · exact ⟨h1, h2⟩
      · rw [if_neg h2] at hv; exact absurd hv (by decide)
    · rw [if_neg h1] at hv; exact absurd hv h1
  have hc : poC vs [a, b] = 0 := by
    unfold poC
    rw [if_pos hv]
    unfold ojsF
    rw [if_neg (by simp)]
    simp [firstJ, ha, hb]
  have hM0 : ∀ x, wordsF ((vs.foldl putM fun _ => []) x) = 0 := foldl_words (fun p hp => ((hpF_mem hh.1).2 p hp).2) (fun _ => wF_ok (by simp) (by simp))
  have hMM : poM (vs.foldl putM fun _ => []) [a, b] 2 = ojM (ojM (vs.foldl putM fun _ => []) a) b := rfl
  have hLL : poL [a, b] 2 = if b.1 = a.1 then [a.1] else [a.1, b.1] := by
    unfold poL
    simp only [List.take, List.foldl_cons, List.foldl_nil, ordL, List.not_mem_nil, if_false, List.nil_append, List.mem_singleton]
    split <;> rfl
  have hpv : poV vs [a, b] = poR (if b.1 = a.1 then [a.1] else [a.1, b.1]) (ojM (ojM (vs.foldl putM fun _ => []) a) b) := by
    unfold poV
    rw [if_pos hc]
    show poR (poL [a, b] 2) (poM _ [a, b] 2) = _
    rw [hMM, hLL]
  have hw : ∀ x, wordsF (ojM (ojM (vs.foldl putM fun _ => []) a) b x) = 0 := ojM_words (ojM_words hM0 ha) hb
  have hA := (objF_zero ha).1
  have hB := (objF_zero hb).1
  have hhp : hpF 60 (poV vs [a, b]) = 0 := by
    rw [hpv]
    refine hpF_of ?_ fun p hp => ?_
    · unfold poR
      rw [List.length_map]
      split <;> simp
    · unfold poR at hp
      obtain ⟨x, hx, rfl⟩ := List.mem_map.1 hp
      refine ⟨?_, hw x⟩
      dsimp only
      split at hx
      · rw [List.mem_singleton] at hx; omega
      · simp only [List.mem_cons, List.not_mem_nil, or_false] at hx; omega
  refine ⟨hc, ?_, ?_⟩
  · unfold apC
    rw [if_pos hh.1, if_pos hhp, if_pos hh.2]
  · funext x
    unfold apM
    rw [hpv, foldl_poR]
    by_cases hx : x ∈ (if b.1 = a.1 then [a.1] else [a.1, b.1])
    · rw [if_pos hx]
    · rw [if_neg hx]
      have h1 : ¬ x = a.1 ∧ ¬ x = b.1 := by
        by_cases e : b.1 = a.1
        · rw [if_pos e, List.mem_singleton] at hx; exact ⟨hx, fun h => hx (h.trans e)⟩
        · rw [if_neg e] at hx; simp only [List.mem_cons, List.not_mem_nil, or_false, not_or] at hx; exact hx
      unfold ojM putM
      rw [if_neg h1.2, if_neg h1.1]
/-- .. in either order. -/
theorem two_same {vs : List (Int × List Int)} {a b : Oj} (hv : vF vs = 0) (ha : objF a.1 a.2.1 a.2.2 = 0) (hb : objF b.1 b.2.1 b.2.2 = 0) (hc : clashB a.1 a.2.1 a.2.2 b.1 b.2.1 b.2.2 = false) :
    poC vs [a, b] = 0 ∧ apR vs (poV vs [a, b]) = apR vs (poV vs [b, a]) := by
  obtain ⟨h1, h2, h3⟩ := two_objects hv ha hb
  obtain ⟨k1, k2, k3⟩ := two_objects hv hb ha
  refine ⟨h1, ?_⟩
  unfold clashB at hc
  rw [if_pos ha, if_pos hb] at hc
  have hcl := of_decide_eq_false hc
  unfold apR
  rw [if_pos h2, if_pos k2, h3, k3, ojM_comm _ a b hcl (by have := objF_zero ha; omega) (by have := objF_zero hb; omega)]
/-- The puts of objects are of no two blocks alike. -/
theorem poV_apart {vs : List (Int × List Int)} {os : List Oj} (h : poC vs os = 0) : ∀ i k, k < i → i < (poV vs os).length → ((poV vs os).getD k (0, [])).1 ≠ ((poV vs os).getD i (0, [])).1 := by
  intro i k hki hi
  obtain ⟨_, _, _, h4⟩ := poC_zero h
  have hf := poL_facts (os := os) (fun i hi => by have := objF_zero (h4 i hi); omega) os.length (Nat.le_refl _)
  unfold poV at hi ⊢
  rw [if_pos h] at hi ⊢
  have hi' : i < (poL os os.length).length := by simpa [poR] using hi
  rw [poR_at _ _ _ hi', poR_at _ _ _ (by omega)]
  dsimp only
  have hk' : k < (poL os os.length).length := by omega
  intro e
  have e' : (poL os os.length)[k] = (poL os os.length)[i] := by simpa [List.getD, hi', hk'] using e
  exact List.pairwise_iff_getElem.1 hf.1 k i hk' hi' hki e'
end Go.Proofs.YtamknomapabmfaaGreat
/- Chapter 5: how great the answer of PutsOf is (the walk of 'spec.PutsOf' is to come here). -/
namespace Go.Proofs.YtamknomapabmfaaGreat
open Go.RowKit Go.Maps

theorem cellsP_twoJ (ps : List (Int × List Int)) (k : Nat) (V : Nat → Value) (j : Nat) (h : j < k * 2) : (cellsP ps k V)[j]? = some (if j % 2 = 0 then .int .i64 (ps.getD (j / 2) (0, [])).1 else V (j / 2)) := by
  unfold cellsP
  rw [List.getElem?_map, List.getElem?_range h]
  rfl
theorem cellsP_set {P P' : List (Int × List Int)} {j t : Nat} {V : Nat → Value} {z : Value} (hP : ∀ i, i < j → (P'.getD i (0, [])).1 = (P.getD i (0, [])).1) :
    (cellsP P j V).set (t * 2 + 1) z = cellsP P' j (fun i => if i = t then z else V i) := by
  apply List.ext_getElem?
  intro i
  by_cases hi : i < j * 2
  · rw [cellsP_twoJ _ _ _ _ hi, hP _ (by omega)]
    by_cases e : i = t * 2 + 1
    · subst e
      rw [List.getElem?_set_self (by rw [cellsP_len]; exact hi), if_neg (by omega), if_pos (by omega)]
    · rw [List.getElem?_set_ne (fun h => e h.symm), cellsP_twoJ _ _ _ _ hi]
      by_cases e2 : i % 2 = 0
      · rw [if_pos e2, if_pos e2]
      · rw [if_neg e2, if_neg e2, if_neg (by omega)]
  · rw [List.getElem?_eq_none (by rw [List.length_set, cellsP_len]; omega), List.getElem?_eq_none (by rw [cellsP_len]; omega)]
/-- The words of one put of a built row are put anew, in place. -/
theorem puts_set {O : Nat} {wr w1 : World} {g j cap t : Nat} {P P' : List (Int × List Int)} {V : Nat → Value} {Bk : Nat → Nat} {z : Value} {ws : List Int} (ht : t < j)
    (hr : wr.ownsRow (O + 1) 38 2 (.slice (some ⟨g, 0, none⟩) j cap) j (cellsP P j V)) (hi : Inner (O < ·) wr (some g) j V Bk (fun i => (P.getD i (0, [])).2)) (hb : Below wr.heap.size wr w1) (hz : OwI wr.heap.size w1 z ws)
    (hP : ∀ i, i < j → P'.getD i (0, []) = if i = t then ((P.getD i (0, [])).1, ws) else P.getD i (0, [])) :
    (w1.setCell ⟨g, t * 2 + 1, none⟩ z).ownsRow (O + 1) 38 2 (.slice (some ⟨g, 0, none⟩) j cap) j (cellsP P' j (fun i => if i = t then z else V i)) ∧
      ∃ Bk', Inner (O < ·) (w1.setCell ⟨g, t * 2 + 1, none⟩ z) (some g) j (fun i => if i = t then z else V i) Bk' (fun i => (P'.getD i (0, [])).2) := by
  obtain ⟨hg1, hg2⟩ := hr.lt g rfl
  have hs := hb.size
  obtain ⟨bz, hz1, hz2⟩ := hz
  have h2 := hi.later hb
  have hw : Wr (· = g) w1 (w1.setCell ⟨g, t * 2 + 1, none⟩ z) := (Wr.refl (· = g) w1).setCell (p := ⟨g, t * 2 + 1, none⟩) rfl _
  refine ⟨?_, fun i => if i = t then bz else Bk i, fun i hi' => ?_, fun i hi' hne => ?_⟩
  · rw [← cellsP_set (P := P) (P' := P') (fun i hi' => by rw [hP i hi']; split <;> rfl)]
    exact ((ownsRow_later hr hb).stored (t * 2 + 1) z).1
  · rw [hP i hi']
    by_cases e : i = t
    · subst e
      simp only [if_true]
      exact hz1.wr hw (fun hn b e' h => by have := (hz2 hn).1; omega)
    · simp only [if_neg e]
      exact (h2.rd i hi').wr hw (fun hn b e' h => (h2.own i hi' hn).2.2.2.1 (by rw [← e', h]))
  · rw [hP i hi'] at hne
    by_cases e : i = t
    · subst e
      simp only [if_true] at hne ⊢
      obtain ⟨k1, k2, k3⟩ := hz2 hne
      refine ⟨by omega, by simpa using k2, fun o => by rw [World.frozen?_setCell]; exact k3 o, fun e' => by injection e' with e'; omega, fun i' hi'' hne' e' => ?_⟩
      by_cases e2 : i' = i
      · exact e2
      · rw [hP i' hi'', if_neg e2] at hne'
        rw [if_neg e2] at e'
        have := (hi.own i' hi'' hne').2.1
        omega
    · simp only [if_neg e] at hne ⊢
      obtain ⟨k1, k2, k3, k4, k5⟩ := h2.own i hi' hne
      refine ⟨k1, by simpa using k2, fun o => by rw [World.frozen?_setCell]; exact k3 o, k4, fun i' hi'' hne' e' => ?_⟩
      by_cases e2 : i' = t
      · subst e2
        rw [hP i' hi'', if_pos rfl] at hne'
        simp only [if_true] at e'
        have h6 := (hz2 hne').1
        have h7 := (hi.own i hi' hne).2.1
        omega
      · rw [hP i' hi'', if_neg e2] at hne'
        rw [if_neg e2] at e'
        exact k5 i' hi'' hne' e'

theorem totP_mostJ {ps : List (Int × List Int)} {B : Nat} (h : ∀ p ∈ ps, p.2.length ≤ B) : totP ps ps.length ≤ ps.length * (B + 1) := by
  have g : ∀ i, i ≤ ps.length → totP ps i ≤ i * (B + 1) := by
    intro i
    induction i with
    | zero => intro _; rw [totP_zero]; omega
    | succ i ih =>
      intro hi
      rw [totP_succ ps i (by omega), Nat.succ_mul]
      have := ih (by omega)
      have := h (ps.getD i (0, [])) (by simp [List.getD, show i < ps.length by omega])
      omega
  exact g _ (Nat.le_refl _)
theorem po_bound (vs : List (Int × List Int)) (os : List Oj) : totP (poV vs os) (poV vs os).length ≤ 1073741824 := by
  unfold poV
  split
  · rename_i h
    obtain ⟨h1, _, h3, h4⟩ := poC_zero h
    have hob : ∀ i, i < os.length → 0 ≤ (os.getD i oj0).1 ∧ (os.getD i oj0).1 < 40 ∧ (os.getD i oj0).2.1.toNat + (os.getD i oj0).2.2.length ≤ 64 := fun i hi => by
      obtain ⟨⟨k1, k2, k3, k4⟩, k5, _⟩ := objF_zero (h4 i hi)
      omega
    have hl := (poL_facts (os := os) (fun i hi => ⟨(hob i hi).1, (hob i hi).2.1⟩) os.length (Nat.le_refl _)).2.1
    have hM := poM_len (M := vs.foldl putM fun _ => []) (os := os) (fun a => foldl_len (by simp) (fun i hi => ((hpF_all h1).2 i hi).2.2)) (fun i hi => (hob i hi).2.2) os.length (Nat.le_refl _)
    generalize poL os os.length = L at hl
    generalize poM (vs.foldl putM fun _ => []) os os.length = M at hM
    have hw : ∀ p ∈ poR L M, p.2.length ≤ 64 := fun p hp => by
      obtain ⟨a, _, rfl⟩ := List.mem_map.1 hp
      exact hM a
    have h5 := totP_mostJ hw
    have h6 : (poR L M).length = L.length := by simp [poR]
    have h7 : (poR L M).length * (64 + 1) ≤ 12 * (64 + 1) := Nat.mul_le_mul_right _ (by omega)
    omega
  · simp [totP]
end Go.Proofs.YtamknomapabmfaaGreat
