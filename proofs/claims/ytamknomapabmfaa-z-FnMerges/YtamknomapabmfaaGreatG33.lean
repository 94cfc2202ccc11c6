/- Obj5 in one text: what each says stands at its head below. -/
import Derived.Test.YtamknomapabmfaaGreatG32
/- Chapter 5: '(part).mergedInto', walked. -/
namespace Go.Proofs.YtamknomapabmfaaGreat
open Go.RowKit

/-- copy, run, whatever the source: what lies there goes over the row that is known whole. -/
theorem copy_run_any {w : World} {g o dLen dCap sLen sCap : Nat} {sp : Option Addr} {cur X : List Value} (hg : w.heap[g]? = some (.cells cur.toArray 2 (0, 0))) (hn : X.length = Nat.min sLen dLen)
    (hpos : 0 < X.length → ∃ b p, sp = some ⟨b, p, none⟩ ∧ ∀ j v, X[j]? = some v → w.cell? ((⟨b, p, none⟩ : Addr).add j) = some v) (hfit : o + X.length ≤ cur.length) (h1 : ∀ v ∈ X, v.oneCell' = true) :
    ∃ w', (Builtin.copy_ #[24, 24] 3 #[.slice (some ⟨g, o, none⟩) dLen dCap, .slice sp sLen sCap]).run Tryz.prog w = .ok (goInt X.length) w' ∧
      w'.heap[g]? = some (.cells (splice cur o X).toArray 2 (0, 0)) ∧ Below g w w' := by
  by_cases h0 : X.length = 0
  · obtain rfl : X = [] := List.eq_nil_of_length_eq_zero h0
    exact ⟨w, run_copy_none (P := Tryz.prog) w 24 24 3 2 _ _ _ _ _ _ Tryz.underlying24 (by kernel_rfl) (by simpa using hn.symm), by simpa [splice] using hg, Below.refl _ _⟩
  · obtain ⟨b, p, rfl, hs⟩ := hpos (by omega)
    exact copy_run hg hn hs hfit h1

/-- The words with those of an object in their place. -/
def mrgL (ws : List Int) (f : Nat) (xs : List Int) : List Int :=
  (List.range (max ws.length (f + xs.length))).map fun i => if f ≤ i ∧ i < f + xs.length then xs.getD (i - f) 0 else ws.getD i 0
theorem mrgL_len (ws : List Int) (f : Nat) (xs : List Int) : (mrgL ws f xs).length = max ws.length (f + xs.length) := by simp [mrgL]
theorem mrgL_at (ws : List Int) (f : Nat) (xs : List Int) (i : Nat) (hi : i < max ws.length (f + xs.length)) : (mrgL ws f xs).getD i 0 = if f ≤ i ∧ i < f + xs.length then xs.getD (i - f) 0 else ws.getD i 0 := by
  have h : i < (mrgL ws f xs).length := by rw [mrgL_len]; exact hi
  rw [List.getD, List.getElem?_eq_getElem h]
  simp [mrgL]
theorem splice_get {α : Type} (L : List α) (o : Nat) (X : List α) (i : Nat) (h : o + X.length ≤ L.length) : (splice L o X)[i]? = if o ≤ i ∧ i < o + X.length then X[i - o]? else L[i]? := by
  unfold splice
  by_cases h1 : i < o
  · rw [List.getElem?_append_left (by simp; omega), if_neg (by omega)]
    simp [h1]
  · rw [List.getElem?_append_right (by simp; omega)]
    simp only [List.length_take, show min o L.length = o by omega]
    by_cases h2 : i < o + X.length
    · rw [List.getElem?_append_left (by omega), if_pos ⟨by omega, h2⟩]
    · rw [List.getElem?_append_right (by omega), if_neg (by omega), List.getElem?_drop]
      congr 1
      omega
theorem mrg_rows (ws : List Int) (f : Nat) (xs : List Int) (M : Nat) (hM : M = max ws.length (f + xs.length)) :
    splice (splice (List.replicate M (Value.int .i64 0)) 0 (ws.map (Value.int .i64))) f (xs.map (Value.int .i64)) = (mrgL ws f xs).map (Value.int .i64) := by
  have hw : ws.length ≤ M := by rw [hM]; exact Nat.le_max_left _ _
  have hf : f + xs.length ≤ M := by rw [hM]; exact Nat.le_max_right _ _
  apply List.ext_getElem?
  intro i
  rw [splice_get _ _ _ _ (by rw [length_splice _ _ _ (by simp; omega)]; simp; omega), splice_get _ _ _ _ (by simp; omega)]
  simp only [List.length_map, Nat.zero_add, Nat.zero_le, true_and, Nat.sub_zero]
  by_cases hi : i < M
  · have hr : ((mrgL ws f xs).map (Value.int .i64))[i]? = some (.int .i64 ((mrgL ws f xs).getD i 0)) := by
      have hl : i < (mrgL ws f xs).length := by rw [mrgL_len, ← hM]; exact hi
      rw [List.getElem?_map, List.getElem?_eq_getElem hl, List.getD, List.getElem?_eq_getElem hl]
      rfl
    rw [hr, mrgL_at _ _ _ _ (by rw [← hM]; exact hi)]
    by_cases h1 : f ≤ i ∧ i < f + xs.length
    · rw [if_pos h1, if_pos h1, List.getElem?_map, List.getElem?_eq_getElem (by omega), List.getD, List.getElem?_eq_getElem (by omega)]
      rfl
    · rw [if_neg h1, if_neg h1]
      by_cases h2 : i < ws.length
      · rw [if_pos h2, List.getElem?_map, List.getElem?_eq_getElem h2, List.getD, List.getElem?_eq_getElem h2]
        rfl
      · rw [if_neg h2, List.getElem?_replicate, if_pos hi, List.getD, List.getElem?_eq_none (by omega)]
        rfl
  · rw [if_neg (by omega), if_neg (by omega), List.getElem?_eq_none (by simp; omega), List.getElem?_eq_none (by rw [List.length_map, mrgL_len, ← hM]; omega)]

/-- What a reading's cells are to a copy. -/
theorem RdI.from {S : Nat → Prop} {w : World} {ao : Option Addr} {n c : Nat} {xs : List Int} (h : RdI S w (.slice ao n c) xs) (w' : World) (hb : Below w.heap.size w w') :
    0 < (xs.map (Value.int .i64)).length → ∃ b p, ao = some ⟨b, p, none⟩ ∧ ∀ j v, (xs.map (Value.int .i64))[j]? = some v → w'.cell? ((⟨b, p, none⟩ : Addr).add j) = some v := by
  intro h0
  obtain ⟨ao', c', e, _, h3⟩ := h
  injection e with e1 e2 e3
  subst e1
  obtain ⟨b, off, e, _, hc⟩ := h3 (by rintro rfl; simp at h0)
  refine ⟨b, off, e, fun j v hv => ?_⟩
  have hj : j < xs.length := by simpa using (List.getElem?_eq_some_iff.1 hv).1
  rw [Addr.add_lit, cell_later hb (hc j hj), ← hv]
  simp [List.getD, hj]

set_option maxHeartbeats 2000000 in
set_option maxRecDepth 4000 in
theorem mergedInto {S T : Nat → Prop} {w : World} {y z : Value} {xs ws : List Int} (a : Int) (f : Nat) (hy : RdI S w y xs) (hz : RdI T w z ws) (hf : f + xs.length ≤ 64) (hx : 0 < xs.length) (hw : ws.length ≤ 64) :
    Calls Tryz.prog 55 #[.agg #[.int .i64 a, .int .i64 (f : Int), y], z] w fun e w' => ∃ u, e = .returned u ∧ Below w.heap.size w w' ∧ OwI w.heap.size w' u (mrgL ws f xs) := by
  obtain ⟨ay, cy, rfl⟩ := hy.shape
  obtain ⟨az, cz, rfl⟩ := hz.shape
  have HY := hide (fun w' hb => hy.from w' hb)
  have HZ := hide (fun w' hb => hz.from w' hb)
  obtain ⟨M, hM⟩ : ∃ M, max ws.length (f + xs.length) = M := ⟨_, rfl⟩
  have HR := hide (mrg_rows ws f xs M hM.symm)
  have HLen := hide ((mrgL_len ws f xs).trans hM)
  obtain ⟨R, hR⟩ : ∃ R, mrgL ws f xs = R := ⟨_, rfl⟩
  rw [hR] at HR HLen ⊢
  clear hR
  obtain ⟨X, hX⟩ : ∃ X, xs.map (Value.int .i64) = X := ⟨_, rfl⟩
  obtain ⟨W, hW⟩ : ∃ W, ws.map (Value.int .i64) = W := ⟨_, rfl⟩
  have HXo : Hid (∀ v ∈ X, v.oneCell' = true) := by rw [← hX]; exact ints_oneCell _ _
  have HWo : Hid (∀ v ∈ W, v.oneCell' = true) := by rw [← hW]; exact ints_oneCell _ _
  have HXl : Hid (X.length = xs.length) := by rw [← hX]; exact List.length_map _
  have HWl : Hid (W.length = ws.length) := by rw [← hW]; exact List.length_map _
  rw [hX] at HY HR
  rw [hW] at HZ HR
  obtain ⟨n, hn⟩ : ∃ n, xs.length = n := ⟨_, rfl⟩
  obtain ⟨l, hl⟩ : ∃ l, ws.length = l := ⟨_, rfl⟩
  rw [hn] at hf hx hM HXl ⊢
  rw [hl] at hw hM HWl ⊢
  clear hy hz hX hW hn hl
  have hM64 : M ≤ 64 := by omega
  have hmk := run_make_row' (P := Tryz.prog) 24 2 (.int .i64 0) 8 Tryz.underlying24 Tryz.infoInt rfl .i64 .i64 M (by omega) (by omega)
  rw [made_rep] at hmk
  obtain ⟨Z, hZ⟩ : ∃ Z, List.replicate M (Value.int .i64 0) = Z := ⟨_, rfl⟩
  rw [hZ] at hmk HR
  have HZl : Hid (Z.length = M) := by rw [← hZ]; simp [Hid]
  clear hZ
  have A0 := hide (below_alloc w (.cells #[.int .i64 a, .int .i64 (f : Int), .slice ay n cy] 48))
  go_enter Tryz.func55, Tryz.ntmps55
  go_wp2_with fail
  refine (partEnd _ a f ay n cy (by omega) (by omega) (by omega)).mono ?_
  rintro e w1 ⟨rfl, hb⟩
  obtain ⟨c0, c1, c2⟩ := (Var3_new w (.int .i64 a) (.int .i64 (f : Int)) (.slice ay n cy) 48).later hb
  have B1 := hide (below_on A0.out hb)
  clear hb A0
  by_cases hc : f + n ≤ l
  · have hMl : M = l := by omega
    subst hMl
    have hc1 : ¬ ((M : Int) < (f : Int) + (n : Int)) := by omega
    have hc2 : ((f : Int) + (n : Int) ≤ (M : Int)) := by omega
    have hfM : f ≤ M := by omega
    have hfM2 : ¬ M = f := by omega
    go_wp2_with fail
    obtain ⟨w3, hrun, hg3, hb3⟩ := copy_run_any (w := w1.alloc (.cells Z.toArray 2)) (g := w1.heap.size) (o := 0) (dLen := M) (dCap := M) (sp := az) (sLen := M) (sCap := cz) (cur := Z) (X := W) (heap_alloc_new w1 _) (by rw [HWl.out]; exact (Nat.min_eq_left (by omega)).symm) (HZ.out _ (below_on B1.out (below_alloc _ _))) (by rw [HWl.out, HZl.out]; omega) HWo.out
    rw [hrun]
    have hsz : w.heap.size < w1.heap.size := World.block_lt_of_cell? _ _ c0
    have HB3 := hide ((below_on B1.out (below_alloc _ (.cells Z.toArray 2))).trans (hb3.mono (by omega)))
    have d1 : w3.cell? ⟨w.heap.size, 1, none⟩ = some (.int .i64 (f : Int)) := (hb3.cell (p := ⟨w.heap.size, 1, none⟩) hsz).trans (cell_later (below_alloc _ _) c1)
    have d2 : w3.cell? ⟨w.heap.size, 2, none⟩ = some (.slice ay n cy) := (hb3.cell (p := ⟨w.heap.size, 2, none⟩) hsz).trans (cell_later (below_alloc _ _) c2)
    have HG3 := hide hg3
    have HL3 : Hid ((splice Z 0 W).length = M) := by rw [Hid, length_splice _ _ _ (by rw [HWl.out, HZl.out]; omega)]; exact HZl.out
    obtain ⟨Y, hY⟩ : ∃ Y, splice Z 0 W = Y := ⟨_, rfl⟩
    have HY2 := hide hY
    rw [hY] at HG3 HL3
    clear hrun hg3 hb3 hY c0 c1 c2 hmk
    go_wp2_with fail
    refine wp_region_held_drew (S := fun w' => w'.cell? ⟨w.heap.size, 1, none⟩ = some (.int .i64 (f : Int)) ∧ w'.cell? ⟨w.heap.size, 2, none⟩ = some (.slice ay n cy)) (by kernel_rfl) ⟨d1, d2⟩ (fun hHeld => ?_)
    refine wpAnyH_take (i := 0) (v := ?vm0) rfl (by kernel_rfl) (by kernel_rfl) (by kernel_rfl) (fun _ _ _ h => h) (Or.inl ⟨by rfl, ?hm0⟩) hHeld ?rm0
    case hm0 => intro w9 hSw; (try dsimp only at hSw); first | (go_simp; done) | (go_simp; with_reducible rfl)
    try simp only [Act.put, List.setIfInBounds_toArray, List.set_cons_zero, List.set_cons_succ, List.getElem_toArray, List.getElem_cons_zero]
    refine wpAnyH_take (i := 1) (v := ?vm1) rfl (by kernel_rfl) (by kernel_rfl) (by kernel_rfl) (fun _ _ _ h => h) (Or.inl ⟨by rfl, ?hm1⟩) hHeld ?rm1
    case hm1 => intro w9 hSw; (try dsimp only at hSw); first | (go_simp; done) | (go_simp; with_reducible rfl)
    try simp only [Act.put, List.setIfInBounds_toArray, List.set_cons_zero, List.set_cons_succ, List.getElem_toArray, List.getElem_cons_zero, List.getElem_cons_succ]
    refine wpAnyH_take (i := 2) (v := ?vm2) rfl (by kernel_rfl) (by kernel_rfl) (by kernel_rfl) (fun _ _ _ h => h) (Or.inl ⟨by rfl, ?hm2⟩) hHeld ?rm2
    case hm2 => intro w9 hSw; (try dsimp only at hSw); first | (go_simp; done) | (go_simp; with_reducible rfl)
    try simp only [Act.put, List.setIfInBounds_toArray, List.set_cons_zero, List.set_cons_succ, List.getElem_toArray, List.getElem_cons_zero, List.getElem_cons_succ]
    refine wpAnyH_take (i := 3) (v := ?vm3) rfl (by kernel_rfl) (by kernel_rfl) (by kernel_rfl) (fun _ _ _ h => h) (Or.inl ⟨by rfl, ?hm3⟩) hHeld ?rm3
    case hm3 => intro w9 hSw; (try dsimp only at hSw); first | (go_simp; done) | (go_simp; with_reducible rfl)
    try simp only [Act.put, List.setIfInBounds_toArray, List.set_cons_zero, List.set_cons_succ, List.getElem_toArray, List.getElem_cons_zero, List.getElem_cons_succ]
    refine wpAnyH_take (i := 4) (v := ?vm4) rfl (by kernel_rfl) (by kernel_rfl) (by kernel_rfl) (fun _ _ _ h => h) (Or.inl ⟨by rfl, ?hm4⟩) hHeld ?rm4
    case hm4 => intro w9 hSw; (try dsimp only at hSw); first | (go_simp; done) | (go_simp; with_reducible rfl)
    try simp only [Act.put, List.setIfInBounds_toArray, List.set_cons_zero, List.set_cons_succ, List.getElem_toArray, List.getElem_cons_zero, List.getElem_cons_succ]
    refine wpAnyH_take (i := 5) (v := ?vm5) rfl (by kernel_rfl) (by kernel_rfl) (by kernel_rfl) (fun _ _ _ h => h) (Or.inl ⟨by rfl, ?hm5⟩) hHeld ?rm5
    case hm5 => intro w9 hSw; (try dsimp only at hSw); first | (go_simp; done) | (go_simp; with_reducible rfl)
    try simp only [Act.put, List.setIfInBounds_toArray, List.set_cons_zero, List.set_cons_succ, List.getElem_toArray, List.getElem_cons_zero, List.getElem_cons_succ]
    refine wpAnyH_take (i := 6) (v := ?vm6) rfl (by kernel_rfl) (by kernel_rfl) (by kernel_rfl) (fun _ _ _ h => h) (Or.inl ⟨by rfl, ?hm6⟩) hHeld ?rm6
    case hm6 => intro w9 hSw; (try dsimp only at hSw); first | (go_simp; done) | (go_simp; with_reducible rfl)
    try simp only [Act.put, List.setIfInBounds_toArray, List.set_cons_zero, List.set_cons_succ, List.getElem_toArray, List.getElem_cons_zero, List.getElem_cons_succ]
    refine wpAnyH_ready (rs := [7]) (by kernel_rfl) (by simp) (AllReadyH.cons rfl (fun K hK => ?_) AllReadyH.nil)
    refine step_copy_splice rfl (.tmp 19) (.tmp 21) 24 24 rfl 2 Tryz.underlying24 (by kernel_rfl) (some ⟨w1.heap.size, f, none⟩) ay (M - f) (M - f) n cy (by first | rfl | (simp [Act.eval, go_sem])) (by first | rfl | (simp [Act.eval, go_sem])) w1.heap.size f Y 2 HG3.out X (by rw [HXl.out]; exact (Nat.min_eq_left (by omega)).symm) (fun h => ⟨rfl, by obtain ⟨b, p, e, hs⟩ := HY.out w3.drew (below_on HB3.out (below_drewN _ 1)) h; exact ⟨_, e, hs⟩⟩) (by rw [HXl.out, HL3.out]; omega) HXo.out w1.heap.size w3.drew (Below.refl _ _) (Nat.le_refl _) ?_
    intro w4 HG4 hb4
    refine hK.out _ _ ⟨(hb4.cell (p := ⟨w.heap.size, 1, none⟩) hsz).trans d1, (hb4.cell (p := ⟨w.heap.size, 2, none⟩) hsz).trans d2⟩ (fun hHeld2 => ?_)
    clear hK K
    try simp only [Act.put, List.setIfInBounds_toArray, List.set_cons_zero, List.set_cons_succ, List.getElem_toArray, List.getElem_cons_zero, List.getElem_cons_succ]
    refine wpAnyH_done (by kernel_rfl) ?_ _
    have HB4 := hide ((below_on HB3.out (below_drewN w3 1)).trans (hb4.mono (by omega)))
    have HF : Hid (w4.heap[w1.heap.size]? = some (.cells (R.map (Value.int .i64)).toArray 2 (0, 0))) := by have h := HG4.out; rw [← HY2.out, HR.out] at h; exact h
    clear hb4 HG4 hHeld2
    go_wp2
    go_ret
    exact ⟨_, rfl, HB4.out, (ow_row HF.out HLen.out (by omega)).mono (by omega)⟩
  · have hc1 : ((l : Int) < (f : Int) + (n : Int)) := by omega
    have hc2 : ¬ ((f : Int) + (n : Int) ≤ (l : Int)) := by omega
    have hMf : f + n = M := by omega
    have hMf' : (f : Int) + (n : Int) = (M : Int) := by omega
    rw [← hMf'] at hmk
    clear hMf' hM
    have hfM : f ≤ M := by omega
    have hfM2 : ¬ M = f := by omega
    go_wp2_with fail
    obtain ⟨w3, hrun, hg3, hb3⟩ := copy_run_any (w := w1.alloc (.cells Z.toArray 2)) (g := w1.heap.size) (o := 0) (dLen := M) (dCap := M) (sp := az) (sLen := l) (sCap := cz) (cur := Z) (X := W) (heap_alloc_new w1 _) (by rw [HWl.out]; exact (Nat.min_eq_left (by omega)).symm) (HZ.out _ (below_on B1.out (below_alloc _ _))) (by rw [HWl.out, HZl.out]; omega) HWo.out
    rw [hrun]
    have hsz : w.heap.size < w1.heap.size := World.block_lt_of_cell? _ _ c0
    have HB3 := hide ((below_on B1.out (below_alloc _ (.cells Z.toArray 2))).trans (hb3.mono (by omega)))
    have d1 : w3.cell? ⟨w.heap.size, 1, none⟩ = some (.int .i64 (f : Int)) := (hb3.cell (p := ⟨w.heap.size, 1, none⟩) hsz).trans (cell_later (below_alloc _ _) c1)
    have d2 : w3.cell? ⟨w.heap.size, 2, none⟩ = some (.slice ay n cy) := (hb3.cell (p := ⟨w.heap.size, 2, none⟩) hsz).trans (cell_later (below_alloc _ _) c2)
    have HG3 := hide hg3
    have HL3 : Hid ((splice Z 0 W).length = M) := by rw [Hid, length_splice _ _ _ (by rw [HWl.out, HZl.out]; omega)]; exact HZl.out
    obtain ⟨Y, hY⟩ : ∃ Y, splice Z 0 W = Y := ⟨_, rfl⟩
    have HY2 := hide hY
    rw [hY] at HG3 HL3
    clear hrun hg3 hb3 hY c0 c1 c2 hmk
    go_wp2_with fail
    refine wp_region_held_drew (S := fun w' => w'.cell? ⟨w.heap.size, 1, none⟩ = some (.int .i64 (f : Int)) ∧ w'.cell? ⟨w.heap.size, 2, none⟩ = some (.slice ay n cy)) (by kernel_rfl) ⟨d1, d2⟩ (fun hHeld => ?_)
    refine wpAnyH_take (i := 0) (v := ?vk0) rfl (by kernel_rfl) (by kernel_rfl) (by kernel_rfl) (fun _ _ _ h => h) (Or.inl ⟨by rfl, ?hk0⟩) hHeld ?rk0
    case hk0 => intro w9 hSw; (try dsimp only at hSw); first | (go_simp; done) | (go_simp; with_reducible rfl)
    try simp only [Act.put, List.setIfInBounds_toArray, List.set_cons_zero, List.set_cons_succ, List.getElem_toArray, List.getElem_cons_zero]
    refine wpAnyH_take (i := 1) (v := ?vk1) rfl (by kernel_rfl) (by kernel_rfl) (by kernel_rfl) (fun _ _ _ h => h) (Or.inl ⟨by rfl, ?hk1⟩) hHeld ?rk1
    case hk1 => intro w9 hSw; (try dsimp only at hSw); first | (go_simp; done) | (go_simp; with_reducible rfl)
    try simp only [Act.put, List.setIfInBounds_toArray, List.set_cons_zero, List.set_cons_succ, List.getElem_toArray, List.getElem_cons_zero, List.getElem_cons_succ]
    refine wpAnyH_take (i := 2) (v := ?vk2) rfl (by kernel_rfl) (by kernel_rfl) (by kernel_rfl) (fun _ _ _ h => h) (Or.inl ⟨by rfl, ?hk2⟩) hHeld ?rk2
    case hk2 => intro w9 hSw; (try dsimp only at hSw); first | (go_simp; done) | (go_simp; with_reducible rfl)
    try simp only [Act.put, List.setIfInBounds_toArray, List.set_cons_zero, List.set_cons_succ, List.getElem_toArray, List.getElem_cons_zero, List.getElem_cons_succ]
    refine wpAnyH_take (i := 3) (v := ?vk3) rfl (by kernel_rfl) (by kernel_rfl) (by kernel_rfl) (fun _ _ _ h => h) (Or.inl ⟨by rfl, ?hk3⟩) hHeld ?rk3
    case hk3 => intro w9 hSw; (try dsimp only at hSw); first | (go_simp; done) | (go_simp; with_reducible rfl)
    try simp only [Act.put, List.setIfInBounds_toArray, List.set_cons_zero, List.set_cons_succ, List.getElem_toArray, List.getElem_cons_zero, List.getElem_cons_succ]
    refine wpAnyH_take (i := 4) (v := ?vk4) rfl (by kernel_rfl) (by kernel_rfl) (by kernel_rfl) (fun _ _ _ h => h) (Or.inl ⟨by rfl, ?hk4⟩) hHeld ?rk4
    case hk4 => intro w9 hSw; (try dsimp only at hSw); first | (go_simp; done) | (go_simp; with_reducible rfl)
    try simp only [Act.put, List.setIfInBounds_toArray, List.set_cons_zero, List.set_cons_succ, List.getElem_toArray, List.getElem_cons_zero, List.getElem_cons_succ]
    refine wpAnyH_take (i := 5) (v := ?vk5) rfl (by kernel_rfl) (by kernel_rfl) (by kernel_rfl) (fun _ _ _ h => h) (Or.inl ⟨by rfl, ?hk5⟩) hHeld ?rk5
    case hk5 => intro w9 hSw; (try dsimp only at hSw); first | (go_simp; done) | (go_simp; with_reducible rfl)
    try simp only [Act.put, List.setIfInBounds_toArray, List.set_cons_zero, List.set_cons_succ, List.getElem_toArray, List.getElem_cons_zero, List.getElem_cons_succ]
    refine wpAnyH_take (i := 6) (v := ?vk6) rfl (by kernel_rfl) (by kernel_rfl) (by kernel_rfl) (fun _ _ _ h => h) (Or.inl ⟨by rfl, ?hk6⟩) hHeld ?rk6
    case hk6 => intro w9 hSw; (try dsimp only at hSw); first | (go_simp; done) | (go_simp; with_reducible rfl)
    try simp only [Act.put, List.setIfInBounds_toArray, List.set_cons_zero, List.set_cons_succ, List.getElem_toArray, List.getElem_cons_zero, List.getElem_cons_succ]
    refine wpAnyH_ready (rs := [7]) (by kernel_rfl) (by simp) (AllReadyH.cons rfl (fun K hK => ?_) AllReadyH.nil)
    refine step_copy_splice rfl (.tmp 19) (.tmp 21) 24 24 rfl 2 Tryz.underlying24 (by kernel_rfl) (some ⟨w1.heap.size, f, none⟩) ay (M - f) (M - f) n cy (by first | rfl | (simp [Act.eval, go_sem])) (by first | rfl | (simp [Act.eval, go_sem])) w1.heap.size f Y 2 HG3.out X (by rw [HXl.out]; exact (Nat.min_eq_left (by omega)).symm) (fun h => ⟨rfl, by obtain ⟨b, p, e, hs⟩ := HY.out w3.drew (below_on HB3.out (below_drewN _ 1)) h; exact ⟨_, e, hs⟩⟩) (by rw [HXl.out, HL3.out]; omega) HXo.out w1.heap.size w3.drew (Below.refl _ _) (Nat.le_refl _) ?_
    intro w4 HG4 hb4
    refine hK.out _ _ ⟨(hb4.cell (p := ⟨w.heap.size, 1, none⟩) hsz).trans d1, (hb4.cell (p := ⟨w.heap.size, 2, none⟩) hsz).trans d2⟩ (fun hHeld2 => ?_)
    clear hK K
    try simp only [Act.put, List.setIfInBounds_toArray, List.set_cons_zero, List.set_cons_succ, List.getElem_toArray, List.getElem_cons_zero, List.getElem_cons_succ]
    refine wpAnyH_done (by kernel_rfl) ?_ _
    have HB4 := hide ((below_on HB3.out (below_drewN w3 1)).trans (hb4.mono (by omega)))
    have HF : Hid (w4.heap[w1.heap.size]? = some (.cells (R.map (Value.int .i64)).toArray 2 (0, 0))) := by have h := HG4.out; rw [← HY2.out, HR.out] at h; exact h
    clear hb4 HG4 hHeld2
    go_wp2
    go_ret
    exact ⟨_, rfl, HB4.out, (ow_row HF.out HLen.out (by omega)).mono (by omega)⟩
end Go.Proofs.YtamknomapabmfaaGreat
