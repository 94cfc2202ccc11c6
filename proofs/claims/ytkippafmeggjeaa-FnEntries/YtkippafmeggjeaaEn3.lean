/- Chapter 9: 'PackEntry' of both sides, walked. -/
import Derived.Test.YtkippafmeggjeaaEn1
import Derived.Test.YtkippafmeggjeaaRs
namespace Go.Proofs.Ytkippafmeggjeaa
open Go.RowKit

/-- The words of an entry. -/
def pkE (p : Oj) : List Int := [p.1, p.2.1, (p.2.2.length : Int)] ++ p.2.2
def peR (p : Oj) : List Int := if entF p = 0 then pkE p else []
theorem peR_len (p : Oj) : (peR p).length ≤ 1048576 := by
  unfold peR
  by_cases h : entF p = 0
  · rw [if_pos h]
    have := (entF_zero h).2.1
    simp [pkE]
    omega
  · rw [if_neg h]; simp

set_option maxHeartbeats 4000000 in
set_option maxRecDepth 4000 in
theorem implPackEntry {S : Nat → Prop} {w : World} {y : Value} {xs : List Int} (a t : Int) (hy : RdI S w y xs) :
    Calls Try.prog 9 #[.agg #[.int .i64 a, .int .i64 t, y]] w (EndsI (entF (a, t, xs)) (peR (a, t, xs)) w) := by
  obtain ⟨ay, cy, rfl⟩ := hy.shape
  have HY := hide hy
  obtain ⟨n, hn⟩ : ∃ n, xs.length = n := ⟨_, rfl⟩
  have HN := hide hn
  rw [hn] at HY ⊢
  clear hy hn
  unfold peR
  obtain ⟨z, hz⟩ : ∃ z, entF (a, t, xs) = z := ⟨_, rfl⟩
  have HZ := hide hz
  rw [hz]
  clear hz
  have bA := hide (below_on (below_alloc w (.cells #[.int .i64 a, .int .i64 t, .slice ay n cy] 35)) (below_alloc _ (.cells #[.int .i64 0, .slice none 0 0] 32)))
  have HC := hide (implEntryFault a t (HY.out.later bA.out))
  rw [HZ.out] at HC
  by_cases h0 : z = 0
  · subst h0
    rw [if_pos rfl]
    have hn6 : n ≤ 6 := by have := (entF_zero HZ.out).2.1; dsimp only at this; rw [HN.out] at this; exact this
    obtain ⟨i0, hi, hz0, hz1, hz2⟩ := info_parts Try.infoInt
    have HPk : Hid (pkE (a, t, xs) = [a, t, (n : Int)] ++ xs) := by rw [Hid]; unfold pkE; dsimp only; rw [HN.out]
    go_enter Try.func9, Try.ntmps9
    go_wp2_with fail
    refine HC.out.mono ?_
    rintro e w1 ⟨rfl, hb⟩
    have B1 := hide (below_on bA.out hb)
    obtain ⟨c0, c1, c2⟩ := ((Var3_new w (.int .i64 a) (.int .i64 t) (.slice ay n cy) 35).later (below_alloc _ (.cells #[.int .i64 0, .slice none 0 0] 32))).later hb
    have r0 : w1.cell? ⟨w.heap.size + 1, 0, none⟩ = some (.int .i64 0) := cell_later hb (by simp [go_sem])
    have r1 : w1.cell? ⟨w.heap.size + 1, 1, none⟩ = some (.slice none 0 0) := cell_later hb (by simp [go_sem])
    have f0 : w1.frozen? ⟨w.heap.size + 1, 0, none⟩ = false := ((bcell hb).2 _ _ (by simp)).trans (by simp [go_sem])
    have f1 : w1.frozen? ⟨w.heap.size + 1, 1, none⟩ = false := ((bcell hb).2 _ _ (by simp)).trans (by simp [go_sem])
    have hz1' : w.heap.size + 1 < w1.heap.size := World.block_lt_of_cell? _ _ r0
    have hz0' : w.heap.size < w1.heap.size := by omega
    clear hb HC bA
    have HRow : Hid ((w1.alloc (.cells #[.int .i64 a, .int .i64 t, .int .i64 (n : Int)] 2)).ownsRow w1.heap.size 2 1 (.slice (some ⟨w1.heap.size, 0, none⟩) 3 3) 3 ([a, t, (n : Int)].map (Value.int .i64))) :=
      ownsRow_fullF w1 [.int .i64 a, .int .i64 t, .int .i64 (n : Int)] 2 (by simp)
    have bB := below_alloc w1 (.cells #[.int .i64 a, .int .i64 t, .int .i64 (n : Int)] 2)
    have HS : Hid (n ≠ 0 → ∃ ad, ay = some ad ∧ ∀ j u, (xs.map (Value.int .i64))[j]? = some u → (w1.alloc (.cells #[.int .i64 a, .int .i64 t, .int .i64 (n : Int)] 2)).cell? (ad.add j) = some u) := by
      obtain ⟨a4, c4, e4, hsrc⟩ := (HY.out.later (below_on B1.out bB)).src
      injection e4 with e5 _ e6
      subst e5
      rw [HN.out] at hsrc
      exact hsrc
    have BB := hide bB
    clear bB
    have HPre : Hid (∀ (w5 : World), (w1.alloc (.cells #[.int .i64 a, .int .i64 t, .int .i64 (n : Int)] 2)).grownBy w5 (Value.ownBlock (.slice (some ⟨w1.heap.size, 0, none⟩) 3 3)) → Below w1.heap.size w1 w5 ∧ w5.cell? ⟨w.heap.size + 1, 0, none⟩ = some (.int .i64 0) ∧ w5.cell? ⟨w.heap.size + 1, 1, none⟩ = some (.slice none 0 0) ∧ w5.frozen? ⟨w.heap.size + 1, 0, none⟩ = false ∧ w5.frozen? ⟨w.heap.size + 1, 1, none⟩ = false) := by
      intro w5 hgrow
      have hB5 := BB.out.grown hgrow (by simp) (fun r hr => (HRow.out.lt r hr).1)
      exact ⟨hB5, cell_later hB5 r0, cell_later hB5 r1, ((bcell hB5).2 _ _ hz1').trans f0, ((bcell hB5).2 _ _ hz1').trans f1⟩
    go_wp2_with (at_builtin; refine wpList_append_any _ rfl _ _ 24 rfl w1.heap.size 2 i0 (.int .i64 0) 1 8 Try.underlying24 hi hz0 hz1 hz2 rfl (by decide) _ 3 _ (by rfl) HRow.out ay n cy (xs.map (Value.int .i64)) (by rfl) (by simp [HN.out]) HS.out (ints_oneCell _ _) (by unfold maxLen; omega) (by omega) (by simp) ?_; intro v' w5 hown hgrow; obtain ⟨az, cz, hv'⟩ := owns_shapeR hown; subst hv'; obtain ⟨hB5, e0, e1, F0, F1⟩ := HPre.out _ hgrow; have HO := hide hown; have HB5 := hide hB5; clear hown hgrow hB5)
    have HFn := hide (ret_ints (x := .int .i64 0) (below_on B1.out HB5.out) (Nat.le_succ w.heap.size) (ow_of_owns (n := 3 + n) (xs := [a, t, (n : Int)] ++ xs) (by simp [HN.out]; omega) (by rw [List.map_append]; exact HO.out) (by simp [HN.out]; omega)) hz1')
    rw [HPk.out]
    refine bodyPost_ret (v := .agg #[.int .i64 0, .slice az (3 + n) cz]) (by simp [results, Try.results9, go_sem, e0, e1]) rfl ⟨_, rfl, HFn.out.1, HFn.out.2⟩
  · rw [if_neg h0]
    have h0b : (z == 0) = false := by simpa using h0
    go_enter Try.func9, Try.ntmps9
    go_wp2_with fail
    refine HC.out.mono ?_
    rintro e w1 ⟨rfl, hb⟩
    have B1 := hide (below_on bA.out hb)
    have r0 : w1.cell? ⟨w.heap.size + 1, 0, none⟩ = some (.int .i64 0) := cell_later hb (by simp [go_sem])
    have r1 : w1.cell? ⟨w.heap.size + 1, 1, none⟩ = some (.slice none 0 0) := cell_later hb (by simp [go_sem])
    have f0 : w1.frozen? ⟨w.heap.size + 1, 0, none⟩ = false := ((bcell hb).2 _ _ (by simp)).trans (by simp [go_sem])
    have f1 : w1.frozen? ⟨w.heap.size + 1, 1, none⟩ = false := ((bcell hb).2 _ _ (by simp)).trans (by simp [go_sem])
    clear hb
    go_wp2
    refine bodyPost_ret (v := .agg #[.int .i64 z, .slice none 0 0]) (by simp [results, Try.results9, go_sem, r0, r1]) rfl ⟨_, rfl, (B1.out.setCell (Nat.le_succ _) _).setCell (Nat.le_succ _) _, OwI_nil _ _⟩

set_option maxHeartbeats 4000000 in
set_option maxRecDepth 4000 in
/-- 'spec.l9Pack': the row that it has built. -/
theorem l9Pack {S : Nat → Prop} {w : World} {b off : Nat} {p : Oj} (hp : RdFp S w b off p) (hm : p.2.2.length ≤ 1048576) :
    Calls Try.prog 24 #[.pointer (some ⟨b, off, none⟩)] w fun e w' => ∃ z, e = .returned z ∧ Below w.heap.size w w' ∧ w'.ownsRow w.heap.size 2 1 z (3 + p.2.2.length) ((pkE p).map (Value.int .i64)) := by
  obtain ⟨y, g0, g1, g2, hy⟩ := hp
  obtain ⟨a, t, xs⟩ := p
  dsimp only at g0 g1 hy hm ⊢
  obtain ⟨ay, cy, rfl⟩ := hy.shape
  have HY := hide hy
  obtain ⟨n, hn⟩ : ∃ n, xs.length = n := ⟨_, rfl⟩
  have HN := hide hn
  rw [hn] at HY hm g2 ⊢
  clear hy hn
  obtain ⟨i0, hi, hz0, hz1, hz2⟩ := info_parts Try.infoInt
  have HPk : Hid (pkE (a, t, xs) = [a, t, (n : Int)] ++ xs) := by rw [Hid]; unfold pkE; dsimp only; rw [HN.out]
  rw [HPk.out]
  have HRow : Hid ((w.drew.alloc (.cells #[.int .i64 a, .int .i64 t, .int .i64 (n : Int)] 2)).ownsRow w.heap.size 2 1 (.slice (some ⟨w.heap.size, 0, none⟩) 3 3) 3 ([a, t, (n : Int)].map (Value.int .i64))) :=
    ownsRow_fullF w.drew [.int .i64 a, .int .i64 t, .int .i64 (n : Int)] 2 (by simp)
  have bB := below_on (below_drewN w 1) (below_alloc (w.drewN 1) (.cells #[.int .i64 a, .int .i64 t, .int .i64 (n : Int)] 2))
  have HS : Hid (n ≠ 0 → ∃ ad, ay = some ad ∧ ∀ j u, (xs.map (Value.int .i64))[j]? = some u → (w.drew.alloc (.cells #[.int .i64 a, .int .i64 t, .int .i64 (n : Int)] 2)).cell? (ad.add j) = some u) := by
    obtain ⟨a4, c4, e4, hsrc⟩ := (HY.out.later bB).src
    injection e4 with e5 _ e6
    subst e5
    rw [HN.out] at hsrc
    exact hsrc
  have BB := hide bB
  have hbl : b < w.heap.size := World.block_lt_of_cell? _ _ g0
  clear bB
  go_enter Try.func24, Try.ntmps24
  go_wp2_with fail
  go_region_law (refine step_append_fi _ (by rfl) _ _ _ (by rfl) w.heap.size 2 i0 (.int .i64 0) 1 8 Try.underlying24 hi hz0 hz1 hz2 rfl (by decide) (.slice (some ⟨w.heap.size, 0, none⟩) 3 3) 3 _ (by rfl) HRow.out ay n cy (xs.map (Value.int .i64)) (by rfl) (by simp [HN.out]) HS.out (ints_oneCell _ _) (by unfold maxLen; omega) (by omega) (by simp) ?_; intro v' w5 hown hgrow)
  all_goals
    have hB5 := BB.out.grown hgrow (by simp) (fun r hr => (HRow.out.lt r hr).1)
    have HB5 := hide hB5
    have HO : Hid (w5.ownsRow w.heap.size 2 1 v' (3 + n) (([a, t, (n : Int)] ++ xs).map (Value.int .i64))) := by rw [Hid, List.map_append]; exact hown
    clear hown hgrow hB5
    go_wp2
    go_ret
    exact ⟨_, rfl, HB5.out, HO.out⟩

end Go.Proofs.Ytkippafmeggjeaa
