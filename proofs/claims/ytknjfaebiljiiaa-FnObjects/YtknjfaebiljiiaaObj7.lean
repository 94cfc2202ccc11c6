/- Chapter 5: MergeObject of both sides, walked. -/
import Derived.Test.YtknjfaebiljiiaaObj6
namespace Go.Proofs.Ytknjfaebiljiiaa
open Go.RowKit

theorem wordsF_le {xs : List Int} (h : wordsF xs = 0) : xs.length ≤ 64 := by
  by_cases h1 : 64 < xs.length
  · unfold wordsF at h
    rw [wF_many h1] at h
    exact absurd h (by decide)
  · omega

/-- The code of MergeObject. -/
def mrgC (ws : List Int) (a f : Int) (xs : List Int) : Int := if wordsF ws = 0 then objF a f xs else wordsF ws
/-- What MergeObject tells. -/
def mrgR (ws : List Int) (a f : Int) (xs : List Int) : List Int := if wordsF ws = 0 then (if objF a f xs = 0 then mrgL ws f.toNat xs else []) else []
theorem mrgR_len (ws : List Int) (a f : Int) (xs : List Int) : (mrgR ws a f xs).length ≤ 64 := by
  unfold mrgR
  split
  · split
    · rename_i h1 h2
      have h3 := objF_zero h2
      have h4 := wordsF_le h1
      rw [mrgL_len]
      omega
    · simp
  · simp

set_option maxHeartbeats 2000000 in
set_option maxRecDepth 4000 in
theorem implMergeObject {S T : Nat → Prop} {w : World} {y z : Value} {xs ws : List Int} (a f : Int) (hz : RdI T w z ws) (hy : RdI S w y xs) :
    Calls Try.prog 10 #[z, .agg #[.int .i64 a, .int .i64 f, y]] w (EndsI (mrgC ws a f xs) (mrgR ws a f xs) w) := by
  unfold mrgC mrgR
  obtain ⟨ay, cy, rfl⟩ := hy.shape
  obtain ⟨az, cz, rfl⟩ := hz.shape
  have HW := hide (fun (w' : World) (hb : Below w.heap.size w w') => wordsFault (hz.later hb))
  have HF := hide (fun (w' : World) (hb : Below w.heap.size w w') => implObjectFault a f (hy.later hb))
  have HM := hide (fun (h1 : wordsF ws = 0) (h2 : objF a f xs = 0) (w' : World) (hb : Below w.heap.size w w') => mergedInto a f.toNat (hy.later hb) (hz.later hb) (by have := objF_zero h2; omega) (by have := objF_zero h2; omega) (wordsF_le h1))
  have HFn := hide (fun h => (objF_zero (a := a) (f := f) (xs := xs) h).1.2.2.1)
  obtain ⟨l, hl⟩ : ∃ l, ws.length = l := ⟨_, rfl⟩
  obtain ⟨n, hn⟩ : ∃ n, xs.length = n := ⟨_, rfl⟩
  rw [hl] at HW HM ⊢
  rw [hn] at HF HM ⊢
  clear hy hz hl hn
  generalize mrgL ws f.toNat xs = R at HM ⊢
  generalize wordsF ws = p at HW HM ⊢
  generalize objF a f xs = q at HF HM HFn ⊢
  have A0 := hide (below_on (below_alloc w (.cells #[.int .i64 a, .int .i64 f, .slice ay n cy] 26)) (below_alloc _ (.cells #[.int .i64 0, .slice none 0 0] 30)))
  by_cases h0 : p = 0
  · subst h0
    rw [if_pos rfl, if_pos rfl]
    obtain ⟨RR, hRR⟩ : ∃ RR, (if q = 0 then R else []) = RR := ⟨_, rfl⟩
    have HRR := hide hRR
    rw [hRR]
    clear hRR
    go_enter Try.func10, Try.ntmps10
    go_wp2_with fail
    refine (HW.out _ A0.out).mono ?_
    rintro e w1 ⟨rfl, q1, rfl⟩
    have B1 := hide (below_on A0.out (below_drewN _ q1))
    go_wp2_with fail
    refine (HF.out _ B1.out).mono ?_
    rintro e w2 ⟨rfl, hb⟩
    have r0 : w2.cell? ⟨w.heap.size + 1, 0, none⟩ = some (.int .i64 0) := cell_later hb (by simp [go_sem])
    have r1 : w2.cell? ⟨w.heap.size + 1, 1, none⟩ = some (.slice none 0 0) := cell_later hb (by simp [go_sem])
    have f0 : w2.frozen? ⟨w.heap.size + 1, 0, none⟩ = false := ((bcell hb).2 _ _ (by simp)).trans (by simp [go_sem])
    have f1 : w2.frozen? ⟨w.heap.size + 1, 1, none⟩ = false := ((bcell hb).2 _ _ (by simp)).trans (by simp [go_sem])
    have b0 : w2.cell? ⟨w.heap.size, 0, none⟩ = some (.int .i64 a) := cell_later hb (by simp [go_sem])
    have b1 : w2.cell? ⟨w.heap.size, 1, none⟩ = some (.int .i64 f) := cell_later hb (by simp [go_sem])
    have b2 : w2.cell? ⟨w.heap.size, 2, none⟩ = some (.slice ay n cy) := cell_later hb (by simp [go_sem])
    have B2 := hide (below_on B1.out hb)
    clear hb B1 A0
    by_cases h1 : q = 0
    · have hRR : RR = R := by rw [← HRR.out, if_pos h1]
      subst hRR
      subst h1
      have hf0 := HFn.out rfl
      obtain ⟨F, rfl⟩ : ∃ F : Nat, f = (F : Int) := ⟨f.toNat, (Int.toNat_of_nonneg hf0).symm⟩
      rw [Int.toNat_natCast] at HM
      go_wp2_with fail
      refine (partOf _ a F ay n cy).mono ?_
      rintro e w3 ⟨rfl, hb⟩
      have B3 := hide (below_on B2.out hb)
      have s0 := cell_later hb r0
      have s1 := cell_later hb r1
      have hl0 : w.heap.size + 1 < w2.heap.size := World.block_lt_of_cell? _ _ r0
      have g0 := ((bcell hb).2 _ _ hl0).trans f0
      have g1 := ((bcell hb).2 _ _ hl0).trans f1
      clear hb B2 r0 r1 f0 f1 b0 b1 b2
      go_wp2_with fail
      refine (HM.out (by trivial) (by trivial) _ B3.out).mono ?_
      rintro e w4 ⟨u, rfl, hb, ho⟩
      obtain ⟨au, cu, rfl⟩ := ho.shape
      have hl3 : w.heap.size + 1 < w3.heap.size := World.block_lt_of_cell? _ _ s0
      have r0 := cell_later hb s0
      have r1 := cell_later hb s1
      have f0 := ((bcell hb).2 _ _ hl3).trans g0
      have f1 := ((bcell hb).2 _ _ hl3).trans g1
      have HFin := hide (ret_ints (x := .int .i64 0) (below_on B3.out hb) (r := w.heap.size + 1) (Nat.le_succ _) ho hl3)
      obtain ⟨m, hm⟩ : ∃ m, RR.length = m := ⟨_, rfl⟩
      rw [hm] at HFin ⊢
      clear hb ho s0 s1 g0 g1 hm
      go_wp2
      exact bodyPost_ret (v := .agg #[.int .i64 0, .slice au m cu]) (by simp [results, Try.results10, go_sem, r0, r1]) rfl ⟨_, rfl, HFin.out⟩
    · have hRR : RR = [] := by rw [← HRR.out, if_neg h1]
      subst hRR
      go_wp2
      refine bodyPost_ret (v := .agg #[.int .i64 q, .slice none 0 0]) (by simp [results, Try.results10, go_sem, r0, r1]) rfl ⟨_, rfl, ?_, OwI_nil _ _⟩
      repeat (first | refine Below.setCell ?_ (by first | (simp; done) | (simp; omega) | omega) _ | exact B2.out)
  · rw [if_neg h0, if_neg h0]
    go_enter Try.func10, Try.ntmps10
    go_wp2_with fail
    refine (HW.out _ A0.out).mono ?_
    rintro e w1 ⟨rfl, q1, rfl⟩
    have B1 := hide (below_on A0.out (below_drewN _ q1))
    go_wp2
    refine bodyPost_ret (v := .agg #[.int .i64 p, .slice none 0 0]) (by simp [results, Try.results10, go_sem]) rfl ⟨_, rfl, ?_, OwI_nil _ _⟩
    repeat (first | refine Below.setCell ?_ (by first | (simp; done) | (simp; omega) | omega) _ | exact B1.out)

set_option maxHeartbeats 2000000 in
set_option maxRecDepth 4000 in
theorem specMergeObject {S T : Nat → Prop} {w : World} {y z : Value} {xs ws : List Int} (a f : Int) (hz : RdI T w z ws) (hy : RdI S w y xs) :
    Calls Try.prog 11 #[z, .agg #[.int .i64 a, .int .i64 f, y]] w (EndsI (mrgC ws a f xs) (mrgR ws a f xs) w) := by
  unfold mrgC mrgR
  obtain ⟨ay, cy, rfl⟩ := hy.shape
  obtain ⟨az, cz, rfl⟩ := hz.shape
  have HW := hide (fun (w' : World) (hb : Below w.heap.size w w') => l1Words (hz.later hb))
  have HF := hide (fun (w' : World) (hb : Below w.heap.size w w') => specObjectFault a f (hy.later hb))
  have HM := hide (fun (h1 : wordsF ws = 0) (h2 : objF a f xs = 0) (w' : World) (hb : Below w.heap.size w w') (b : Nat) (hd : HdAt w' b 0 a (f.toNat : Int) (.slice ay xs.length cy)) => l5Merge hd (hy.later hb) (hz.later hb) (by have := objF_zero h2; omega) (by have := objF_zero h2; omega) (wordsF_le h1))
  have HFn := hide (fun h => (objF_zero (a := a) (f := f) (xs := xs) h).1.2.2.1)
  obtain ⟨l, hl⟩ : ∃ l, ws.length = l := ⟨_, rfl⟩
  obtain ⟨n, hn⟩ : ∃ n, xs.length = n := ⟨_, rfl⟩
  rw [hl] at HW HM ⊢
  rw [hn] at HF HM ⊢
  clear hy hz hl hn
  generalize mrgL ws f.toNat xs = R at HM ⊢
  generalize wordsF ws = p at HW HM ⊢
  generalize objF a f xs = q at HF HM HFn ⊢
  have A0 := hide (below_on (below_alloc w (.cells #[.int .i64 a, .int .i64 f, .slice ay n cy] 26)) (below_alloc _ (.cells #[.int .i64 0, .slice none 0 0] 30)))
  by_cases h0 : p = 0
  · subst h0
    rw [if_pos rfl, if_pos rfl]
    obtain ⟨RR, hRR⟩ : ∃ RR, (if q = 0 then R else []) = RR := ⟨_, rfl⟩
    have HRR := hide hRR
    rw [hRR]
    clear hRR
    go_enter Try.func11, Try.ntmps11
    go_wp2_with fail
    refine (HW.out _ A0.out).mono ?_
    rintro e w1 ⟨rfl, q1, rfl⟩
    have B1 := hide (below_on A0.out (below_drewN _ q1))
    go_wp2_with fail
    refine (HF.out _ B1.out).mono ?_
    rintro e w2 ⟨rfl, hb⟩
    have r0 : w2.cell? ⟨w.heap.size + 1, 0, none⟩ = some (.int .i64 0) := cell_later hb (by simp [go_sem])
    have r1 : w2.cell? ⟨w.heap.size + 1, 1, none⟩ = some (.slice none 0 0) := cell_later hb (by simp [go_sem])
    have f0 : w2.frozen? ⟨w.heap.size + 1, 0, none⟩ = false := ((bcell hb).2 _ _ (by simp)).trans (by simp [go_sem])
    have f1 : w2.frozen? ⟨w.heap.size + 1, 1, none⟩ = false := ((bcell hb).2 _ _ (by simp)).trans (by simp [go_sem])
    have b0 : w2.cell? ⟨w.heap.size, 0, none⟩ = some (.int .i64 a) := cell_later hb (by simp [go_sem])
    have b1 : w2.cell? ⟨w.heap.size, 1, none⟩ = some (.int .i64 f) := cell_later hb (by simp [go_sem])
    have b2 : w2.cell? ⟨w.heap.size, 2, none⟩ = some (.slice ay n cy) := cell_later hb (by simp [go_sem])
    have B2 := hide (below_on B1.out hb)
    clear hb B1 A0
    by_cases h1 : q = 0
    · have hRR : RR = R := by rw [← HRR.out, if_pos h1]
      subst hRR
      subst h1
      have hf0 := HFn.out rfl
      obtain ⟨F, rfl⟩ : ∃ F : Nat, f = (F : Int) := ⟨f.toNat, (Int.toNat_of_nonneg hf0).symm⟩
      rw [Int.toNat_natCast] at HM
      have HHd : Hid (HdAt w2 w.heap.size 0 a (F : Int) (.slice ay n cy)) := ⟨b0, b1, b2⟩
      go_wp2_with fail
      refine (HM.out (by trivial) (by trivial) _ B2.out _ HHd.out).mono ?_
      rintro e w4 ⟨u, rfl, hb, ho⟩
      obtain ⟨au, cu, rfl⟩ := ho.shape
      have hl3 : w.heap.size + 1 < w2.heap.size := World.block_lt_of_cell? _ _ r0
      have HFin := hide (ret_ints (x := .int .i64 0) (below_on B2.out hb) (r := w.heap.size + 1) (Nat.le_succ _) ho hl3)
      have s0 := cell_later hb r0
      have s1 := cell_later hb r1
      have g0 := ((bcell hb).2 _ _ hl3).trans f0
      have g1 := ((bcell hb).2 _ _ hl3).trans f1
      obtain ⟨m, hm⟩ : ∃ m, RR.length = m := ⟨_, rfl⟩
      rw [hm] at HFin ⊢
      clear hb ho hm r0 r1 f0 f1
      go_wp2
      exact bodyPost_ret (v := .agg #[.int .i64 0, .slice au m cu]) (by simp [results, Try.results11, go_sem, s0, s1]) rfl ⟨_, rfl, HFin.out⟩
    · have hRR : RR = [] := by rw [← HRR.out, if_neg h1]
      subst hRR
      go_wp2
      refine bodyPost_ret (v := .agg #[.int .i64 q, .slice none 0 0]) (by simp [results, Try.results11, go_sem, r0, r1]) rfl ⟨_, rfl, ?_, OwI_nil _ _⟩
      repeat (first | refine Below.setCell ?_ (by first | (simp; done) | (simp; omega) | omega) _ | exact B2.out)
  · rw [if_neg h0, if_neg h0]
    go_enter Try.func11, Try.ntmps11
    go_wp2_with fail
    refine (HW.out _ A0.out).mono ?_
    rintro e w1 ⟨rfl, q1, rfl⟩
    have B1 := hide (below_on A0.out (below_drewN _ q1))
    go_wp2
    refine bodyPost_ret (v := .agg #[.int .i64 p, .slice none 0 0]) (by simp [results, Try.results11, go_sem]) rfl ⟨_, rfl, ?_, OwI_nil _ _⟩
    repeat (first | refine Below.setCell ?_ (by first | (simp; done) | (simp; omega) | omega) _ | exact B1.out)
end Go.Proofs.Ytknjfaebiljiiaa
