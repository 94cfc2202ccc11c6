/- Rt in one text: what each says stands at its head below. -/
import Derived.Test.YtncgpfapepminaaGreatDoorG13
import Derived.Test.YtncgpfapepminaaGreatDoorG14
/- Chapter 10: the terms of a store as a list that begins at an index, of the program, walked. -/
namespace Go.Proofs.YtncgpfapepminaaGreatDoor
open Go.RowKit

/-- The terms from the snapshot on. -/
def trmL (r : Rf) : List Int := r.st :: r.lg.map fun p => p.2.1
theorem trm_take {ps : List Oj} {k : Nat} (h : k < ps.length) : (ps.take (k + 1)).map (fun p => p.2.1) = (ps.take k).map (fun p => p.2.1) ++ [(ps.getD k oj0).2.1] := by
  rw [List.take_succ_eq_append_getElem h, List.map_append]
  simp [List.getD, h]

set_option maxHeartbeats 4000000 in
set_option maxRecDepth 4000 in
theorem termsOfI {S T : Nat → Prop} {w : World} {y z : Value} (r : Rf) (hy : RdI S w y r.sn) (hz : RdJ T w z r.lg) (hm : r.lg.length ≤ 14) :
    Calls Tryz.prog 34 #[.agg #[.int .i64 r.tm, .int .i64 r.vt, .int .i64 r.si, .int .i64 r.st, y, z]] w fun e w' => ∃ u, e = .returned (.agg #[.int .i64 r.si, u]) ∧ Below w.heap.size w w' ∧ RdI (fun _ => True) w' u (trmL r) := by
  obtain ⟨ay, cy, rfl⟩ := hy.shape
  obtain ⟨az, cz, rfl, _⟩ := hz.shape
  have HZ := hide hz
  have HT : Hid (trmL r = r.st :: r.lg.map fun p => p.2.1) := rfl
  rw [HT.out]
  clear hy hz HT
  obtain ⟨l, hl⟩ : ∃ l, r.sn.length = l := ⟨_, rfl⟩
  obtain ⟨m, hme⟩ : ∃ m, r.lg.length = m := ⟨_, rfl⟩
  have HME := hide hme
  rw [hl]
  rw [hme] at HZ hm ⊢
  clear hl hme
  obtain ⟨ps, hps⟩ : ∃ ps, r.lg = ps := ⟨_, rfl⟩
  rw [hps] at HZ HME ⊢
  clear hps
  generalize r.tm = a at *
  generalize r.vt = b at *
  generalize r.si = c at *
  generalize r.st = d at *
  obtain ⟨i0, hi, hz0, hz1, hz2⟩ := info_parts Tryz.infoInt
  obtain ⟨W2, hW2⟩ : ∃ W2, (w.alloc (.cells #[.int .i64 a, .int .i64 b, .int .i64 c, .int .i64 d, .slice ay l cy, .slice az m cz] 27)).alloc (.cells #[.int .i64 0, .slice none 0 0] 72) = W2 := ⟨_, rfl⟩
  have hs2 : W2.heap.size = w.heap.size + 2 := by rw [← hW2]; simp
  have c2 : W2.cell? ⟨w.heap.size, 2, none⟩ = some (.int .i64 c) := by rw [← hW2]; simp [go_sem]
  have c3 : W2.cell? ⟨w.heap.size, 3, none⟩ = some (.int .i64 d) := by rw [← hW2]; simp [go_sem]
  have c5 : W2.cell? ⟨w.heap.size, 5, none⟩ = some (.slice az m cz) := by rw [← hW2]; simp [go_sem]
  have r0 : W2.cell? ⟨w.heap.size + 1, 0, none⟩ = some (.int .i64 0) := by rw [← hW2]; simp [go_sem]
  have r1 : W2.cell? ⟨w.heap.size + 1, 1, none⟩ = some (.slice none 0 0) := by rw [← hW2]; simp [go_sem]
  have f0 : W2.frozen? ⟨w.heap.size + 1, 0, none⟩ = false := by rw [← hW2]; simp [go_sem]
  have f1 : W2.frozen? ⟨w.heap.size + 1, 1, none⟩ = false := by rw [← hW2]; simp [go_sem]
  have BW := hide (show Below w.heap.size w W2 by rw [← hW2]; exact below_on (below_alloc _ _) (below_alloc _ _))
  have HW2 := hide hW2
  have HR0 := hide r0
  have HR1 := hide r1
  have HC2 := hide c2
  have HF0 := hide f0
  have HF1 := hide f1
  have HS2 := hide hs2
  go_enter Tryz.func34, Tryz.ntmps34
  go_wp2_with fail
  clear hW2 hs2
  have HRow0 : Hid ((W2.alloc (.cells #[.int .i64 d] 2)).ownsRow W2.heap.size 2 1 (.slice (some ⟨w.heap.size + 2, 0, none⟩) 1 1) 1 ([d].map (Value.int .i64))) := by rw [Hid, ← HS2.out]; exact ownsRow_fullF W2 [.int .i64 d] 2 (by simp)
  go_loopw [3, 12] (fun v i wr => ∃ k : Nat, k ≤ m ∧ i = .int .i64 k ∧ Hid (wr.ownsRow W2.heap.size 2 1 v (k + 1) ((d :: (ps.take k).map fun p => p.2.1).map (Value.int .i64))) ∧ Hid (Below W2.heap.size W2 wr)) (fun _ i _ => m - (RowKit.intOf i).toNat)
  case atStart => exact ⟨0, Nat.zero_le _, rfl, by simpa [Hid] using HRow0.out, below_alloc _ _⟩
  case round =>
    obtain ⟨k, hk, rfl, HRow, HB⟩ := hrel
    by_cases hlt : k < m
    · obtain ⟨bb, off, rfl, y0, q0, q1, q2, q3⟩ := HZ.out.file (k := k) (by rw [HME.out]; exact hlt)
      have hk0 : (0 : Int) ≤ (k : Int) := by omega
      have hk1 : (k : Int) < (m : Int) := by omega
      have HSn := hide (trm_take (ps := ps) (k := k) (by rw [HME.out]; exact hlt))
      obtain ⟨x, hx⟩ : ∃ x, ps.getD k oj0 = x := ⟨_, rfl⟩
      rw [hx] at q0 q1 q3 HSn
      clear hx
      obtain ⟨e0, t0, xs0⟩ := x
      dsimp only at q0 q1 q3 HSn
      obtain ⟨a3, c3', rfl⟩ := q3.shape
      have g0 := cell_later HB.out (cell_later BW.out q0)
      have g1 := cell_later HB.out (cell_later BW.out q1)
      have g2 := cell_later HB.out (cell_later BW.out q2)
      generalize xs0.length = l0 at g2
      have hbl := World.block_lt_of_cell? _ _ g0
      have hzz := HB.out.size
      clear q0 q1 q2 q3
      obtain ⟨P, hP⟩ : ∃ P, (ps.take k).map (fun p => p.2.1) = P := ⟨_, rfl⟩
      rw [hP] at HRow HSn
      clear hP
      go_wp2_with (at_builtin; refine wpList_append_lies _ rfl _ _ _ rfl W2.heap.size 2 i0 (.int .i64 0) 1 8 Tryz.underlying24 hi hz0 hz1 hz2 rfl (by omega) _ (k + 1) _ (by rfl) ((HRow.out.alloc (.cells #[.int .i64 e0, .int .i64 t0, .slice a3 l0 c3'] 55)).alloc (.cells #[.int .i64 t0] 2)) ⟨wr.heap.size + 1, 0, none⟩ 1 1 [.int .i64 t0] (by rfl) (by rfl) (World.news_of_block (cs := #[.int .i64 t0]) (t := 2) (fr := (0, 0)) (by have h := heap_alloc_new (wr.alloc (.cells #[.int .i64 e0, .int .i64 t0, .slice a3 l0 c3'] 55)) (.cells #[.int .i64 t0] 2); simpa using h)) (by simp [Value.oneCell']) (by omega) (by unfold maxLen; omega) (by omega) (by simp; omega) (wr.heap.size + 1 + 1) (by simp) ?_; intro g cap w4 hown3 hgrow hat hlt3)
      have HRow4 : Hid (w4.ownsRow W2.heap.size 2 1 (.slice (some ⟨g, 0, none⟩) (k + 1 + 1) cap) (k + 1 + 1) ((d :: (ps.take (k + 1)).map fun p => p.2.1).map (Value.int .i64))) := by
        rw [Hid, HSn.out]
        simpa using hown3
      have HB4 := hide ((below_on (below_on HB.out (below_alloc wr (.cells #[.int .i64 e0, .int .i64 t0, .slice a3 l0 c3'] 55))) (below_alloc _ (.cells #[.int .i64 t0] 2))).grown hgrow (by simp; omega) (fun r hr => (HRow.out.lt r hr).1))
      clear hown3 hgrow hat hlt3
      go_wp2
      go_roundw
      case rel => exact ⟨k + 1, by omega, by go_num, HRow4.out, HB4.out⟩
      case measure => simp [RowKit.intOf]; omega
    · have hkm : k = m := by omega
      subst hkm
      have hk1 : ¬ (k : Int) < (k : Int) := by omega
      have c2 := cell_later HB.out HC2.out
      have r0 := cell_later HB.out HR0.out
      have r1 := cell_later HB.out HR1.out
      have hs2 := HS2.out
      have f0 := ((bcell HB.out).2 _ _ (by omega)).trans HF0.out
      have f1 := ((bcell HB.out).2 _ _ (by omega)).trans HF1.out
      have ho := ow_of_owns (xs := d :: ps.map fun p => p.2.1) (n := k + 1) (by simp [HME.out]) (by have h := HRow.out; rw [List.take_of_length_le (by rw [HME.out]; omega)] at h; exact h) (by simp [HME.out]; omega)
      obtain ⟨au, cu, rfl⟩ := ho.shape
      have HFn := hide (ret_ints (x := .int .i64 c) (below_on BW.out HB.out) (Nat.le_succ w.heap.size) ho (by omega))
      clear hs2
      obtain ⟨lu, hlu⟩ : ∃ l, (d :: ps.map fun p => p.2.1).length = l := ⟨_, rfl⟩
      rw [hlu] at HFn ⊢
      clear ho hlu HRow
      go_wp2
      refine bodyPost_ret (v := .agg #[.int .i64 c, .slice au lu cu]) (by simp [results, Tryz.results34, go_sem, r0, r1]) rfl ⟨_, rfl, HFn.out.1, HFn.out.2.rd.narrow fun _ _ _ => trivial⟩
end Go.Proofs.YtncgpfapepminaaGreatDoor
