/- The model's draws for merges: 'spec.DrawMergeObject', walked. -/
import Derived.Test.YtknjfaebiljiiaaDraw12
namespace Go.Proofs.Ytknjfaebiljiiaa
open Go.RowKit

set_option maxHeartbeats 1000000 in
set_option maxRecDepth 4000 in
/-- 'DrawMergeObject': some words, some object. -/
theorem drawMerge {w : World} {v : Value} {bs : List Nat} (hv : RdB (w.heap.size + 1) w v bs) :
    Calls Try.prog 9 #[v] w fun e w' => ∃ (z : Value) (ws : List Int) (a b : Int) (y : Value) (xs : List Int), e = .returned (.tuple #[z, .agg #[.int .i64 a, .int .i64 b, y]]) ∧ Below w.heap.size w w' ∧ ws.length ≤ 65 ∧ xs.length ≤ 25 ∧ OwI w.heap.size w' z ws ∧ OwI w.heap.size w' y xs := by
  have hv1 : RdB (w.alloc (.cells #[.int .i64 0, .int .i64 0, .slice none 0 0] 26)).heap.size (w.alloc (.cells #[.int .i64 0, .int .i64 0, .slice none 0 0] 26)) v bs := by
    obtain ⟨ao, c, e1, e2, e3⟩ := hv
    refine ⟨ao, c, e1, e2, fun hne => ?_⟩
    obtain ⟨b, off, f1, f2, f3⟩ := e3 hne
    exact ⟨b, off, f1, by simpa using f2, fun i hi => ⟨cell_later (below_alloc _ _) (f3 i hi).1, (f3 i hi).2⟩⟩
  have HV := hide hv1
  obtain ⟨ao, c, rfl, h2, h3⟩ := hv
  clear h2 h3 hv1
  go_enter Try.func9, Try.ntmps9
  go_wp2_with fail
  refine (l1Source HV.out).mono ?_
  rintro e w1 ⟨he, hb1, hz1, hS1⟩
  rw [World.size_alloc] at he hz1 hS1
  subst he
  have HB1 := hide (below_on (below_alloc w (.cells #[.int .i64 0, .int .i64 0, .slice none 0 0] 26)) hb1)
  have HS1 := hide hS1
  have r0 : w1.cell? ⟨w.heap.size, 0, none⟩ = some (.int .i64 0) := cell_later hb1 (by simp [go_sem])
  have r1 : w1.cell? ⟨w.heap.size, 1, none⟩ = some (.int .i64 0) := cell_later hb1 (by simp [go_sem])
  have r2 : w1.cell? ⟨w.heap.size, 2, none⟩ = some (.slice none 0 0) := cell_later hb1 (by simp [go_sem])
  have rf : ∀ o, w1.frozen? ⟨w.heap.size, o, none⟩ = false := fun o => ((bcell hb1).2 _ _ (by simp)).trans (by simp [go_sem])
  have hz1' : w.heap.size + 1 < w1.heap.size := by omega
  clear hb1 hS1
  go_wp2_with fail
  refine (l1DrawWords HS1.out (by omega)).mono ?_
  rintro e w2 ⟨z, ws, rfl, hwl, ho2, t2, hd2⟩
  obtain ⟨az, cz, rfl⟩ := ho2.shape
  obtain ⟨l, hl⟩ : ∃ l, ws.length = l := ⟨_, rfl⟩
  rw [hl] at ho2 hwl ⊢
  have hw2 := hd2.2.1
  have hz2 := hw2.size
  have s0 := cell_wr hw2 r0 (by omega)
  have s1 := cell_wr hw2 r1 (by omega)
  have s2 := cell_wr hw2 r2 (by omega)
  have sf : ∀ o, w2.frozen? ⟨w.heap.size, o, none⟩ = false := fun o => (hw2.frz _ _ (by omega)).trans (rf o)
  have HB2 : Hid (Below w.heap.size w w2) := HB1.out.trans (hw2.below (by omega) (fun b hb => by omega))
  have HO2 := hide ho2
  have HS2 := hide hd2.1
  have ht2 := hd2.2.2
  have HLw := hide hl
  clear hd2 hw2 ho2 hl r0 r1 r2 rf
  go_wp2_with fail
  refine (l5Bent HS2.out (by omega)).mono ?_
  rintro e w3 ⟨a, b, y, xs, rfl, hxl, ho3, t3, hd3⟩
  obtain ⟨ay, cy, rfl⟩ := ho3.shape
  obtain ⟨m, hm⟩ : ∃ m, xs.length = m := ⟨_, rfl⟩
  rw [hm] at ho3 hxl ⊢
  have hw := hd3.2.1
  have x0 := cell_wr hw s0 (by omega)
  have x1 := cell_wr hw s1 (by omega)
  have x2 := cell_wr hw s2 (by omega)
  have y0 := (hw.frz _ _ (by omega)).trans (sf 0)
  have y1 := (hw.frz _ _ (by omega)).trans (sf 1)
  have y2 := (hw.frz _ _ (by omega)).trans (sf 2)
  have HB : Hid (Below w.heap.size w w3) := HB2.out.trans (hw.below (by omega) (fun b hb => by omega))
  have HO3 := hide ho3
  have HW3 := hide (HO2.out.wr hw (fun b hb _ => by omega))
  have hz3 := hw.size
  have HLx := hide hm
  clear hd3 hw ho3 hm s0 s1 s2 sf
  go_wp2
  have hwr : Wr (fun y => y < w1.heap.size) w3 (((w3.setCell ⟨w.heap.size, 0, none⟩ (.int .i64 a)).setCell ⟨w.heap.size, 1, none⟩ (.int .i64 b)).setCell ⟨w.heap.size, 2, none⟩ (.slice ay m cy)) := (((Wr.refl _ _).setCell (p := ⟨w.heap.size, 0, none⟩) (by show w.heap.size < _; omega) _).setCell (p := ⟨w.heap.size, 1, none⟩) (by show w.heap.size < _; omega) _).setCell (p := ⟨w.heap.size, 2, none⟩) (by show w.heap.size < _; omega) _
  refine bodyPost_ret (v := .tuple #[.slice az l cz, .agg #[.int .i64 a, .int .i64 b, .slice ay m cy]]) (by simp [results, Try.results9, go_sem, x0, x1, x2]) rfl ⟨.slice az l cz, ws, a, b, .slice ay m cy, xs, rfl, ?_, by rw [HLw.out]; exact hwl, by rw [HLx.out]; exact hxl, ?_, ?_⟩
  · repeat (first | refine Below.setCell ?_ (by first | (simp; done) | (simp; omega) | omega) _ | exact HB.out)
  · exact (HW3.out.wr hwr (fun b hb _ => by omega)).mono (by omega)
  · exact (HO3.out.wr hwr (fun b hb _ => by omega)).mono (by omega)
end Go.Proofs.Ytknjfaebiljiiaa
