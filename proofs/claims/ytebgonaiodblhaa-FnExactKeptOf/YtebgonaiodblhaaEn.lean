/- The laws' helpers over Entry. Made by program (genen.py). -/
import Derived.Test.YtebgonaiodblhaaHd
namespace Go.Proofs.Ytebgonaiodblhaa
open Go.RowKit

set_option maxHeartbeats 1000000 in
set_option maxRecDepth 4000 in
theorem toEntry {S : Nat → Prop} {w : World} {y : Value} {xs : List Int} (a0 a1 : Int) (hy : RdI S w y xs) (hm : xs.length ≤ 1048576) :
    Calls Try.prog 32 #[.agg #[.int .i64 a0, .int .i64 a1, y]] w fun e w' => ∃ z, e = .returned (.agg #[.int .i64 a0, .int .i64 a1, z]) ∧ Below w.heap.size w w' ∧ OwI w.heap.size w' z xs := by
  have HY := hide hy
  obtain ⟨ay, cy, rfl⟩ := hy.shape
  clear hy
  go_enter Try.func32, Try.ntmps32
  go_wp2_with fail
  refine (toI' (((HY.out.later (below_alloc _ _)).later (below_alloc _ _)).later (below_alloc _ _)) hm).mono ?_
  rintro e w1 ⟨z, rfl, hb, ho⟩
  obtain ⟨az, cz, rfl⟩ := ho.shape
  obtain ⟨l, hl⟩ : ∃ l, xs.length = l := ⟨_, rfl⟩
  rw [hl] at ho ⊢
  have v0 : w1.cell? ⟨w.heap.size + 1, 0, none⟩ = some (.int .i64 0) := cell_later hb (by simp [go_sem])
  have f0 : w1.frozen? ⟨w.heap.size + 1, 0, none⟩ = false := ((bcell hb).2 _ _ (by simp)).trans (by simp [go_sem])
  have o0 : w1.cell? ⟨w.heap.size + 2, 0, none⟩ = some (.int .i64 a0) := cell_later hb (by simp [go_sem])
  have g0 : w1.frozen? ⟨w.heap.size + 2, 0, none⟩ = false := ((bcell hb).2 _ _ (by simp)).trans (by simp [go_sem])
  have v1 : w1.cell? ⟨w.heap.size + 1, 1, none⟩ = some (.int .i64 0) := cell_later hb (by simp [go_sem])
  have f1 : w1.frozen? ⟨w.heap.size + 1, 1, none⟩ = false := ((bcell hb).2 _ _ (by simp)).trans (by simp [go_sem])
  have o1 : w1.cell? ⟨w.heap.size + 2, 1, none⟩ = some (.int .i64 a1) := cell_later hb (by simp [go_sem])
  have g1 : w1.frozen? ⟨w.heap.size + 2, 1, none⟩ = false := ((bcell hb).2 _ _ (by simp)).trans (by simp [go_sem])
  have v2 : w1.cell? ⟨w.heap.size + 1, 2, none⟩ = some (.slice none 0 0) := cell_later hb (by simp [go_sem])
  have f2 : w1.frozen? ⟨w.heap.size + 1, 2, none⟩ = false := ((bcell hb).2 _ _ (by simp)).trans (by simp [go_sem])
  have o2 : w1.cell? ⟨w.heap.size + 2, 2, none⟩ = some (.slice none 0 0) := cell_later hb (by simp [go_sem])
  have g2 : w1.frozen? ⟨w.heap.size + 2, 2, none⟩ = false := ((bcell hb).2 _ _ (by simp)).trans (by simp [go_sem])
  have HB := hide (below_on (below_on (below_on (below_alloc _ _) (below_alloc _ _)) (below_alloc _ _)) hb)
  have HO := hide ho
  clear hb ho
  go_wp2
  refine bodyPost_ret (v := .agg #[.int .i64 a0, .int .i64 a1, .slice az l cz]) (by simp [results, Try.results32, go_sem, v0, v1, v2]) rfl ⟨_, rfl, ?_, ?_⟩
  · repeat (first | refine Below.setCell ?_ (by first | (simp; done) | (simp; omega) | omega) _ | exact HB.out)
  · refine OwI.mono (OwI.wr HO.out (T := fun b => b < w.heap.size + 3) ?_ (fun b hb _ => by simp at hb; omega)) (by simp; omega)
    repeat (first | refine Wr.setCell ?_ (by first | (simp; done) | (simp; omega) | omega) _ | exact Wr.refl _ _)

set_option maxRecDepth 4000 in
theorem szEntry {S : Nat → Prop} {w : World} {y : Value} {xs : List Int} {left : Int} (a0 a1 : Int) (hy : RdI S w y xs) (h0 : 0 ≤ left) (h1 : left ≤ 1048576) :
    Calls Try.prog 28 #[.agg #[.int .i64 a0, .int .i64 a1, y], .int .i64 left] w fun e w' => e = .returned (.int .i64 (szv left (xs.length : Int))) ∧ Below w.heap.size w w' := by
  have HY := hide hy
  obtain ⟨ay, cy, rfl⟩ := hy.shape
  clear hy
  obtain ⟨l, hl⟩ : ∃ l, xs.length = l := ⟨_, rfl⟩
  have HL := hide hl
  rw [hl] at HY ⊢
  clear hl
  by_cases h : (l : Int) ≤ left
  · have HZ := hide (szv_yes h)
    rw [HZ.out]
    have hnn : 0 ≤ left - (l : Int) := by omega
    go_enter Try.func28, Try.ntmps28
    go_wp2_with fail
    refine (szI' (HY.out.later (below_alloc _ _)) HL.out h0 h1).mono ?_
    rintro e w1 ⟨he, hb⟩
    rw [HZ.out] at he
    subst he
    have HB := hide (below_on (below_alloc _ _) hb)
    clear hb
    go_wp2
    go_ret
    exact ⟨rfl, HB.out⟩
  · have HZ := hide (szv_no (left := left) (s := (l : Int)) (by omega))
    have hneg : ¬ (0 : Int) ≤ -1 := by decide
    rw [HZ.out]
    go_enter Try.func28, Try.ntmps28
    go_wp2_with fail
    refine (szI' (HY.out.later (below_alloc _ _)) HL.out h0 h1).mono ?_
    rintro e w1 ⟨he, hb⟩
    rw [HZ.out] at he
    subst he
    have HB := hide (below_on (below_alloc _ _) hb)
    clear hb
    go_wp2
    go_ret
    exact ⟨rfl, HB.out⟩

set_option maxRecDepth 4000 in
theorem eqEntry {S T : Nat → Prop} {w : World} {y z : Value} {xs : List Int} (a0 a1 : Int) (hy : RdI S w y xs) (hz : RdI T w z xs) :
    Calls Try.prog 39 #[.agg #[.int .i64 a0, .int .i64 a1, y], .agg #[.int .i64 a0, .int .i64 a1, z]] w fun e w' => e = .returned (.bool true) ∧ Below w.heap.size w w' := by
  have HY := hide hy
  have HZ := hide hz
  obtain ⟨ay, cy, rfl⟩ := hy.shape
  obtain ⟨az, cz, rfl⟩ := hz.shape
  clear hy hz
  go_enter Try.func39, Try.ntmps39
  go_wp2_with fail
  refine (eqI' ((HY.out.later (below_alloc _ _)).later (below_alloc _ _)) ((HZ.out.later (below_alloc _ _)).later (below_alloc _ _))).mono ?_
  rintro e w1 ⟨rfl, hb⟩
  have HB := hide (below_on (below_on (below_alloc _ _) (below_alloc _ _)) hb)
  clear hb
  go_wp2
  go_ret
  exact ⟨rfl, HB.out⟩

end Go.Proofs.Ytebgonaiodblhaa
