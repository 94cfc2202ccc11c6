/- Obj2 in one text: what each says stands at its head below. -/
import Derived.Test.YtamknomapabmfaaGreatG32
/- Chapter 5: ClashObjects of the program and of the model, walked. Its first part is made by program (genmeets.py). -/
namespace Go.Proofs.YtamknomapabmfaaGreat
open Go.RowKit

set_option maxHeartbeats 2000000 in
set_option maxRecDepth 4000 in
theorem meets_at (w : World) (a f b g : Int) (ay az : Option Addr) (l m cy cz : Nat) (hab : ¬ a = b) :
    Calls Tryz.prog 18 #[.agg #[.int .i64 a, .int .i64 f, .slice ay l cy], .agg #[.int .i64 b, .int .i64 g, .slice az m cz]] w fun e w' => e = .returned (.bool false) ∧ Below w.heap.size w w' := by
  have X0 : ((w.alloc (.cells #[.int .i64 a, .int .i64 f, .slice ay l cy] 48)).alloc (.cells #[.int .i64 b, .int .i64 g, .slice az m cz] 48)).cell? ⟨w.heap.size, 0, none⟩ = some (.int .i64 a) := by simp [go_sem]
  have X1 : ((w.alloc (.cells #[.int .i64 a, .int .i64 f, .slice ay l cy] 48)).alloc (.cells #[.int .i64 b, .int .i64 g, .slice az m cz] 48)).cell? ⟨w.heap.size, 1, none⟩ = some (.int .i64 f) := by simp [go_sem]
  have X2 : ((w.alloc (.cells #[.int .i64 a, .int .i64 f, .slice ay l cy] 48)).alloc (.cells #[.int .i64 b, .int .i64 g, .slice az m cz] 48)).cell? ⟨w.heap.size, 2, none⟩ = some (.slice ay l cy) := by simp [go_sem]
  have X3 : ((w.alloc (.cells #[.int .i64 a, .int .i64 f, .slice ay l cy] 48)).alloc (.cells #[.int .i64 b, .int .i64 g, .slice az m cz] 48)).cell? ⟨w.heap.size + 1, 0, none⟩ = some (.int .i64 b) := by simp [go_sem]
  have X4 : ((w.alloc (.cells #[.int .i64 a, .int .i64 f, .slice ay l cy] 48)).alloc (.cells #[.int .i64 b, .int .i64 g, .slice az m cz] 48)).cell? ⟨w.heap.size + 1, 1, none⟩ = some (.int .i64 g) := by simp [go_sem]
  have X5 : ((w.alloc (.cells #[.int .i64 a, .int .i64 f, .slice ay l cy] 48)).alloc (.cells #[.int .i64 b, .int .i64 g, .slice az m cz] 48)).cell? ⟨w.heap.size + 1, 2, none⟩ = some (.slice az m cz) := by simp [go_sem]
  have B0 := hide (below_on (below_on (below_alloc w (.cells #[.int .i64 a, .int .i64 f, .slice ay l cy] 48)) (below_alloc _ (.cells #[.int .i64 b, .int .i64 g, .slice az m cz] 48))) (below_drewN _ 1))
  have HX := hide (And.intro X0 (And.intro X1 (And.intro X2 (And.intro X3 (And.intro X4 X5)))))
  clear X0 X1 X2 X3 X4 X5
  go_enter Tryz.func18, Tryz.ntmps18
  go_wp2_with fail
  refine wp_region_held_drew (S := fun w' => w'.cell? ⟨w.heap.size, 0, none⟩ = some (.int .i64 a) ∧ w'.cell? ⟨w.heap.size, 1, none⟩ = some (.int .i64 f) ∧ w'.cell? ⟨w.heap.size, 2, none⟩ = some (.slice ay l cy) ∧ w'.cell? ⟨w.heap.size + 1, 0, none⟩ = some (.int .i64 b) ∧ w'.cell? ⟨w.heap.size + 1, 1, none⟩ = some (.int .i64 g) ∧ w'.cell? ⟨w.heap.size + 1, 2, none⟩ = some (.slice az m cz)) (by kernel_rfl) HX.out (fun hHeld => ?_)
  refine wpAnyH_take (i := 0) (v := ?vp0) rfl (by kernel_rfl) (by kernel_rfl) (by kernel_rfl) (fun _ _ _ h => h) (Or.inl ⟨by rfl, ?hp0⟩) hHeld ?rp0
  case hp0 => intro w9 hSw; (try dsimp only at hSw); first | (go_simp; done) | (go_simp; with_reducible rfl)
  try simp only [Act.put, List.setIfInBounds_toArray, List.set_cons_zero, List.set_cons_succ, List.getElem_toArray, List.getElem_cons_zero]
  refine wpAnyH_take (i := 1) (v := ?vp1) rfl (by kernel_rfl) (by kernel_rfl) (by kernel_rfl) (fun _ _ _ h => h) (Or.inl ⟨by rfl, ?hp1⟩) hHeld ?rp1
  case hp1 => intro w9 hSw; (try dsimp only at hSw); first | (go_simp; done) | (go_simp; with_reducible rfl)
  try simp only [Act.put, List.setIfInBounds_toArray, List.set_cons_zero, List.set_cons_succ, List.getElem_toArray, List.getElem_cons_zero, List.getElem_cons_succ]
  refine wpAnyH_take (i := 2) (v := ?vp2) rfl (by kernel_rfl) (by kernel_rfl) (by kernel_rfl) (fun _ _ _ h => h) (Or.inl ⟨by rfl, ?hp2⟩) hHeld ?rp2
  case hp2 => intro w9 hSw; (try dsimp only at hSw); first | (go_simp; done) | (go_simp; with_reducible rfl)
  try simp only [Act.put, List.setIfInBounds_toArray, List.set_cons_zero, List.set_cons_succ, List.getElem_toArray, List.getElem_cons_zero, List.getElem_cons_succ]
  refine wpAnyH_take (i := 3) (v := ?vp3) rfl (by kernel_rfl) (by kernel_rfl) (by kernel_rfl) (fun _ _ _ h => h) (Or.inl ⟨by rfl, ?hp3⟩) hHeld ?rp3
  case hp3 => intro w9 hSw; (try dsimp only at hSw); first | (go_simp; done) | (go_simp; with_reducible rfl)
  try simp only [Act.put, List.setIfInBounds_toArray, List.set_cons_zero, List.set_cons_succ, List.getElem_toArray, List.getElem_cons_zero, List.getElem_cons_succ]
  refine wpAnyH_take (i := 4) (v := ?vp4) rfl (by kernel_rfl) (by kernel_rfl) (by kernel_rfl) (fun _ _ _ h => h) (Or.inl ⟨by rfl, ?hp4⟩) hHeld ?rp4
  case hp4 => intro w9 hSw; (try dsimp only at hSw); first | (go_simp; done) | (go_simp; with_reducible rfl)
  try simp only [Act.put, List.setIfInBounds_toArray, List.set_cons_zero, List.set_cons_succ, List.getElem_toArray, List.getElem_cons_zero, List.getElem_cons_succ]
  refine wpAnyH_take (i := 5) (v := ?vp5) rfl (by kernel_rfl) (by kernel_rfl) (by kernel_rfl) (fun _ _ _ h => h) (Or.inl ⟨by rfl, ?hp5⟩) hHeld ?rp5
  case hp5 => intro w9 hSw; (try dsimp only at hSw); first | (go_simp; done) | (go_simp; with_reducible rfl)
  try simp only [Act.put, List.setIfInBounds_toArray, List.set_cons_zero, List.set_cons_succ, List.getElem_toArray, List.getElem_cons_zero, List.getElem_cons_succ]
  refine wpAnyH_take (i := 6) (v := .bool false) rfl (by kernel_rfl) (by kernel_rfl) (by kernel_rfl) (fun _ _ _ h => h) (Or.inl ⟨by rfl, ?hp6⟩) hHeld ?rp6
  case hp6 => intro w9 hSw; (try dsimp only at hSw); first | (go_simp; done) | (go_simp; simp [hab]; done)
  try simp only [Act.put, List.setIfInBounds_toArray, List.set_cons_zero, List.set_cons_succ, List.getElem_toArray, List.getElem_cons_zero, List.getElem_cons_succ]
  refine wpAnyH_take (i := 7) (v := ?vp7) rfl (by kernel_rfl) (by kernel_rfl) (by kernel_rfl) (fun _ _ _ h => h) (Or.inl ⟨by rfl, ?hp7⟩) hHeld ?rp7
  case hp7 => intro w9 hSw; (try dsimp only at hSw); first | (go_simp; done) | (go_simp; with_reducible rfl)
  try simp only [Act.put, List.setIfInBounds_toArray, List.set_cons_zero, List.set_cons_succ, List.getElem_toArray, List.getElem_cons_zero, List.getElem_cons_succ]
  refine wpAnyH_take (i := 8) (v := undef) rfl (by kernel_rfl) (by kernel_rfl) (by kernel_rfl) (fun _ _ _ h => h) (Or.inr ⟨by rfl, rfl⟩) hHeld ?_
  try simp only [Act.put, List.setIfInBounds_toArray, List.set_cons_zero, List.set_cons_succ, List.getElem_toArray, List.getElem_cons_zero, List.getElem_cons_succ]
  refine wpAnyH_take (i := 9) (v := undef) rfl (by kernel_rfl) (by kernel_rfl) (by kernel_rfl) (fun _ _ _ h => h) (Or.inr ⟨by rfl, rfl⟩) hHeld ?_
  try simp only [Act.put, List.setIfInBounds_toArray, List.set_cons_zero, List.set_cons_succ, List.getElem_toArray, List.getElem_cons_zero, List.getElem_cons_succ]
  refine wpAnyH_take (i := 10) (v := undef) rfl (by kernel_rfl) (by kernel_rfl) (by kernel_rfl) (fun _ _ _ h => h) (Or.inr ⟨by rfl, rfl⟩) hHeld ?_
  try simp only [Act.put, List.setIfInBounds_toArray, List.set_cons_zero, List.set_cons_succ, List.getElem_toArray, List.getElem_cons_zero, List.getElem_cons_succ]
  refine wpAnyH_take (i := 11) (v := undef) rfl (by kernel_rfl) (by kernel_rfl) (by kernel_rfl) (fun _ _ _ h => h) (Or.inr ⟨by rfl, rfl⟩) hHeld ?_
  try simp only [Act.put, List.setIfInBounds_toArray, List.set_cons_zero, List.set_cons_succ, List.getElem_toArray, List.getElem_cons_zero, List.getElem_cons_succ]
  refine wpAnyH_take (i := 12) (v := undef) rfl (by kernel_rfl) (by kernel_rfl) (by kernel_rfl) (fun _ _ _ h => h) (Or.inr ⟨by rfl, rfl⟩) hHeld ?_
  try simp only [Act.put, List.setIfInBounds_toArray, List.set_cons_zero, List.set_cons_succ, List.getElem_toArray, List.getElem_cons_zero, List.getElem_cons_succ]
  refine wpAnyH_take (i := 13) (v := undef) rfl (by kernel_rfl) (by kernel_rfl) (by kernel_rfl) (fun _ _ _ h => h) (Or.inr ⟨by rfl, rfl⟩) hHeld ?_
  try simp only [Act.put, List.setIfInBounds_toArray, List.set_cons_zero, List.set_cons_succ, List.getElem_toArray, List.getElem_cons_zero, List.getElem_cons_succ]
  refine wpAnyH_take (i := 14) (v := ?vp14) rfl (by kernel_rfl) (by kernel_rfl) (by kernel_rfl) (fun _ _ _ h => h) (Or.inl ⟨by rfl, ?hp14⟩) hHeld ?rp14
  case hp14 => intro w9 hSw; (try dsimp only at hSw); first | (go_simp; done) | (go_simp; with_reducible rfl)
  try simp only [Act.put, List.setIfInBounds_toArray, List.set_cons_zero, List.set_cons_succ, List.getElem_toArray, List.getElem_cons_zero, List.getElem_cons_succ]
  refine wpAnyH_take (i := 15) (v := ?vp15) rfl (by kernel_rfl) (by kernel_rfl) (by kernel_rfl) (fun _ _ _ h => h) (Or.inl ⟨by rfl, ?hp15⟩) hHeld ?rp15
  case hp15 => intro w9 hSw; (try dsimp only at hSw); first | (go_simp; done) | (go_simp; with_reducible rfl)
  try simp only [Act.put, List.setIfInBounds_toArray, List.set_cons_zero, List.set_cons_succ, List.getElem_toArray, List.getElem_cons_zero, List.getElem_cons_succ]
  refine wpAnyH_take (i := 16) (v := undef) rfl (by kernel_rfl) (by kernel_rfl) (by kernel_rfl) (fun _ _ _ h => h) (Or.inr ⟨by rfl, rfl⟩) hHeld ?_
  try simp only [Act.put, List.setIfInBounds_toArray, List.set_cons_zero, List.set_cons_succ, List.getElem_toArray, List.getElem_cons_zero, List.getElem_cons_succ]
  refine wpAnyH_take (i := 17) (v := undef) rfl (by kernel_rfl) (by kernel_rfl) (by kernel_rfl) (fun _ _ _ h => h) (Or.inr ⟨by rfl, rfl⟩) hHeld ?_
  try simp only [Act.put, List.setIfInBounds_toArray, List.set_cons_zero, List.set_cons_succ, List.getElem_toArray, List.getElem_cons_zero, List.getElem_cons_succ]
  refine wpAnyH_take (i := 18) (v := undef) rfl (by kernel_rfl) (by kernel_rfl) (by kernel_rfl) (fun _ _ _ h => h) (Or.inr ⟨by rfl, rfl⟩) hHeld ?_
  try simp only [Act.put, List.setIfInBounds_toArray, List.set_cons_zero, List.set_cons_succ, List.getElem_toArray, List.getElem_cons_zero, List.getElem_cons_succ]
  refine wpAnyH_take (i := 19) (v := undef) rfl (by kernel_rfl) (by kernel_rfl) (by kernel_rfl) (fun _ _ _ h => h) (Or.inr ⟨by rfl, rfl⟩) hHeld ?_
  try simp only [Act.put, List.setIfInBounds_toArray, List.set_cons_zero, List.set_cons_succ, List.getElem_toArray, List.getElem_cons_zero, List.getElem_cons_succ]
  refine wpAnyH_take (i := 20) (v := undef) rfl (by kernel_rfl) (by kernel_rfl) (by kernel_rfl) (fun _ _ _ h => h) (Or.inr ⟨by rfl, rfl⟩) hHeld ?_
  try simp only [Act.put, List.setIfInBounds_toArray, List.set_cons_zero, List.set_cons_succ, List.getElem_toArray, List.getElem_cons_zero, List.getElem_cons_succ]
  refine wpAnyH_take (i := 21) (v := undef) rfl (by kernel_rfl) (by kernel_rfl) (by kernel_rfl) (fun _ _ _ h => h) (Or.inr ⟨by rfl, rfl⟩) hHeld ?_
  try simp only [Act.put, List.setIfInBounds_toArray, List.set_cons_zero, List.set_cons_succ, List.getElem_toArray, List.getElem_cons_zero, List.getElem_cons_succ]
  refine wpAnyH_take (i := 22) (v := ?vp22) rfl (by kernel_rfl) (by kernel_rfl) (by kernel_rfl) (fun _ _ _ h => h) (Or.inl ⟨by rfl, ?hp22⟩) hHeld ?rp22
  case hp22 => intro w9 hSw; (try dsimp only at hSw); first | (go_simp; done) | (go_simp; with_reducible rfl)
  try simp only [Act.put, List.setIfInBounds_toArray, List.set_cons_zero, List.set_cons_succ, List.getElem_toArray, List.getElem_cons_zero, List.getElem_cons_succ]
  refine wpAnyH_take (i := 23) (v := ?vp23) rfl (by kernel_rfl) (by kernel_rfl) (by kernel_rfl) (fun _ _ _ h => h) (Or.inl ⟨by rfl, ?hp23⟩) hHeld ?rp23
  case hp23 => intro w9 hSw; (try dsimp only at hSw); first | (go_simp; done) | (go_simp; with_reducible rfl)
  try simp only [Act.put, List.setIfInBounds_toArray, List.set_cons_zero, List.set_cons_succ, List.getElem_toArray, List.getElem_cons_zero, List.getElem_cons_succ]
  refine wpAnyH_done (by kernel_rfl) ?_ _
  go_wp2
  go_ret
  exact ⟨rfl, B0.out⟩

set_option maxHeartbeats 2000000 in
set_option maxRecDepth 4000 in
theorem meets_ahead (w : World) (a f g : Int) (ay az : Option Addr) (l m cy cz : Nat) (hg0 : 0 ≤ g) (hg1 : g ≤ 64) (hm : m ≤ 1048576) (h1 : ¬ f < g + (m : Int)) :
    Calls Tryz.prog 18 #[.agg #[.int .i64 a, .int .i64 f, .slice ay l cy], .agg #[.int .i64 a, .int .i64 g, .slice az m cz]] w fun e w' => e = .returned (.bool false) ∧ Below w.heap.size w w' := by
  have X0 : ((w.alloc (.cells #[.int .i64 a, .int .i64 f, .slice ay l cy] 48)).alloc (.cells #[.int .i64 a, .int .i64 g, .slice az m cz] 48)).cell? ⟨w.heap.size, 0, none⟩ = some (.int .i64 a) := by simp [go_sem]
  have X1 : ((w.alloc (.cells #[.int .i64 a, .int .i64 f, .slice ay l cy] 48)).alloc (.cells #[.int .i64 a, .int .i64 g, .slice az m cz] 48)).cell? ⟨w.heap.size, 1, none⟩ = some (.int .i64 f) := by simp [go_sem]
  have X2 : ((w.alloc (.cells #[.int .i64 a, .int .i64 f, .slice ay l cy] 48)).alloc (.cells #[.int .i64 a, .int .i64 g, .slice az m cz] 48)).cell? ⟨w.heap.size, 2, none⟩ = some (.slice ay l cy) := by simp [go_sem]
  have X3 : ((w.alloc (.cells #[.int .i64 a, .int .i64 f, .slice ay l cy] 48)).alloc (.cells #[.int .i64 a, .int .i64 g, .slice az m cz] 48)).cell? ⟨w.heap.size + 1, 0, none⟩ = some (.int .i64 a) := by simp [go_sem]
  have X4 : ((w.alloc (.cells #[.int .i64 a, .int .i64 f, .slice ay l cy] 48)).alloc (.cells #[.int .i64 a, .int .i64 g, .slice az m cz] 48)).cell? ⟨w.heap.size + 1, 1, none⟩ = some (.int .i64 g) := by simp [go_sem]
  have X5 : ((w.alloc (.cells #[.int .i64 a, .int .i64 f, .slice ay l cy] 48)).alloc (.cells #[.int .i64 a, .int .i64 g, .slice az m cz] 48)).cell? ⟨w.heap.size + 1, 2, none⟩ = some (.slice az m cz) := by simp [go_sem]
  have B0 := hide (below_on (below_on (below_alloc w (.cells #[.int .i64 a, .int .i64 f, .slice ay l cy] 48)) (below_alloc _ (.cells #[.int .i64 a, .int .i64 g, .slice az m cz] 48))) (below_drewN _ 1))
  have HX := hide (And.intro X0 (And.intro X1 (And.intro X2 (And.intro X3 (And.intro X4 X5)))))
  clear X0 X1 X2 X3 X4 X5
  go_enter Tryz.func18, Tryz.ntmps18
  go_wp2_with fail
  refine wp_region_held_drew (S := fun w' => w'.cell? ⟨w.heap.size, 0, none⟩ = some (.int .i64 a) ∧ w'.cell? ⟨w.heap.size, 1, none⟩ = some (.int .i64 f) ∧ w'.cell? ⟨w.heap.size, 2, none⟩ = some (.slice ay l cy) ∧ w'.cell? ⟨w.heap.size + 1, 0, none⟩ = some (.int .i64 a) ∧ w'.cell? ⟨w.heap.size + 1, 1, none⟩ = some (.int .i64 g) ∧ w'.cell? ⟨w.heap.size + 1, 2, none⟩ = some (.slice az m cz)) (by kernel_rfl) HX.out (fun hHeld => ?_)
  refine wpAnyH_take (i := 0) (v := ?vp0) rfl (by kernel_rfl) (by kernel_rfl) (by kernel_rfl) (fun _ _ _ h => h) (Or.inl ⟨by rfl, ?hp0⟩) hHeld ?rp0
  case hp0 => intro w9 hSw; (try dsimp only at hSw); first | (go_simp; done) | (go_simp; with_reducible rfl)
  try simp only [Act.put, List.setIfInBounds_toArray, List.set_cons_zero, List.set_cons_succ, List.getElem_toArray, List.getElem_cons_zero]
  refine wpAnyH_take (i := 1) (v := ?vp1) rfl (by kernel_rfl) (by kernel_rfl) (by kernel_rfl) (fun _ _ _ h => h) (Or.inl ⟨by rfl, ?hp1⟩) hHeld ?rp1
  case hp1 => intro w9 hSw; (try dsimp only at hSw); first | (go_simp; done) | (go_simp; with_reducible rfl)
  try simp only [Act.put, List.setIfInBounds_toArray, List.set_cons_zero, List.set_cons_succ, List.getElem_toArray, List.getElem_cons_zero, List.getElem_cons_succ]
  refine wpAnyH_take (i := 2) (v := ?vp2) rfl (by kernel_rfl) (by kernel_rfl) (by kernel_rfl) (fun _ _ _ h => h) (Or.inl ⟨by rfl, ?hp2⟩) hHeld ?rp2
  case hp2 => intro w9 hSw; (try dsimp only at hSw); first | (go_simp; done) | (go_simp; with_reducible rfl)
  try simp only [Act.put, List.setIfInBounds_toArray, List.set_cons_zero, List.set_cons_succ, List.getElem_toArray, List.getElem_cons_zero, List.getElem_cons_succ]
  refine wpAnyH_take (i := 3) (v := ?vp3) rfl (by kernel_rfl) (by kernel_rfl) (by kernel_rfl) (fun _ _ _ h => h) (Or.inl ⟨by rfl, ?hp3⟩) hHeld ?rp3
  case hp3 => intro w9 hSw; (try dsimp only at hSw); first | (go_simp; done) | (go_simp; with_reducible rfl)
  try simp only [Act.put, List.setIfInBounds_toArray, List.set_cons_zero, List.set_cons_succ, List.getElem_toArray, List.getElem_cons_zero, List.getElem_cons_succ]
  refine wpAnyH_take (i := 4) (v := ?vp4) rfl (by kernel_rfl) (by kernel_rfl) (by kernel_rfl) (fun _ _ _ h => h) (Or.inl ⟨by rfl, ?hp4⟩) hHeld ?rp4
  case hp4 => intro w9 hSw; (try dsimp only at hSw); first | (go_simp; done) | (go_simp; with_reducible rfl)
  try simp only [Act.put, List.setIfInBounds_toArray, List.set_cons_zero, List.set_cons_succ, List.getElem_toArray, List.getElem_cons_zero, List.getElem_cons_succ]
  refine wpAnyH_take (i := 5) (v := ?vp5) rfl (by kernel_rfl) (by kernel_rfl) (by kernel_rfl) (fun _ _ _ h => h) (Or.inl ⟨by rfl, ?hp5⟩) hHeld ?rp5
  case hp5 => intro w9 hSw; (try dsimp only at hSw); first | (go_simp; done) | (go_simp; with_reducible rfl)
  try simp only [Act.put, List.setIfInBounds_toArray, List.set_cons_zero, List.set_cons_succ, List.getElem_toArray, List.getElem_cons_zero, List.getElem_cons_succ]
  refine wpAnyH_take (i := 6) (v := .bool true) rfl (by kernel_rfl) (by kernel_rfl) (by kernel_rfl) (fun _ _ _ h => h) (Or.inl ⟨by rfl, ?hp6⟩) hHeld ?rp6
  case hp6 => intro w9 hSw; (try dsimp only at hSw); first | (go_simp; done) | (go_simp; simp; done)
  try simp only [Act.put, List.setIfInBounds_toArray, List.set_cons_zero, List.set_cons_succ, List.getElem_toArray, List.getElem_cons_zero, List.getElem_cons_succ]
  refine wpAnyH_take (i := 7) (v := ?vp7) rfl (by kernel_rfl) (by kernel_rfl) (by kernel_rfl) (fun _ _ _ h => h) (Or.inl ⟨by rfl, ?hp7⟩) hHeld ?rp7
  case hp7 => intro w9 hSw; (try dsimp only at hSw); first | (go_simp; done) | (go_simp; with_reducible rfl)
  try simp only [Act.put, List.setIfInBounds_toArray, List.set_cons_zero, List.set_cons_succ, List.getElem_toArray, List.getElem_cons_zero, List.getElem_cons_succ]
  refine wpAnyH_take (i := 8) (v := ?vp8) rfl (by kernel_rfl) (by kernel_rfl) (by kernel_rfl) (fun _ _ _ h => h) (Or.inl ⟨by rfl, ?hp8⟩) hHeld ?rp8
  case hp8 => intro w9 hSw; (try dsimp only at hSw); first | (go_simp; done) | (go_simp; with_reducible rfl)
  try simp only [Act.put, List.setIfInBounds_toArray, List.set_cons_zero, List.set_cons_succ, List.getElem_toArray, List.getElem_cons_zero, List.getElem_cons_succ]
  refine wpAnyH_take (i := 9) (v := ?vp9) rfl (by kernel_rfl) (by kernel_rfl) (by kernel_rfl) (fun _ _ _ h => h) (Or.inl ⟨by rfl, ?hp9⟩) hHeld ?rp9
  case hp9 => intro w9 hSw; (try dsimp only at hSw); first | (go_simp; done) | (go_simp; with_reducible rfl)
  try simp only [Act.put, List.setIfInBounds_toArray, List.set_cons_zero, List.set_cons_succ, List.getElem_toArray, List.getElem_cons_zero, List.getElem_cons_succ]
  refine wpAnyH_take (i := 10) (v := ?vp10) rfl (by kernel_rfl) (by kernel_rfl) (by kernel_rfl) (fun _ _ _ h => h) (Or.inl ⟨by rfl, ?hp10⟩) hHeld ?rp10
  case hp10 => intro w9 hSw; (try dsimp only at hSw); first | (go_simp; done) | (go_simp; with_reducible rfl)
  try simp only [Act.put, List.setIfInBounds_toArray, List.set_cons_zero, List.set_cons_succ, List.getElem_toArray, List.getElem_cons_zero, List.getElem_cons_succ]
  refine wpAnyH_take (i := 11) (v := ?vp11) rfl (by kernel_rfl) (by kernel_rfl) (by kernel_rfl) (fun _ _ _ h => h) (Or.inl ⟨by rfl, ?hp11⟩) hHeld ?rp11
  case hp11 => intro w9 hSw; (try dsimp only at hSw); first | (go_simp; done) | (go_simp; with_reducible rfl)
  try simp only [Act.put, List.setIfInBounds_toArray, List.set_cons_zero, List.set_cons_succ, List.getElem_toArray, List.getElem_cons_zero, List.getElem_cons_succ]
  refine wpAnyH_ready (rs := [12]) (by kernel_rfl) (by simp) (AllReadyH.cons rfl (fun K hK => ?_) AllReadyH.nil)
  go_simp
  go_at_call 33
  refine (partEnd _ a g az m cz hg0 hg1 hm).mono ?_
  rintro e w1 ⟨he, hb⟩
  rw [he]
  clear he
  have B1 := hide (below_on B0.out hb)
  obtain ⟨x0, x1, x2, x3, x4, x5⟩ := hHeld
  have HX1 := hide (And.intro (cell_later hb x0) (And.intro (cell_later hb x1) (And.intro (cell_later hb x2) (And.intro (cell_later hb x3) (And.intro (cell_later hb x4) (cell_later hb x5))))))
  clear hb x0 x1 x2 x3 x4 x5
  refine hK.out _ _ HX1.out (fun hHeld => ?_)
  clear hK K
  try simp only [Act.put, List.setIfInBounds_toArray, List.set_cons_zero, List.set_cons_succ, List.getElem_toArray, List.getElem_cons_zero, List.getElem_cons_succ]
  refine wpAnyH_take (i := 13) (v := .bool false) rfl (by kernel_rfl) (by kernel_rfl) (by kernel_rfl) (fun _ _ _ h => h) (Or.inl ⟨by rfl, ?hp13⟩) hHeld ?rp13
  case hp13 => intro w9 hSw; (try dsimp only at hSw); first | (go_simp; done) | (go_simp; simp; omega)
  try simp only [Act.put, List.setIfInBounds_toArray, List.set_cons_zero, List.set_cons_succ, List.getElem_toArray, List.getElem_cons_zero, List.getElem_cons_succ]
  refine wpAnyH_take (i := 14) (v := ?vp14) rfl (by kernel_rfl) (by kernel_rfl) (by kernel_rfl) (fun _ _ _ h => h) (Or.inl ⟨by rfl, ?hp14⟩) hHeld ?rp14
  case hp14 => intro w9 hSw; (try dsimp only at hSw); first | (go_simp; done) | (go_simp; with_reducible rfl)
  try simp only [Act.put, List.setIfInBounds_toArray, List.set_cons_zero, List.set_cons_succ, List.getElem_toArray, List.getElem_cons_zero, List.getElem_cons_succ]
  refine wpAnyH_take (i := 15) (v := ?vp15) rfl (by kernel_rfl) (by kernel_rfl) (by kernel_rfl) (fun _ _ _ h => h) (Or.inl ⟨by rfl, ?hp15⟩) hHeld ?rp15
  case hp15 => intro w9 hSw; (try dsimp only at hSw); first | (go_simp; done) | (go_simp; with_reducible rfl)
  try simp only [Act.put, List.setIfInBounds_toArray, List.set_cons_zero, List.set_cons_succ, List.getElem_toArray, List.getElem_cons_zero, List.getElem_cons_succ]
  refine wpAnyH_take (i := 16) (v := undef) rfl (by kernel_rfl) (by kernel_rfl) (by kernel_rfl) (fun _ _ _ h => h) (Or.inr ⟨by rfl, rfl⟩) hHeld ?_
  try simp only [Act.put, List.setIfInBounds_toArray, List.set_cons_zero, List.set_cons_succ, List.getElem_toArray, List.getElem_cons_zero, List.getElem_cons_succ]
  refine wpAnyH_take (i := 17) (v := undef) rfl (by kernel_rfl) (by kernel_rfl) (by kernel_rfl) (fun _ _ _ h => h) (Or.inr ⟨by rfl, rfl⟩) hHeld ?_
  try simp only [Act.put, List.setIfInBounds_toArray, List.set_cons_zero, List.set_cons_succ, List.getElem_toArray, List.getElem_cons_zero, List.getElem_cons_succ]
  refine wpAnyH_take (i := 18) (v := undef) rfl (by kernel_rfl) (by kernel_rfl) (by kernel_rfl) (fun _ _ _ h => h) (Or.inr ⟨by rfl, rfl⟩) hHeld ?_
  try simp only [Act.put, List.setIfInBounds_toArray, List.set_cons_zero, List.set_cons_succ, List.getElem_toArray, List.getElem_cons_zero, List.getElem_cons_succ]
  refine wpAnyH_take (i := 19) (v := undef) rfl (by kernel_rfl) (by kernel_rfl) (by kernel_rfl) (fun _ _ _ h => h) (Or.inr ⟨by rfl, rfl⟩) hHeld ?_
  try simp only [Act.put, List.setIfInBounds_toArray, List.set_cons_zero, List.set_cons_succ, List.getElem_toArray, List.getElem_cons_zero, List.getElem_cons_succ]
  refine wpAnyH_take (i := 20) (v := undef) rfl (by kernel_rfl) (by kernel_rfl) (by kernel_rfl) (fun _ _ _ h => h) (Or.inr ⟨by rfl, rfl⟩) hHeld ?_
  try simp only [Act.put, List.setIfInBounds_toArray, List.set_cons_zero, List.set_cons_succ, List.getElem_toArray, List.getElem_cons_zero, List.getElem_cons_succ]
  refine wpAnyH_take (i := 21) (v := undef) rfl (by kernel_rfl) (by kernel_rfl) (by kernel_rfl) (fun _ _ _ h => h) (Or.inr ⟨by rfl, rfl⟩) hHeld ?_
  try simp only [Act.put, List.setIfInBounds_toArray, List.set_cons_zero, List.set_cons_succ, List.getElem_toArray, List.getElem_cons_zero, List.getElem_cons_succ]
  refine wpAnyH_take (i := 22) (v := ?vp22) rfl (by kernel_rfl) (by kernel_rfl) (by kernel_rfl) (fun _ _ _ h => h) (Or.inl ⟨by rfl, ?hp22⟩) hHeld ?rp22
  case hp22 => intro w9 hSw; (try dsimp only at hSw); first | (go_simp; done) | (go_simp; with_reducible rfl)
  try simp only [Act.put, List.setIfInBounds_toArray, List.set_cons_zero, List.set_cons_succ, List.getElem_toArray, List.getElem_cons_zero, List.getElem_cons_succ]
  refine wpAnyH_take (i := 23) (v := ?vp23) rfl (by kernel_rfl) (by kernel_rfl) (by kernel_rfl) (fun _ _ _ h => h) (Or.inl ⟨by rfl, ?hp23⟩) hHeld ?rp23
  case hp23 => intro w9 hSw; (try dsimp only at hSw); first | (go_simp; done) | (go_simp; with_reducible rfl)
  try simp only [Act.put, List.setIfInBounds_toArray, List.set_cons_zero, List.set_cons_succ, List.getElem_toArray, List.getElem_cons_zero, List.getElem_cons_succ]
  refine wpAnyH_done (by kernel_rfl) ?_ _
  go_wp2
  go_ret
  exact ⟨rfl, B1.out⟩

set_option maxHeartbeats 2000000 in
set_option maxRecDepth 4000 in
theorem meets_both (w : World) (a f g : Int) (ay az : Option Addr) (l m cy cz : Nat) (hf0 : 0 ≤ f) (hf1 : f ≤ 64) (hl : l ≤ 1048576) (hg0 : 0 ≤ g) (hg1 : g ≤ 64) (hm : m ≤ 1048576) (h1 : f < g + (m : Int)) :
    Calls Tryz.prog 18 #[.agg #[.int .i64 a, .int .i64 f, .slice ay l cy], .agg #[.int .i64 a, .int .i64 g, .slice az m cz]] w fun e w' => e = .returned (.bool (decide (g < f + (l : Int)))) ∧ Below w.heap.size w w' := by
  have X0 : ((w.alloc (.cells #[.int .i64 a, .int .i64 f, .slice ay l cy] 48)).alloc (.cells #[.int .i64 a, .int .i64 g, .slice az m cz] 48)).cell? ⟨w.heap.size, 0, none⟩ = some (.int .i64 a) := by simp [go_sem]
  have X1 : ((w.alloc (.cells #[.int .i64 a, .int .i64 f, .slice ay l cy] 48)).alloc (.cells #[.int .i64 a, .int .i64 g, .slice az m cz] 48)).cell? ⟨w.heap.size, 1, none⟩ = some (.int .i64 f) := by simp [go_sem]
  have X2 : ((w.alloc (.cells #[.int .i64 a, .int .i64 f, .slice ay l cy] 48)).alloc (.cells #[.int .i64 a, .int .i64 g, .slice az m cz] 48)).cell? ⟨w.heap.size, 2, none⟩ = some (.slice ay l cy) := by simp [go_sem]
  have X3 : ((w.alloc (.cells #[.int .i64 a, .int .i64 f, .slice ay l cy] 48)).alloc (.cells #[.int .i64 a, .int .i64 g, .slice az m cz] 48)).cell? ⟨w.heap.size + 1, 0, none⟩ = some (.int .i64 a) := by simp [go_sem]
  have X4 : ((w.alloc (.cells #[.int .i64 a, .int .i64 f, .slice ay l cy] 48)).alloc (.cells #[.int .i64 a, .int .i64 g, .slice az m cz] 48)).cell? ⟨w.heap.size + 1, 1, none⟩ = some (.int .i64 g) := by simp [go_sem]
  have X5 : ((w.alloc (.cells #[.int .i64 a, .int .i64 f, .slice ay l cy] 48)).alloc (.cells #[.int .i64 a, .int .i64 g, .slice az m cz] 48)).cell? ⟨w.heap.size + 1, 2, none⟩ = some (.slice az m cz) := by simp [go_sem]
  have B0 := hide (below_on (below_on (below_alloc w (.cells #[.int .i64 a, .int .i64 f, .slice ay l cy] 48)) (below_alloc _ (.cells #[.int .i64 a, .int .i64 g, .slice az m cz] 48))) (below_drewN _ 1))
  have HX := hide (And.intro X0 (And.intro X1 (And.intro X2 (And.intro X3 (And.intro X4 X5)))))
  clear X0 X1 X2 X3 X4 X5
  go_enter Tryz.func18, Tryz.ntmps18
  go_wp2_with fail
  refine wp_region_held_drew (S := fun w' => w'.cell? ⟨w.heap.size, 0, none⟩ = some (.int .i64 a) ∧ w'.cell? ⟨w.heap.size, 1, none⟩ = some (.int .i64 f) ∧ w'.cell? ⟨w.heap.size, 2, none⟩ = some (.slice ay l cy) ∧ w'.cell? ⟨w.heap.size + 1, 0, none⟩ = some (.int .i64 a) ∧ w'.cell? ⟨w.heap.size + 1, 1, none⟩ = some (.int .i64 g) ∧ w'.cell? ⟨w.heap.size + 1, 2, none⟩ = some (.slice az m cz)) (by kernel_rfl) HX.out (fun hHeld => ?_)
  refine wpAnyH_take (i := 0) (v := ?vp0) rfl (by kernel_rfl) (by kernel_rfl) (by kernel_rfl) (fun _ _ _ h => h) (Or.inl ⟨by rfl, ?hp0⟩) hHeld ?rp0
  case hp0 => intro w9 hSw; (try dsimp only at hSw); first | (go_simp; done) | (go_simp; with_reducible rfl)
  try simp only [Act.put, List.setIfInBounds_toArray, List.set_cons_zero, List.set_cons_succ, List.getElem_toArray, List.getElem_cons_zero]
  refine wpAnyH_take (i := 1) (v := ?vp1) rfl (by kernel_rfl) (by kernel_rfl) (by kernel_rfl) (fun _ _ _ h => h) (Or.inl ⟨by rfl, ?hp1⟩) hHeld ?rp1
  case hp1 => intro w9 hSw; (try dsimp only at hSw); first | (go_simp; done) | (go_simp; with_reducible rfl)
  try simp only [Act.put, List.setIfInBounds_toArray, List.set_cons_zero, List.set_cons_succ, List.getElem_toArray, List.getElem_cons_zero, List.getElem_cons_succ]
  refine wpAnyH_take (i := 2) (v := ?vp2) rfl (by kernel_rfl) (by kernel_rfl) (by kernel_rfl) (fun _ _ _ h => h) (Or.inl ⟨by rfl, ?hp2⟩) hHeld ?rp2
  case hp2 => intro w9 hSw; (try dsimp only at hSw); first | (go_simp; done) | (go_simp; with_reducible rfl)
  try simp only [Act.put, List.setIfInBounds_toArray, List.set_cons_zero, List.set_cons_succ, List.getElem_toArray, List.getElem_cons_zero, List.getElem_cons_succ]
  refine wpAnyH_take (i := 3) (v := ?vp3) rfl (by kernel_rfl) (by kernel_rfl) (by kernel_rfl) (fun _ _ _ h => h) (Or.inl ⟨by rfl, ?hp3⟩) hHeld ?rp3
  case hp3 => intro w9 hSw; (try dsimp only at hSw); first | (go_simp; done) | (go_simp; with_reducible rfl)
  try simp only [Act.put, List.setIfInBounds_toArray, List.set_cons_zero, List.set_cons_succ, List.getElem_toArray, List.getElem_cons_zero, List.getElem_cons_succ]
  refine wpAnyH_take (i := 4) (v := ?vp4) rfl (by kernel_rfl) (by kernel_rfl) (by kernel_rfl) (fun _ _ _ h => h) (Or.inl ⟨by rfl, ?hp4⟩) hHeld ?rp4
  case hp4 => intro w9 hSw; (try dsimp only at hSw); first | (go_simp; done) | (go_simp; with_reducible rfl)
  try simp only [Act.put, List.setIfInBounds_toArray, List.set_cons_zero, List.set_cons_succ, List.getElem_toArray, List.getElem_cons_zero, List.getElem_cons_succ]
  refine wpAnyH_take (i := 5) (v := ?vp5) rfl (by kernel_rfl) (by kernel_rfl) (by kernel_rfl) (fun _ _ _ h => h) (Or.inl ⟨by rfl, ?hp5⟩) hHeld ?rp5
  case hp5 => intro w9 hSw; (try dsimp only at hSw); first | (go_simp; done) | (go_simp; with_reducible rfl)
  try simp only [Act.put, List.setIfInBounds_toArray, List.set_cons_zero, List.set_cons_succ, List.getElem_toArray, List.getElem_cons_zero, List.getElem_cons_succ]
  refine wpAnyH_take (i := 6) (v := .bool true) rfl (by kernel_rfl) (by kernel_rfl) (by kernel_rfl) (fun _ _ _ h => h) (Or.inl ⟨by rfl, ?hp6⟩) hHeld ?rp6
  case hp6 => intro w9 hSw; (try dsimp only at hSw); first | (go_simp; done) | (go_simp; simp; done)
  try simp only [Act.put, List.setIfInBounds_toArray, List.set_cons_zero, List.set_cons_succ, List.getElem_toArray, List.getElem_cons_zero, List.getElem_cons_succ]
  refine wpAnyH_take (i := 7) (v := ?vp7) rfl (by kernel_rfl) (by kernel_rfl) (by kernel_rfl) (fun _ _ _ h => h) (Or.inl ⟨by rfl, ?hp7⟩) hHeld ?rp7
  case hp7 => intro w9 hSw; (try dsimp only at hSw); first | (go_simp; done) | (go_simp; with_reducible rfl)
  try simp only [Act.put, List.setIfInBounds_toArray, List.set_cons_zero, List.set_cons_succ, List.getElem_toArray, List.getElem_cons_zero, List.getElem_cons_succ]
  refine wpAnyH_take (i := 8) (v := ?vp8) rfl (by kernel_rfl) (by kernel_rfl) (by kernel_rfl) (fun _ _ _ h => h) (Or.inl ⟨by rfl, ?hp8⟩) hHeld ?rp8
  case hp8 => intro w9 hSw; (try dsimp only at hSw); first | (go_simp; done) | (go_simp; with_reducible rfl)
  try simp only [Act.put, List.setIfInBounds_toArray, List.set_cons_zero, List.set_cons_succ, List.getElem_toArray, List.getElem_cons_zero, List.getElem_cons_succ]
  refine wpAnyH_take (i := 9) (v := ?vp9) rfl (by kernel_rfl) (by kernel_rfl) (by kernel_rfl) (fun _ _ _ h => h) (Or.inl ⟨by rfl, ?hp9⟩) hHeld ?rp9
  case hp9 => intro w9 hSw; (try dsimp only at hSw); first | (go_simp; done) | (go_simp; with_reducible rfl)
  try simp only [Act.put, List.setIfInBounds_toArray, List.set_cons_zero, List.set_cons_succ, List.getElem_toArray, List.getElem_cons_zero, List.getElem_cons_succ]
  refine wpAnyH_take (i := 10) (v := ?vp10) rfl (by kernel_rfl) (by kernel_rfl) (by kernel_rfl) (fun _ _ _ h => h) (Or.inl ⟨by rfl, ?hp10⟩) hHeld ?rp10
  case hp10 => intro w9 hSw; (try dsimp only at hSw); first | (go_simp; done) | (go_simp; with_reducible rfl)
  try simp only [Act.put, List.setIfInBounds_toArray, List.set_cons_zero, List.set_cons_succ, List.getElem_toArray, List.getElem_cons_zero, List.getElem_cons_succ]
  refine wpAnyH_take (i := 11) (v := ?vp11) rfl (by kernel_rfl) (by kernel_rfl) (by kernel_rfl) (fun _ _ _ h => h) (Or.inl ⟨by rfl, ?hp11⟩) hHeld ?rp11
  case hp11 => intro w9 hSw; (try dsimp only at hSw); first | (go_simp; done) | (go_simp; with_reducible rfl)
  try simp only [Act.put, List.setIfInBounds_toArray, List.set_cons_zero, List.set_cons_succ, List.getElem_toArray, List.getElem_cons_zero, List.getElem_cons_succ]
  refine wpAnyH_ready (rs := [12]) (by kernel_rfl) (by simp) (AllReadyH.cons rfl (fun K hK => ?_) AllReadyH.nil)
  go_simp
  go_at_call 33
  refine (partEnd _ a g az m cz hg0 hg1 hm).mono ?_
  rintro e w1 ⟨he, hb⟩
  rw [he]
  clear he
  have B1 := hide (below_on B0.out hb)
  obtain ⟨x0, x1, x2, x3, x4, x5⟩ := hHeld
  have HX1 := hide (And.intro (cell_later hb x0) (And.intro (cell_later hb x1) (And.intro (cell_later hb x2) (And.intro (cell_later hb x3) (And.intro (cell_later hb x4) (cell_later hb x5))))))
  clear hb x0 x1 x2 x3 x4 x5
  refine hK.out _ _ HX1.out (fun hHeld => ?_)
  clear hK K
  try simp only [Act.put, List.setIfInBounds_toArray, List.set_cons_zero, List.set_cons_succ, List.getElem_toArray, List.getElem_cons_zero, List.getElem_cons_succ]
  refine wpAnyH_take (i := 13) (v := .bool true) rfl (by kernel_rfl) (by kernel_rfl) (by kernel_rfl) (fun _ _ _ h => h) (Or.inl ⟨by rfl, ?hp13⟩) hHeld ?rp13
  case hp13 => intro w9 hSw; (try dsimp only at hSw); first | (go_simp; done) | (go_simp; simp; omega)
  try simp only [Act.put, List.setIfInBounds_toArray, List.set_cons_zero, List.set_cons_succ, List.getElem_toArray, List.getElem_cons_zero, List.getElem_cons_succ]
  refine wpAnyH_take (i := 14) (v := ?vp14) rfl (by kernel_rfl) (by kernel_rfl) (by kernel_rfl) (fun _ _ _ h => h) (Or.inl ⟨by rfl, ?hp14⟩) hHeld ?rp14
  case hp14 => intro w9 hSw; (try dsimp only at hSw); first | (go_simp; done) | (go_simp; with_reducible rfl)
  try simp only [Act.put, List.setIfInBounds_toArray, List.set_cons_zero, List.set_cons_succ, List.getElem_toArray, List.getElem_cons_zero, List.getElem_cons_succ]
  refine wpAnyH_take (i := 15) (v := ?vp15) rfl (by kernel_rfl) (by kernel_rfl) (by kernel_rfl) (fun _ _ _ h => h) (Or.inl ⟨by rfl, ?hp15⟩) hHeld ?rp15
  case hp15 => intro w9 hSw; (try dsimp only at hSw); first | (go_simp; done) | (go_simp; with_reducible rfl)
  try simp only [Act.put, List.setIfInBounds_toArray, List.set_cons_zero, List.set_cons_succ, List.getElem_toArray, List.getElem_cons_zero, List.getElem_cons_succ]
  refine wpAnyH_take (i := 16) (v := ?vp16) rfl (by kernel_rfl) (by kernel_rfl) (by kernel_rfl) (fun _ _ _ h => h) (Or.inl ⟨by rfl, ?hp16⟩) hHeld ?rp16
  case hp16 => intro w9 hSw; (try dsimp only at hSw); first | (go_simp; done) | (go_simp; with_reducible rfl)
  try simp only [Act.put, List.setIfInBounds_toArray, List.set_cons_zero, List.set_cons_succ, List.getElem_toArray, List.getElem_cons_zero, List.getElem_cons_succ]
  refine wpAnyH_take (i := 17) (v := ?vp17) rfl (by kernel_rfl) (by kernel_rfl) (by kernel_rfl) (fun _ _ _ h => h) (Or.inl ⟨by rfl, ?hp17⟩) hHeld ?rp17
  case hp17 => intro w9 hSw; (try dsimp only at hSw); first | (go_simp; done) | (go_simp; with_reducible rfl)
  try simp only [Act.put, List.setIfInBounds_toArray, List.set_cons_zero, List.set_cons_succ, List.getElem_toArray, List.getElem_cons_zero, List.getElem_cons_succ]
  refine wpAnyH_take (i := 18) (v := ?vp18) rfl (by kernel_rfl) (by kernel_rfl) (by kernel_rfl) (fun _ _ _ h => h) (Or.inl ⟨by rfl, ?hp18⟩) hHeld ?rp18
  case hp18 => intro w9 hSw; (try dsimp only at hSw); first | (go_simp; done) | (go_simp; with_reducible rfl)
  try simp only [Act.put, List.setIfInBounds_toArray, List.set_cons_zero, List.set_cons_succ, List.getElem_toArray, List.getElem_cons_zero, List.getElem_cons_succ]
  refine wpAnyH_take (i := 19) (v := ?vp19) rfl (by kernel_rfl) (by kernel_rfl) (by kernel_rfl) (fun _ _ _ h => h) (Or.inl ⟨by rfl, ?hp19⟩) hHeld ?rp19
  case hp19 => intro w9 hSw; (try dsimp only at hSw); first | (go_simp; done) | (go_simp; with_reducible rfl)
  try simp only [Act.put, List.setIfInBounds_toArray, List.set_cons_zero, List.set_cons_succ, List.getElem_toArray, List.getElem_cons_zero, List.getElem_cons_succ]
  refine wpAnyH_ready (rs := [20]) (by kernel_rfl) (by simp) (AllReadyH.cons rfl (fun K hK => ?_) AllReadyH.nil)
  go_simp
  go_at_call 33
  refine (partEnd _ a f ay l cy hf0 hf1 hl).mono ?_
  rintro e w2 ⟨he, hb⟩
  rw [he]
  clear he
  have B2 := hide (below_on B1.out hb)
  obtain ⟨x0, x1, x2, x3, x4, x5⟩ := hHeld
  have HX2 := hide (And.intro (cell_later hb x0) (And.intro (cell_later hb x1) (And.intro (cell_later hb x2) (And.intro (cell_later hb x3) (And.intro (cell_later hb x4) (cell_later hb x5))))))
  clear hb x0 x1 x2 x3 x4 x5
  refine hK.out _ _ HX2.out (fun hHeld => ?_)
  clear hK K
  try simp only [Act.put, List.setIfInBounds_toArray, List.set_cons_zero, List.set_cons_succ, List.getElem_toArray, List.getElem_cons_zero, List.getElem_cons_succ]
  refine wpAnyH_take (i := 21) (v := ?vp21) rfl (by kernel_rfl) (by kernel_rfl) (by kernel_rfl) (fun _ _ _ h => h) (Or.inl ⟨by rfl, ?hp21⟩) hHeld ?rp21
  case hp21 => intro w9 hSw; (try dsimp only at hSw); first | (go_simp; done) | (go_simp; with_reducible rfl)
  try simp only [Act.put, List.setIfInBounds_toArray, List.set_cons_zero, List.set_cons_succ, List.getElem_toArray, List.getElem_cons_zero, List.getElem_cons_succ]
  refine wpAnyH_take (i := 22) (v := ?vp22) rfl (by kernel_rfl) (by kernel_rfl) (by kernel_rfl) (fun _ _ _ h => h) (Or.inl ⟨by rfl, ?hp22⟩) hHeld ?rp22
  case hp22 => intro w9 hSw; (try dsimp only at hSw); first | (go_simp; done) | (go_simp; with_reducible rfl)
  try simp only [Act.put, List.setIfInBounds_toArray, List.set_cons_zero, List.set_cons_succ, List.getElem_toArray, List.getElem_cons_zero, List.getElem_cons_succ]
  refine wpAnyH_take (i := 23) (v := ?vp23) rfl (by kernel_rfl) (by kernel_rfl) (by kernel_rfl) (fun _ _ _ h => h) (Or.inl ⟨by rfl, ?hp23⟩) hHeld ?rp23
  case hp23 => intro w9 hSw; (try dsimp only at hSw); first | (go_simp; done) | (go_simp; with_reducible rfl)
  try simp only [Act.put, List.setIfInBounds_toArray, List.set_cons_zero, List.set_cons_succ, List.getElem_toArray, List.getElem_cons_zero, List.getElem_cons_succ]
  refine wpAnyH_done (by kernel_rfl) ?_ _
  go_wp2
  go_ret
  exact ⟨rfl, B2.out⟩

theorem meets (w : World) (a f b g : Int) (ay az : Option Addr) (l m cy cz : Nat) (hf0 : 0 ≤ f) (hf1 : f ≤ 64) (hl : l ≤ 1048576) (hg0 : 0 ≤ g) (hg1 : g ≤ 64) (hm : m ≤ 1048576) :
    Calls Tryz.prog 18 #[.agg #[.int .i64 a, .int .i64 f, .slice ay l cy], .agg #[.int .i64 b, .int .i64 g, .slice az m cz]] w fun e w' => e = .returned (.bool (decide (a = b ∧ f < g + (m : Int) ∧ g < f + (l : Int)))) ∧ Below w.heap.size w w' := by
  by_cases hab : a = b
  · subst hab
    by_cases h1 : f < g + (m : Int)
    · exact (meets_both w a f g ay az l m cy cz hf0 hf1 hl hg0 hg1 hm h1).mono fun e w' ⟨he, hb⟩ => ⟨by rw [he]; simp [h1], hb⟩
    · exact (meets_ahead w a f g ay az l m cy cz hg0 hg1 hm h1).mono fun e w' ⟨he, hb⟩ => ⟨by rw [he]; simp [h1], hb⟩
  · exact (meets_at w a f b g ay az l m cy cz hab).mono fun e w' ⟨he, hb⟩ => ⟨by rw [he]; simp [hab], hb⟩

/-- Both have no fault, and a word in common. -/
def clashB (a f : Int) (xs : List Int) (b g : Int) (ys : List Int) : Bool :=
  if objF a f xs = 0 then (if objF b g ys = 0 then decide (a = b ∧ f < g + (ys.length : Int) ∧ g < f + (xs.length : Int)) else false) else false

set_option maxHeartbeats 2000000 in
set_option maxRecDepth 4000 in
theorem implClashObjects {S T : Nat → Prop} {w : World} {y z : Value} {xs ys : List Int} (a f b g : Int) (hy : RdI S w y xs) (hz : RdI T w z ys) :
    Calls Tryz.prog 6 #[.agg #[.int .i64 a, .int .i64 f, y], .agg #[.int .i64 b, .int .i64 g, z]] w fun e w' => e = .returned (.bool (clashB a f xs b g ys)) ∧ Below w.heap.size w w' := by
  unfold clashB
  have HY := hide hy
  have HZ := hide hz
  obtain ⟨ay, cy, rfl⟩ := hy.shape
  obtain ⟨az, cz, rfl⟩ := hz.shape
  have HF := hide (fun h => objF_zero (a := a) (f := f) (xs := xs) h)
  have HG := hide (fun h => objF_zero (a := b) (f := g) (xs := ys) h)
  have HO1 := hide (fun (w' : World) (hb : Below w.heap.size w w') => implObjectFault a f (hy.later hb))
  have HO2 := hide (fun (w' : World) (hb : Below w.heap.size w w') => implObjectFault b g (hz.later hb))
  obtain ⟨l, hl⟩ : ∃ l, xs.length = l := ⟨_, rfl⟩
  obtain ⟨m, hm⟩ : ∃ m, ys.length = m := ⟨_, rfl⟩
  rw [hl] at HF HO1 ⊢
  rw [hm] at HG HO2 ⊢
  clear hy hz hl hm HY HZ
  generalize objF a f xs = p at HF HO1 ⊢
  generalize objF b g ys = q at HG HO2 ⊢
  have B0 := hide (below_on (below_alloc w (.cells #[.int .i64 a, .int .i64 f, .slice ay l cy] 26)) (below_alloc _ (.cells #[.int .i64 b, .int .i64 g, .slice az m cz] 26)))
  have V1 := ((Var3_new w (.int .i64 a) (.int .i64 f) (.slice ay l cy) 26).later (below_alloc _ (.cells #[.int .i64 b, .int .i64 g, .slice az m cz] 26)))
  have V2 := Var3_new (w.alloc (.cells #[.int .i64 a, .int .i64 f, .slice ay l cy] 26)) (.int .i64 b) (.int .i64 g) (.slice az m cz) 26
  rw [show (w.alloc (.cells #[.int .i64 a, .int .i64 f, .slice ay l cy] 26)).heap.size = w.heap.size + 1 by simp] at V2
  have HV := hide (And.intro V1 V2)
  clear V1 V2
  by_cases h1 : p = 0
  · obtain ⟨⟨_, _, hf0, hf1⟩, hf2, _⟩ := HF.out h1
    subst h1
    rw [if_pos rfl]
    by_cases h2 : q = 0
    · obtain ⟨⟨_, _, hg0, hg1⟩, hg2, _⟩ := HG.out h2
      subst h2
      rw [if_pos rfl]
      have HM := hide (fun (w' : World) => meets w' a f b g ay az l m cy cz hf0 (by omega) (by omega) hg0 (by omega) (by omega))
      generalize decide (a = b ∧ f < g + (m : Int) ∧ g < f + (l : Int)) = bb at HM ⊢
      go_enter Tryz.func6, Tryz.ntmps6
      go_wp2_with fail
      refine (HO1.out _ B0.out).mono ?_
      rintro e w1 ⟨rfl, hb⟩
      have B1 := hide (below_on B0.out hb)
      have HV1 := hide (And.intro (HV.out.1.later hb) (HV.out.2.later hb))
      clear hb HV B0
      obtain ⟨⟨a0, a1, a2⟩, b0, b1, b2⟩ := HV1.out
      go_wp2_with fail
      refine (HO2.out _ B1.out).mono ?_
      rintro e w2 ⟨rfl, hb⟩
      have B2 := hide (below_on B1.out hb)
      have HV2 := hide (And.intro (HV1.out.1.later hb) (HV1.out.2.later hb))
      clear hb HV1 B1 a0 a1 a2 b0 b1 b2
      obtain ⟨⟨a0, a1, a2⟩, b0, b1, b2⟩ := HV2.out
      go_wp2_with fail
      go_region_held3 (fun w' => w'.cell? ⟨w.heap.size, 0, none⟩ = some (.int .i64 a) ∧ w'.cell? ⟨w.heap.size, 1, none⟩ = some (.int .i64 f) ∧ w'.cell? ⟨w.heap.size, 2, none⟩ = some (.slice ay l cy) ∧ w'.cell? ⟨w.heap.size + 1, 0, none⟩ = some (.int .i64 b) ∧ w'.cell? ⟨w.heap.size + 1, 1, none⟩ = some (.int .i64 g) ∧ w'.cell? ⟨w.heap.size + 1, 2, none⟩ = some (.slice az m cz)) (first | exact ⟨a0, a1, a2, b0, b1, b2⟩ | exact ⟨c0, c1, c2, d0, d1, d2⟩ | exact ⟨e0, e1, e2, f0, f1, f2⟩ | exact ⟨i0, i1, i2, j0, j1, j2⟩)
        (first
          | (go_at_call 18; refine (HM.out _).mono ?_; rintro e w5 ⟨rfl, hb⟩; have i0 := cell_later hb e0; have i1 := cell_later hb e1; have i2 := cell_later hb e2; have j0 := cell_later hb f0; have j1 := cell_later hb f1; have j2 := cell_later hb f2; have B5 := hide (below_on B4.out hb); clear hb)
          | (go_at_call 17; have cc0 := c0; clear cc0; refine (partOf _ b g az m cz).mono ?_; rintro e w4 ⟨rfl, hb⟩; have e0 := cell_later hb c0; have e1 := cell_later hb c1; have e2 := cell_later hb c2; have f0 := cell_later hb d0; have f1 := cell_later hb d1; have f2 := cell_later hb d2; have B4 := hide (below_on B3.out hb); clear hb)
          | (go_at_call 17; refine (partOf _ a f ay l cy).mono ?_; rintro e w3 ⟨rfl, hb⟩; have c0 := cell_later hb a0; have c1 := cell_later hb a1; have c2 := cell_later hb a2; have d0 := cell_later hb b0; have d1 := cell_later hb b1; have d2 := cell_later hb b2; have B3 := hide (below_on (below_on B2.out (below_drewN _ 1)) hb); clear hb))
      go_wp2
      go_ret
      exact ⟨rfl, B5.out⟩
    · rw [if_neg h2]
      clear HG
      go_enter Tryz.func6, Tryz.ntmps6
      go_wp2_with fail
      refine (HO1.out _ B0.out).mono ?_
      rintro e w1 ⟨rfl, hb⟩
      have B1 := hide (below_on B0.out hb)
      have HV1 := hide (And.intro (HV.out.1.later hb) (HV.out.2.later hb))
      clear hb HV B0
      obtain ⟨⟨a0, a1, a2⟩, b0, b1, b2⟩ := HV1.out
      go_wp2_with fail
      refine (HO2.out _ B1.out).mono ?_
      rintro e w2 ⟨rfl, hb⟩
      have B2 := hide (below_on B1.out hb)
      clear hb
      go_wp2
      go_ret
      exact ⟨rfl, B2.out⟩
  · rw [if_neg h1]
    clear HF HG
    go_enter Tryz.func6, Tryz.ntmps6
    go_wp2_with fail
    refine (HO1.out _ B0.out).mono ?_
    rintro e w1 ⟨rfl, hb⟩
    have B1 := hide (below_on B0.out hb)
    clear hb
    go_wp2
    go_ret
    exact ⟨rfl, B1.out⟩

set_option maxHeartbeats 2000000 in
set_option maxRecDepth 4000 in
theorem specClashObjects {S T : Nat → Prop} {w : World} {y z : Value} {xs ys : List Int} (a f b g : Int) (hy : RdI S w y xs) (hz : RdI T w z ys) :
    Calls Tryz.prog 7 #[.agg #[.int .i64 a, .int .i64 f, y], .agg #[.int .i64 b, .int .i64 g, z]] w fun e w' => e = .returned (.bool (clashB a f xs b g ys)) ∧ Below w.heap.size w w' := by
  unfold clashB
  obtain ⟨ay, cy, rfl⟩ := hy.shape
  obtain ⟨az, cz, rfl⟩ := hz.shape
  have HF := hide (fun h => objF_zero (a := a) (f := f) (xs := xs) h)
  have HG := hide (fun h => objF_zero (a := b) (f := g) (xs := ys) h)
  have HO1 := hide (fun (w' : World) (hb : Below w.heap.size w w') => specObjectFault a f (hy.later hb))
  have HO2 := hide (fun (w' : World) (hb : Below w.heap.size w w') => specObjectFault b g (hz.later hb))
  obtain ⟨l, hl⟩ : ∃ l, xs.length = l := ⟨_, rfl⟩
  obtain ⟨m, hm⟩ : ∃ m, ys.length = m := ⟨_, rfl⟩
  rw [hl] at HF HO1 ⊢
  rw [hm] at HG HO2 ⊢
  clear hy hz hl hm
  generalize objF a f xs = p at HF HO1 ⊢
  generalize objF b g ys = q at HG HO2 ⊢
  have B0 := hide (below_on (below_alloc w (.cells #[.int .i64 a, .int .i64 f, .slice ay l cy] 26)) (below_alloc _ (.cells #[.int .i64 b, .int .i64 g, .slice az m cz] 26)))
  have V1 := ((Var3_new w (.int .i64 a) (.int .i64 f) (.slice ay l cy) 26).later (below_alloc _ (.cells #[.int .i64 b, .int .i64 g, .slice az m cz] 26)))
  have V2 := Var3_new (w.alloc (.cells #[.int .i64 a, .int .i64 f, .slice ay l cy] 26)) (.int .i64 b) (.int .i64 g) (.slice az m cz) 26
  rw [show (w.alloc (.cells #[.int .i64 a, .int .i64 f, .slice ay l cy] 26)).heap.size = w.heap.size + 1 by simp] at V2
  have HV := hide (And.intro V1 V2)
  clear V1 V2
  by_cases h1 : p = 0
  · obtain ⟨⟨_, _, hf0, hf1⟩, hf2, _⟩ := HF.out h1
    subst h1
    rw [if_pos rfl]
    by_cases h2 : q = 0
    · obtain ⟨⟨_, _, hg0, hg1⟩, hg2, _⟩ := HG.out h2
      subst h2
      rw [if_pos rfl]
      obtain ⟨bb, hbb⟩ : ∃ bb, decide (a = b ∧ f < g + (m : Int) ∧ g < f + (l : Int)) = bb := ⟨_, rfl⟩
      have HBB := hide hbb
      rw [hbb]
      clear hbb
      go_enter Tryz.func7, Tryz.ntmps7
      go_wp2_with fail
      refine (HO1.out _ B0.out).mono ?_
      rintro e w1 ⟨rfl, hb⟩
      have B1 := hide (below_on B0.out hb)
      have HV1 := hide (And.intro (HV.out.1.later hb) (HV.out.2.later hb))
      clear hb HV B0
      obtain ⟨⟨a0, a1, a2⟩, b0, b1, b2⟩ := HV1.out
      go_wp2_with fail
      refine (HO2.out _ B1.out).mono ?_
      rintro e w2 ⟨rfl, hb⟩
      have B2 := hide (below_on B1.out hb)
      have HV2 := hide (And.intro (HV1.out.1.later hb) (HV1.out.2.later hb))
      clear hb HV1 B1 a0 a1 a2 b0 b1 b2
      obtain ⟨⟨a0, a1, a2⟩, b0, b1, b2⟩ := HV2.out
      by_cases hab : a = b
      · subst hab
        by_cases k1 : f < g + (m : Int)
        · have hbb : bb = decide (g < f + (l : Int)) := by rw [← HBB.out]; simp [k1]
          subst hbb
          by_cases k2 : g < f + (l : Int)
          · go_wp2
            go_ret
            exact ⟨by simp [k2], B2.out⟩
          · have k3 : f + (l : Int) ≤ g := by omega
            go_wp2
            go_ret
            exact ⟨by simp, B2.out⟩
        · have hbb : bb = false := by rw [← HBB.out]; simp [k1]
          subst hbb
          go_wp2
          go_ret
          exact ⟨rfl, B2.out⟩
      · have hbb : bb = false := by rw [← HBB.out]; simp [hab]
        subst hbb
        go_wp2
        go_ret
        exact ⟨rfl, B2.out⟩
    · rw [if_neg h2]
      clear HG
      go_enter Tryz.func7, Tryz.ntmps7
      go_wp2_with fail
      refine (HO1.out _ B0.out).mono ?_
      rintro e w1 ⟨rfl, hb⟩
      have B1 := hide (below_on B0.out hb)
      have HV1 := hide (And.intro (HV.out.1.later hb) (HV.out.2.later hb))
      clear hb HV B0
      obtain ⟨⟨a0, a1, a2⟩, b0, b1, b2⟩ := HV1.out
      go_wp2_with fail
      refine (HO2.out _ B1.out).mono ?_
      rintro e w2 ⟨rfl, hb⟩
      have B2 := hide (below_on B1.out hb)
      clear hb
      go_wp2
      go_ret
      exact ⟨rfl, B2.out⟩
  · rw [if_neg h1]
    clear HF HG
    go_enter Tryz.func7, Tryz.ntmps7
    go_wp2_with fail
    refine (HO1.out _ B0.out).mono ?_
    rintro e w1 ⟨rfl, hb⟩
    have B1 := hide (below_on B0.out hb)
    clear hb
    go_wp2
    go_ret
    exact ⟨rfl, B1.out⟩
end Go.Proofs.YtamknomapabmfaaGreat
