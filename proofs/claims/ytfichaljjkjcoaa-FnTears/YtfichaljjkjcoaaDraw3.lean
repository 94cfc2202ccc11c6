/- 'spec.DrawTearWords', walked. -/
import Derived.Test.YtfichaljjkjcoaaDraw2
namespace Go.Proofs.Ytfichaljjkjcoaa
open Go.RowKit

set_option maxHeartbeats 2000000 in
set_option maxRecDepth 4000 in
theorem drawTear {w : World} {v : Value} {bs : List Nat} (hv : RdB w.heap.size w v bs) :
    Calls Try.prog 20 #[v] w fun e w' => ∃ z1 z2 old next p, e = .returned (.tuple #[z1, z2, .int .i64 p]) ∧ Below w.heap.size w w' ∧ old.length ≤ 65 ∧ next.length ≤ 65 ∧ RdI (fun b => w.heap.size ≤ b) w' z1 old ∧ RdI (fun b => w.heap.size ≤ b) w' z2 next := by
  have HV := hide hv
  obtain ⟨ao, c, rfl, h2, h3⟩ := hv
  clear h2 h3
  go_enter Try.func20, Try.ntmps20
  go_wp2_with fail
  refine (l1Source HV.out).mono ?_
  rintro e w1 ⟨rfl, hb1, hz1, hS1⟩
  have HB1 := hide hb1
  have HS1 := hide hS1
  clear hb1 hS1
  go_wp2_with fail
  refine (l1DrawWords HS1.out (by omega)).mono ?_
  rintro e w2 ⟨z1, old, rfl, hl1, ho1, t2, hd2⟩
  have HO1 := hide ho1
  have HD2 := hide hd2
  clear ho1 hd2
  go_wp2_with fail
  refine (l1DrawWords HD2.out.1 (by have := HD2.out.2.2; omega)).mono ?_
  rintro e w3 ⟨z2, next, rfl, hl2, ho2, t3, hd3⟩
  have HO2 := hide ho2
  have HD3 := hide hd3
  clear ho2 hd3
  go_wp2_with fail
  have D4 := hide (HD3.out.later (below_alloc w3 (.cells #[.int .i64 0, .int .i64 1, .int .i64 2, .int .i64 3, .int .i64 2, .int .i64 3, .int .i64 4, .int .i64 (-1)] 2)))
  refine (l1Pick (xs := [0, 1, 2, 3, 2, 3, 4, -1]) D4.out.1 (by have := HD2.out.2.2; have := D4.out.2.2; omega) (RdI_new w.heap.size w3 [0, 1, 2, 3, 2, 3, 4, -1] 2 HD3.out.1.lt (by simp)) (by simp) (by simp)).mono ?_
  rintro e w4 ⟨i, hi, rfl, t4, hd4⟩
  obtain ⟨p, hp⟩ : ∃ p : Int, ([0, 1, 2, 3, 2, 3, 4, -1] : List Int).getD i 0 = p := ⟨_, rfl⟩
  rw [hp]
  have HD4 := hide hd4
  clear hd4 hp hi
  go_wp2
  have z2' := HD2.out.2.1.size
  have z3' := HD3.out.2.1.size
  have A := below_alloc w3 (.cells #[.int .i64 0, .int .i64 1, .int .i64 2, .int .i64 3, .int .i64 2, .int .i64 3, .int .i64 4, .int .i64 (-1)] 2)
  refine bodyPost_ret (v := .tuple #[z1, z2, .int .i64 p]) (by simp [results, Try.results20]) rfl ⟨z1, z2, old, next, p, rfl, ?_, hl1, hl2, ?_, ?_⟩
  · refine (((HB1.out.trans (HD2.out.2.1.below (by omega) (fun b hb => by omega))).trans (HD3.out.2.1.below (by omega) (fun b hb => by omega))).trans (A.mono (by omega))).trans (HD4.out.2.1.below (by simp; omega) (fun b hb => by omega))
  · exact ((((HO1.out.wr HD3.out.2.1 (fun b hb _ => by omega)).later A).wr HD4.out.2.1 (fun b hb _ => by omega)).rd).narrow (fun _ b hb => by omega)
  · exact (((HO2.out.later A).wr HD4.out.2.1 (fun b hb _ => by omega)).rd).narrow (fun _ b hb => by omega)
end Go.Proofs.Ytfichaljjkjcoaa
