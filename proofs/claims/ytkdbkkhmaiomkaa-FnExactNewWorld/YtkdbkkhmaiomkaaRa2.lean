/- Chapter 10: a store copied; held; a code with a store marked and held. -/
import Derived.Test.YtkdbkkhmaiomkaaRa
namespace Go.Proofs.Ytkdbkkhmaiomkaa
open Go.RowKit
theorem IvR_made {lo1 C lo : Nat} {w w' : World} {y z : Value} {xs : List Int} {ps : List Oj} (ho : IvI lo1 C w y xs) (hj : OwJ (fun b => C ≤ b ∧ b < w.heap.size) w z ps) (h1 : lo ≤ lo1) (h2 : lo1 ≤ C) (hw : Wr (fun b => b < lo1) w w') : IvR lo w'.heap.size w' y z xs ps := by
  obtain ⟨b, k1, k2⟩ := ho
  refine ⟨b, fun b => C ≤ b ∧ b < w.heap.size, k1.wr hw (fun hn x hx e => by subst hx; have := (k2 hn).1; omega), fun hn => ?_, Nat.le_refl _, fun x hx => ⟨by omega, Nat.lt_of_lt_of_le hx.2 hw.size⟩, hj.wr hw fun x hx e => by omega⟩
  obtain ⟨g1, g2, g3, g4⟩ := k2 hn
  exact ⟨by omega, Nat.lt_of_lt_of_le g3 hw.size, fun h => by omega, fun o => (hw.frz _ _ g3).trans (g4 o)⟩


set_option maxHeartbeats 2000000 in
set_option maxRecDepth 4000 in
theorem heldRaft {lo hi : Nat} {w : World} {y z : Value} {n : Nat} {ps : List Oj} {k : Int} (a b c d : Int) (h : MkR k lo hi w y z n ps) (hk0 : 0 ≤ k) (hk : k + ((n : Int) + (totJ ps ps.length : Int)) ≤ 9223372036854775807) :
    Calls Try.prog 24 #[.agg #[.int .i64 a, .int .i64 b, .int .i64 c, .int .i64 d, y, z], .int .i64 k] w fun e w' =>
      e = .returned (.int .i64 (k + ((n : Int) + (totJ ps ps.length : Int)))) ∧ Below w.heap.size w w' := by
  have H1 := hide h.1
  have H2 := hide h.2
  obtain ⟨ay, cy, hy⟩ := h.1.shape
  obtain ⟨az, cz, hz, _⟩ := RdJ.shape h.2
  rw [mkI_len] at hy
  rw [mkJ_len] at hz
  subst hy
  subst hz
  clear h
  obtain ⟨m, hm⟩ : ∃ m, ps.length = m := ⟨_, rfl⟩
  obtain ⟨t, ht⟩ : ∃ t : Nat, totJ ps ps.length = t := ⟨_, rfl⟩
  have HT := hide ht
  rw [ht] at hk ⊢
  rw [hm] at H2 ⊢
  clear ht hm
  go_enter Try.func24, Try.ntmps24
  go_wp2_with fail
  refine (heldI (H1.out.later (below_alloc _ _)) hk0 (by omega)).mono ?_
  rintro e w1 ⟨rfl, q, rfl⟩
  have hp : ¬ k + (n : Int) < 0 := by omega
  go_wp2_with fail
  refine (heldEn ((RdJ.later H2.out (below_alloc _ _)).later (below_drewN _ q)) (by omega) (by rw [HT.out]; omega)).mono ?_
  rintro e w2 ⟨he, q2, rfl⟩
  rw [HT.out, Int.add_assoc] at he
  subst he
  have hp2 : ¬ k + ((n : Int) + (t : Int)) < 0 := by omega
  go_wp2
  go_ret
  exact ⟨rfl, below_on (below_alloc _ _) (below_drewN _ _)⟩

end Go.Proofs.Ytkdbkkhmaiomkaa
