/- Chapter 6: copies of owners; the laws' helpers over a code with owners. -/
import Derived.Test.YtkpkoapcmnapoaaLk
namespace Go.Proofs.Ytkpkoapcmnapoaa
open Go.RowKit

/-- Cell t of the row of owners, j of which are copied. -/
def ownCell (os : List Wn) (j t : Nat) : Value :=
  if t / 2 < j then (if t % 2 = 0 then .int .i64 (os.getD (t / 2) wn0).1 else .int .i64 (os.getD (t / 2) wn0).2) else .int .i64 0
theorem ownCell_at (os : List Wn) (j i : Nat) (h : i < j) : ownCell os j (i * 2) = .int .i64 (os.getD i wn0).1 := by
  unfold ownCell
  rw [show i * 2 / 2 = i by omega, if_pos h, if_pos (by omega)]
theorem ownCell_txn (os : List Wn) (j i : Nat) (h : i < j) : ownCell os j (i * 2 + 1) = .int .i64 (os.getD i wn0).2 := by
  unfold ownCell
  rw [show (i * 2 + 1) / 2 = i by omega, if_pos h, if_neg (by omega)]

/-- What the loop that copies owners knows behind j of them. -/
structure ToAtO (os : List Wn) (w : World) (j : Nat) (wr : World) : Prop where
  below : Below w.heap.size w wr
  lt : w.heap.size < wr.heap.size
  row : wr.rowIs w.heap.size 50 (os.length * 2) (ownCell os j)
theorem ToAtO.step {os : List Wn} {w : World} {j : Nat} {wr w1 : World} (h : ToAtO os w j wr) (hb : Below wr.heap.size wr w1) :
    ToAtO os w (j + 1) ((w1.setCell ⟨w.heap.size, j * 2, none⟩ (.int .i64 (os.getD j wn0).1)).setCell ⟨w.heap.size, j * 2 + 1, none⟩ (.int .i64 (os.getD j wn0).2)) := by
  have hl := h.lt
  have hz := hb.size
  refine ⟨((below_on h.below hb).setCell (Nat.le_refl _) _).setCell (Nat.le_refl _) _, by simp; omega, ?_⟩
  refine (((h.row.of_block (hb.block _ hl)).set (j * 2) _).set (j * 2 + 1) _).congr fun i hi => ?_
  by_cases e : i = j * 2 + 1
  · subst e
    rw [if_pos rfl, ownCell_txn _ _ _ (by omega)]
  · rw [if_neg e]
    by_cases e1 : i = j * 2
    · subst e1
      rw [if_pos rfl, ownCell_at _ _ _ (by omega)]
    · rw [if_neg e1]
      unfold ownCell
      by_cases e2 : i / 2 < j
      · rw [if_pos e2, if_pos (show i / 2 < j + 1 by omega)]
      · rw [if_neg e2, if_neg (show ¬ i / 2 < j + 1 by omega)]
theorem made_owns (w : World) (os : List Wn) (n : Nat) (hn : os.length = n) (t : TypeId) : (w.alloc (.cells (madeCells #[.int .i64 0, .int .i64 0] (n * 2)) t)).rowIs w.heap.size t (os.length * 2) (ownCell os 0) := by
  subst hn
  refine ⟨_, Deep.blk_alloc_new _ _, size_madeCells _ _, fun i hi => ?_⟩
  unfold ownCell
  rw [if_neg (Nat.not_lt_zero _)]
  rcases Nat.mod_two_eq_zero_or_one i with e | e <;> simp [madeCells, hi, e]

theorem toO_cells (os : List Wn) (n b off c : Nat) (w : World) (hn : os.length = n) (hm : n ≤ 1048576)
    (hx : ∀ i, i < n → w.cell? ⟨b, off + i * 2, none⟩ = some (.int .i64 (os.getD i wn0).1) ∧ w.cell? ⟨b, off + i * 2 + 1, none⟩ = some (.int .i64 (os.getD i wn0).2)) :
    Calls Try.prog 11 #[.slice (some ⟨b, off, none⟩) n c] w fun e w' =>
      e = .returned (.slice (some ⟨w.heap.size, 0, none⟩) n n) ∧ ToAtO os w n w' := by
  have hmk := run_make_own n hm
  have HX := hide hx
  have HN := hide hn
  clear hx hn
  go_enter Try.func11, Try.ntmps11
  go_wp2
  go_loopw [4] (fun i wr => ∃ j : Nat, j ≤ n ∧ i = .int .i64 j ∧ Hid (ToAtO os w j wr)) (fun i _ => n - (intOf i).toNat)
  case atStart => exact ⟨0, Nat.zero_le _, rfl, below_alloc _ _, by simp, made_owns w os n HN.out _⟩
  case round =>
    clear hmk
    obtain ⟨j, hj, rfl, HM⟩ := hrel
    by_cases hlt : j < n
    · obtain ⟨q1, q2⟩ := HX.out j hlt
      have g1 := cell_later HM.out.below q1
      have g1' := cell_later HM.out.below q2
      obtain ⟨o, ho⟩ : ∃ o, os.getD j wn0 = o := ⟨_, rfl⟩
      have HO := hide ho
      rw [ho] at g1 g1'
      obtain ⟨x, y⟩ := o
      clear q1 q2 ho
      go_wp2_with fail
      refine (toOwner x y wr).mono ?_
      rintro e w1 ⟨rfl, hb⟩
      have hsz := HM.out.lt
      have hrow := HM.out.row.of_block (hb.block _ hsz)
      have g2 := hrow.cell (i := j * 2) (by rw [HN.out]; omega)
      have g2' := hrow.cell (i := j * 2 + 1) (by rw [HN.out]; omega)
      have g3 := hrow.frozen (j * 2)
      have g3' := hrow.frozen (j * 2 + 1)
      have HS := hide (HM.out.step hb)
      rw [HO.out] at HS
      clear hsz g1 g1' hb hrow
      go_wp2
      go_roundw
      case rel => exact ⟨j + 1, by omega, by go_num, HS.out⟩
      case measure => simp [intOf]; omega
    · have : j = n := by omega
      subst this
      go_wp2
      go_ret
      exact ⟨rfl, HM.out⟩
theorem toO_none (ao : Option Addr) (c : Nat) (w : World) :
    Calls Try.prog 11 #[.slice ao 0 c] w fun e w' => e = .returned (.slice (some ⟨w.heap.size, 0, none⟩) 0 0) ∧ ToAtO [] w 0 w' := by
  have hmk := run_make_own 0 (by omega)
  simp only [Int.natCast_zero] at hmk
  go_enter Try.func11, Try.ntmps11
  go_wp2
  go_loopw [4] (fun i wr => i = .int .i64 0 ∧ wr = w.alloc (.cells (madeCells #[.int .i64 0, .int .i64 0] (0 * 2)) 50)) (fun _ _ => 0)
  case atStart => exact ⟨rfl, rfl⟩
  case round =>
    obtain ⟨rfl, rfl⟩ := hrel
    go_wp2
    go_ret
    exact ⟨rfl, below_alloc _ _, by simp, made_owns w [] 0 rfl _⟩
/-- 'toOwnerS' of a reading. -/
theorem toO {S : Nat → Prop} {w : World} {v : Value} {os : List Wn} (hv : RdO S w v os) (hm : os.length ≤ 1048576) :
    Calls Try.prog 11 #[v] w fun e w' => ∃ u, e = .returned u ∧ Below w.heap.size w w' ∧ OwO w.heap.size w' u os := by
  have fin : ∀ w', ToAtO os w os.length w' → Below w.heap.size w w' ∧ OwO w.heap.size w' (.slice (some ⟨w.heap.size, 0, none⟩) os.length os.length) os := by
    intro w' h
    refine ⟨h.below, w.heap.size, ⟨some ⟨w.heap.size, 0, none⟩, 0, rfl, by omega, fun _ => ⟨w.heap.size, 0, rfl, rfl, fun i hi => ⟨?_, ?_⟩⟩⟩, fun _ => ⟨Nat.le_refl _, h.lt, fun o => h.row.frozen o⟩⟩
    · have := h.row.cell (i := i * 2) (by omega); rw [ownCell_at _ _ _ hi] at this; rw [Nat.zero_add]; exact this
    · have := h.row.cell (i := i * 2 + 1) (by omega); rw [ownCell_txn _ _ _ hi] at this; rw [Nat.zero_add]; exact this
  obtain ⟨ao, c, rfl, _, h⟩ := hv
  by_cases hne : os = []
  · subst hne
    exact (toO_none _ _ _).mono fun e w' ⟨he, hT⟩ => ⟨_, he, fin w' hT⟩
  · obtain ⟨b, off, rfl, _, hc⟩ := h hne
    exact (toO_cells os _ b off _ w rfl hm hc).mono fun e w' ⟨he, hT⟩ => ⟨_, he, fin w' hT⟩

/-- What a call that ends in a code and owners is to leave. -/
def EndsO (x : Int) (os : List Wn) (w : World) (e : Ending) (w' : World) : Prop :=
  ∃ z, e = .returned (.agg #[.int .i64 x, z]) ∧ Below w.heap.size w w' ∧ OwO w.heap.size w' z os

/-- 'eqOwnersResult' of two readings of one result. -/
theorem eqOwnersResult {S T : Nat → Prop} {w : World} {x : Int} {u v : Value} {os : List Wn} (hu : RdO S w u os) (hv : RdO T w v os) :
    Calls Try.prog 16 #[.agg #[.int .i64 x, u], .agg #[.int .i64 x, v]] w fun e w' => e = .returned (.bool true) ∧ Below w.heap.size w w' := by
  have HU := hide hu
  have HV := hide hv
  obtain ⟨ao, c, rfl⟩ := hu.shape
  obtain ⟨ao', c', rfl⟩ := hv.shape
  clear hu hv
  go_enter Try.func16, Try.ntmps16
  go_wp2_with fail
  refine (eqO ((HU.out.later (below_alloc _ _)).later (below_alloc _ _)) ((HV.out.later (below_alloc _ _)).later (below_alloc _ _))).mono ?_
  rintro e w' ⟨rfl, hb⟩
  have HB := hide (below_on (below_on (below_alloc _ _) (below_alloc _ _)) hb)
  clear hb
  go_wp2
  go_ret
  exact ⟨rfl, HB.out⟩
/-- 'markOwnersResult' of owners in [lo, hi). -/
theorem markOwnersResult {lo hi : Nat} {w : World} {x : Int} {u : Value} {os : List Wn} {k : Int} (hu : IvO lo hi w u os) (hk0 : 0 ≤ k) (hk : k + 2 * (os.length : Int) ≤ 9223372036854775807) :
    Calls Try.prog 18 #[.agg #[.int .i64 x, u], .int .i64 k] w fun e w' => e = .returned (.int .i64 (k + 2 * (os.length : Int))) ∧ MkO k lo hi w' u os.length ∧ Wr (fun b => lo ≤ b ∧ b < hi) w w' := by
  have HY := hide hu
  obtain ⟨ao, c, rfl⟩ := hu.rd.shape
  clear hu
  obtain ⟨M, hM⟩ : ∃ M, k + 2 * (os.length : Int) = M := ⟨_, rfl⟩
  have HM := hide hM
  have HK := hide hk
  rw [hM]
  clear hM hk
  go_enter Try.func18, Try.ntmps18
  go_wp2_with fail
  refine (markO (HY.out.later (below_alloc _ _)) hk0 HK.out).mono ?_
  rintro e w1 ⟨he, hm, hw⟩
  rw [HM.out] at he
  subst he
  have HMk := hide hm
  have HW := hide (wr_on (below_alloc _ _) hw)
  clear hm hw
  go_wp2
  go_ret
  exact ⟨rfl, HMk.out, HW.out⟩
/-- 'heldOwnersResult' of owners whose marks stand. -/
theorem heldOwnersResult {lo hi : Nat} {w : World} {x : Int} {u : Value} {n : Nat} {k : Int} (hu : MkO k lo hi w u n) (hk0 : 0 ≤ k) (hk : k + 2 * (n : Int) ≤ 9223372036854775807) :
    Calls Try.prog 19 #[.agg #[.int .i64 x, u], .int .i64 k] w fun e w' => e = .returned (.int .i64 (k + 2 * (n : Int))) ∧ Below w.heap.size w w' := by
  have HY := hide hu
  obtain ⟨ao, c, rfl⟩ := RdO.shape hu
  clear hu
  rw [mkO_len] at HY ⊢
  obtain ⟨M, hM⟩ : ∃ M, k + 2 * (n : Int) = M := ⟨_, rfl⟩
  have HM := hide hM
  have HK := hide hk
  have hpos : 0 ≤ M := by omega
  rw [hM]
  clear hM hk
  go_enter Try.func19, Try.ntmps19
  go_wp2_with fail
  refine (heldO (RdO.later HY.out (below_alloc _ _)) hk0 HK.out).mono ?_
  rintro e w1 ⟨he, q, rfl⟩
  rw [HM.out] at he
  subst he
  go_wp2
  go_ret
  exact ⟨rfl, below_on (below_alloc _ _) (below_drewN _ _)⟩
end Go.Proofs.Ytkpkoapcmnapoaa
