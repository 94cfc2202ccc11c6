/- Chapter 7: the words of a map: 'packedMap' of the program, 'l7Pack' of the model, walked. -/
import Derived.Test.YtolhpjeoagjnjaaMp3
import Derived.Deep.RegionLaw
namespace Go.Proofs.Ytolhpjeoagjnjaa
open Go.RowKit

/-- A block more in the two words. -/
def pkStep (s : Int × Int) (x : Int) : Int × Int := if x < 13 then (bits .or .i64 s.1 (2 ^ (x - 3).toNat), s.2) else (s.1, bits .or .i64 s.2 (2 ^ (x - 13).toNat))
def pk (xs : List Int) : Int × Int := xs.foldl pkStep (0, 0)
def pkL (xs : List Int) : List Int := [(pk xs).1, (pk xs).2]
theorem pk_snoc (xs : List Int) (k : Nat) (h : k < xs.length) : pk (xs.take (k + 1)) = pkStep (pk (xs.take k)) (xs.getD k 0) := by
  have e : xs.getD k 0 = xs[k] := by simp [List.getD, h]
  unfold pk
  rw [List.take_add_one, List.getElem?_eq_getElem h, List.foldl_append, e]
  rfl
theorem blk_at (p : Int → Bool) (k : Nat) (h : k < (blk p).length) : 3 ≤ (blk p).getD k 0 ∧ (blk p).getD k 0 ≤ 22 := by
  have hm : (blk p).getD k 0 ∈ blk p := by simp [List.getD, h]
  have := (List.mem_filter.1 hm).1
  revert this
  generalize (blk p).getD k 0 = x
  intro hx
  simp only [allB, List.mem_cons, List.not_mem_nil, or_false] at hx
  omega
theorem blk_len (p : Int → Bool) : (blk p).length ≤ 20 := by rw [← blkTo_all]; exact blkTo_len p 20

theorem shl_ok : ∀ y : Nat, y < 10 → IntKind.i64.wrap (2 ^ y) = 2 ^ y := by decide

set_option maxHeartbeats 1000000 in
set_option maxRecDepth 4000 in
theorem packedMap {w : World} {f : Value} {p : Int → Bool} (hf : Fp w f p) :
    Calls Try.prog 41 #[f] w fun e w' => ∃ z, e = .returned z ∧ Below w.heap.size w w' ∧ OwI w.heap.size w' z (pkL (blk p)) := by
  have HLn := hide (blk_len p)
  have HAt := hide (blk_at p)
  have HSn := hide (pk_snoc (blk p))
  have HF := hide (fun (w' : World) (hb : Below w.heap.size w w') => blocksOf (hf.later hb))
  obtain ⟨N, caps, rfl, _⟩ := hf
  generalize blk p = G at HLn HAt HSn HF ⊢
  obtain ⟨n, hn⟩ : ∃ n, G.length = n := ⟨_, rfl⟩
  have HN := hide hn
  rw [hn] at HLn HAt HSn
  simp only [hn] at HF
  clear hn
  have hn20 := HLn.out
  have hmk : ∀ w, (Instr.makeSlice 24 (.int .i64 2) (.int .i64 2)).run Try.prog w = .ok (.slice (some ⟨w.heap.size, 0, none⟩) 2 2) (w.alloc (.cells (madeCells #[.int .i64 0] 2) 2)) := run_make_row' (P := Try.prog) 24 2 (.int .i64 0) 8 Try.underlying24 Try.infoInt rfl .i64 .i64 2 (by omega) (by omega)
  go_enter Try.func41, Try.ntmps41
  go_wp2_with fail
  have bA := below_alloc w (.cells (madeCells #[.int .i64 0] 2) 2)
  refine (HF.out _ bA).mono ?_
  rintro e w1 ⟨z, rfl, hb, ho⟩
  obtain ⟨ao, c, rfl⟩ := owns_shapeM ho
  have HO : Hid (RdI (fun b => w.heap.size + 1 ≤ b ∧ b < w1.heap.size) w1 (.slice ao n c) G) := by unfold Hid; simpa using (ow_of_owns HN.out ho (by rw [HN.out]; omega)).rd
  have HB1 := hide (below_on bA hb)
  have C0 : Hid (w1.cell? ⟨w.heap.size, 0, none⟩ = some (.int .i64 0)) := cell_later hb (by simp [go_sem, madeCells])
  have C1 : Hid (w1.cell? ⟨w.heap.size, 1, none⟩ = some (.int .i64 0)) := cell_later hb (by simp [go_sem, madeCells])
  have CF : Hid (∀ o, w1.frozen? ⟨w.heap.size, o, none⟩ = false) := fun o => ((bcell hb).2 _ _ (by simp)).trans (by simp [go_sem])
  have hw1 : w.heap.size < w1.heap.size := World.block_lt_of_cell? _ _ C0.out
  clear hb ho bA HF
  go_wp2
  go_loopw [11] (fun i wr => ∃ (k : Nat) (a b : Int), k ≤ n ∧ i = .int .i64 k ∧ Hid (pk (G.take k) = (a, b)) ∧ Hid (Wr (· = w.heap.size) w1 wr) ∧ wr.cell? ⟨w.heap.size, 0, none⟩ = some (.int .i64 a) ∧ wr.cell? ⟨w.heap.size, 1, none⟩ = some (.int .i64 b)) (fun i _ => n - (RowKit.intOf i).toNat)
  case atStart => exact ⟨0, 0, 0, Nat.zero_le _, rfl, rfl, Wr.refl _ _, C0.out, C1.out⟩
  case round =>
    obtain ⟨k, a, b, hk, rfl, HPk, HW, g0, g1⟩ := hrel
    by_cases hlt : k < n
    · have HSk := hide (HSn.out k hlt)
      have hx := HAt.out k hlt
      obtain ⟨bb, off, rfl, q1⟩ := (HO.out.wr HW.out (fun _ b h => by show ¬ b = w.heap.size; omega)).at (k := k) (by rw [HN.out]; exact hlt)
      obtain ⟨x, hxe⟩ : ∃ x, G.getD k 0 = x := ⟨_, rfl⟩
      rw [hxe] at hx q1 HSk
      rw [HPk.out] at HSk
      clear hxe
      have F0 : wr.frozen? ⟨w.heap.size, 0, none⟩ = false := (HW.out.frz _ _ hw1).trans (CF.out 0)
      have F1 : wr.frozen? ⟨w.heap.size, 1, none⟩ = false := (HW.out.frz _ _ hw1).trans (CF.out 1)
      by_cases h13 : x < 13
      · obtain ⟨y, hy0⟩ : ∃ y : Nat, x - 3 = (y : Int) := ⟨(x - 3).toNat, by omega⟩
        have hy : y < 10 := by omega
        have hdiv : IntKind.i64.wrap (Int.tdiv (x - 3) 10) = 0 := by rw [Int.tdiv_eq_ediv_of_nonneg (by omega), show (x - 3) / 10 = 0 by omega]; decide
        have hmod : Int.tmod (x - 3) 10 = (y : Int) := by rw [Int.tmod_eq_emod_of_nonneg (by omega)]; omega
        have hshl : IntKind.i64.wrap (2 ^ y) = 2 ^ y := shl_ok y hy
        have HPk2 : Hid (pk (G.take (k + 1)) = (bits .or .i64 a (2 ^ y), b)) := by
          rw [Hid, HSk.out, pkStep, if_pos h13, hy0]; rfl
        clear hy0 HSk
        go_wp2_with fail
        go_region_law (fail)
        have HW2 : Hid (Wr (· = w.heap.size) w1 (wr.setCell ⟨w.heap.size, 0, none⟩ (.int .i64 (bits .or .i64 a (2 ^ y)))).drew) := (HW.out.setCell (p := ⟨w.heap.size, 0, none⟩) rfl _).drewN 1
        go_wp2
        go_roundw
        case rel => exact ⟨k + 1, _, _, by omega, by go_num, HPk2.out, HW2.out, World.cell?_setCell_same _ _ _ g0, (World.cell?_setCell_other _ _ _ _ (by simp)).trans g1⟩
        case measure => simp [RowKit.intOf]; omega
      · obtain ⟨y, hy0⟩ : ∃ y : Nat, x - 13 = (y : Int) := ⟨(x - 13).toNat, by omega⟩
        have hy : y < 10 := by omega
        have hdiv : IntKind.i64.wrap (Int.tdiv (x - 3) 10) = 1 := by rw [Int.tdiv_eq_ediv_of_nonneg (by omega), show (x - 3) / 10 = 1 by omega]; decide
        have hmod : Int.tmod (x - 3) 10 = (y : Int) := by rw [Int.tmod_eq_emod_of_nonneg (by omega)]; omega
        have hshl : IntKind.i64.wrap (2 ^ y) = 2 ^ y := shl_ok y hy
        have HPk2 : Hid (pk (G.take (k + 1)) = (a, bits .or .i64 b (2 ^ y))) := by
          rw [Hid, HSk.out, pkStep, if_neg h13, hy0]; rfl
        clear hy0 HSk
        go_wp2_with fail
        go_region_law (fail)
        have HW2 : Hid (Wr (· = w.heap.size) w1 (wr.setCell ⟨w.heap.size, 1, none⟩ (.int .i64 (bits .or .i64 b (2 ^ y)))).drew) := (HW.out.setCell (p := ⟨w.heap.size, 1, none⟩) rfl _).drewN 1
        go_wp2
        go_roundw
        case rel => exact ⟨k + 1, _, _, by omega, by go_num, HPk2.out, HW2.out, (World.cell?_setCell_other _ _ _ _ (by simp)).trans g0, World.cell?_setCell_same _ _ _ g1⟩
        case measure => simp [RowKit.intOf]; omega
    · have hkn : k = n := by omega
      subst hkn
      have hfin : G.take k = G := by rw [← HN.out]; simp
      rw [hfin] at HPk
      have HFin : Hid (Below w.heap.size w wr ∧ OwI w.heap.size wr (.slice (some ⟨w.heap.size, 0, none⟩) 2 2) (pkL G)) := by
        refine ⟨HB1.out.trans (HW.out.below (by omega) (fun b hb => by subst hb; exact Nat.le_refl _)), w.heap.size, ⟨_, 0, ?_, ?_, fun _ => ⟨w.heap.size, 0, rfl, rfl, fun i hi => ?_⟩⟩, fun _ => ⟨Nat.le_refl _, Nat.lt_of_lt_of_le hw1 HW.out.size, fun o => (HW.out.frz _ _ hw1).trans (CF.out o)⟩⟩
        · rfl
        · simp [pkL]
        · simp only [pkL, List.length_cons, List.length_nil] at hi
          unfold pkL
          rw [HPk.out]
          match i, hi with
          | 0, _ => exact g0
          | 1, _ => exact g1
      go_wp2
      go_ret
      exact ⟨_, rfl, HFin.out.1, HFin.out.2⟩
end Go.Proofs.Ytolhpjeoagjnjaa
