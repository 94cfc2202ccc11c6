/- Fi2 in one text: what each says stands at its head below. -/
import Derived.Test.YtiommfabhchgdaaG37
import Derived.Test.YtiommfabhchgdaaG05
import Derived.Test.YtiommfabhchgdaaG14
import Derived.Test.YtiommfabhchgdaaG44
import Derived.Shelf.SortM.Plain
import Derived.Shelf.SortM.SortNone
import Derived.Sort.OwnSorted
import Derived.Sort.OwnSortedInts
/- Chapter 8: the blocks of files, sorted; the fault of a list of files; the program's side, walked. -/
namespace Go.Proofs.Ytiommfabhchgdaa
open Go.RowKit Go.Maps Go.Sort Go.Shelf

/-- All blocks, rising. -/
def srtF (fs : List Oj) : List Int := (blksF fs).mergeSort (fun x y => decide (x ≤ y))
theorem srtF_perm (fs : List Oj) : (srtF fs).Perm (blksF fs) := List.mergeSort_perm _ _
theorem srtF_len (fs : List Oj) : (srtF fs).length = (blksF fs).length := (srtF_perm fs).length_eq
theorem srtF_up (fs : List Oj) : (srtF fs).Pairwise (· ≤ ·) := by
  have h := List.pairwise_mergeSort (le := fun (x y : Int) => decide (x ≤ y)) (fun a b c h1 h2 => by simp at *; omega) (fun a b => by simp; omega) (blksF fs)
  exact h.imp (fun h => by simpa using h)
theorem srtF_map {fs : List Oj} (h : ∀ p, p ∈ fs → oneF p = 0) : mapF (srtF fs) = 0 ↔ (blksF fs).Nodup := map_of_sorted (srtF_perm fs) (srtF_up fs) (blksF_in h)
theorem blks_take (fs : List Oj) (k : Nat) (h : k < fs.length) : blksF (fs.take (k + 1)) = blksF (fs.take k) ++ (fs.getD k oj0).2.2 := by
  rw [List.take_succ_eq_append_getElem h, blksF_snoc]
  simp [List.getD, h]
theorem blks_take_len (fs : List Oj) (k : Nat) : (blksF (fs.take k)).length ≤ (blksF fs).length := by
  conv => rhs; rw [← List.take_append_drop k fs, blksF_append, List.length_append]
  omega

set_option maxHeartbeats 2000000 in
set_option maxRecDepth 4000 in
theorem sortedBlocksI {S : Nat → Prop} {w : World} {v : Value} {fs : List Oj} (hv : RdJ S w v fs) (hlen : (blksF fs).length ≤ 1048576) :
    Calls Try.prog 57 #[v] w fun e w' => ∃ z, e = .returned z ∧ Below w.heap.size w w' ∧ OwI w.heap.size w' z (srtF fs) := by
  obtain ⟨av, cv, rfl, hm⟩ := hv.shape
  have HV := hide hv
  obtain ⟨n, hn⟩ : ∃ n, fs.length = n := ⟨_, rfl⟩
  have HN := hide hn
  rw [hn] at HV hm ⊢
  obtain ⟨i0, hi, hz0, hz1, hz2⟩ := info_parts Try.infoInt
  clear hv hn
  go_enter Try.func57, Try.ntmps57
  go_wp2
  go_loopw [3, 8] (fun v i wr => ∃ (k j : Nat), k ≤ n ∧ i = .int .i64 k ∧ Hid ((blksF (fs.take k)).length = j) ∧ Hid (wr.ownsRow w.heap.size 2 1 v j ((blksF (fs.take k)).map (Value.int .i64))) ∧ Hid (Below w.heap.size w wr)) (fun _ i _ => n - (RowKit.intOf i).toNat)
  case atStart => exact ⟨0, 0, by omega, rfl, rfl, ⟨rfl, .inl ⟨rfl, rfl⟩⟩, Below.refl _ _⟩
  case round =>
    obtain ⟨k, j, hk, rfl, HJ, HRow, HB⟩ := hrel
    by_cases hlt : k < n
    · obtain ⟨b, off, rfl, y, q0, q1, q2, q3⟩ := HV.out.file (k := k) (by rw [HN.out]; exact hlt)
      have HSn := hide (blks_take fs k (by rw [HN.out]; exact hlt))
      have hjl : j + (fs.getD k oj0).2.2.length ≤ 1048576 := by
        have h1 := blks_take_len fs (k + 1)
        rw [HSn.out, List.length_append, HJ.out] at h1
        omega
      obtain ⟨p, hp⟩ : ∃ p, fs.getD k oj0 = p := ⟨_, rfl⟩
      rw [hp] at q0 q1 q3 HSn hjl
      obtain ⟨a, s, xs⟩ := p
      dsimp only at q0 q1 q3 HSn hjl
      have g0 := cell_later HB.out q0
      have g1 := cell_later HB.out q1
      have g2 := cell_later HB.out q2
      have q4 := q3.later HB.out
      obtain ⟨a3, c3, rfl⟩ := q3.shape
      obtain ⟨l, hl⟩ : ∃ l, xs.length = l := ⟨_, rfl⟩
      have bA := below_alloc wr (.cells #[.int .i64 a, .int .i64 s, .slice a3 xs.length c3] 81)
      obtain ⟨a4, c4, e4, hsrc⟩ := (q4.later bA).src
      injection e4 with e5 _ e6
      subst e5
      rw [hl] at g2 hsrc bA hjl
      have HS := hide hsrc
      have HRow1 := hide (ownsRow_later HRow.out bA)
      have HB1 := hide (below_on HB.out bA)
      have HL := hide hl
      have hzz := HB.out.size
      clear hp q0 q1 q2 q3 q4 hsrc bA hl e6
      have hk0 : (0 : Int) ≤ (k : Int) := by omega
      have hk1 : (k : Int) < (n : Int) := by omega
      obtain ⟨P, hP⟩ : ∃ P, blksF (fs.take k) = P := ⟨_, rfl⟩
      rw [hP] at HJ HRow HRow1 HSn
      clear hP
      go_wp2_with (at_builtin; refine wpList_append_any _ rfl _ _ 22 rfl w.heap.size 2 i0 (.int .i64 0) 1 8 Try.underlying22 hi hz0 hz1 hz2 rfl (by decide) _ j _ (by rfl) HRow1.out a3 l c3 (xs.map (Value.int .i64)) (by rfl) (by simp [HL.out]) HS.out (ints_oneCell _ _) (by unfold maxLen; omega) (by omega) (by simp; omega) ?_)
      intro v' w4 hown hgrow
      have HRow4 : Hid (w4.ownsRow w.heap.size 2 1 v' (j + l) ((blksF (fs.take (k + 1))).map (Value.int .i64))) := by
        rw [Hid, HSn.out, List.map_append]
        exact hown
      have HB4 := hide (HB1.out.grown hgrow (by simp; omega) (fun r hr => (HRow1.out.lt r hr).1))
      have HJ4 : Hid ((blksF (fs.take (k + 1))).length = j + l) := by rw [Hid, HSn.out, List.length_append, HJ.out, HL.out]
      clear hown hgrow
      go_wp2
      go_roundw
      case rel => exact ⟨k + 1, j + l, by omega, by go_num, HJ4.out, HRow4.out, HB4.out⟩
      case measure => simp [RowKit.intOf]; omega
    · have hkn : k = n := by omega
      subst hkn
      have hT : fs.take k = fs := List.take_of_length_le (by rw [HN.out]; exact Nat.le_refl _)
      rw [hT] at HJ HRow
      clear hT
      rename Value => v
      rcases HRow.out.2 with ⟨hnil, hss⟩ | ⟨g, cap, cur, hv, hbase, hb, k1, k2, k3, k4⟩
      · subst hnil
        have hs0 : blksF fs = [] := List.length_eq_zero_iff.1 (by rw [HJ.out]; exact hss)
        have HL0 : Hid (srtF fs = []) := by rw [Hid]; exact List.length_eq_zero_iff.1 (by rw [srtF_len, hs0]; rfl)
        have hcon := AnyM.slices_Sort_int_none Try.sortA none 0 wr
        change Calls Try.prog 79 _ _ _ at hcon
        have HCn := hide hcon
        clear hcon hs0
        subst hss
        go_wp2_with fail
        refine HCn.out.mono ?_
        rintro e w' ⟨rfl, rfl⟩
        go_wp2
        go_ret
        exact ⟨_, rfl, HB.out, by rw [HL0.out]; exact OwI_nil _ _⟩
      · subst hv
        have hgl : g < wr.heap.size := (Array.getElem?_eq_some_iff.1 hb).1
        have hcon := AnyM.slices_Sort_int Try.sortA g 0 cap (blksF fs) wr (holds_of_blockI hb (by rw [HJ.out]; simpa using k4)) hgl (by omega)
        change Calls Try.prog 79 _ _ _ at hcon
        have HCn := hide hcon
        have HLl := hide (srtF_len fs)
        have Hb := hide hb
        have K1 := hide k1
        have K2 := hide k2
        have K3 := hide k3
        clear hcon hb k1 k2 k3 k4
        rw [HJ.out] at HCn
        go_wp2_with fail
        refine HCn.out.mono ?_
        rintro e w' ⟨rfl, nn, os, hw'⟩
        have HF : Hid (Below w.heap.size w w' ∧ OwI w.heap.size w' (.slice (some ⟨g, 0, none⟩) j cap) (srtF fs)) := by
          rw [hw']
          refine ⟨HB.out.grown (grownBy_sortedI _) HB.out.size (fun j hj => by injection hj with hj; omega), ?_⟩
          have h := ownsRow_sortedI (n := nn) (os := os) HLl.out hbase Hb.out (by rw [HJ.out]; exact K1.out) (by first | exact K2.out | (rw [HJ.out]; exact K2.out)) (by first | exact K3.out | (rw [HJ.out]; exact K3.out))
          rw [HJ.out] at h
          exact ow_of_owns (by rw [HLl.out, HJ.out]) h (by rw [HLl.out]; omega)
        clear hw'
        go_wp2
        go_ret
        exact ⟨_, rfl, HF.out.1, HF.out.2⟩
end Go.Proofs.Ytiommfabhchgdaa
