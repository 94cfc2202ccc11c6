/- Fi2 Fi3 in one text: what each says stands at its head below. -/
import Derived.Test.YtbfdnjhdlnfpmaaG09
import Derived.Test.YtbfdnjhdlnfpmaaG02
import Derived.Test.YtbfdnjhdlnfpmaaG06
import Derived.Test.YtbfdnjhdlnfpmaaG18
import Derived.Shelf.SortM.Plain
import Derived.Shelf.SortM.SortNone
import Derived.Sort.OwnSorted
import Derived.Sort.OwnSortedInts
import Derived.Test.YtbfdnjhdlnfpmaaG10
/- Chapter 8: the blocks of files, sorted; the fault of a list of files; the program's side, walked. -/
namespace Go.Proofs.Ytbfdnjhdlnfpmaa
open Go.RowKit Go.Maps Go.Sort Go.Shelf

/-- All blocks, rising. -/
def srtF (fs : List Oj) : List Int := (blksF fs).mergeSort (fun x y => decide (x ≤ y))
theorem srtF_perm (fs : List Oj) : (srtF fs).Perm (blksF fs) := List.mergeSort_perm _ _
theorem srtF_len (fs : List Oj) : (srtF fs).length = (blksF fs).length := (srtF_perm fs).length_eq
theorem srtF_up (fs : List Oj) : (srtF fs).Pairwise (· ≤ ·) := by
  have h := List.pairwise_mergeSort (le := fun (x y : Int) => decide (x ≤ y)) (fun a b c h1 h2 => by simp at *; omega) (fun a b => by simp; omega) (blksF fs)
  exact h.imp (fun h => by simpa using h)
theorem srtF_map {fs : List Oj} (h : ∀ p, p ∈ fs → oneF p = 0) : mapF (srtF fs) = 0 ↔ (blksF fs).Nodup := map_of_sorted (srtF_perm fs) (srtF_up fs) (blksF_in h)
theorem blks_take (fs : List Oj) (k : Nat) (h : k < fs.length) : blksF (fs.take (k + 1)) = blksF (fs.take k) ++ (fs.getD k oj0).2.2 := by
  rw [List.take_succ_eq_append_getElem h, blksF_snoc]
  simp [List.getD, h]
theorem blks_take_len (fs : List Oj) (k : Nat) : (blksF (fs.take k)).length ≤ (blksF fs).length := by
  conv => rhs; rw [← List.take_append_drop k fs, blksF_append, List.length_append]
  omega

set_option maxHeartbeats 2000000 in
set_option maxRecDepth 4000 in
theorem sortedBlocksI {S : Nat → Prop} {w : World} {v : Value} {fs : List Oj} (hv : RdJ S w v fs) (hlen : (blksF fs).length ≤ 1048576) :
    Calls Try.prog 42 #[v] w fun e w' => ∃ z, e = .returned z ∧ Below w.heap.size w w' ∧ OwI w.heap.size w' z (srtF fs) := by
  obtain ⟨av, cv, rfl, hm⟩ := hv.shape
  have HV := hide hv
  obtain ⟨n, hn⟩ : ∃ n, fs.length = n := ⟨_, rfl⟩
  have HN := hide hn
  rw [hn] at HV hm ⊢
  obtain ⟨i0, hi, hz0, hz1, hz2⟩ := info_parts Try.infoInt
  clear hv hn
  go_enter Try.func42, Try.ntmps42
  go_wp2
  go_loopw [3, 8] (fun v i wr => ∃ (k j : Nat), k ≤ n ∧ i = .int .i64 k ∧ Hid ((blksF (fs.take k)).length = j) ∧ Hid (wr.ownsRow w.heap.size 2 1 v j ((blksF (fs.take k)).map (Value.int .i64))) ∧ Hid (Below w.heap.size w wr)) (fun _ i _ => n - (RowKit.intOf i).toNat)
  case atStart => exact ⟨0, 0, by omega, rfl, rfl, ⟨rfl, .inl ⟨rfl, rfl⟩⟩, Below.refl _ _⟩
  case round =>
    obtain ⟨k, j, hk, rfl, HJ, HRow, HB⟩ := hrel
    by_cases hlt : k < n
    · obtain ⟨b, off, rfl, y, q0, q1, q2, q3⟩ := HV.out.file (k := k) (by rw [HN.out]; exact hlt)
      have HSn := hide (blks_take fs k (by rw [HN.out]; exact hlt))
      have hjl : j + (fs.getD k oj0).2.2.length ≤ 1048576 := by
        have h1 := blks_take_len fs (k + 1)
        rw [HSn.out, List.length_append, HJ.out] at h1
        omega
      obtain ⟨p, hp⟩ : ∃ p, fs.getD k oj0 = p := ⟨_, rfl⟩
      rw [hp] at q0 q1 q3 HSn hjl
      obtain ⟨a, s, xs⟩ := p
      dsimp only at q0 q1 q3 HSn hjl
      have g0 := cell_later HB.out q0
      have g1 := cell_later HB.out q1
      have g2 := cell_later HB.out q2
      have q4 := q3.later HB.out
      obtain ⟨a3, c3, rfl⟩ := q3.shape
      obtain ⟨l, hl⟩ : ∃ l, xs.length = l := ⟨_, rfl⟩
      have bA := below_alloc wr (.cells #[.int .i64 a, .int .i64 s, .slice a3 xs.length c3] 35)
      obtain ⟨a4, c4, e4, hsrc⟩ := (q4.later bA).src
      injection e4 with e5 _ e6
      subst e5
      rw [hl] at g2 hsrc bA hjl
      have HS := hide hsrc
      have HRow1 := hide (ownsRow_later HRow.out bA)
      have HB1 := hide (below_on HB.out bA)
      have HL := hide hl
      have hzz := HB.out.size
      clear hp q0 q1 q2 q3 q4 hsrc bA hl e6
      have hk0 : (0 : Int) ≤ (k : Int) := by omega
      have hk1 : (k : Int) < (n : Int) := by omega
      obtain ⟨P, hP⟩ : ∃ P, blksF (fs.take k) = P := ⟨_, rfl⟩
      rw [hP] at HJ HRow HRow1 HSn
      clear hP
      go_wp2_with (at_builtin; refine wpList_append_any _ rfl _ _ 24 rfl w.heap.size 2 i0 (.int .i64 0) 1 8 Try.underlying24 hi hz0 hz1 hz2 rfl (by decide) _ j _ (by rfl) HRow1.out a3 l c3 (xs.map (Value.int .i64)) (by rfl) (by simp [HL.out]) HS.out (ints_oneCell _ _) (by unfold maxLen; omega) (by omega) (by simp; omega) ?_)
      intro v' w4 hown hgrow
      have HRow4 : Hid (w4.ownsRow w.heap.size 2 1 v' (j + l) ((blksF (fs.take (k + 1))).map (Value.int .i64))) := by
        rw [Hid, HSn.out, List.map_append]
        exact hown
      have HB4 := hide (HB1.out.grown hgrow (by simp; omega) (fun r hr => (HRow1.out.lt r hr).1))
      have HJ4 : Hid ((blksF (fs.take (k + 1))).length = j + l) := by rw [Hid, HSn.out, List.length_append, HJ.out, HL.out]
      clear hown hgrow
      go_wp2
      go_roundw
      case rel => exact ⟨k + 1, j + l, by omega, by go_num, HJ4.out, HRow4.out, HB4.out⟩
      case measure => simp [RowKit.intOf]; omega
    · have hkn : k = n := by omega
      subst hkn
      have hT : fs.take k = fs := List.take_of_length_le (by rw [HN.out]; exact Nat.le_refl _)
      rw [hT] at HJ HRow
      clear hT
      rename Value => v
      rcases HRow.out.2 with ⟨hnil, hss⟩ | ⟨g, cap, cur, hv, hbase, hb, k1, k2, k3, k4⟩
      · subst hnil
        have hs0 : blksF fs = [] := List.length_eq_zero_iff.1 (by rw [HJ.out]; exact hss)
        have HL0 : Hid (srtF fs = []) := by rw [Hid]; exact List.length_eq_zero_iff.1 (by rw [srtF_len, hs0]; rfl)
        have hcon := AnyM.slices_Sort_int_none Try.sortA none 0 wr
        change Calls Try.prog 63 _ _ _ at hcon
        have HCn := hide hcon
        clear hcon hs0
        subst hss
        go_wp2_with fail
        refine HCn.out.mono ?_
        rintro e w' ⟨rfl, rfl⟩
        go_wp2
        go_ret
        exact ⟨_, rfl, HB.out, by rw [HL0.out]; exact OwI_nil _ _⟩
      · subst hv
        have hgl : g < wr.heap.size := (Array.getElem?_eq_some_iff.1 hb).1
        have hcon := AnyM.slices_Sort_int Try.sortA g 0 cap (blksF fs) wr (holds_of_blockI hb (by rw [HJ.out]; simpa using k4)) hgl (by omega)
        change Calls Try.prog 63 _ _ _ at hcon
        have HCn := hide hcon
        have HLl := hide (srtF_len fs)
        have Hb := hide hb
        have K1 := hide k1
        have K2 := hide k2
        have K3 := hide k3
        clear hcon hb k1 k2 k3 k4
        rw [HJ.out] at HCn
        go_wp2_with fail
        refine HCn.out.mono ?_
        rintro e w' ⟨rfl, nn, os, hw'⟩
        have HF : Hid (Below w.heap.size w w' ∧ OwI w.heap.size w' (.slice (some ⟨g, 0, none⟩) j cap) (srtF fs)) := by
          rw [hw']
          refine ⟨HB.out.grown (grownBy_sortedI _) HB.out.size (fun j hj => by injection hj with hj; omega), ?_⟩
          have h := ownsRow_sortedI (n := nn) (os := os) HLl.out hbase Hb.out (by rw [HJ.out]; exact K1.out) (by first | exact K2.out | (rw [HJ.out]; exact K2.out)) (by first | exact K3.out | (rw [HJ.out]; exact K3.out))
          rw [HJ.out] at h
          exact ow_of_owns (by rw [HLl.out, HJ.out]) h (by rw [HLl.out]; omega)
        clear hw'
        go_wp2
        go_ret
        exact ⟨_, rfl, HF.out.1, HF.out.2⟩
end Go.Proofs.Ytbfdnjhdlnfpmaa
/- Chapter 8: the fault of a list of files, both sides walked. -/
namespace Go.Proofs.Ytbfdnjhdlnfpmaa
open Go.RowKit Go.Maps Go.Sort Go.Shelf

set_option maxHeartbeats 4000000 in
set_option maxRecDepth 4000 in
theorem implFilesFault {S : Nat → Prop} {w : World} {v : Value} {fs : List Oj} (hv : RdJ S w v fs) :
    Calls Try.prog 17 #[v] w fun e w' => e = .returned (.int .i64 (filF fs)) ∧ Below w.heap.size w w' := by
  obtain ⟨av, cv, rfl, hm⟩ := hv.shape
  have HV := hide hv
  obtain ⟨n, hn⟩ : ∃ n, fs.length = n := ⟨_, rfl⟩
  have HN := hide hn
  rw [hn] at HV hm ⊢
  clear hv hn
  obtain ⟨R, hR⟩ : ∃ R, filF fs = R := ⟨_, rfl⟩
  have HR := hide hR
  rw [hR]
  clear hR
  by_cases h4 : 4 < n
  · have h4' : (4 : Int) < (n : Int) := by omega
    have HE : Hid ((2 : Int) = R) := by rw [Hid, ← HR.out]; exact (filF_many (by rw [HN.out]; exact h4)).symm
    go_enter Try.func17, Try.ntmps17
    go_wp2
    go_ret
    exact ⟨ret_intF HE.out, Below.refl _ _⟩
  · have h4' : ¬ (4 : Int) < (n : Int) := by omega
    have HE0 := hide (show cfr (flS fs) fs.length 0 = cfr (flS fs) (n - 0) 0 by rw [HN.out]; rfl)
    have HOne := hide (fun (h : cfr (flS fs) fs.length 0 ≠ 0) => (filF_one (by rw [HN.out]; exact h4) h).symm.trans HR.out)
    have HTk := hide (fun (h : cfr (flS fs) fs.length 0 = 0) => (filF_tk (by rw [HN.out]; exact h4) h).symm.trans HR.out)
    go_enter Try.func17, Try.ntmps17
    go_wp2
    go_loopw [10] (fun i wr => ∃ (k q : Nat), k ≤ n ∧ i = .int .i64 k ∧ Hid (cfr (flS fs) fs.length 0 = cfr (flS fs) (n - k) k) ∧ wr = w.drewN q) (fun i _ => n - (RowKit.intOf i).toNat)
    case atStart => exact ⟨0, 0, Nat.zero_le _, rfl, HE0.out, rfl⟩
    case round =>
      obtain ⟨k, q, hk, rfl, HG, rfl⟩ := hrel
      by_cases hlt : k < n
      · obtain ⟨b, off, rfl, hfp⟩ := HV.out.file (k := k) (by rw [HN.out]; exact hlt)
        have HP := hide (hfp.later (below_drewN w q))
        have HC := hide (implFileFault HP.out)
        have hk0 : (0 : Int) ≤ (k : Int) := by omega
        have hk1 : (k : Int) < (n : Int) := by omega
        obtain ⟨y, g0, _⟩ := hfp
        obtain ⟨c, hc⟩ : ∃ c, oneF (fs.getD k oj0) = c := ⟨_, rfl⟩
        rw [hc] at HC
        have Hc := hide hc
        obtain ⟨a, ha⟩ : ∃ a, (fs.getD k oj0).1 = a := ⟨_, rfl⟩
        rw [ha] at g0
        have Ha := hide ha
        clear hc ha
        by_cases hc0 : c = 0
        · subst hc0
          by_cases hk0z : k = 0
          · subst hk0z
            have HS : Hid (cfr (flS fs) fs.length 0 = cfr (flS fs) (n - (0 + 1)) (0 + 1)) := HG.out.trans (cfr_ok hlt (flS_iff.2 ⟨Hc.out, fun h => by omega⟩))
            go_wp2_with fail
            refine HC.out.mono ?_
            rintro e w' ⟨rfl, q2, rfl⟩
            go_wp2_with fail
            go_quiet (fail)
            go_wp2
            go_roundw
            case rel => exact ⟨0 + 1, _, hlt, by go_num, HS.out, by first | rfl | exact (World.drewN_drewN ..)⟩
            case measure => simp [RowKit.intOf]; omega
          · obtain ⟨j, hjk⟩ : ∃ j, k = j + 1 := ⟨k - 1, by omega⟩
            obtain ⟨b', off', e', y', g0', _⟩ := HV.out.file (k := j) (by rw [HN.out]; omega)
            injection e' with e'
            injection e' with e1 e2
            subst e1 e2
            obtain ⟨a', ha'⟩ : ∃ a', (fs.getD j oj0).1 = a' := ⟨_, rfl⟩
            rw [ha'] at g0'
            have Ha' := hide ha'
            have hw1 : IntKind.i64.wrap ((k : Int) - 1) = (j : Int) := by simp [IntKind.wrap, IntKind.bits, IntKind.signed]; omega
            have hj0 : (0 : Int) < (k : Int) := by omega
            have hkp : 0 < k := by omega
            have hjp : (0 : Int) ≤ (j : Int) := by omega
            have hjn : (j : Int) < (n : Int) := by omega
            have HJK := hide hjk
            clear hk0z hjk ha'
            by_cases hxy : a ≤ a'
            · have HN1 : Hid ((1 : Int) = R) := by
                have h1 : flS fs k = 1 := by
                  unfold flS
                  rw [if_pos Hc.out, if_pos ⟨by have := HJK.out; omega, by rw [Ha.out, show k - 1 = j by have := HJK.out; omega, Ha'.out]; exact hxy⟩]
                have h2 : cfr (flS fs) fs.length 0 = 1 := (HG.out.trans (cfr_no hlt (by rw [h1]; decide))).trans h1
                rw [Hid, ← HOne.out (by rw [h2]; decide), h2]
              go_wp2_with fail
              refine HC.out.mono ?_
              rintro e w' ⟨rfl, q2, rfl⟩
              go_wp2_with fail
              go_quiet (fail)
              go_wp2
              go_ret
              exact ⟨ret_intF HN1.out, by first | exact below_drewN _ _ | (rw [World.drewN_drewN]; exact below_drewN _ _)⟩
            · have hxy' : a' < a := by omega
              have HS : Hid (cfr (flS fs) fs.length 0 = cfr (flS fs) (n - (k + 1)) (k + 1)) := HG.out.trans (cfr_ok hlt (flS_iff.2 ⟨Hc.out, fun ⟨_, h⟩ => by rw [Ha.out, show k - 1 = j by have := HJK.out; omega, Ha'.out] at h; omega⟩))
              go_wp2_with fail
              refine HC.out.mono ?_
              rintro e w' ⟨rfl, q2, rfl⟩
              go_wp2_with fail
              go_quiet (fail)
              go_wp2
              go_roundw
              case rel => exact ⟨k + 1, _, hlt, by go_num, HS.out, by first | rfl | exact (World.drewN_drewN ..)⟩
              case measure => simp [RowKit.intOf]; omega
        · have hc0b : (c == 0) = false := by simpa using hc0
          have HN1 : Hid (c = R) := by
            have h1 : flS fs k = c := by
              unfold flS
              rw [if_neg (by rw [Hc.out]; exact hc0), Hc.out]
            have h2 : cfr (flS fs) fs.length 0 = c := (HG.out.trans (cfr_no hlt (by rw [h1]; exact hc0))).trans h1
            rw [Hid, ← HOne.out (by rw [h2]; exact hc0), h2]
          go_wp2_with fail
          refine HC.out.mono ?_
          rintro e w' ⟨rfl, q2, rfl⟩
          go_wp2
          go_ret
          exact ⟨ret_intF HN1.out, by first | exact below_drewN _ _ | (rw [World.drewN_drewN]; exact below_drewN _ _)⟩
      · have hkn : k = n := by omega
        subst hkn
        have h0 : cfr (flS fs) fs.length 0 = 0 := HG.out.trans (cfr_end (Nat.lt_irrefl _))
        obtain ⟨h1, h2⟩ := cfl_iff.1 h0
        have hbl := blksF_len h1
        have HM := hide (srtF_map h1)
        have HT := hide (HTk.out h0)
        rw [HN.out] at hbl
        have HC := hide (sortedBlocksI (HV.out.later (below_drewN w q)) (by omega))
        clear h0 h1 h2 hbl
        go_wp2_with fail
        refine HC.out.mono ?_
        rintro e w' ⟨z, rfl, hb, ho⟩
        have HB := hide (below_on (below_drewN w q) hb)
        have HC2 := hide (implMapFault ho.rd)
        obtain ⟨F, hF⟩ : ∃ F, mapF (srtF fs) = F := ⟨_, rfl⟩
        rw [hF] at HM HC2
        obtain ⟨az, cz, rfl⟩ := ho.rd.shape
        clear hb ho hF
        by_cases hF0 : F = 0
        · subst hF0
          have HE : Hid ((0 : Int) = R) := by rw [Hid, ← HT.out, if_pos (HM.out.1 rfl)]
          go_wp2_with fail
          refine HC2.out.mono ?_
          rintro e w2 ⟨rfl, q2, rfl⟩
          go_wp2
          go_ret
          exact ⟨ret_intF HE.out, below_on HB.out (below_drewN _ _)⟩
        · have hFb : (F == 0) = false := by simpa using hF0
          have HE : Hid ((7 : Int) = R) := by rw [Hid, ← HT.out, if_neg (fun h => hF0 (HM.out.2 h))]
          go_wp2_with fail
          refine HC2.out.mono ?_
          rintro e w2 ⟨rfl, q2, rfl⟩
          go_wp2
          go_ret
          exact ⟨ret_intF HE.out, below_on HB.out (below_drewN _ _)⟩
end Go.Proofs.Ytbfdnjhdlnfpmaa
