/- Fi2 Sn1 Fi3 in one text: what each says stands at its head below. -/
import Derived.Test.YtlmaopljihbdkaaGreatG15
import Derived.Test.YtlmaopljihbdkaaGreatG04
import Derived.Test.YtlmaopljihbdkaaGreatG06
import Derived.Test.YtlmaopljihbdkaaGreatG31
import Derived.Shelf.SortM.Plain
import Derived.Shelf.SortM.SortNone
import Derived.Sort.OwnSorted
import Derived.Sort.OwnSortedInts
import Derived.Test.YtlmaopljihbdkaaGreatG16
import Derived.Test.YtlmaopljihbdkaaGreatG17
import Derived.Test.YtlmaopljihbdkaaGreatG05
import Derived.Test.YtlmaopljihbdkaaGreatG12
namespace Go.Proofs.YtlmaopljihbdkaaGreat
open Go.RowKit Go.Maps Go.Sort Go.Shelf
def srtF (fs : List Oj) : List Int := (blksF fs).mergeSort (fun x y => decide (x ≤ y))
theorem srtF_perm (fs : List Oj) : (srtF fs).Perm (blksF fs) := List.mergeSort_perm _ _
theorem srtF_len (fs : List Oj) : (srtF fs).length = (blksF fs).length := (srtF_perm fs).length_eq
theorem srtF_up (fs : List Oj) : (srtF fs).Pairwise (· ≤ ·) := by
  have h := List.pairwise_mergeSort (le := fun (x y : Int) => decide (x ≤ y)) (fun a b c h1 h2 => by simp at *; omega) (fun a b => by simp; omega) (blksF fs)
  exact h.imp (fun h => by simpa using h)
theorem srtF_map {fs : List Oj} (h : ∀ p, p ∈ fs → oneF p = 0) : mapF (srtF fs) = 0 ↔ (blksF fs).Nodup := map_of_sorted (srtF_perm fs) (srtF_up fs) (blksF_in h)
theorem blks_take (fs : List Oj) (k : Nat) (h : k < fs.length) : blksF (fs.take (k + 1)) = blksF (fs.take k) ++ (fs.getD k oj0).2.2 := by
  rw [List.take_succ_eq_append_getElem h, blksF_snoc]
  simp [List.getD, h]
theorem blks_take_len (fs : List Oj) (k : Nat) : (blksF (fs.take k)).length ≤ (blksF fs).length := by
  conv => rhs; rw [← List.take_append_drop k fs, blksF_append, List.length_append]
  omega
set_option maxHeartbeats 2000000 in
set_option maxRecDepth 4000 in
theorem sortedBlocksI {S : Nat → Prop} {w : World} {v : Value} {fs : List Oj} (hv : RdJ S w v fs) (hlen : (blksF fs).length ≤ 1048576) :
    Calls Tryz.prog 130 #[v] w fun e w' => ∃ z, e = .returned z ∧ Below w.heap.size w w' ∧ OwI w.heap.size w' z (srtF fs) := by
  obtain ⟨av, cv, rfl, hm⟩ := hv.shape
  have HV := hide hv
  obtain ⟨n, hn⟩ : ∃ n, fs.length = n := ⟨_, rfl⟩
  have HN := hide hn
  rw [hn] at HV hm ⊢
  obtain ⟨i0, hi, hz0, hz1, hz2⟩ := info_parts Tryz.infoInt
  clear hv hn
  go_enter Tryz.func130, Tryz.ntmps130
  go_wp2
  go_loopw [3, 8] (fun v i wr => ∃ (k j : Nat), k ≤ n ∧ i = .int .i64 k ∧ Hid ((blksF (fs.take k)).length = j) ∧ Hid (wr.ownsRow w.heap.size 2 1 v j ((blksF (fs.take k)).map (Value.int .i64))) ∧ Hid (Below w.heap.size w wr)) (fun _ i _ => n - (RowKit.intOf i).toNat)
  case atStart => exact ⟨0, 0, by omega, rfl, rfl, ⟨rfl, .inl ⟨rfl, rfl⟩⟩, Below.refl _ _⟩
  case round =>
    obtain ⟨k, j, hk, rfl, HJ, HRow, HB⟩ := hrel
    by_cases hlt : k < n
    · obtain ⟨b, off, rfl, y, q0, q1, q2, q3⟩ := HV.out.file (k := k) (by rw [HN.out]; exact hlt)
      have HSn := hide (blks_take fs k (by rw [HN.out]; exact hlt))
      have hjl : j + (fs.getD k oj0).2.2.length ≤ 1048576 := by
        have h1 := blks_take_len fs (k + 1)
        rw [HSn.out, List.length_append, HJ.out] at h1
        omega
      obtain ⟨p, hp⟩ : ∃ p, fs.getD k oj0 = p := ⟨_, rfl⟩
      rw [hp] at q0 q1 q3 HSn hjl
      obtain ⟨a, s, xs⟩ := p
      dsimp only at q0 q1 q3 HSn hjl
      have g0 := cell_later HB.out q0
      have g1 := cell_later HB.out q1
      have g2 := cell_later HB.out q2
      have q4 := q3.later HB.out
      obtain ⟨a3, c3, rfl⟩ := q3.shape
      obtain ⟨l, hl⟩ : ∃ l, xs.length = l := ⟨_, rfl⟩
      have bA := below_alloc wr (.cells #[.int .i64 a, .int .i64 s, .slice a3 xs.length c3] 114)
      obtain ⟨a4, c4, e4, hsrc⟩ := (q4.later bA).src
      injection e4 with e5 _ e6
      subst e5
      rw [hl] at g2 hsrc bA hjl
      have HS := hide hsrc
      have HRow1 := hide (ownsRow_later HRow.out bA)
      have HB1 := hide (below_on HB.out bA)
      have HL := hide hl
      have hzz := HB.out.size
      clear hp q0 q1 q2 q3 q4 hsrc bA hl e6
      have hk0 : (0 : Int) ≤ (k : Int) := by omega
      have hk1 : (k : Int) < (n : Int) := by omega
      obtain ⟨P, hP⟩ : ∃ P, blksF (fs.take k) = P := ⟨_, rfl⟩
      rw [hP] at HJ HRow HRow1 HSn
      clear hP
      go_wp2_with (at_builtin; refine wpList_append_any _ rfl _ _ 22 rfl w.heap.size 2 i0 (.int .i64 0) 1 8 Tryz.underlying22 hi hz0 hz1 hz2 rfl (by decide) _ j _ (by rfl) HRow1.out a3 l c3 (xs.map (Value.int .i64)) (by rfl) (by simp [HL.out]) HS.out (ints_oneCell _ _) (by unfold maxLen; omega) (by omega) (by simp; omega) ?_)
      intro v' w4 hown hgrow
      have HRow4 : Hid (w4.ownsRow w.heap.size 2 1 v' (j + l) ((blksF (fs.take (k + 1))).map (Value.int .i64))) := by
        rw [Hid, HSn.out, List.map_append]
        exact hown
      have HB4 := hide (HB1.out.grown hgrow (by simp; omega) (fun r hr => (HRow1.out.lt r hr).1))
      have HJ4 : Hid ((blksF (fs.take (k + 1))).length = j + l) := by rw [Hid, HSn.out, List.length_append, HJ.out, HL.out]
      clear hown hgrow
      go_wp2
      go_roundw
      case rel => exact ⟨k + 1, j + l, by omega, by go_num, HJ4.out, HRow4.out, HB4.out⟩
      case measure => simp [RowKit.intOf]; omega
    · have hkn : k = n := by omega
      subst hkn
      have hT : fs.take k = fs := List.take_of_length_le (by rw [HN.out]; exact Nat.le_refl _)
      rw [hT] at HJ HRow
      clear hT
      rename Value => v
      rcases HRow.out.2 with ⟨hnil, hss⟩ | ⟨g, cap, cur, hv, hbase, hb, k1, k2, k3, k4⟩
      · subst hnil
        have hs0 : blksF fs = [] := List.length_eq_zero_iff.1 (by rw [HJ.out]; exact hss)
        have HL0 : Hid (srtF fs = []) := by rw [Hid]; exact List.length_eq_zero_iff.1 (by rw [srtF_len, hs0]; rfl)
        have hcon := AnyM.slices_Sort_int_none Tryz.sortA none 0 wr
        change Calls Tryz.prog 175 _ _ _ at hcon
        have HCn := hide hcon
        clear hcon hs0
        subst hss
        go_wp2_with fail
        refine HCn.out.mono ?_
        rintro e w' ⟨rfl, rfl⟩
        go_wp2
        go_ret
        exact ⟨_, rfl, HB.out, by rw [HL0.out]; exact OwI_nil _ _⟩
      · subst hv
        have hgl : g < wr.heap.size := (Array.getElem?_eq_some_iff.1 hb).1
        have hcon := AnyM.slices_Sort_int Tryz.sortA g 0 cap (blksF fs) wr (holds_of_blockI hb (by rw [HJ.out]; simpa using k4)) hgl (by omega)
        change Calls Tryz.prog 175 _ _ _ at hcon
        have HCn := hide hcon
        have HLl := hide (srtF_len fs)
        have Hb := hide hb
        have K1 := hide k1
        have K2 := hide k2
        have K3 := hide k3
        clear hcon hb k1 k2 k3 k4
        rw [HJ.out] at HCn
        go_wp2_with fail
        refine HCn.out.mono ?_
        rintro e w' ⟨rfl, nn, os, hw'⟩
        have HF : Hid (Below w.heap.size w w' ∧ OwI w.heap.size w' (.slice (some ⟨g, 0, none⟩) j cap) (srtF fs)) := by
          rw [hw']
          refine ⟨HB.out.grown (grownBy_sortedI _) HB.out.size (fun j hj => by injection hj with hj; omega), ?_⟩
          have h := ownsRow_sortedI (n := nn) (os := os) HLl.out hbase Hb.out (by rw [HJ.out]; exact K1.out) (by first | exact K2.out | (rw [HJ.out]; exact K2.out)) (by first | exact K3.out | (rw [HJ.out]; exact K3.out))
          rw [HJ.out] at h
          exact ow_of_owns (by rw [HLl.out, HJ.out]) h (by rw [HLl.out]; omega)
        clear hw'
        go_wp2
        go_ret
        exact ⟨_, rfl, HF.out.1, HF.out.2⟩
end Go.Proofs.YtlmaopljihbdkaaGreat
namespace Go.Proofs.YtlmaopljihbdkaaGreat
open Go.RowKit Go.Shelf
attribute [local go_sem] Oper.semAt_some
def sbL (r : Rf) : List Int := if r.si = 0 then [] else tbL [] (nbF r.sn.length)
def snP (r : Rf) : List (Int × List Int) := (List.range (sbL r).length).map fun k => ((sbL r).getD k 0, (r.sn.drop (8 * k)).take 8)
theorem snP_len (r : Rf) : (snP r).length = (sbL r).length := by simp [snP]
theorem snP_at {r : Rf} {k : Nat} (h : k < (sbL r).length) : (snP r).getD k (0, []) = ((sbL r).getD k 0, (r.sn.drop (8 * k)).take 8) := by
  simp [snP, List.getD, h]
theorem sbL_some {r : Rf} (hl : r.sn.length ≤ 40) : (sbL r).length ≤ 5 ∧ (8 * (sbL r).length : Nat) ≤ r.sn.length + 7 ∧ (r.si ≠ 0 → r.sn.length ≤ 8 * (sbL r).length) := by
  unfold sbL
  have hf : (frB []).length = 20 := by decide
  split
  · rename_i h
    exact ⟨by simp, by simp, fun h2 => absurd h h2⟩
  · have h1 : (tbL [] (nbF r.sn.length)).length = (nbF r.sn.length).toNat := by
      unfold tbL
      rw [List.length_take, hf]
      have := nb_bound hl
      omega
    rw [h1]
    unfold nbF
    omega
theorem srt_snap (r : Rf) : srtF (sfL r) = sbL r := by
  unfold sfL sbL
  split
  · simp [srtF, blksF]
  · have hp : (tbL [] (nbF r.sn.length)).Pairwise (fun x y => decide (x ≤ y) = true) := by
      unfold tbL
      exact List.Pairwise.sublist (List.take_sublist _ _) (by decide)
    have hb : blksF [(2, (r.sn.length : Int), tbL [] (nbF r.sn.length))] = tbL [] (nbF r.sn.length) := by simp [blksF]
    unfold srtF
    rw [hb]
    exact List.mergeSort_of_pairwise hp
theorem RdI.inw {S : Nat → Prop} {w : World} {v : Value} {xs : List Int} (h : RdI S w v xs) : RdI (fun b => S b ∧ b < w.heap.size) w v xs := by
  obtain ⟨ao, c, e1, e2, e3⟩ := h
  refine ⟨ao, c, e1, e2, fun hne => ?_⟩
  obtain ⟨b, off, f1, f2, f3⟩ := e3 hne
  exact ⟨b, off, f1, ⟨f2, World.block_lt_of_cell? _ _ (f3 0 (by cases xs; exact absurd rfl hne; simp))⟩, f3⟩
set_option maxRecDepth 100000 in
set_option maxHeartbeats 4000000 in
theorem snapSeq {S T : Nat → Prop} {w : World} {Bp : Nat} {y z : Value} (r : Rf) (v0 : w.cell? ⟨Bp, 0, none⟩ = some (.int .i64 r.tm)) (v1 : w.cell? ⟨Bp, 1, none⟩ = some (.int .i64 r.vt)) (v2 : w.cell? ⟨Bp, 2, none⟩ = some (.int .i64 r.si)) (v3 : w.cell? ⟨Bp, 3, none⟩ = some (.int .i64 r.st)) (v4 : w.cell? ⟨Bp, 4, none⟩ = some y) (v5 : w.cell? ⟨Bp, 5, none⟩ = some z)
    (hy : RdI S w y r.sn) (hz : RdJ T w z r.lg) (hl : r.sn.length ≤ 40) (hcy : capE y) (hS : ∀ b, S b → b < w.heap.size) (m : Nat) :
    SeqG m Tryz.prog 133 #[.pointer (some ⟨Bp, 0, none⟩)] S (snP r) w := fun l J Jx D0 W hW hD hJ hJx _ _ hJb hY h0 => by
  obtain ⟨ay, cy, rfl⟩ := hy.shape
  obtain ⟨az, cz, rfl, _⟩ := hz.shape
  have u0 := cell_later hW v0
  have u1 := cell_later hW v1
  have u2 := cell_later hW v2
  have u3 := cell_later hW v3
  have u4 := cell_later hW v4
  have u5 := cell_later hW v5
  have HY := hide (hy.later hW)
  have HF := hide (fun (W' : World) (hb : Below W.heap.size W W') => snapFilesI r ((hy.later hW).later hb) ((hz.later hW).later hb) hl)
  have HL := hide (sbL_some hl)
  have HSrt := hide (srt_snap r)
  have hbl : (blksF (sfL r)).length ≤ 1048576 := by
    rw [← srtF_len, srt_snap r]
    have := (sbL_some hl).1
    omega
  have HBl := hide hbl
  have HD := hide hD
  have HJ := hide hJ
  have HJx := hide hJx
  have HJb := hide hJb
  have HYd := hide hY
  have H0 := hide h0
  have hcy' : r.sn.length ≤ cy := hcy
  have hWs := hW.size
  clear v0 v1 v2 v3 v4 v5 hy hz hW hbl hD hJ hJx hJb hY h0 hcy
  have HS := hide hS
  clear hS
  refine callsIn_of_wp Tryz.func133 rfl trivial ?_ rfl
  simp only [Tryz.ntmps133, List.size_toArray, List.length_cons, List.length_nil, Nat.reduceAdd, Nat.reduceSub, Array.replicate_succ, Array.replicate_zero, List.push_toArray, List.append_toArray, List.nil_append, List.cons_append]
  gi_wp2_with (first
    | (refine ⟨trivial, fun h => (by simp [Fence.wide] at h), ?_⟩; gi_at_call 128; refine (callsIn_wide.2 (HF.out _ (Below.refl _ _))).mono ?_; rintro e w1 ⟨f1, rfl, hb1, ho1⟩; have hrd1 := ho1.rd; obtain ⟨a1, c1, rfl, _⟩ := hrd1.shape; have HO1 := hide hrd1; have HB1 := hide hb1; clear hb1 ho1 hrd1)
    | (refine ⟨trivial, fun h => (by simp [Fence.wide] at h), ?_⟩; gi_at_call 130; refine (callsIn_wide.2 (sortedBlocksI HO1.out HBl.out)).mono ?_; rintro e w2 ⟨f2, rfl, hb2, ho2⟩; rw [HSrt.out] at ho2; obtain ⟨a2, c2, rfl⟩ := ho2.shape; have HO2 := hide ho2; have HB2 := hide (below_on HB1.out hb2); clear hb2 ho2)
    | gi_in)
  obtain ⟨bl, hbl1, hbl2⟩ := HO2.out
  have HJ2 := hide (HJ.out _ _ _ _ H0.out HB2.out)
  have HD0 := hide (HJb.out _ _ _ H0.out)
  have hs12 := HB1.out.size
  have HY2 := hide (HY.out.later HB2.out)
  have hs2 := HB2.out.size
  have HBl1 := hide hbl1
  obtain ⟨nb, hnb⟩ : ∃ n, (sbL r).length = n := ⟨_, rfl⟩
  have HNb := hide hnb
  rw [hnb] at HL HBl1 ⊢
  have hbw : sbL r ≠ [] → W.heap.size ≤ bl ∧ bl < w2.heap.size := fun h => by have := hbl2 h; omega
  have HBw := hide hbw
  have hnb5 := HL.out.1
  clear u0 u1 u2 u3 u4 u5 HF hbl1 hbl2 HO2 HO1 HB1 HB2 H0 HY hnb hbw HSrt HBl
  gi_loopw [3, 13] (fun p q wr => ∃ (k n c : Nat) (ao : Option Addr) (D : Nat → Prop), p = .slice ao n c ∧ q = .int .i64 k ∧ n ≤ c ∧ k ≤ nb ∧ RdI S wr (.slice ao n c) (r.sn.drop (8 * k)) ∧ RdI (· = bl) wr (.slice a2 nb c2) (sbL r) ∧ J D k wr ∧ (∀ b, D b → ¬ S b) ∧ (sbL r ≠ [] → ¬ D bl ∧ bl < wr.heap.size) ∧ w.heap.size ≤ wr.heap.size) (fun _ q _ => nb - (intOf q).toNat)
  case atStart =>
    exact ⟨0, _, _, _, D0, rfl, rfl, hcy', Nat.zero_le _, HY2.out, HBl1.out, HJ2.out, HD.out, fun h => ⟨fun hd => by have := HD0.out _ hd; have := HBw.out h; omega, (HBw.out h).2⟩, by omega⟩
  case round =>
    obtain ⟨k, n, c, ao, D, rfl, rfl, hnc, hkn, hrd, hbl, hJ, hDS, hDb, hsz⟩ := hrel
    rcases Nat.lt_or_ge k nb with hlt | hge
    · have hne : sbL r ≠ [] := fun e => by have := HNb.out; rw [e] at this; simp at this; omega
      obtain ⟨_, c3, e3, e4, e5⟩ := hbl
      obtain ⟨b3, off3, e6, rfl, hc3⟩ := e5 hne
      injection e3 with e7 e8 e9
      subst e7 e9
      subst e6
      have hx := hc3 k (by rw [HNb.out]; exact hlt)
      have hlen : (r.sn.drop (8 * k)).length = n := by obtain ⟨_, _, e, _⟩ := hrd; injection e with _ e _; exact e.symm
      have hki : (k : Int) < ((sbL r).length : Int) := by rw [HNb.out]; omega
      obtain ⟨x, hxe⟩ : ∃ x, (sbL r).getD k 0 = x := ⟨_, rfl⟩
      rw [hxe] at hx
      obtain ⟨p, hp⟩ : ∃ p : Nat, min (n : Int) 8 = (p : Int) := ⟨min n 8, by omega⟩
      have hpn : p ≤ n := by omega
      have hpt : (r.sn.drop (8 * k)).take p = (r.sn.drop (8 * k)).take 8 := by
        rw [List.take_eq_take_iff, hlen]
        omega
      have hps : (p : Int) ≤ (n : Int) := by omega
      have hpc : (p : Int) ≤ (c : Int) := by omega
      have hp0 : 0 ≤ (p : Int) := by omega
      have HQ := hide (snP_at (r := r) (k := k) (by rw [HNb.out]; exact hlt))
      have HLt := hide hlt
      have HXe := hide hxe
      have HRd := hide hrd
      have HUp := hide (hrd.upto p hpn)
      have HPt := hide hpt
      have HPlen : Hid (((r.sn.drop (8 * k)).take p).length ≤ 1048576) := by unfold Hid; rw [List.length_take]; omega
      have HJk := hide hJ
      have HDS := hide hDS
      have HDb := hide hDb
      have HC3 := hide hc3
      have HLen := hide hlen
      clear hrd hpt hJ hDS hDb hc3 hxe hlen e5
      gi_wp2_with (first
        | (refine ⟨trivial, fun h => (by simp [Fence.wide] at h), ?_⟩; gi_at_call 134; refine (callsIn_wide.2 (copyWords HUp.out HPlen.out)).mono ?_; rintro e w3 ⟨f3, rfl, hb3, ho3⟩; rw [HPt.out] at ho3; obtain ⟨a4, c4, hz4⟩ := ho3.shape; obtain ⟨n4, hn4⟩ : ∃ n4, ((r.sn.drop (8 * k)).take 8).length = n4 := ⟨_, rfl⟩; rw [hn4] at hz4; subst hz4; clear hn4; obtain ⟨fn, tmps, assign, body, hyy0, hR⟩ := HYd.out D k x _ wr w3 HJk.out hb3 (by rw [snP_len, HNb.out]; exact HLt.out) (by rw [HQ.out]; exact HXe.out.symm) (by rw [HQ.out]; exact ho3); have hyy : (Instr.yield l #[.agg #[.int .i64 x, .slice a4 n4 c4]]).run Tryz.prog w3 = .ok (.round l fn tmps assign body) w3 := hyy0; have HB3 := hide hb3; clear hyy0 hb3 ho3)
        | gi_in)
      refine ⟨fun h => by simp [Fence.wide] at h, hR.mono ?_⟩
      have hs3 := HB3.out.size
      rintro e W3 (⟨rfl, D', hJ3, hk3, hD3⟩ | ⟨rfl, hJx3, _⟩)
      · have hDS3 : ∀ b, D' b → ¬ S b := fun b hb hSb => by
          rcases hD3 b hb with h | h
          · exact HDS.out b h hSb
          · have := HS.out b hSb; omega
        have hs4 := hk3.size
        have hrd3 := ((HRd.out.later HB3.out).ku hk3 (fun _ b hb h => HDS.out b h hb)).from p hpn
        have hbl3 : RdI (· = b3) W3 (.slice (some ⟨b3, off3, none⟩) nb ((sbL r).length + c3)) (sbL r) := by
          refine ⟨_, c3, ?_, e4, fun _ => ⟨b3, off3, rfl, rfl, fun t ht => hk3.cell (cell_later HB3.out (HC3.out t ht)) (HDb.out hne).1⟩⟩
          rw [HNb.out]
        have hdd : (r.sn.drop (8 * k)).drop p = r.sn.drop (8 * (k + 1)) := by
          rw [List.drop_drop]
          have h1 := HLen.out
          rw [List.length_drop] at h1
          rcases Nat.lt_or_ge n 8 with h8 | h8
          · rw [List.drop_eq_nil_of_le (by omega), List.drop_eq_nil_of_le (by omega)]
          · congr 1; omega
        rw [hdd] at hrd3
        have HRd3 := hide hrd3
        have HJ3 := hide hJ3
        have HBl3 := hide hbl3
        have HDS3 := hide hDS3
        have HDb3 : Hid (sbL r ≠ [] → ¬ D' b3 ∧ b3 < W3.heap.size) := fun h => ⟨fun hd => by
          rcases hD3 b3 hd with h' | h'
          · exact (HDb.out h).1 h'
          · have := (HDb.out h).2; omega, by have := (HDb.out h).2; omega⟩
        clear hJ3 hk3 hD3 hDS3 hrd3 hbl3
        gi_wp2
        all_goals refine ⟨⟨.slice (slA ao c p) (n - p) (c - p), .int .i64 x, .int .i64 p, .int .i64 ((k : Int) + 1), ⟨k + 1, n - p, c - p, slA ao c p, rfl, by simp, by omega, by rw [HNb.out]; omega, HRd3.out, by rw [HNb.out]; have h := HBl3.out; rw [HNb.out] at h; exact h, D', HJ3.out, HDS3.out, HDb3.out hne, by omega⟩, ?_, rfl, rfl, rfl⟩, by rw [HNb.out]; simp [intOf]; omega⟩
        all_goals (first | (have hcp : c = p := by omega
                            subst hcp
                            simp [slA]
                            done) | (have hcp : ¬ c = p := by omega
                                     simp [slA, hcp]
                                     done))
      · gi_wp2
        refine bodyPost_ret (results_none rfl _ _ _) rfl ?_
        exact ⟨⟨_, rfl⟩, .inr hJx3⟩
    · have hge' : ¬ (k : Int) < (nb : Int) := by omega
      have hk : k = nb := by omega
      subst hk
      have HJk := hide hJ
      clear hJ hrd hbl hDS hDb
      gi_wp2
      go_end0
      refine ⟨⟨_, rfl⟩, .inl ⟨D, ?_⟩⟩
      rw [snP_len, HNb.out]
      exact HJk.out
end Go.Proofs.YtlmaopljihbdkaaGreat
namespace Go.Proofs.YtlmaopljihbdkaaGreat
open Go.RowKit Go.Maps Go.Sort Go.Shelf
set_option maxHeartbeats 4000000 in
set_option maxRecDepth 4000 in
theorem implFilesFault {S : Nat → Prop} {w : World} {v : Value} {fs : List Oj} (hv : RdJ S w v fs) :
    Calls Tryz.prog 176 #[v] w fun e w' => e = .returned (.int .i64 (filF fs)) ∧ Below w.heap.size w w' := by
  obtain ⟨av, cv, rfl, hm⟩ := hv.shape
  have HV := hide hv
  obtain ⟨n, hn⟩ : ∃ n, fs.length = n := ⟨_, rfl⟩
  have HN := hide hn
  rw [hn] at HV hm ⊢
  clear hv hn
  obtain ⟨R, hR⟩ : ∃ R, filF fs = R := ⟨_, rfl⟩
  have HR := hide hR
  rw [hR]
  clear hR
  by_cases h4 : 4 < n
  · have h4' : (4 : Int) < (n : Int) := by omega
    have HE : Hid ((2 : Int) = R) := by rw [Hid, ← HR.out]; exact (filF_many (by rw [HN.out]; exact h4)).symm
    go_enter Tryz.func176, Tryz.ntmps176
    go_wp2
    go_ret
    exact ⟨ret_intF HE.out, Below.refl _ _⟩
  · have h4' : ¬ (4 : Int) < (n : Int) := by omega
    have HE0 := hide (show cfr (flS fs) fs.length 0 = cfr (flS fs) (n - 0) 0 by rw [HN.out]; rfl)
    have HOne := hide (fun (h : cfr (flS fs) fs.length 0 ≠ 0) => (filF_one (by rw [HN.out]; exact h4) h).symm.trans HR.out)
    have HTk := hide (fun (h : cfr (flS fs) fs.length 0 = 0) => (filF_tk (by rw [HN.out]; exact h4) h).symm.trans HR.out)
    go_enter Tryz.func176, Tryz.ntmps176
    go_wp2
    go_loopw [10] (fun i wr => ∃ (k q : Nat), k ≤ n ∧ i = .int .i64 k ∧ Hid (cfr (flS fs) fs.length 0 = cfr (flS fs) (n - k) k) ∧ wr = w.drewN q) (fun i _ => n - (RowKit.intOf i).toNat)
    case atStart => exact ⟨0, 0, Nat.zero_le _, rfl, HE0.out, rfl⟩
    case round =>
      obtain ⟨k, q, hk, rfl, HG, rfl⟩ := hrel
      by_cases hlt : k < n
      · obtain ⟨b, off, rfl, hfp⟩ := HV.out.file (k := k) (by rw [HN.out]; exact hlt)
        have HP := hide (hfp.later (below_drewN w q))
        have HC := hide (implFileFault HP.out)
        have hk0 : (0 : Int) ≤ (k : Int) := by omega
        have hk1 : (k : Int) < (n : Int) := by omega
        obtain ⟨y, g0, _⟩ := hfp
        obtain ⟨c, hc⟩ : ∃ c, oneF (fs.getD k oj0) = c := ⟨_, rfl⟩
        rw [hc] at HC
        have Hc := hide hc
        obtain ⟨a, ha⟩ : ∃ a, (fs.getD k oj0).1 = a := ⟨_, rfl⟩
        rw [ha] at g0
        have Ha := hide ha
        clear hc ha
        by_cases hc0 : c = 0
        · subst hc0
          by_cases hk0z : k = 0
          · subst hk0z
            have HS : Hid (cfr (flS fs) fs.length 0 = cfr (flS fs) (n - (0 + 1)) (0 + 1)) := HG.out.trans (cfr_ok hlt (flS_iff.2 ⟨Hc.out, fun h => by omega⟩))
            go_wp2_with fail
            refine HC.out.mono ?_
            rintro e w' ⟨rfl, q2, rfl⟩
            go_wp2_with fail
            go_quiet (fail)
            go_wp2
            go_roundw
            case rel => exact ⟨0 + 1, _, hlt, by go_num, HS.out, by first | rfl | exact (World.drewN_drewN ..)⟩
            case measure => simp [RowKit.intOf]; omega
          · obtain ⟨j, hjk⟩ : ∃ j, k = j + 1 := ⟨k - 1, by omega⟩
            obtain ⟨b', off', e', y', g0', _⟩ := HV.out.file (k := j) (by rw [HN.out]; omega)
            injection e' with e'
            injection e' with e1 e2
            subst e1 e2
            obtain ⟨a', ha'⟩ : ∃ a', (fs.getD j oj0).1 = a' := ⟨_, rfl⟩
            rw [ha'] at g0'
            have Ha' := hide ha'
            have hw1 : IntKind.i64.wrap ((k : Int) - 1) = (j : Int) := by simp [IntKind.wrap, IntKind.bits, IntKind.signed]; omega
            have hj0 : (0 : Int) < (k : Int) := by omega
            have hkp : 0 < k := by omega
            have hjp : (0 : Int) ≤ (j : Int) := by omega
            have hjn : (j : Int) < (n : Int) := by omega
            have HJK := hide hjk
            clear hk0z hjk ha'
            by_cases hxy : a ≤ a'
            · have HN1 : Hid ((1 : Int) = R) := by
                have h1 : flS fs k = 1 := by
                  unfold flS
                  rw [if_pos Hc.out, if_pos ⟨by have := HJK.out; omega, by rw [Ha.out, show k - 1 = j by have := HJK.out; omega, Ha'.out]; exact hxy⟩]
                have h2 : cfr (flS fs) fs.length 0 = 1 := (HG.out.trans (cfr_no hlt (by rw [h1]; decide))).trans h1
                rw [Hid, ← HOne.out (by rw [h2]; decide), h2]
              go_wp2_with fail
              refine HC.out.mono ?_
              rintro e w' ⟨rfl, q2, rfl⟩
              go_wp2_with fail
              go_quiet (fail)
              go_wp2
              go_ret
              exact ⟨ret_intF HN1.out, by first | exact below_drewN _ _ | (rw [World.drewN_drewN]; exact below_drewN _ _)⟩
            · have hxy' : a' < a := by omega
              have HS : Hid (cfr (flS fs) fs.length 0 = cfr (flS fs) (n - (k + 1)) (k + 1)) := HG.out.trans (cfr_ok hlt (flS_iff.2 ⟨Hc.out, fun ⟨_, h⟩ => by rw [Ha.out, show k - 1 = j by have := HJK.out; omega, Ha'.out] at h; omega⟩))
              go_wp2_with fail
              refine HC.out.mono ?_
              rintro e w' ⟨rfl, q2, rfl⟩
              go_wp2_with fail
              go_quiet (fail)
              go_wp2
              go_roundw
              case rel => exact ⟨k + 1, _, hlt, by go_num, HS.out, by first | rfl | exact (World.drewN_drewN ..)⟩
              case measure => simp [RowKit.intOf]; omega
        · have hc0b : (c == 0) = false := by simpa using hc0
          have HN1 : Hid (c = R) := by
            have h1 : flS fs k = c := by
              unfold flS
              rw [if_neg (by rw [Hc.out]; exact hc0), Hc.out]
            have h2 : cfr (flS fs) fs.length 0 = c := (HG.out.trans (cfr_no hlt (by rw [h1]; exact hc0))).trans h1
            rw [Hid, ← HOne.out (by rw [h2]; exact hc0), h2]
          go_wp2_with fail
          refine HC.out.mono ?_
          rintro e w' ⟨rfl, q2, rfl⟩
          go_wp2
          go_ret
          exact ⟨ret_intF HN1.out, by first | exact below_drewN _ _ | (rw [World.drewN_drewN]; exact below_drewN _ _)⟩
      · have hkn : k = n := by omega
        subst hkn
        have h0 : cfr (flS fs) fs.length 0 = 0 := HG.out.trans (cfr_end (Nat.lt_irrefl _))
        obtain ⟨h1, h2⟩ := cfl_iff.1 h0
        have hbl := blksF_len h1
        have HM := hide (srtF_map h1)
        have HT := hide (HTk.out h0)
        rw [HN.out] at hbl
        have HC := hide (sortedBlocksI (HV.out.later (below_drewN w q)) (by omega))
        clear h0 h1 h2 hbl
        go_wp2_with fail
        refine HC.out.mono ?_
        rintro e w' ⟨z, rfl, hb, ho⟩
        have HB := hide (below_on (below_drewN w q) hb)
        have HC2 := hide (implMapFault ho.rd)
        obtain ⟨F, hF⟩ : ∃ F, mapF (srtF fs) = F := ⟨_, rfl⟩
        rw [hF] at HM HC2
        obtain ⟨az, cz, rfl⟩ := ho.rd.shape
        clear hb ho hF
        by_cases hF0 : F = 0
        · subst hF0
          have HE : Hid ((0 : Int) = R) := by rw [Hid, ← HT.out, if_pos (HM.out.1 rfl)]
          go_wp2_with fail
          refine HC2.out.mono ?_
          rintro e w2 ⟨rfl, q2, rfl⟩
          go_wp2
          go_ret
          exact ⟨ret_intF HE.out, below_on HB.out (below_drewN _ _)⟩
        · have hFb : (F == 0) = false := by simpa using hF0
          have HE : Hid ((7 : Int) = R) := by rw [Hid, ← HT.out, if_neg (fun h => hF0 (HM.out.2 h))]
          go_wp2_with fail
          refine HC2.out.mono ?_
          rintro e w2 ⟨rfl, q2, rfl⟩
          go_wp2
          go_ret
          exact ⟨ret_intF HE.out, below_on HB.out (below_drewN _ _)⟩
end Go.Proofs.YtlmaopljihbdkaaGreat
