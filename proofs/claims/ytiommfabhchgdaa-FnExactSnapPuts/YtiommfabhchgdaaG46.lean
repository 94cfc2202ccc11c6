/- Sn1 in one text: what each says stands at its head below. -/
import Derived.Test.YtiommfabhchgdaaG40
import Derived.Test.YtiommfabhchgdaaG42
import Derived.Test.YtiommfabhchgdaaG45
import Derived.Test.YtiommfabhchgdaaG43
import Derived.Test.YtiommfabhchgdaaG20
import Derived.Test.YtiommfabhchgdaaG10
/- Chapter 11: the blocks of a snapshot, told one by one ('snapBlocks'): the iterator's contract; 'impl.SnapPuts'. -/
namespace Go.Proofs.Ytiommfabhchgdaa
open Go.RowKit Go.Shelf
attribute [local go_sem] Oper.semAt_some

/-- The blocks of a store's snapshot. -/
def sbL (r : Rf) : List Int := if r.si = 0 then [] else tbL [] (nbF r.sn.length)
/-- The puts of a store's snapshot. -/
def snP (r : Rf) : List (Int × List Int) := (List.range (sbL r).length).map fun k => ((sbL r).getD k 0, (r.sn.drop (8 * k)).take 8)
def snR (r : Rf) : List (Int × List Int) := if rfF r = 0 then snP r else []
theorem snP_len (r : Rf) : (snP r).length = (sbL r).length := by simp [snP]
theorem snP_at {r : Rf} {k : Nat} (h : k < (sbL r).length) : (snP r).getD k (0, []) = ((sbL r).getD k 0, (r.sn.drop (8 * k)).take 8) := by
  simp [snP, List.getD, h]
theorem sbL_some {r : Rf} (hl : r.sn.length ≤ 40) : (sbL r).length ≤ 5 ∧ (8 * (sbL r).length : Nat) ≤ r.sn.length + 7 ∧ (r.si ≠ 0 → r.sn.length ≤ 8 * (sbL r).length) := by
  unfold sbL
  have hf : (frB []).length = 20 := by decide
  split
  · rename_i h
    exact ⟨by simp, by simp, fun h2 => absurd h h2⟩
  · have h1 : (tbL [] (nbF r.sn.length)).length = (nbF r.sn.length).toNat := by
      unfold tbL
      rw [List.length_take, hf]
      have := nb_bound hl
      omega
    rw [h1]
    unfold nbF
    omega
theorem srt_snap (r : Rf) : srtF (sfL r) = sbL r := by
  unfold sfL sbL
  split
  · simp [srtF, blksF]
  · have hp : (tbL [] (nbF r.sn.length)).Pairwise (fun x y => decide (x ≤ y) = true) := by
      unfold tbL
      exact List.Pairwise.sublist (List.take_sublist _ _) (by decide)
    have hb : blksF [(2, (r.sn.length : Int), tbL [] (nbF r.sn.length))] = tbL [] (nbF r.sn.length) := by simp [blksF]
    unfold srtF
    rw [hb]
    exact List.mergeSort_of_pairwise hp

/-- What is read lies in the world. -/
theorem RdI.inw {S : Nat → Prop} {w : World} {v : Value} {xs : List Int} (h : RdI S w v xs) : RdI (fun b => S b ∧ b < w.heap.size) w v xs := by
  obtain ⟨ao, c, e1, e2, e3⟩ := h
  refine ⟨ao, c, e1, e2, fun hne => ?_⟩
  obtain ⟨b, off, f1, f2, f3⟩ := e3 hne
  exact ⟨b, off, f1, ⟨f2, World.block_lt_of_cell? _ _ (f3 0 (by cases xs; exact absurd rfl hne; simp))⟩, f3⟩

set_option maxRecDepth 100000 in
set_option maxHeartbeats 4000000 in
/-- 'snapBlocks' tells the puts of the snapshot. -/
theorem snapSeq {S T : Nat → Prop} {w : World} {Bp : Nat} {y z : Value} (r : Rf) (v0 : w.cell? ⟨Bp, 0, none⟩ = some (.int .i64 r.tm)) (v1 : w.cell? ⟨Bp, 1, none⟩ = some (.int .i64 r.vt)) (v2 : w.cell? ⟨Bp, 2, none⟩ = some (.int .i64 r.si)) (v3 : w.cell? ⟨Bp, 3, none⟩ = some (.int .i64 r.st)) (v4 : w.cell? ⟨Bp, 4, none⟩ = some y) (v5 : w.cell? ⟨Bp, 5, none⟩ = some z)
    (hy : RdI S w y r.sn) (hz : RdJ T w z r.lg) (hl : r.sn.length ≤ 40) (hcy : capE y) (hS : ∀ b, S b → b < w.heap.size) (m : Nat) :
    SeqG m Try.prog 56 #[.pointer (some ⟨Bp, 0, none⟩)] S (snP r) w := fun l J Jx D0 W hW hD hJ hJx hJb hY h0 => by
  obtain ⟨ay, cy, rfl⟩ := hy.shape
  obtain ⟨az, cz, rfl, _⟩ := hz.shape
  have u0 := cell_later hW v0
  have u1 := cell_later hW v1
  have u2 := cell_later hW v2
  have u3 := cell_later hW v3
  have u4 := cell_later hW v4
  have u5 := cell_later hW v5
  have HY := hide (hy.later hW)
  have HF := hide (fun (W' : World) (hb : Below W.heap.size W W') => snapFilesI r ((hy.later hW).later hb) ((hz.later hW).later hb) hl)
  have HL := hide (sbL_some hl)
  have HSrt := hide (srt_snap r)
  have hbl : (blksF (sfL r)).length ≤ 1048576 := by
    rw [← srtF_len, srt_snap r]
    have := (sbL_some hl).1
    omega
  have HBl := hide hbl
  have HD := hide hD
  have HJ := hide hJ
  have HJx := hide hJx
  have HJb := hide hJb
  have HYd := hide hY
  have H0 := hide h0
  have hcy' : r.sn.length ≤ cy := hcy
  have hWs := hW.size
  clear v0 v1 v2 v3 v4 v5 hy hz hW hbl hD hJ hJx hJb hY h0 hcy
  have HS := hide hS
  clear hS
  refine callsIn_of_wp Try.func56 rfl trivial ?_ rfl
  simp only [Try.ntmps56, List.size_toArray, List.length_cons, List.length_nil, Nat.reduceAdd, Nat.reduceSub, Array.replicate_succ, Array.replicate_zero, List.push_toArray, List.append_toArray, List.nil_append, List.cons_append]
  gi_wp2_with (first
    | (refine ⟨trivial, fun h => (by simp [Fence.wide] at h), ?_⟩; gi_at_call 58; refine (callsIn_wide.2 (HF.out _ (Below.refl _ _))).mono ?_; rintro e w1 ⟨f1, rfl, hb1, ho1⟩; have hrd1 := ho1.rd; obtain ⟨a1, c1, rfl, _⟩ := hrd1.shape; have HO1 := hide hrd1; have HB1 := hide hb1; clear hb1 ho1 hrd1)
    | (refine ⟨trivial, fun h => (by simp [Fence.wide] at h), ?_⟩; gi_at_call 57; refine (callsIn_wide.2 (sortedBlocksI HO1.out HBl.out)).mono ?_; rintro e w2 ⟨f2, rfl, hb2, ho2⟩; rw [HSrt.out] at ho2; obtain ⟨a2, c2, rfl⟩ := ho2.shape; have HO2 := hide ho2; have HB2 := hide (below_on HB1.out hb2); clear hb2 ho2)
    | gi_in)
  obtain ⟨bl, hbl1, hbl2⟩ := HO2.out
  have HJ2 := hide (HJ.out _ _ _ _ H0.out HB2.out)
  have HD0 := hide (HJb.out _ _ _ H0.out)
  have hs12 := HB1.out.size
  have HY2 := hide (HY.out.later HB2.out)
  have hs2 := HB2.out.size
  have HBl1 := hide hbl1
  obtain ⟨nb, hnb⟩ : ∃ n, (sbL r).length = n := ⟨_, rfl⟩
  have HNb := hide hnb
  rw [hnb] at HL HBl1 ⊢
  have hbw : sbL r ≠ [] → W.heap.size ≤ bl ∧ bl < w2.heap.size := fun h => by have := hbl2 h; omega
  have HBw := hide hbw
  have hnb5 := HL.out.1
  clear u0 u1 u2 u3 u4 u5 HF hbl1 hbl2 HO2 HO1 HB1 HB2 H0 HY hnb hbw HSrt HBl
  gi_loopw [3, 13] (fun p q wr => ∃ (k n c : Nat) (ao : Option Addr) (D : Nat → Prop), p = .slice ao n c ∧ q = .int .i64 k ∧ n ≤ c ∧ k ≤ nb ∧ RdI S wr (.slice ao n c) (r.sn.drop (8 * k)) ∧ RdI (· = bl) wr (.slice a2 nb c2) (sbL r) ∧ J D k wr ∧ (∀ b, D b → ¬ S b) ∧ (sbL r ≠ [] → ¬ D bl ∧ bl < wr.heap.size) ∧ w.heap.size ≤ wr.heap.size) (fun _ q _ => nb - (intOf q).toNat)
  case atStart =>
    exact ⟨0, _, _, _, D0, rfl, rfl, hcy', Nat.zero_le _, HY2.out, HBl1.out, HJ2.out, HD.out, fun h => ⟨fun hd => by have := HD0.out _ hd; have := HBw.out h; omega, (HBw.out h).2⟩, by omega⟩
  case round =>
    obtain ⟨k, n, c, ao, D, rfl, rfl, hnc, hkn, hrd, hbl, hJ, hDS, hDb, hsz⟩ := hrel
    rcases Nat.lt_or_ge k nb with hlt | hge
    · have hne : sbL r ≠ [] := fun e => by have := HNb.out; rw [e] at this; simp at this; omega
      obtain ⟨_, c3, e3, e4, e5⟩ := hbl
      obtain ⟨b3, off3, e6, rfl, hc3⟩ := e5 hne
      injection e3 with e7 e8 e9
      subst e7 e9
      subst e6
      have hx := hc3 k (by rw [HNb.out]; exact hlt)
      have hlen : (r.sn.drop (8 * k)).length = n := by obtain ⟨_, _, e, _⟩ := hrd; injection e with _ e _; exact e.symm
      have hki : (k : Int) < ((sbL r).length : Int) := by rw [HNb.out]; omega
      obtain ⟨x, hxe⟩ : ∃ x, (sbL r).getD k 0 = x := ⟨_, rfl⟩
      rw [hxe] at hx
      obtain ⟨p, hp⟩ : ∃ p : Nat, min (n : Int) 8 = (p : Int) := ⟨min n 8, by omega⟩
      have hpn : p ≤ n := by omega
      have hpt : (r.sn.drop (8 * k)).take p = (r.sn.drop (8 * k)).take 8 := by
        rw [List.take_eq_take_iff, hlen]
        omega
      have hps : (p : Int) ≤ (n : Int) := by omega
      have hpc : (p : Int) ≤ (c : Int) := by omega
      have hp0 : 0 ≤ (p : Int) := by omega
      have HQ := hide (snP_at (r := r) (k := k) (by rw [HNb.out]; exact hlt))
      have HLt := hide hlt
      have HXe := hide hxe
      have HRd := hide hrd
      have HUp := hide (hrd.upto p hpn)
      have HPt := hide hpt
      have HPlen : Hid (((r.sn.drop (8 * k)).take p).length ≤ 1048576) := by unfold Hid; rw [List.length_take]; omega
      have HJk := hide hJ
      have HDS := hide hDS
      have HDb := hide hDb
      have HC3 := hide hc3
      have HLen := hide hlen
      clear hrd hpt hJ hDS hDb hc3 hxe hlen e5
      gi_wp2_with (first
        | (refine ⟨trivial, fun h => (by simp [Fence.wide] at h), ?_⟩; gi_at_call 59; refine (callsIn_wide.2 (copyWords HUp.out HPlen.out)).mono ?_; rintro e w3 ⟨f3, rfl, hb3, ho3⟩; rw [HPt.out] at ho3; obtain ⟨a4, c4, hz4⟩ := ho3.shape; obtain ⟨n4, hn4⟩ : ∃ n4, ((r.sn.drop (8 * k)).take 8).length = n4 := ⟨_, rfl⟩; rw [hn4] at hz4; subst hz4; clear hn4; obtain ⟨fn, tmps, assign, body, hyy0, hR⟩ := HYd.out D k x _ wr w3 HJk.out hb3 (by rw [snP_len, HNb.out]; exact HLt.out) (by rw [HQ.out]; exact HXe.out.symm) (by rw [HQ.out]; exact ho3); have hyy : (Instr.yield l #[.agg #[.int .i64 x, .slice a4 n4 c4]]).run Try.prog w3 = .ok (.round l fn tmps assign body) w3 := hyy0; have HB3 := hide hb3; clear hyy0 hb3 ho3)
        | gi_in)
      refine ⟨fun h => by simp [Fence.wide] at h, hR.mono ?_⟩
      have hs3 := HB3.out.size
      rintro e W3 (⟨rfl, D', hJ3, hk3, hD3⟩ | ⟨rfl, hJx3⟩)
      · have hDS3 : ∀ b, D' b → ¬ S b := fun b hb hSb => by
          rcases hD3 b hb with h | h
          · exact HDS.out b h hSb
          · have := HS.out b hSb; omega
        have hs4 := hk3.size
        have hrd3 := ((HRd.out.later HB3.out).ku hk3 (fun _ b hb h => HDS.out b h hb)).from p hpn
        have hbl3 : RdI (· = b3) W3 (.slice (some ⟨b3, off3, none⟩) nb ((sbL r).length + c3)) (sbL r) := by
          refine ⟨_, c3, ?_, e4, fun _ => ⟨b3, off3, rfl, rfl, fun t ht => hk3.cell (cell_later HB3.out (HC3.out t ht)) (HDb.out hne).1⟩⟩
          rw [HNb.out]
        have hdd : (r.sn.drop (8 * k)).drop p = r.sn.drop (8 * (k + 1)) := by
          rw [List.drop_drop]
          have h1 := HLen.out
          rw [List.length_drop] at h1
          rcases Nat.lt_or_ge n 8 with h8 | h8
          · rw [List.drop_eq_nil_of_le (by omega), List.drop_eq_nil_of_le (by omega)]
          · congr 1; omega
        rw [hdd] at hrd3
        have HRd3 := hide hrd3
        have HJ3 := hide hJ3
        have HBl3 := hide hbl3
        have HDS3 := hide hDS3
        have HDb3 : Hid (sbL r ≠ [] → ¬ D' b3 ∧ b3 < W3.heap.size) := fun h => ⟨fun hd => by
          rcases hD3 b3 hd with h' | h'
          · exact (HDb.out h).1 h'
          · have := (HDb.out h).2; omega, by have := (HDb.out h).2; omega⟩
        clear hJ3 hk3 hD3 hDS3 hrd3 hbl3
        gi_wp2
        all_goals refine ⟨⟨.slice (slA ao c p) (n - p) (c - p), .int .i64 x, .int .i64 p, .int .i64 ((k : Int) + 1), ⟨k + 1, n - p, c - p, slA ao c p, rfl, by simp, by omega, by rw [HNb.out]; omega, HRd3.out, by rw [HNb.out]; have h := HBl3.out; rw [HNb.out] at h; exact h, D', HJ3.out, HDS3.out, HDb3.out hne, by omega⟩, ?_, rfl, rfl, rfl⟩, by rw [HNb.out]; simp [intOf]; omega⟩
        all_goals (first | (have hcp : c = p := by omega
                            subst hcp
                            simp [slA]
                            done) | (have hcp : ¬ c = p := by omega
                                     simp [slA, hcp]
                                     done))
      · gi_wp2
        refine bodyPost_ret (results_none rfl _ _ _) rfl ?_
        exact ⟨⟨_, rfl⟩, .inr hJx3⟩
    · have hge' : ¬ (k : Int) < (nb : Int) := by omega
      have hk : k = nb := by omega
      subst hk
      have HJk := hide hJ
      clear hJ hrd hbl hDS hDb
      gi_wp2
      go_end0
      refine ⟨⟨_, rfl⟩, .inl ⟨D, ?_⟩⟩
      rw [snP_len, HNb.out]
      exact HJk.out
end Go.Proofs.Ytiommfabhchgdaa
