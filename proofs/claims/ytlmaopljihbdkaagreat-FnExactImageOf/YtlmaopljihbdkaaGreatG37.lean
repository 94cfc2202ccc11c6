/- Fi3 Fi4 in one text: what each says stands at its head below. -/
import Derived.Test.YtlmaopljihbdkaaGreatG36
import Derived.Test.YtlmaopljihbdkaaGreatG21
import Derived.Deep.AppendLies
/- Chapter 8: the fault of a list of files, both sides walked. -/
namespace Go.Proofs.YtlmaopljihbdkaaGreat
open Go.RowKit Go.Maps Go.Sort Go.Shelf

set_option maxHeartbeats 4000000 in
set_option maxRecDepth 4000 in
theorem implFilesFault {S : Nat → Prop} {w : World} {v : Value} {fs : List Oj} (hv : RdJ S w v fs) :
    Calls Tryz.prog 176 #[v] w fun e w' => e = .returned (.int .i64 (filF fs)) ∧ Below w.heap.size w w' := by
  obtain ⟨av, cv, rfl, hm⟩ := hv.shape
  have HV := hide hv
  obtain ⟨n, hn⟩ : ∃ n, fs.length = n := ⟨_, rfl⟩
  have HN := hide hn
  rw [hn] at HV hm ⊢
  clear hv hn
  obtain ⟨R, hR⟩ : ∃ R, filF fs = R := ⟨_, rfl⟩
  have HR := hide hR
  rw [hR]
  clear hR
  by_cases h4 : 4 < n
  · have h4' : (4 : Int) < (n : Int) := by omega
    have HE : Hid ((2 : Int) = R) := by rw [Hid, ← HR.out]; exact (filF_many (by rw [HN.out]; exact h4)).symm
    go_enter Tryz.func176, Tryz.ntmps176
    go_wp2
    go_ret
    exact ⟨ret_intF HE.out, Below.refl _ _⟩
  · have h4' : ¬ (4 : Int) < (n : Int) := by omega
    have HE0 := hide (show cfr (flS fs) fs.length 0 = cfr (flS fs) (n - 0) 0 by rw [HN.out]; rfl)
    have HOne := hide (fun (h : cfr (flS fs) fs.length 0 ≠ 0) => (filF_one (by rw [HN.out]; exact h4) h).symm.trans HR.out)
    have HTk := hide (fun (h : cfr (flS fs) fs.length 0 = 0) => (filF_tk (by rw [HN.out]; exact h4) h).symm.trans HR.out)
    go_enter Tryz.func176, Tryz.ntmps176
    go_wp2
    go_loopw [10] (fun i wr => ∃ (k q : Nat), k ≤ n ∧ i = .int .i64 k ∧ Hid (cfr (flS fs) fs.length 0 = cfr (flS fs) (n - k) k) ∧ wr = w.drewN q) (fun i _ => n - (RowKit.intOf i).toNat)
    case atStart => exact ⟨0, 0, Nat.zero_le _, rfl, HE0.out, rfl⟩
    case round =>
      obtain ⟨k, q, hk, rfl, HG, rfl⟩ := hrel
      by_cases hlt : k < n
      · obtain ⟨b, off, rfl, hfp⟩ := HV.out.file (k := k) (by rw [HN.out]; exact hlt)
        have HP := hide (hfp.later (below_drewN w q))
        have HC := hide (implFileFault HP.out)
        have hk0 : (0 : Int) ≤ (k : Int) := by omega
        have hk1 : (k : Int) < (n : Int) := by omega
        obtain ⟨y, g0, _⟩ := hfp
        obtain ⟨c, hc⟩ : ∃ c, oneF (fs.getD k oj0) = c := ⟨_, rfl⟩
        rw [hc] at HC
        have Hc := hide hc
        obtain ⟨a, ha⟩ : ∃ a, (fs.getD k oj0).1 = a := ⟨_, rfl⟩
        rw [ha] at g0
        have Ha := hide ha
        clear hc ha
        by_cases hc0 : c = 0
        · subst hc0
          by_cases hk0z : k = 0
          · subst hk0z
            have HS : Hid (cfr (flS fs) fs.length 0 = cfr (flS fs) (n - (0 + 1)) (0 + 1)) := HG.out.trans (cfr_ok hlt (flS_iff.2 ⟨Hc.out, fun h => by omega⟩))
            go_wp2_with fail
            refine HC.out.mono ?_
            rintro e w' ⟨rfl, q2, rfl⟩
            go_wp2_with fail
            go_quiet (fail)
            go_wp2
            go_roundw
            case rel => exact ⟨0 + 1, _, hlt, by go_num, HS.out, by first | rfl | exact (World.drewN_drewN ..)⟩
            case measure => simp [RowKit.intOf]; omega
          · obtain ⟨j, hjk⟩ : ∃ j, k = j + 1 := ⟨k - 1, by omega⟩
            obtain ⟨b', off', e', y', g0', _⟩ := HV.out.file (k := j) (by rw [HN.out]; omega)
            injection e' with e'
            injection e' with e1 e2
            subst e1 e2
            obtain ⟨a', ha'⟩ : ∃ a', (fs.getD j oj0).1 = a' := ⟨_, rfl⟩
            rw [ha'] at g0'
            have Ha' := hide ha'
            have hw1 : IntKind.i64.wrap ((k : Int) - 1) = (j : Int) := by simp [IntKind.wrap, IntKind.bits, IntKind.signed]; omega
            have hj0 : (0 : Int) < (k : Int) := by omega
            have hkp : 0 < k := by omega
            have hjp : (0 : Int) ≤ (j : Int) := by omega
            have hjn : (j : Int) < (n : Int) := by omega
            have HJK := hide hjk
            clear hk0z hjk ha'
            by_cases hxy : a ≤ a'
            · have HN1 : Hid ((1 : Int) = R) := by
                have h1 : flS fs k = 1 := by
                  unfold flS
                  rw [if_pos Hc.out, if_pos ⟨by have := HJK.out; omega, by rw [Ha.out, show k - 1 = j by have := HJK.out; omega, Ha'.out]; exact hxy⟩]
                have h2 : cfr (flS fs) fs.length 0 = 1 := (HG.out.trans (cfr_no hlt (by rw [h1]; decide))).trans h1
                rw [Hid, ← HOne.out (by rw [h2]; decide), h2]
              go_wp2_with fail
              refine HC.out.mono ?_
              rintro e w' ⟨rfl, q2, rfl⟩
              go_wp2_with fail
              go_quiet (fail)
              go_wp2
              go_ret
              exact ⟨ret_intF HN1.out, by first | exact below_drewN _ _ | (rw [World.drewN_drewN]; exact below_drewN _ _)⟩
            · have hxy' : a' < a := by omega
              have HS : Hid (cfr (flS fs) fs.length 0 = cfr (flS fs) (n - (k + 1)) (k + 1)) := HG.out.trans (cfr_ok hlt (flS_iff.2 ⟨Hc.out, fun ⟨_, h⟩ => by rw [Ha.out, show k - 1 = j by have := HJK.out; omega, Ha'.out] at h; omega⟩))
              go_wp2_with fail
              refine HC.out.mono ?_
              rintro e w' ⟨rfl, q2, rfl⟩
              go_wp2_with fail
              go_quiet (fail)
              go_wp2
              go_roundw
              case rel => exact ⟨k + 1, _, hlt, by go_num, HS.out, by first | rfl | exact (World.drewN_drewN ..)⟩
              case measure => simp [RowKit.intOf]; omega
        · have hc0b : (c == 0) = false := by simpa using hc0
          have HN1 : Hid (c = R) := by
            have h1 : flS fs k = c := by
              unfold flS
              rw [if_neg (by rw [Hc.out]; exact hc0), Hc.out]
            have h2 : cfr (flS fs) fs.length 0 = c := (HG.out.trans (cfr_no hlt (by rw [h1]; exact hc0))).trans h1
            rw [Hid, ← HOne.out (by rw [h2]; exact hc0), h2]
          go_wp2_with fail
          refine HC.out.mono ?_
          rintro e w' ⟨rfl, q2, rfl⟩
          go_wp2
          go_ret
          exact ⟨ret_intF HN1.out, by first | exact below_drewN _ _ | (rw [World.drewN_drewN]; exact below_drewN _ _)⟩
      · have hkn : k = n := by omega
        subst hkn
        have h0 : cfr (flS fs) fs.length 0 = 0 := HG.out.trans (cfr_end (Nat.lt_irrefl _))
        obtain ⟨h1, h2⟩ := cfl_iff.1 h0
        have hbl := blksF_len h1
        have HM := hide (srtF_map h1)
        have HT := hide (HTk.out h0)
        rw [HN.out] at hbl
        have HC := hide (sortedBlocksI (HV.out.later (below_drewN w q)) (by omega))
        clear h0 h1 h2 hbl
        go_wp2_with fail
        refine HC.out.mono ?_
        rintro e w' ⟨z, rfl, hb, ho⟩
        have HB := hide (below_on (below_drewN w q) hb)
        have HC2 := hide (implMapFault ho.rd)
        obtain ⟨F, hF⟩ : ∃ F, mapF (srtF fs) = F := ⟨_, rfl⟩
        rw [hF] at HM HC2
        obtain ⟨az, cz, rfl⟩ := ho.rd.shape
        clear hb ho hF
        by_cases hF0 : F = 0
        · subst hF0
          have HE : Hid ((0 : Int) = R) := by rw [Hid, ← HT.out, if_pos (HM.out.1 rfl)]
          go_wp2_with fail
          refine HC2.out.mono ?_
          rintro e w2 ⟨rfl, q2, rfl⟩
          go_wp2
          go_ret
          exact ⟨ret_intF HE.out, below_on HB.out (below_drewN _ _)⟩
        · have hFb : (F == 0) = false := by simpa using hF0
          have HE : Hid ((7 : Int) = R) := by rw [Hid, ← HT.out, if_neg (fun h => hF0 (HM.out.2 h))]
          go_wp2_with fail
          refine HC2.out.mono ?_
          rintro e w2 ⟨rfl, q2, rfl⟩
          go_wp2
          go_ret
          exact ⟨ret_intF HE.out, below_on HB.out (below_drewN _ _)⟩
end Go.Proofs.YtlmaopljihbdkaaGreat
/- Chapter 8: the fault of a list of files, the model's side, walked. Made by program (out of Fi3). -/
namespace Go.Proofs.YtlmaopljihbdkaaGreat
open Go.RowKit

theorem getD_at {xs : List Int} {j : Nat} (hj : j < xs.length) : xs.getD j 0 = xs[j] := by simp [List.getD, hj]
theorem blks_dup {fs : List Oj} {m j : Nat} {x : Int} (hm : m < fs.length) (hj : j < (fs.getD m oj0).2.2.length) (hx : (fs.getD m oj0).2.2.getD j 0 = x) (hin : x ∈ blksF (fs.take m) ++ (fs.getD m oj0).2.2.take j) : ¬ (blksF fs).Nodup := by
  intro h
  have e1 : fs = fs.take (m + 1) ++ fs.drop (m + 1) := (List.take_append_drop _ _).symm
  rw [e1, blksF_append, blks_take fs m hm] at h
  have h2 := (List.nodup_append.1 h).1
  have e2 : (fs.getD m oj0).2.2 = (fs.getD m oj0).2.2.take j ++ (fs.getD m oj0).2.2.drop j := (List.take_append_drop _ _).symm
  rw [e2, ← List.append_assoc] at h2
  have h3 := (List.nodup_append.1 h2).2.2 x hin x
  refine h3 ?_ rfl
  rw [List.drop_eq_getElem_cons hj]
  have : (fs.getD m oj0).2.2[j] = x := (getD_at hj).symm.trans hx
  rw [this]
  exact List.mem_cons_self

set_option maxHeartbeats 4000000 in
set_option maxRecDepth 4000 in
theorem specL8Fault {S : Nat → Prop} {w : World} {v : Value} {fs : List Oj} (hv : RdJ S w v fs) :
    Calls Tryz.prog 139 #[v] w fun e w' => e = .returned (.int .i64 (filF fs)) ∧ Below w.heap.size w w' := by
  obtain ⟨av, cv, rfl, hm⟩ := hv.shape
  have HV := hide hv
  obtain ⟨n, hn⟩ : ∃ n, fs.length = n := ⟨_, rfl⟩
  have HN := hide hn
  rw [hn] at HV hm ⊢
  clear hv hn
  obtain ⟨R, hR⟩ : ∃ R, filF fs = R := ⟨_, rfl⟩
  have HR := hide hR
  rw [hR]
  clear hR
  by_cases h4 : 4 < n
  · have h4' : (4 : Int) < (n : Int) := by omega
    have HE : Hid ((2 : Int) = R) := by rw [Hid, ← HR.out]; exact (filF_many (by rw [HN.out]; exact h4)).symm
    go_enter Tryz.func139, Tryz.ntmps139
    go_wp2
    go_ret
    exact ⟨ret_intF HE.out, Below.refl _ _⟩
  · have h4' : ¬ (4 : Int) < (n : Int) := by omega
    have HE0 := hide (show cfr (flS fs) fs.length 0 = cfr (flS fs) (n - 0) 0 by rw [HN.out]; rfl)
    have HOne := hide (fun (h : cfr (flS fs) fs.length 0 ≠ 0) => (filF_one (by rw [HN.out]; exact h4) h).symm.trans HR.out)
    have HTk := hide (fun (h : cfr (flS fs) fs.length 0 = 0) => (filF_tk (by rw [HN.out]; exact h4) h).symm.trans HR.out)
    go_enter Tryz.func139, Tryz.ntmps139
    go_wp2
    go_loopw [3] (fun i wr => ∃ (k q : Nat), k ≤ n ∧ i = .int .i64 k ∧ Hid (cfr (flS fs) fs.length 0 = cfr (flS fs) (n - k) k) ∧ wr = w.drewN q) (fun i _ => n - (RowKit.intOf i).toNat)
    case atStart => exact ⟨0, 0, Nat.zero_le _, rfl, HE0.out, rfl⟩
    case round =>
      obtain ⟨k, q, hk, rfl, HG, rfl⟩ := hrel
      by_cases hlt : k < n
      · obtain ⟨b, off, rfl, hfp⟩ := HV.out.file (k := k) (by rw [HN.out]; exact hlt)
        have HP := hide (hfp.later (below_drewN w q))
        have HC := hide (l8One HP.out)
        have hk0 : (0 : Int) ≤ (k : Int) := by omega
        have hk1 : (k : Int) < (n : Int) := by omega
        obtain ⟨y, g0, _⟩ := hfp
        obtain ⟨c, hc⟩ : ∃ c, oneF (fs.getD k oj0) = c := ⟨_, rfl⟩
        rw [hc] at HC
        have Hc := hide hc
        obtain ⟨a, ha⟩ : ∃ a, (fs.getD k oj0).1 = a := ⟨_, rfl⟩
        rw [ha] at g0
        have Ha := hide ha
        clear hc ha
        by_cases hc0 : c = 0
        · subst hc0
          by_cases hk0z : k = 0
          · subst hk0z
            have HS : Hid (cfr (flS fs) fs.length 0 = cfr (flS fs) (n - (0 + 1)) (0 + 1)) := HG.out.trans (cfr_ok hlt (flS_iff.2 ⟨Hc.out, fun h => by omega⟩))
            go_wp2_with fail
            refine HC.out.mono ?_
            rintro e w' ⟨rfl, q2, rfl⟩
            go_wp2_with fail
            go_quiet (fail)
            go_wp2
            go_roundw
            case rel => exact ⟨0 + 1, _, hlt, by go_num, HS.out, by first | rfl | exact (World.drewN_drewN ..)⟩
            case measure => simp [RowKit.intOf]; omega
          · obtain ⟨j, hjk⟩ : ∃ j, k = j + 1 := ⟨k - 1, by omega⟩
            obtain ⟨b', off', e', y', g0', _⟩ := HV.out.file (k := j) (by rw [HN.out]; omega)
            injection e' with e'
            injection e' with e1 e2
            subst e1 e2
            obtain ⟨a', ha'⟩ : ∃ a', (fs.getD j oj0).1 = a' := ⟨_, rfl⟩
            rw [ha'] at g0'
            have Ha' := hide ha'
            have hw1 : IntKind.i64.wrap ((k : Int) - 1) = (j : Int) := by simp [IntKind.wrap, IntKind.bits, IntKind.signed]; omega
            have hj0 : (0 : Int) < (k : Int) := by omega
            have hkp : 0 < k := by omega
            have hjp : (0 : Int) ≤ (j : Int) := by omega
            have hjn : (j : Int) < (n : Int) := by omega
            have HJK := hide hjk
            clear hk0z hjk ha'
            by_cases hxy : a ≤ a'
            · have HN1 : Hid ((1 : Int) = R) := by
                have h1 : flS fs k = 1 := by
                  unfold flS
                  rw [if_pos Hc.out, if_pos ⟨by have := HJK.out; omega, by rw [Ha.out, show k - 1 = j by have := HJK.out; omega, Ha'.out]; exact hxy⟩]
                have h2 : cfr (flS fs) fs.length 0 = 1 := (HG.out.trans (cfr_no hlt (by rw [h1]; decide))).trans h1
                rw [Hid, ← HOne.out (by rw [h2]; decide), h2]
              go_wp2_with fail
              refine HC.out.mono ?_
              rintro e w' ⟨rfl, q2, rfl⟩
              go_wp2_with fail
              go_quiet (fail)
              go_wp2
              go_ret
              exact ⟨ret_intF HN1.out, by first | exact below_drewN _ _ | (rw [World.drewN_drewN]; exact below_drewN _ _)⟩
            · have hxy' : a' < a := by omega
              have HS : Hid (cfr (flS fs) fs.length 0 = cfr (flS fs) (n - (k + 1)) (k + 1)) := HG.out.trans (cfr_ok hlt (flS_iff.2 ⟨Hc.out, fun ⟨_, h⟩ => by rw [Ha.out, show k - 1 = j by have := HJK.out; omega, Ha'.out] at h; omega⟩))
              go_wp2_with fail
              refine HC.out.mono ?_
              rintro e w' ⟨rfl, q2, rfl⟩
              go_wp2_with fail
              go_quiet (fail)
              go_wp2
              go_roundw
              case rel => exact ⟨k + 1, _, hlt, by go_num, HS.out, by first | rfl | exact (World.drewN_drewN ..)⟩
              case measure => simp [RowKit.intOf]; omega
        · have hc0b : (c == 0) = false := by simpa using hc0
          have HN1 : Hid (c = R) := by
            have h1 : flS fs k = c := by
              unfold flS
              rw [if_neg (by rw [Hc.out]; exact hc0), Hc.out]
            have h2 : cfr (flS fs) fs.length 0 = c := (HG.out.trans (cfr_no hlt (by rw [h1]; exact hc0))).trans h1
            rw [Hid, ← HOne.out (by rw [h2]; exact hc0), h2]
          go_wp2_with fail
          refine HC.out.mono ?_
          rintro e w' ⟨rfl, q2, rfl⟩
          go_wp2
          go_ret
          exact ⟨ret_intF HN1.out, by first | exact below_drewN _ _ | (rw [World.drewN_drewN]; exact below_drewN _ _)⟩
      · have hkn : k = n := by omega
        subst hkn
        have h0 : cfr (flS fs) fs.length 0 = 0 := HG.out.trans (cfr_end (Nat.lt_irrefl _))
        obtain ⟨h1, h2⟩ := cfl_iff.1 h0
        have hbl := blksF_len h1
        rw [HN.out] at hbl
        have hbl' : (blksF fs).length ≤ 20 := by omega
        have HT := hide (HTk.out h0)
        obtain ⟨i0, hi, hz0, hz1, hz2⟩ := info_parts Tryz.infoInt
        clear h0 h1 h2 hbl HTk HOne HG HE0
        have HV1 := hide (HV.out.later (below_drewN w q))
        have HB0 := hide (below_on (below_drewN w q) (below_alloc (w.drewN q) (.cells #[] 2)))
        have HRow0 : Hid (((w.drewN q).alloc (.cells #[] 2)).ownsRow w.heap.size 2 1 (.slice (some ⟨w.heap.size, 0, none⟩) 0 0) 0 []) := by
          have h := World.ownsRow_made (w.drewN q) (e := 2) (size := 1) #[] 0 (Nat.le_refl _) (by unfold maxLen; omega) (by simp)
          exact h
        go_wp2
        go_loopw [5, 6] (fun v i wr => ∃ (m l : Nat), m ≤ k ∧ i = .int .i64 m ∧ Hid ((blksF (fs.take m)).length = l) ∧ Hid (blksF (fs.take m)).Nodup ∧ Hid (wr.ownsRow w.heap.size 2 1 v l ((blksF (fs.take m)).map (Value.int .i64))) ∧ Hid (Below w.heap.size w wr)) (fun _ i _ => k - (RowKit.intOf i).toNat)
        case atStart => exact ⟨0, 0, Nat.zero_le _, rfl, rfl, List.nodup_nil, HRow0.out, HB0.out⟩
        case round =>
          clear HRow0 HB0
          obtain ⟨m, l, hmk, rfl, HLn, HNd, HRow, HB⟩ := hrel
          by_cases hltm : m < k
          · obtain ⟨b, off, rfl, y, q0, q1, q2, q3⟩ := HV.out.file (k := m) (by rw [HN.out]; exact hltm)
            have HSn := hide (blks_take fs m (by rw [HN.out]; exact hltm))
            have hfull := blks_take_len fs (m + 1)
            have HDup := hide (fun (j : Nat) (x : Int) (hj : j < (fs.getD m oj0).2.2.length) (hx : (fs.getD m oj0).2.2.getD j 0 = x) (hin : x ∈ blksF (fs.take m) ++ (fs.getD m oj0).2.2.take j) => blks_dup (fs := fs) (by rw [HN.out]; exact hltm) hj hx hin)
            obtain ⟨xs, hxs⟩ : ∃ xs, (fs.getD m oj0).2.2 = xs := ⟨_, rfl⟩
            rw [hxs] at q3 HSn HDup
            obtain ⟨P, hP⟩ : ∃ P, blksF (fs.take m) = P := ⟨_, rfl⟩
            rw [hP] at HLn HNd HRow HSn HDup
            rw [HSn.out, List.length_append, HLn.out] at hfull
            obtain ⟨a3, c3, rfl⟩ := q3.shape
            obtain ⟨lx, hlx⟩ : ∃ lx, xs.length = lx := ⟨_, rfl⟩
            rw [hlx] at q2 q3 hfull
            have HLx := hide hlx
            have HQ3 := hide q3
            have HQ2 := hide q2
            have hm0 : (0 : Int) ≤ (m : Int) := by omega
            have hm1 : (m : Int) < (k : Int) := by omega
            clear q0 q1 q2 q3 hxs hP hlx
            have HR0 : Hid (wr.ownsRow w.heap.size 2 1 u5 (l + 0) ((P ++ xs.take 0).map (Value.int .i64))) := by rw [Hid]; simpa using HRow.out
            have HD0 : Hid (P ++ xs.take 0).Nodup := by rw [Hid]; simpa using HNd.out
            go_wp2
            go_loopw [5, 7] (fun v i wr => ∃ (j : Nat), j ≤ lx ∧ i = .int .i64 j ∧ Hid (P ++ xs.take j).Nodup ∧ Hid (wr.ownsRow w.heap.size 2 1 v (l + j) ((P ++ xs.take j).map (Value.int .i64))) ∧ Hid (Below w.heap.size w wr)) (fun _ i _ => lx - (RowKit.intOf i).toNat)
            case atStart => exact ⟨0, Nat.zero_le _, rfl, HD0.out, HR0.out, HB.out⟩
            case round =>
              clear HR0 HD0 HRow HNd HB
              obtain ⟨j, hj, rfl, HD, HRow, HB⟩ := hrel
              have q2 := cell_later HB.out HQ2.out
              have hzz := HB.out.size
              by_cases hltj : j < lx
              · obtain ⟨b3, off3, rfl, q4⟩ := HQ3.out.at (k := j) (by rw [HLx.out]; exact hltj)
                have q5 := cell_later HB.out q4
                have HTk := hide (show xs.take (j + 1) = xs.take j ++ [xs.getD j 0] by rw [List.take_succ_eq_append_getElem (by rw [HLx.out]; exact hltj)]; simp [List.getD, show j < xs.length by rw [HLx.out]; exact hltj])
                have HDx := hide (fun x hx hin => HDup.out j x (by rw [HLx.out]; exact hltj) hx hin)
                obtain ⟨x, hx⟩ : ∃ x, xs.getD j 0 = x := ⟨_, rfl⟩
                rw [hx] at q5 HTk
                have HX := hide hx
                clear q4 hx
                have hj0 : (0 : Int) ≤ (j : Int) := by omega
                have hj1 : (j : Int) < (lx : Int) := by omega
                obtain ⟨av5, cv5, hv5⟩ := owns_shapeM HRow.out
                subst hv5
                have HPl : Hid ((P ++ xs.take j).length = l + j) := by rw [Hid, List.length_append, HLn.out, List.length_take, HLx.out]; omega
                have HC := hide (l7Among x (ow_of_owns HPl.out HRow.out (by rw [HPl.out]; omega)).rd)
                by_cases hin : x ∈ P ++ xs.take j
                · rw [decide_eq_true hin] at HC
                  have HE : Hid ((7 : Int) = R) := by rw [Hid, ← HT.out, if_neg (HDx.out x HX.out hin)]
                  clear hin
                  go_wp2_with fail
                  refine HC.out.mono ?_
                  rintro e w' ⟨hw, rfl⟩
                  have hw := hw.symm
                  subst hw
                  go_wp2
                  go_ret
                  exact ⟨ret_intF HE.out, HB.out⟩
                · rw [decide_eq_false hin] at HC
                  have HD' : Hid (P ++ xs.take (j + 1)).Nodup := by
                    rw [Hid, HTk.out, ← List.append_assoc]
                    exact List.nodup_append.2 ⟨HD.out, by simp, fun a ha b hb => by simp at hb; subst hb; rintro rfl; exact hin ha⟩
                  clear hin
                  go_wp2_with fail
                  refine HC.out.mono ?_
                  rintro e w' ⟨hw, rfl⟩
                  have hw := hw.symm
                  subst hw
                  go_wp2_with (at_builtin; refine wpList_append_lies _ rfl _ _ _ rfl w.heap.size 2 i0 (.int .i64 0) 1 8 Tryz.underlying22 hi hz0 hz1 hz2 rfl (by omega) _ (l + j) _ (by rfl) (HRow.out.alloc (.cells #[.int .i64 x] 2)) ⟨wr.heap.size, 0, none⟩ 1 1 [.int .i64 x] (by rfl) (by rfl) (World.news_of_block (cs := #[.int .i64 x]) (t := 2) (fr := (0, 0)) (heap_alloc_new wr _)) (by simp [Value.oneCell']) (by omega) (by unfold maxLen; omega) (by omega) (by simp; omega) (wr.heap.size + 1) (by simp) ?_; intro g cap w4 hown3 hgrow hat hlt3)
                  have HRow4 : Hid (w4.ownsRow w.heap.size 2 1 (.slice (some ⟨g, 0, none⟩) (l + j + 1) cap) (l + (j + 1)) ((P ++ xs.take (j + 1)).map (Value.int .i64))) := by
                    rw [Hid, HTk.out, ← Nat.add_assoc]
                    simpa using hown3
                  have HB4 := hide ((below_on HB.out (below_alloc wr (.cells #[.int .i64 x] 2))).grown hgrow (by simp; omega) (fun r hr => (HRow.out.lt r hr).1))
                  clear hown3 hgrow hat hlt3
                  go_wp2
                  go_roundw
                  case rel => exact ⟨j + 1, by omega, by go_num, HD'.out, HRow4.out, HB4.out⟩
                  case measure => simp [RowKit.intOf]; omega
              · have hjx : j = lx := by omega
                subst hjx
                have hT : xs.take j = xs := List.take_of_length_le (by rw [HLx.out]; exact Nat.le_refl _)
                rw [hT, ← HSn.out] at HD HRow
                have HLn2 : Hid ((blksF (fs.take (m + 1))).length = l + j) := by rw [Hid, HSn.out, List.length_append, HLn.out, HLx.out]
                go_wp2
                go_roundw
                case rel => exact ⟨m + 1, l + j, by omega, by go_num, HLn2.out, HD.out, HRow.out, HB.out⟩
                case measure => simp [RowKit.intOf]; omega
          · have hmm : m = k := by omega
            subst hmm
            have HE : Hid ((0 : Int) = R) := by
              rw [Hid, ← HT.out, if_pos]
              have := HNd.out
              rwa [List.take_of_length_le (by rw [HN.out]; exact Nat.le_refl _)] at this
            go_wp2
            go_ret
            exact ⟨ret_intF HE.out, HB.out⟩
end Go.Proofs.YtlmaopljihbdkaaGreat
