/- Chapter 8: the fault of a list of files, both sides walked. -/
import Derived.Test.YtoffjbpnggdgnaaFi2
import Derived.Test.YtoffjbpnggdgnaaMp3
namespace Go.Proofs.Ytoffjbpnggdgnaa
open Go.RowKit Go.Maps Go.Sort Go.Shelf

set_option maxHeartbeats 4000000 in
set_option maxRecDepth 4000 in
theorem implFilesFault {S : Nat → Prop} {w : World} {v : Value} {fs : List Oj} (hv : RdJ S w v fs) :
    Calls Try.prog 24 #[v] w fun e w' => e = .returned (.int .i64 (filF fs)) ∧ Below w.heap.size w w' := by
  obtain ⟨av, cv, rfl, hm⟩ := hv.shape
  have HV := hide hv
  obtain ⟨n, hn⟩ : ∃ n, fs.length = n := ⟨_, rfl⟩
  have HN := hide hn
  rw [hn] at HV hm ⊢
  clear hv hn
  obtain ⟨R, hR⟩ : ∃ R, filF fs = R := ⟨_, rfl⟩
  have HR := hide hR
  rw [hR]
  clear hR
  by_cases h4 : 4 < n
  · have h4' : (4 : Int) < (n : Int) := by omega
    have HE : Hid ((2 : Int) = R) := by rw [Hid, ← HR.out]; exact (filF_many (by rw [HN.out]; exact h4)).symm
    go_enter Try.func24, Try.ntmps24
    go_wp2
    go_ret
    exact ⟨ret_intF HE.out, Below.refl _ _⟩
  · have h4' : ¬ (4 : Int) < (n : Int) := by omega
    have HE0 := hide (show cfr (flS fs) fs.length 0 = cfr (flS fs) (n - 0) 0 by rw [HN.out]; rfl)
    have HOne := hide (fun (h : cfr (flS fs) fs.length 0 ≠ 0) => (filF_one (by rw [HN.out]; exact h4) h).symm.trans HR.out)
    have HTk := hide (fun (h : cfr (flS fs) fs.length 0 = 0) => (filF_tk (by rw [HN.out]; exact h4) h).symm.trans HR.out)
    go_enter Try.func24, Try.ntmps24
    go_wp2
    go_loopw [10] (fun i wr => ∃ (k q : Nat), k ≤ n ∧ i = .int .i64 k ∧ Hid (cfr (flS fs) fs.length 0 = cfr (flS fs) (n - k) k) ∧ wr = w.drewN q) (fun i _ => n - (RowKit.intOf i).toNat)
    case atStart => exact ⟨0, 0, Nat.zero_le _, rfl, HE0.out, rfl⟩
    case round =>
      obtain ⟨k, q, hk, rfl, HG, rfl⟩ := hrel
      by_cases hlt : k < n
      · obtain ⟨b, off, rfl, hfp⟩ := HV.out.file (k := k) (by rw [HN.out]; exact hlt)
        have HP := hide (hfp.later (below_drewN w q))
        have HC := hide (implFileFault HP.out)
        have hk0 : (0 : Int) ≤ (k : Int) := by omega
        have hk1 : (k : Int) < (n : Int) := by omega
        obtain ⟨y, g0, _⟩ := hfp
        obtain ⟨c, hc⟩ : ∃ c, oneF (fs.getD k oj0) = c := ⟨_, rfl⟩
        rw [hc] at HC
        have Hc := hide hc
        obtain ⟨a, ha⟩ : ∃ a, (fs.getD k oj0).1 = a := ⟨_, rfl⟩
        rw [ha] at g0
        have Ha := hide ha
        clear hc ha
        by_cases hc0 : c = 0
        · subst hc0
          by_cases hk0z : k = 0
          · subst hk0z
            have HS : Hid (cfr (flS fs) fs.length 0 = cfr (flS fs) (n - (0 + 1)) (0 + 1)) := HG.out.trans (cfr_ok hlt (flS_iff.2 ⟨Hc.out, fun h => by omega⟩))
            go_wp2_with fail
            refine HC.out.mono ?_
            rintro e w' ⟨rfl, q2, rfl⟩
            go_wp2_with fail
            go_quiet (fail)
            go_wp2
            go_roundw
            case rel => exact ⟨0 + 1, _, hlt, by go_num, HS.out, by first | rfl | exact (World.drewN_drewN ..)⟩
            case measure => simp [RowKit.intOf]; omega
          · obtain ⟨j, hjk⟩ : ∃ j, k = j + 1 := ⟨k - 1, by omega⟩
            obtain ⟨b', off', e', y', g0', _⟩ := HV.out.file (k := j) (by rw [HN.out]; omega)
            injection e' with e'
            injection e' with e1 e2
            subst e1 e2
            obtain ⟨a', ha'⟩ : ∃ a', (fs.getD j oj0).1 = a' := ⟨_, rfl⟩
            rw [ha'] at g0'
            have Ha' := hide ha'
            have hw1 : IntKind.i64.wrap ((k : Int) - 1) = (j : Int) := by simp [IntKind.wrap, IntKind.bits, IntKind.signed]; omega
            have hj0 : (0 : Int) < (k : Int) := by omega
            have hkp : 0 < k := by omega
            have hjp : (0 : Int) ≤ (j : Int) := by omega
            have hjn : (j : Int) < (n : Int) := by omega
            have HJK := hide hjk
            clear hk0z hjk ha'
            by_cases hxy : a ≤ a'
            · have HN1 : Hid ((1 : Int) = R) := by
                have h1 : flS fs k = 1 := by
                  unfold flS
                  rw [if_pos Hc.out, if_pos ⟨by have := HJK.out; omega, by rw [Ha.out, show k - 1 = j by have := HJK.out; omega, Ha'.out]; exact hxy⟩]
                have h2 : cfr (flS fs) fs.length 0 = 1 := (HG.out.trans (cfr_no hlt (by rw [h1]; decide))).trans h1
                rw [Hid, ← HOne.out (by rw [h2]; decide), h2]
              go_wp2_with fail
              refine HC.out.mono ?_
              rintro e w' ⟨rfl, q2, rfl⟩
              go_wp2_with fail
              go_quiet (fail)
              go_wp2
              go_ret
              exact ⟨ret_intF HN1.out, by first | exact below_drewN _ _ | (rw [World.drewN_drewN]; exact below_drewN _ _)⟩
            · have hxy' : a' < a := by omega
              have HS : Hid (cfr (flS fs) fs.length 0 = cfr (flS fs) (n - (k + 1)) (k + 1)) := HG.out.trans (cfr_ok hlt (flS_iff.2 ⟨Hc.out, fun ⟨_, h⟩ => by rw [Ha.out, show k - 1 = j by have := HJK.out; omega, Ha'.out] at h; omega⟩))
              go_wp2_with fail
              refine HC.out.mono ?_
              rintro e w' ⟨rfl, q2, rfl⟩
              go_wp2_with fail
              go_quiet (fail)
              go_wp2
              go_roundw
              case rel => exact ⟨k + 1, _, hlt, by go_num, HS.out, by first | rfl | exact (World.drewN_drewN ..)⟩
              case measure => simp [RowKit.intOf]; omega
        · have hc0b : (c == 0) = false := by simpa using hc0
          have HN1 : Hid (c = R) := by
            have h1 : flS fs k = c := by
              unfold flS
              rw [if_neg (by rw [Hc.out]; exact hc0), Hc.out]
            have h2 : cfr (flS fs) fs.length 0 = c := (HG.out.trans (cfr_no hlt (by rw [h1]; exact hc0))).trans h1
            rw [Hid, ← HOne.out (by rw [h2]; exact hc0), h2]
          go_wp2_with fail
          refine HC.out.mono ?_
          rintro e w' ⟨rfl, q2, rfl⟩
          go_wp2
          go_ret
          exact ⟨ret_intF HN1.out, by first | exact below_drewN _ _ | (rw [World.drewN_drewN]; exact below_drewN _ _)⟩
      · have hkn : k = n := by omega
        subst hkn
        have h0 : cfr (flS fs) fs.length 0 = 0 := HG.out.trans (cfr_end (Nat.lt_irrefl _))
        obtain ⟨h1, h2⟩ := cfl_iff.1 h0
        have hbl := blksF_len h1
        have HM := hide (srtF_map h1)
        have HT := hide (HTk.out h0)
        rw [HN.out] at hbl
        have HC := hide (sortedBlocksI (HV.out.later (below_drewN w q)) (by omega))
        clear h0 h1 h2 hbl
        go_wp2_with fail
        refine HC.out.mono ?_
        rintro e w' ⟨z, rfl, hb, ho⟩
        have HB := hide (below_on (below_drewN w q) hb)
        have HC2 := hide (implMapFault ho.rd)
        obtain ⟨F, hF⟩ : ∃ F, mapF (srtF fs) = F := ⟨_, rfl⟩
        rw [hF] at HM HC2
        obtain ⟨az, cz, rfl⟩ := ho.rd.shape
        clear hb ho hF
        by_cases hF0 : F = 0
        · subst hF0
          have HE : Hid ((0 : Int) = R) := by rw [Hid, ← HT.out, if_pos (HM.out.1 rfl)]
          go_wp2_with fail
          refine HC2.out.mono ?_
          rintro e w2 ⟨rfl, q2, rfl⟩
          go_wp2
          go_ret
          exact ⟨ret_intF HE.out, below_on HB.out (below_drewN _ _)⟩
        · have hFb : (F == 0) = false := by simpa using hF0
          have HE : Hid ((7 : Int) = R) := by rw [Hid, ← HT.out, if_neg (fun h => hF0 (HM.out.2 h))]
          go_wp2_with fail
          refine HC2.out.mono ?_
          rintro e w2 ⟨rfl, q2, rfl⟩
          go_wp2
          go_ret
          exact ⟨ret_intF HE.out, below_on HB.out (below_drewN _ _)⟩
end Go.Proofs.Ytoffjbpnggdgnaa
