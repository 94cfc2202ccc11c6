/- Fi4 Fi5 St1 in one text: what each says stands at its head below. -/
import Derived.Test.YtlmaopljihbdkaaGreatG32
import Derived.Test.YtlmaopljihbdkaaGreatG12
import Derived.Deep.AppendLies
import Derived.Test.YtlmaopljihbdkaaGreatG16
import Derived.Deep.RegionLaw
import Derived.Test.YtlmaopljihbdkaaGreatG17
import Derived.Test.YtlmaopljihbdkaaGreatG13
namespace Go.Proofs.YtlmaopljihbdkaaGreat
open Go.RowKit
theorem getD_at {xs : List Int} {j : Nat} (hj : j < xs.length) : xs.getD j 0 = xs[j] := by simp [List.getD, hj]
theorem blks_dup {fs : List Oj} {m j : Nat} {x : Int} (hm : m < fs.length) (hj : j < (fs.getD m oj0).2.2.length) (hx : (fs.getD m oj0).2.2.getD j 0 = x) (hin : x ∈ blksF (fs.take m) ++ (fs.getD m oj0).2.2.take j) : ¬ (blksF fs).Nodup := by
  intro h
  have e1 : fs = fs.take (m + 1) ++ fs.drop (m + 1) := (List.take_append_drop _ _).symm
  rw [e1, blksF_append, blks_take fs m hm] at h
  have h2 := (List.nodup_append.1 h).1
  have e2 : (fs.getD m oj0).2.2 = (fs.getD m oj0).2.2.take j ++ (fs.getD m oj0).2.2.drop j := (List.take_append_drop _ _).symm
  rw [e2, ← List.append_assoc] at h2
  have h3 := (List.nodup_append.1 h2).2.2 x hin x
  refine h3 ?_ rfl
  rw [List.drop_eq_getElem_cons hj]
  have : (fs.getD m oj0).2.2[j] = x := (getD_at hj).symm.trans hx
  rw [this]
  exact List.mem_cons_self
set_option maxHeartbeats 4000000 in
set_option maxRecDepth 4000 in
theorem specL8Fault {S : Nat → Prop} {w : World} {v : Value} {fs : List Oj} (hv : RdJ S w v fs) :
    Calls Tryz.prog 139 #[v] w fun e w' => e = .returned (.int .i64 (filF fs)) ∧ Below w.heap.size w w' := by
  obtain ⟨av, cv, rfl, hm⟩ := hv.shape
  have HV := hide hv
  obtain ⟨n, hn⟩ : ∃ n, fs.length = n := ⟨_, rfl⟩
  have HN := hide hn
  rw [hn] at HV hm ⊢
  clear hv hn
  obtain ⟨R, hR⟩ : ∃ R, filF fs = R := ⟨_, rfl⟩
  have HR := hide hR
  rw [hR]
  clear hR
  by_cases h4 : 4 < n
  · have h4' : (4 : Int) < (n : Int) := by omega
    have HE : Hid ((2 : Int) = R) := by rw [Hid, ← HR.out]; exact (filF_many (by rw [HN.out]; exact h4)).symm
    go_enter Tryz.func139, Tryz.ntmps139
    go_wp2
    go_ret
    exact ⟨ret_intF HE.out, Below.refl _ _⟩
  · have h4' : ¬ (4 : Int) < (n : Int) := by omega
    have HE0 := hide (show cfr (flS fs) fs.length 0 = cfr (flS fs) (n - 0) 0 by rw [HN.out]; rfl)
    have HOne := hide (fun (h : cfr (flS fs) fs.length 0 ≠ 0) => (filF_one (by rw [HN.out]; exact h4) h).symm.trans HR.out)
    have HTk := hide (fun (h : cfr (flS fs) fs.length 0 = 0) => (filF_tk (by rw [HN.out]; exact h4) h).symm.trans HR.out)
    go_enter Tryz.func139, Tryz.ntmps139
    go_wp2
    go_loopw [3] (fun i wr => ∃ (k q : Nat), k ≤ n ∧ i = .int .i64 k ∧ Hid (cfr (flS fs) fs.length 0 = cfr (flS fs) (n - k) k) ∧ wr = w.drewN q) (fun i _ => n - (RowKit.intOf i).toNat)
    case atStart => exact ⟨0, 0, Nat.zero_le _, rfl, HE0.out, rfl⟩
    case round =>
      obtain ⟨k, q, hk, rfl, HG, rfl⟩ := hrel
      by_cases hlt : k < n
      · obtain ⟨b, off, rfl, hfp⟩ := HV.out.file (k := k) (by rw [HN.out]; exact hlt)
        have HP := hide (hfp.later (below_drewN w q))
        have HC := hide (l8One HP.out)
        have hk0 : (0 : Int) ≤ (k : Int) := by omega
        have hk1 : (k : Int) < (n : Int) := by omega
        obtain ⟨y, g0, _⟩ := hfp
        obtain ⟨c, hc⟩ : ∃ c, oneF (fs.getD k oj0) = c := ⟨_, rfl⟩
        rw [hc] at HC
        have Hc := hide hc
        obtain ⟨a, ha⟩ : ∃ a, (fs.getD k oj0).1 = a := ⟨_, rfl⟩
        rw [ha] at g0
        have Ha := hide ha
        clear hc ha
        by_cases hc0 : c = 0
        · subst hc0
          by_cases hk0z : k = 0
          · subst hk0z
            have HS : Hid (cfr (flS fs) fs.length 0 = cfr (flS fs) (n - (0 + 1)) (0 + 1)) := HG.out.trans (cfr_ok hlt (flS_iff.2 ⟨Hc.out, fun h => by omega⟩))
            go_wp2_with fail
            refine HC.out.mono ?_
            rintro e w' ⟨rfl, q2, rfl⟩
            go_wp2_with fail
            go_quiet (fail)
            go_wp2
            go_roundw
            case rel => exact ⟨0 + 1, _, hlt, by go_num, HS.out, by first | rfl | exact (World.drewN_drewN ..)⟩
            case measure => simp [RowKit.intOf]; omega
          · obtain ⟨j, hjk⟩ : ∃ j, k = j + 1 := ⟨k - 1, by omega⟩
            obtain ⟨b', off', e', y', g0', _⟩ := HV.out.file (k := j) (by rw [HN.out]; omega)
            injection e' with e'
            injection e' with e1 e2
            subst e1 e2
            obtain ⟨a', ha'⟩ : ∃ a', (fs.getD j oj0).1 = a' := ⟨_, rfl⟩
            rw [ha'] at g0'
            have Ha' := hide ha'
            have hw1 : IntKind.i64.wrap ((k : Int) - 1) = (j : Int) := by simp [IntKind.wrap, IntKind.bits, IntKind.signed]; omega
            have hj0 : (0 : Int) < (k : Int) := by omega
            have hkp : 0 < k := by omega
            have hjp : (0 : Int) ≤ (j : Int) := by omega
            have hjn : (j : Int) < (n : Int) := by omega
            have HJK := hide hjk
            clear hk0z hjk ha'
            by_cases hxy : a ≤ a'
            · have HN1 : Hid ((1 : Int) = R) := by
                have h1 : flS fs k = 1 := by
                  unfold flS
                  rw [if_pos Hc.out, if_pos ⟨by have := HJK.out; omega, by rw [Ha.out, show k - 1 = j by have := HJK.out; omega, Ha'.out]; exact hxy⟩]
                have h2 : cfr (flS fs) fs.length 0 = 1 := (HG.out.trans (cfr_no hlt (by rw [h1]; decide))).trans h1
                rw [Hid, ← HOne.out (by rw [h2]; decide), h2]
              go_wp2_with fail
              refine HC.out.mono ?_
              rintro e w' ⟨rfl, q2, rfl⟩
              go_wp2_with fail
              go_quiet (fail)
              go_wp2
              go_ret
              exact ⟨ret_intF HN1.out, by first | exact below_drewN _ _ | (rw [World.drewN_drewN]; exact below_drewN _ _)⟩
            · have hxy' : a' < a := by omega
              have HS : Hid (cfr (flS fs) fs.length 0 = cfr (flS fs) (n - (k + 1)) (k + 1)) := HG.out.trans (cfr_ok hlt (flS_iff.2 ⟨Hc.out, fun ⟨_, h⟩ => by rw [Ha.out, show k - 1 = j by have := HJK.out; omega, Ha'.out] at h; omega⟩))
              go_wp2_with fail
              refine HC.out.mono ?_
              rintro e w' ⟨rfl, q2, rfl⟩
              go_wp2_with fail
              go_quiet (fail)
              go_wp2
              go_roundw
              case rel => exact ⟨k + 1, _, hlt, by go_num, HS.out, by first | rfl | exact (World.drewN_drewN ..)⟩
              case measure => simp [RowKit.intOf]; omega
        · have hc0b : (c == 0) = false := by simpa using hc0
          have HN1 : Hid (c = R) := by
            have h1 : flS fs k = c := by
              unfold flS
              rw [if_neg (by rw [Hc.out]; exact hc0), Hc.out]
            have h2 : cfr (flS fs) fs.length 0 = c := (HG.out.trans (cfr_no hlt (by rw [h1]; exact hc0))).trans h1
            rw [Hid, ← HOne.out (by rw [h2]; exact hc0), h2]
          go_wp2_with fail
          refine HC.out.mono ?_
          rintro e w' ⟨rfl, q2, rfl⟩
          go_wp2
          go_ret
          exact ⟨ret_intF HN1.out, by first | exact below_drewN _ _ | (rw [World.drewN_drewN]; exact below_drewN _ _)⟩
      · have hkn : k = n := by omega
        subst hkn
        have h0 : cfr (flS fs) fs.length 0 = 0 := HG.out.trans (cfr_end (Nat.lt_irrefl _))
        obtain ⟨h1, h2⟩ := cfl_iff.1 h0
        have hbl := blksF_len h1
        rw [HN.out] at hbl
        have hbl' : (blksF fs).length ≤ 20 := by omega
        have HT := hide (HTk.out h0)
        obtain ⟨i0, hi, hz0, hz1, hz2⟩ := info_parts Tryz.infoInt
        clear h0 h1 h2 hbl HTk HOne HG HE0
        have HV1 := hide (HV.out.later (below_drewN w q))
        have HB0 := hide (below_on (below_drewN w q) (below_alloc (w.drewN q) (.cells #[] 2)))
        have HRow0 : Hid (((w.drewN q).alloc (.cells #[] 2)).ownsRow w.heap.size 2 1 (.slice (some ⟨w.heap.size, 0, none⟩) 0 0) 0 []) := by
          have h := World.ownsRow_made (w.drewN q) (e := 2) (size := 1) #[] 0 (Nat.le_refl _) (by unfold maxLen; omega) (by simp)
          exact h
        go_wp2
        go_loopw [5, 6] (fun v i wr => ∃ (m l : Nat), m ≤ k ∧ i = .int .i64 m ∧ Hid ((blksF (fs.take m)).length = l) ∧ Hid (blksF (fs.take m)).Nodup ∧ Hid (wr.ownsRow w.heap.size 2 1 v l ((blksF (fs.take m)).map (Value.int .i64))) ∧ Hid (Below w.heap.size w wr)) (fun _ i _ => k - (RowKit.intOf i).toNat)
        case atStart => exact ⟨0, 0, Nat.zero_le _, rfl, rfl, List.nodup_nil, HRow0.out, HB0.out⟩
        case round =>
          clear HRow0 HB0
          obtain ⟨m, l, hmk, rfl, HLn, HNd, HRow, HB⟩ := hrel
          by_cases hltm : m < k
          · obtain ⟨b, off, rfl, y, q0, q1, q2, q3⟩ := HV.out.file (k := m) (by rw [HN.out]; exact hltm)
            have HSn := hide (blks_take fs m (by rw [HN.out]; exact hltm))
            have hfull := blks_take_len fs (m + 1)
            have HDup := hide (fun (j : Nat) (x : Int) (hj : j < (fs.getD m oj0).2.2.length) (hx : (fs.getD m oj0).2.2.getD j 0 = x) (hin : x ∈ blksF (fs.take m) ++ (fs.getD m oj0).2.2.take j) => blks_dup (fs := fs) (by rw [HN.out]; exact hltm) hj hx hin)
            obtain ⟨xs, hxs⟩ : ∃ xs, (fs.getD m oj0).2.2 = xs := ⟨_, rfl⟩
            rw [hxs] at q3 HSn HDup
            obtain ⟨P, hP⟩ : ∃ P, blksF (fs.take m) = P := ⟨_, rfl⟩
            rw [hP] at HLn HNd HRow HSn HDup
            rw [HSn.out, List.length_append, HLn.out] at hfull
            obtain ⟨a3, c3, rfl⟩ := q3.shape
            obtain ⟨lx, hlx⟩ : ∃ lx, xs.length = lx := ⟨_, rfl⟩
            rw [hlx] at q2 q3 hfull
            have HLx := hide hlx
            have HQ3 := hide q3
            have HQ2 := hide q2
            have hm0 : (0 : Int) ≤ (m : Int) := by omega
            have hm1 : (m : Int) < (k : Int) := by omega
            clear q0 q1 q2 q3 hxs hP hlx
            have HR0 : Hid (wr.ownsRow w.heap.size 2 1 u5 (l + 0) ((P ++ xs.take 0).map (Value.int .i64))) := by rw [Hid]; simpa using HRow.out
            have HD0 : Hid (P ++ xs.take 0).Nodup := by rw [Hid]; simpa using HNd.out
            go_wp2
            go_loopw [5, 7] (fun v i wr => ∃ (j : Nat), j ≤ lx ∧ i = .int .i64 j ∧ Hid (P ++ xs.take j).Nodup ∧ Hid (wr.ownsRow w.heap.size 2 1 v (l + j) ((P ++ xs.take j).map (Value.int .i64))) ∧ Hid (Below w.heap.size w wr)) (fun _ i _ => lx - (RowKit.intOf i).toNat)
            case atStart => exact ⟨0, Nat.zero_le _, rfl, HD0.out, HR0.out, HB.out⟩
            case round =>
              clear HR0 HD0 HRow HNd HB
              obtain ⟨j, hj, rfl, HD, HRow, HB⟩ := hrel
              have q2 := cell_later HB.out HQ2.out
              have hzz := HB.out.size
              by_cases hltj : j < lx
              · obtain ⟨b3, off3, rfl, q4⟩ := HQ3.out.at (k := j) (by rw [HLx.out]; exact hltj)
                have q5 := cell_later HB.out q4
                have HTk := hide (show xs.take (j + 1) = xs.take j ++ [xs.getD j 0] by rw [List.take_succ_eq_append_getElem (by rw [HLx.out]; exact hltj)]; simp [List.getD, show j < xs.length by rw [HLx.out]; exact hltj])
                have HDx := hide (fun x hx hin => HDup.out j x (by rw [HLx.out]; exact hltj) hx hin)
                obtain ⟨x, hx⟩ : ∃ x, xs.getD j 0 = x := ⟨_, rfl⟩
                rw [hx] at q5 HTk
                have HX := hide hx
                clear q4 hx
                have hj0 : (0 : Int) ≤ (j : Int) := by omega
                have hj1 : (j : Int) < (lx : Int) := by omega
                obtain ⟨av5, cv5, hv5⟩ := owns_shapeM HRow.out
                subst hv5
                have HPl : Hid ((P ++ xs.take j).length = l + j) := by rw [Hid, List.length_append, HLn.out, List.length_take, HLx.out]; omega
                have HC := hide (l7Among x (ow_of_owns HPl.out HRow.out (by rw [HPl.out]; omega)).rd)
                by_cases hin : x ∈ P ++ xs.take j
                · rw [decide_eq_true hin] at HC
                  have HE : Hid ((7 : Int) = R) := by rw [Hid, ← HT.out, if_neg (HDx.out x HX.out hin)]
                  clear hin
                  go_wp2_with fail
                  refine HC.out.mono ?_
                  rintro e w' ⟨hw, rfl⟩
                  have hw := hw.symm
                  subst hw
                  go_wp2
                  go_ret
                  exact ⟨ret_intF HE.out, HB.out⟩
                · rw [decide_eq_false hin] at HC
                  have HD' : Hid (P ++ xs.take (j + 1)).Nodup := by
                    rw [Hid, HTk.out, ← List.append_assoc]
                    exact List.nodup_append.2 ⟨HD.out, by simp, fun a ha b hb => by simp at hb; subst hb; rintro rfl; exact hin ha⟩
                  clear hin
                  go_wp2_with fail
                  refine HC.out.mono ?_
                  rintro e w' ⟨hw, rfl⟩
                  have hw := hw.symm
                  subst hw
                  go_wp2_with (at_builtin; refine wpList_append_lies _ rfl _ _ _ rfl w.heap.size 2 i0 (.int .i64 0) 1 8 Tryz.underlying22 hi hz0 hz1 hz2 rfl (by omega) _ (l + j) _ (by rfl) (HRow.out.alloc (.cells #[.int .i64 x] 2)) ⟨wr.heap.size, 0, none⟩ 1 1 [.int .i64 x] (by rfl) (by rfl) (World.news_of_block (cs := #[.int .i64 x]) (t := 2) (fr := (0, 0)) (heap_alloc_new wr _)) (by simp [Value.oneCell']) (by omega) (by unfold maxLen; omega) (by omega) (by simp; omega) (wr.heap.size + 1) (by simp) ?_; intro g cap w4 hown3 hgrow hat hlt3)
                  have HRow4 : Hid (w4.ownsRow w.heap.size 2 1 (.slice (some ⟨g, 0, none⟩) (l + j + 1) cap) (l + (j + 1)) ((P ++ xs.take (j + 1)).map (Value.int .i64))) := by
                    rw [Hid, HTk.out, ← Nat.add_assoc]
                    simpa using hown3
                  have HB4 := hide ((below_on HB.out (below_alloc wr (.cells #[.int .i64 x] 2))).grown hgrow (by simp; omega) (fun r hr => (HRow.out.lt r hr).1))
                  clear hown3 hgrow hat hlt3
                  go_wp2
                  go_roundw
                  case rel => exact ⟨j + 1, by omega, by go_num, HD'.out, HRow4.out, HB4.out⟩
                  case measure => simp [RowKit.intOf]; omega
              · have hjx : j = lx := by omega
                subst hjx
                have hT : xs.take j = xs := List.take_of_length_le (by rw [HLx.out]; exact Nat.le_refl _)
                rw [hT, ← HSn.out] at HD HRow
                have HLn2 : Hid ((blksF (fs.take (m + 1))).length = l + j) := by rw [Hid, HSn.out, List.length_append, HLn.out, HLx.out]
                go_wp2
                go_roundw
                case rel => exact ⟨m + 1, l + j, by omega, by go_num, HLn2.out, HD.out, HRow.out, HB.out⟩
                case measure => simp [RowKit.intOf]; omega
          · have hmm : m = k := by omega
            subst hmm
            have HE : Hid ((0 : Int) = R) := by
              rw [Hid, ← HT.out, if_pos]
              have := HNd.out
              rwa [List.take_of_length_le (by rw [HN.out]; exact Nat.le_refl _)] at this
            go_wp2
            go_ret
            exact ⟨ret_intF HE.out, HB.out⟩
end Go.Proofs.YtlmaopljihbdkaaGreat
namespace Go.Proofs.YtlmaopljihbdkaaGreat
open Go.RowKit
def bdF : List Oj → List Int
  | [] => []
  | p :: r => p.1 :: p.2.1 :: (p.2.2 ++ bdF r)
theorem bdF_snoc : ∀ (fs : List Oj) (p : Oj), bdF (fs ++ [p]) = bdF fs ++ ([p.1, p.2.1] ++ p.2.2)
  | [], p => by simp [bdF]
  | q :: r, p => by simp [bdF, bdF_snoc r p]
def pkF (fs : List Oj) : List Int := (fs.length : Int) :: bdF fs
theorem bdF_len : ∀ (fs : List Oj), (bdF fs).length = (blksF fs).length + 2 * fs.length
  | [] => rfl
  | p :: r => by simp [bdF, blksF, bdF_len r]; omega
def pkTo (n : Nat) (fs : List Oj) (k : Nat) : List Int := (n : Int) :: bdF (fs.take k)
theorem pkTo_succ (n : Nat) (fs : List Oj) (k : Nat) (h : k < fs.length) : pkTo n fs (k + 1) = pkTo n fs k ++ [(fs.getD k oj0).1, (fs.getD k oj0).2.1] ++ (fs.getD k oj0).2.2 := by
  unfold pkTo
  rw [List.take_succ_eq_append_getElem h, bdF_snoc]
  simp [List.getD, h]
theorem pkTo_len (n : Nat) (fs : List Oj) (k : Nat) (hk : k ≤ fs.length) : (pkTo n fs k).length ≤ (pkF fs).length := by
  unfold pkTo pkF
  simp only [List.length_cons, bdF_len, List.length_take]
  have := blks_take_len fs k
  omega
theorem pkTo_all {n : Nat} {fs : List Oj} (h : fs.length = n) : pkTo n fs n = pkF fs := by unfold pkTo pkF; rw [← h]; simp
theorem pkF_small {fs : List Oj} (h : filF fs = 0) : (pkF fs).length ≤ 29 := by
  have hi := filF_iff.1 h
  have h1 := blksF_len hi.one
  have h2 := hi.len
  unfold pkF
  simp only [List.length_cons, bdF_len]
  omega
def pdR (fs : List Oj) : List Int := if filF fs = 0 then pkF fs else []
def pdC (fs : List Oj) : Int := filF fs
set_option maxHeartbeats 4000000 in
set_option maxRecDepth 4000 in
theorem implPackDir {S : Nat → Prop} {w : World} {v : Value} {fs : List Oj} (hv : RdJ S w v fs) :
    Calls Tryz.prog 131 #[v] w (EndsI (pdC fs) (pdR fs) w) := by
  obtain ⟨av, cv, rfl, hm⟩ := hv.shape
  have HV := hide hv
  obtain ⟨n, hn⟩ : ∃ n, fs.length = n := ⟨_, rfl⟩
  have HN := hide hn
  rw [hn] at HV hm ⊢
  clear hv hn
  unfold pdC pdR
  obtain ⟨z, hz⟩ : ∃ z, filF fs = z := ⟨_, rfl⟩
  have HZ := hide hz
  rw [hz]
  clear hz
  have HC := hide (implFilesFault (HV.out.later (below_alloc w (.cells #[.int .i64 0, .slice none 0 0] 166))))
  rw [HZ.out] at HC
  by_cases h0 : z = 0
  · subst h0
    rw [if_pos rfl]
    have hsm := pkF_small HZ.out
    obtain ⟨i0, hi, hz0, hz1, hz2⟩ := info_parts Tryz.infoInt
    have HAll := hide (pkTo_all HN.out)
    have HLs := hide (fun k hk => pkTo_len n fs k hk)
    obtain ⟨R, hR⟩ : ∃ R, pkF fs = R := ⟨_, rfl⟩
    rw [hR] at HAll HLs hsm ⊢
    clear hR
    go_enter Tryz.func131, Tryz.ntmps131
    go_wp2_with fail
    refine HC.out.mono ?_
    rintro e w1 ⟨rfl, hb⟩
    have HRs := hide ((ResF.start w 166).later hb)
    clear hb HC
    have hw1 := HRs.out.lt
    have HRow0 : Hid ((w1.alloc (.cells #[.int .i64 (n : Int)] 2)).ownsRow w1.heap.size 2 1 (.slice (some ⟨w1.heap.size, 0, none⟩) 1 1) 1 ((pkTo n fs 0).map (Value.int .i64))) :=
      ownsRow_fullF w1 [.int .i64 (n : Int)] 2 (by simp)
    have HB0 := hide (below_alloc w1 (.cells #[.int .i64 (n : Int)] 2))
    go_wp2
    go_loopw [4, 18] (fun v i wr => ∃ (k j : Nat), k ≤ n ∧ i = .int .i64 k ∧ Hid ((pkTo n fs k).length = j) ∧ Hid (wr.ownsRow w1.heap.size 2 1 v j ((pkTo n fs k).map (Value.int .i64))) ∧ Hid (Below w1.heap.size w1 wr)) (fun _ i _ => n - (RowKit.intOf i).toNat)
    case atStart => exact ⟨0, 1, Nat.zero_le _, rfl, rfl, HRow0.out, HB0.out⟩
    case round =>
      clear HRow0 HB0
      obtain ⟨k, j, hk, rfl, HJ, HRow, HB⟩ := hrel
      by_cases hlt : k < n
      · obtain ⟨b, off, rfl, y, q0, q1, q2, q3⟩ := HV.out.file (k := k) (by rw [HN.out]; exact hlt)
        have HSn := hide (pkTo_succ n fs k (by rw [HN.out]; exact hlt))
        have hjl : j + 2 + (fs.getD k oj0).2.2.length ≤ 29 := by
          have h1 := HLs.out (k + 1) (by rw [HN.out]; exact hlt)
          rw [HSn.out] at h1
          simp only [List.length_append, HJ.out, List.length_cons, List.length_nil] at h1
          omega
        obtain ⟨p, hp⟩ : ∃ p, fs.getD k oj0 = p := ⟨_, rfl⟩
        rw [hp] at q0 q1 q3 HSn hjl
        obtain ⟨a, s, xs⟩ := p
        dsimp only at q0 q1 q3 HSn hjl
        have hB2 := below_on HRs.out.below HB.out
        have g0 := cell_later hB2 q0
        have g1 := cell_later hB2 q1
        have g2 := cell_later hB2 q2
        obtain ⟨a3, c3, rfl⟩ := q3.shape
        obtain ⟨l, hl⟩ : ∃ l, xs.length = l := ⟨_, rfl⟩
        rw [hl] at g2 q3 hjl
        have HQ3 := hide q3
        have HL := hide hl
        have hzz := HB.out.size
        clear hp q0 q1 q2 q3 hl hB2
        have hk0 : (0 : Int) ≤ (k : Int) := by omega
        have hk1 : (k : Int) < (n : Int) := by omega
        obtain ⟨P, hP⟩ : ∃ P, pkTo n fs k = P := ⟨_, rfl⟩
        rw [hP] at HJ HRow HSn
        clear hP
        have bA := below_alloc wr (.cells #[.int .i64 a, .int .i64 s, .slice a3 l c3] 114)
        have HBa := hide (below_on HB.out bA)
        have HRowA := hide (ownsRow_later HRow.out bA)
        have HRlt := hide (fun r hr => HRow.out.lt r hr)
        clear bA HRow HB
        have HPk : Hid (∀ (cap g : Nat) (w4 : World), w4.ownsRow w1.heap.size 2 1 (.slice (some ⟨g, 0, none⟩) (j + 2) cap) (j + 2) (P.map (Value.int .i64) ++ [.int .i64 a, .int .i64 s]) → ((wr.alloc (.cells #[.int .i64 a, .int .i64 s, .slice a3 l c3] 114)).alloc (.cells #[.int .i64 a, .int .i64 s] 2)).grownBy w4 u4.ownBlock →
            w4.cell? ⟨wr.heap.size, 2, none⟩ = some (.slice a3 l c3) ∧ Below w1.heap.size w1 w4 ∧ w1.heap.size ≤ w4.heap.size ∧ (l ≠ 0 → ∃ ad, a3 = some ad ∧ ∀ j u, (xs.map (Value.int .i64))[j]? = some u → w4.cell? (ad.add j) = some u)) := by
          intro cap g w4 hown3 hgrow
          have bB := below_alloc (wr.alloc (.cells #[.int .i64 a, .int .i64 s, .slice a3 l c3] 114)) (.cells #[.int .i64 a, .int .i64 s] 2)
          have d2 : w4.cell? ⟨wr.heap.size, 2, none⟩ = some (.slice a3 l c3) := (hgrow.cell_far ⟨wr.heap.size, 2, none⟩ (by simp; omega) (fun e => by have := (HRlt.out _ e.symm).2; dsimp only at this; omega)).trans (cell_later bB (by simp [go_sem]))
          have HB4 := (below_on HBa.out bB).grown hgrow (by simp; omega) (fun r hr => (HRlt.out r hr).1)
          obtain ⟨a4, c4, e4, hsrc⟩ := (HQ3.out.later (below_on HRs.out.below HB4)).src
          injection e4 with e5 _ e6
          subst e5
          rw [HL.out] at hsrc
          exact ⟨d2, HB4, HB4.size, hsrc⟩
        go_wp2_with (first
          | (at_builtin; refine wpList_append_any _ rfl _ _ 22 rfl w1.heap.size 2 i0 (.int .i64 0) 1 8 Tryz.underlying22 hi hz0 hz1 hz2 rfl (by decide) _ (j + 2) _ (by rfl) HRow4.out a3 l c3 (xs.map (Value.int .i64)) (by rfl) (by simp [HL.out]) HS.out (ints_oneCell _ _) (by unfold maxLen; omega) (by omega) (by omega) ?_; intro v' w5 hown hgrow)
          | (at_builtin; refine wpList_append_lies _ rfl _ _ _ rfl w1.heap.size 2 i0 (.int .i64 0) 1 8 Tryz.underlying22 hi hz0 hz1 hz2 rfl (by omega) _ j _ (by rfl) (HRowA.out.alloc (.cells #[.int .i64 a, .int .i64 s] 2)) ⟨wr.heap.size + 1, 0, none⟩ 2 2 [.int .i64 a, .int .i64 s] (by rfl) (by rfl) (by have h := World.news_of_block (cs := #[.int .i64 a, .int .i64 s]) (t := 2) (fr := (0, 0)) (heap_alloc_new (wr.alloc (.cells #[.int .i64 a, .int .i64 s, .slice a3 l c3] 114)) (.cells #[.int .i64 a, .int .i64 s] 2)); simpa using h) (by simp [Value.oneCell']) (by omega) (by unfold maxLen; omega) (by omega) (by simp; omega) (wr.heap.size + 1 + 1) (by simp) ?_; intro g cap w4 hown3 hgrow3 hat hlt3; obtain ⟨d2, hb4, hz4, hsrc⟩ := HPk.out cap g w4 hown3 hgrow3; have HB4 := hide hb4; have HS := hide hsrc; have HRow4 := hide hown3; clear hown3 hgrow3 hat hlt3 hb4 hsrc HPk))
        have HRow5 : Hid (w5.ownsRow w1.heap.size 2 1 v' (j + 2 + l) ((pkTo n fs (k + 1)).map (Value.int .i64))) := by
          rw [Hid, HSn.out, List.map_append, List.map_append]
          exact hown
        have HB5 := hide (HB4.out.grown hgrow (by omega) (fun r hr => (HRow4.out.lt r hr).1))
        have HJ5 : Hid ((pkTo n fs (k + 1)).length = j + 2 + l) := by rw [Hid, HSn.out, List.length_append, List.length_append, HJ.out, HL.out]; rfl
        clear hown hgrow
        go_wp2
        go_roundw
        case rel => exact ⟨k + 1, j + 2 + l, by omega, by go_num, HJ5.out, HRow5.out, HB5.out⟩
        case measure => simp [RowKit.intOf]; omega
      · have hkn : k = n := by omega
        subst hkn
        rw [HAll.out] at HJ HRow
        obtain ⟨az, cz, hz⟩ := owns_shapeM HRow.out
        subst hz
        have hO := ow_of_owns HJ.out HRow.out (by omega)
        have HRs2 := hide (HRs.out.later HB.out)
        have HFn := hide (ret_ints (x := .int .i64 0) HRs2.out.below (Nat.le_refl _) hO hw1)
        have c0 := HRs2.out.c0
        have c1 := HRs2.out.c1
        have F0 := HRs2.out.fr 0
        have F1 := HRs2.out.fr 1
        clear hO
        go_wp2
        refine bodyPost_ret (v := .agg #[.int .i64 0, .slice az j cz]) (by simp [results, Tryz.results131, go_sem, c0, c1]) rfl ⟨_, rfl, HFn.out.1, HFn.out.2⟩
  · rw [if_neg h0]
    have h0b : (z == 0) = false := by simpa using h0
    go_enter Tryz.func131, Tryz.ntmps131
    go_wp2_with fail
    refine HC.out.mono ?_
    rintro e w1 ⟨rfl, hb⟩
    have HRs := hide ((ResF.start w 166).later hb)
    have c0 := HRs.out.c0
    have c1 := HRs.out.c1
    have F0 := HRs.out.fr 0
    have F1 := HRs.out.fr 1
    clear hb
    go_wp2
    refine bodyPost_ret (v := .agg #[.int .i64 z, .slice none 0 0]) (by simp [results, Tryz.results131, go_sem, c0, c1]) rfl ⟨_, rfl, HRs.out.shut _ _, OwI_nil _ _⟩
end Go.Proofs.YtlmaopljihbdkaaGreat
namespace Go.Proofs.YtlmaopljihbdkaaGreat
open Go.RowKit Go.Shelf
attribute [local go_sem] Oper.semAt_some
def meP (r : Rf) : List (Int × List Int) := [(2, [r.tm, r.vt, r.si, r.st, (r.lg.length : Int)])]
def flP (r : Rf) : List (Int × List Int) := if sfL r = [] then [] else [(0, pmR (sbL r)), (1, pdR (sfL r))]
def enP (r : Rf) : List (Int × List Int) := r.lg.map fun p => (sfV p.1, peR p)
theorem Tryz.fldIs1 (x y : Value) (w : World) : (Instr.field 166 (.agg #[x, y]) 1).run Tryz.prog w = .ok y w := by
  simp [Instr.field, run_underlying Tryz.underlying166, asAgg, part, isAgg, run_underlying Tryz.underlying22]
theorem Tryz.fldIr1 (x y : Value) (w : World) : (Instr.field 142 (.agg #[x, y]) 1).run Tryz.prog w = .ok y w := by
  simp [Instr.field, run_underlying Tryz.underlying142, asAgg, part, isAgg, run_underlying Tryz.underlying2]
theorem ow_five {w : World} {a b c d e : Int} : OwI w.heap.size (w.alloc (.cells #[.int .i64 a, .int .i64 b, .int .i64 c, .int .i64 d, .int .i64 e] 2)) (.slice (some ⟨w.heap.size, 0, none⟩) 5 5) [a, b, c, d, e] := by
  refine ⟨w.heap.size, ⟨_, 0, rfl, by simp, fun _ => ⟨w.heap.size, 0, rfl, rfl, fun i hi => ?_⟩⟩, fun _ => ⟨Nat.le_refl _, by simp, fun o => by simp [go_sem]⟩⟩
  have : i < 5 := by simpa using hi
  rcases (by omega : i = 0 ∨ i = 1 ∨ i = 2 ∨ i = 3 ∨ i = 4) with rfl | rfl | rfl | rfl | rfl <;> simp [go_sem]
set_option maxRecDepth 100000 in
set_option maxHeartbeats 4000000 in
theorem metaSeq {w : World} {Bp : Nat} {az : Option Addr} {cz : Nat} (r : Rf) (v0 : w.cell? ⟨Bp, 0, none⟩ = some (.int .i64 r.tm)) (v1 : w.cell? ⟨Bp, 1, none⟩ = some (.int .i64 r.vt)) (v2 : w.cell? ⟨Bp, 2, none⟩ = some (.int .i64 r.si)) (v3 : w.cell? ⟨Bp, 3, none⟩ = some (.int .i64 r.st)) (v5 : w.cell? ⟨Bp, 5, none⟩ = some (.slice az r.lg.length cz)) (R : Nat → Prop) (m : Nat) :
    SeqG m Tryz.prog 132 #[.pointer (some ⟨Bp, 0, none⟩)] R (meP r) w := fun l J Jx D0 W hW _ hJ hJx _ _ hJb hY h0 => by
  have u0 := cell_later hW v0
  have u1 := cell_later hW v1
  have u2 := cell_later hW v2
  have u3 := cell_later hW v3
  have u5 := cell_later hW v5
  obtain ⟨fn, tmps, assign, body, hyy0, hR⟩ := hY D0 0 2 _ W _ h0 (below_alloc _ _) (by simp [meP]) (by simp [meP]) (by simpa [meP] using ow_five (w := W) (a := r.tm) (b := r.vt) (c := r.si) (d := r.st) (e := (r.lg.length : Int)))
  have hyy : (Instr.yield l #[.agg #[.int .i64 2, .slice (some ⟨W.heap.size, 0, none⟩) 5 5]]).run Tryz.prog (W.alloc (.cells #[.int .i64 r.tm, .int .i64 r.vt, .int .i64 r.si, .int .i64 r.st, .int .i64 (r.lg.length : Int)] 2)) = .ok (.round l fn tmps assign body) (W.alloc (.cells #[.int .i64 r.tm, .int .i64 r.vt, .int .i64 r.si, .int .i64 r.st, .int .i64 (r.lg.length : Int)] 2)) := hyy0
  clear hyy0 hY hJ hJx hJb h0 hW v0 v1 v2 v3 v5
  refine callsIn_of_wp Tryz.func132 rfl trivial ?_ rfl
  simp only [Tryz.ntmps132, List.size_toArray, List.length_cons, List.length_nil, Nat.reduceAdd, Nat.reduceSub, Array.replicate_succ, Array.replicate_zero, List.push_toArray, List.append_toArray, List.nil_append, List.cons_append]
  gi_wp2
  refine ⟨fun h => by simp [Fence.wide] at h, hR.mono ?_⟩
  rintro e W3 (⟨rfl, D', hJ3, hk3, hD3⟩ | ⟨rfl, hJx3, _⟩)
  · have HJ3 := hide hJ3
    clear hJ3 hk3 hD3
    gi_wp2
    go_end0
    exact ⟨⟨_, rfl⟩, .inl ⟨D', HJ3.out⟩⟩
  · have HJ3 := hide hJx3
    clear hJx3
    gi_wp2
    go_end0
    exact ⟨⟨_, rfl⟩, .inr HJ3.out⟩
theorem RdI.capW {S : Nat → Prop} {w : World} {v : Value} {xs : List Int} (h : RdI S w v xs) : capE v := by
  obtain ⟨ao, c, rfl, _⟩ := h
  exact Nat.le_add_right _ _
theorem OwJ.ku {S D : Nat → Prop} {w w' : World} {v : Value} {fs : List Oj} (h : OwJ S w v fs) (hw : Ku D w w') (hd : ∀ b, S b → ¬ D b) : RdJ S w' v fs := by
  obtain ⟨ao, c, e1, e2, e3⟩ := h.rd
  refine ⟨ao, c, e1, e2, fun hne => ?_⟩
  obtain ⟨b, off, V, f1, f2, f3⟩ := e3 hne
  exact ⟨b, off, V, f1, f2, fun i hi => ⟨hw.cell (f3 i hi).1 (hd b f2), hw.cell (f3 i hi).2.1 (hd b f2), hw.cell (f3 i hi).2.2.1 (hd b f2), (f3 i hi).2.2.2.ku hw (fun _ => hd)⟩⟩
theorem RdJ.ku {S D : Nat → Prop} {w w' : World} {v : Value} {fs : List Oj} (h : RdJ S w v fs) (hw : Ku D w w') (hd : ∀ b, S b → ¬ D b) : RdJ S w' v fs := by
  obtain ⟨ao, c, e1, e2, e3⟩ := h
  refine ⟨ao, c, e1, e2, fun hne => ?_⟩
  obtain ⟨b, off, V, f1, f2, f3⟩ := e3 hne
  exact ⟨b, off, V, f1, f2, fun i hi => ⟨hw.cell (f3 i hi).1 (hd b f2), hw.cell (f3 i hi).2.1 (hd b f2), hw.cell (f3 i hi).2.2.1 (hd b f2), (f3 i hi).2.2.2.ku hw (fun _ => hd)⟩⟩
set_option maxRecDepth 100000 in
set_option maxHeartbeats 4000000 in
theorem fileSeq {S T : Nat → Prop} {w : World} {Bp : Nat} {y z : Value} (r : Rf) (v0 : w.cell? ⟨Bp, 0, none⟩ = some (.int .i64 r.tm)) (v1 : w.cell? ⟨Bp, 1, none⟩ = some (.int .i64 r.vt)) (v2 : w.cell? ⟨Bp, 2, none⟩ = some (.int .i64 r.si)) (v3 : w.cell? ⟨Bp, 3, none⟩ = some (.int .i64 r.st)) (v4 : w.cell? ⟨Bp, 4, none⟩ = some y) (v5 : w.cell? ⟨Bp, 5, none⟩ = some z)
    (hy : RdI S w y r.sn) (hz : RdJ T w z r.lg) (hl : r.sn.length ≤ 40) (R : Nat → Prop) (m : Nat) :
    SeqG m Tryz.prog 127 #[.pointer (some ⟨Bp, 0, none⟩)] R (flP r) w := fun l J Jx D0 W hW _ hJ hJx _ _ hJb hY h0 => by
  obtain ⟨ay, cy, rfl⟩ := hy.shape
  obtain ⟨az, cz, rfl, _⟩ := hz.shape
  have u0 := cell_later hW v0
  have u1 := cell_later hW v1
  have u2 := cell_later hW v2
  have u3 := cell_later hW v3
  have u4 := cell_later hW v4
  have u5 := cell_later hW v5
  have HF := hide (snapFilesI r (hy.later hW) (hz.later hW) hl)
  have HSrt := hide (srt_snap r)
  have hbl : (blksF (sfL r)).length ≤ 1048576 := by
    rw [← srtF_len, srt_snap r]
    have := (sbL_some hl).1
    omega
  have HBl := hide hbl
  have HJ := hide hJ
  have HJb := hide (hJb _ _ _ h0)
  have HYd := hide hY
  have H0 := hide h0
  have fld := Tryz.fldIs1
  clear v0 v1 v2 v3 v4 v5 hy hz hW hbl hJ hJx hJb hY h0 hl
  refine callsIn_of_wp Tryz.func127 rfl trivial ?_ rfl
  simp only [Tryz.ntmps127, List.size_toArray, List.length_cons, List.length_nil, Nat.reduceAdd, Nat.reduceSub, Array.replicate_succ, Array.replicate_zero, List.push_toArray, List.append_toArray, List.nil_append, List.cons_append]
  gi_wp2
  refine ⟨trivial, fun h => (by simp [Fence.wide] at h), (callsIn_wide.2 HF.out).mono ?_⟩
  rintro e w1 ⟨f1, rfl, hb1, ho1⟩
  have HO1 := hide ho1
  have HB1 := hide hb1
  obtain ⟨a1, c1, rfl, _⟩ := ho1.rd.shape
  obtain ⟨nf, hnf⟩ : ∃ n, (sfL r).length = n := ⟨_, rfl⟩
  rw [hnf] at HO1 ⊢
  have hs1 := hb1.size
  clear u0 u1 u2 u3 u4 u5 HF ho1 hb1
  by_cases h0 : sfL r = []
  · have hn0 : nf = 0 := by rw [← hnf, h0]; rfl
    subst hn0
    have HJ1 := hide (HJ.out _ _ _ _ H0.out HB1.out)
    have hfl : (flP r).length = 0 := by unfold flP; rw [if_pos h0]; rfl
    gi_wp2
    refine bodyPost_ret (results_none rfl _ _ _) rfl ?_
    exact ⟨⟨_, rfl⟩, .inl ⟨D0, by rw [hfl]; exact HJ1.out⟩⟩
  · have hn1 : nf ≠ 0 := by rw [← hnf]; intro h; exact h0 (List.length_eq_zero_iff.1 h)
    have hn1i : ¬ (nf : Int) = 0 := by omega
    have hfl : flP r = [(0, pmR (sbL r)), (1, pdR (sfL r))] := by unfold flP; rw [if_neg h0]
    rw [hfl] at HYd
    clear hnf
    gi_wp2_with (first
      | (refine ⟨trivial, fun h => (by simp [Fence.wide] at h), ?_⟩; gi_at_call 130; refine (callsIn_wide.2 (sortedBlocksI HO1.out.rd HBl.out)).mono ?_; rintro e w2 ⟨f2, rfl, hb2, ho2⟩; rw [HSrt.out] at ho2; obtain ⟨a2, c2, rfl⟩ := ho2.shape; have HO2 := hide ho2; have HB2 := hide (below_on HB1.out hb2); have hs2 := hb2.size; have HOf := hide (HO1.out.laterR hb2); clear hb2 ho2)
      | (refine ⟨trivial, fun h => (by simp [Fence.wide] at h), ?_⟩; gi_at_call 129; obtain ⟨_, hrb, _⟩ := HO2.out; refine (callsIn_wide.2 (implPackMap hrb)).mono ?_; rintro e w3 ⟨f3, rfl, hb3, ho3⟩; have hs3 := hb3.size; have HB3 := hide (below_on HB2.out hb3); have HOg := hide (HOf.out.laterR hb3); obtain ⟨a3, c3, hz3⟩ := ho3.shape; obtain ⟨n3, hn3⟩ : ∃ n, (pmR (sbL r)).length = n := ⟨_, rfl⟩; rw [hn3] at hz3; subst hz3; clear hn3; obtain ⟨fn, tmps, assign, body, hyy0, hR⟩ := HYd.out D0 0 0 _ W w3 H0.out HB3.out (by simp) (by simp) (by simpa using ho3.mono (by omega)); have hyy : (Instr.yield l #[.agg #[.int .i64 0, .slice a3 n3 c3]]).run Tryz.prog w3 = .ok (.round l fn tmps assign body) w3 := hyy0; clear hyy0 hb3 ho3 hrb)
      | gi_in)
    refine ⟨fun h => by simp [Fence.wide] at h, hR.mono ?_⟩
    rintro e W3 (⟨rfl, D', hJ3, hk3, hD3⟩ | ⟨rfl, hJx3, _⟩)
    · have hrf := HOg.out.ku hk3 (fun b hb hd => by have := HJb.out b hd; omega)
      have HJ3 := hide hJ3
      have HRf := hide hrf
      clear hJ3 hk3 hD3 hrf hyy
      gi_wp2_with (first
        | (refine ⟨trivial, fun h => (by simp [Fence.wide] at h), ?_⟩; gi_at_call 131; refine (callsIn_wide.2 (implPackDir HRf.out)).mono ?_; rintro e w4 ⟨f4, rfl, hb4, ho4⟩; obtain ⟨a4, c4, hz4⟩ := ho4.shape; obtain ⟨n4, hn4⟩ : ∃ n, (pdR (sfL r)).length = n := ⟨_, rfl⟩; rw [hn4] at hz4; subst hz4; clear hn4; obtain ⟨fn2, tmps2, assign2, body2, hyy0, hR2⟩ := HYd.out D' 1 1 _ W3 w4 HJ3.out hb4 (by simp) (by simp) (by simpa using ho4); have hyy : (Instr.yield l #[.agg #[.int .i64 1, .slice a4 n4 c4]]).run Tryz.prog w4 = .ok (.round l fn2 tmps2 assign2 body2) w4 := hyy0; clear hyy0 hb4 ho4)
        | gi_in)
      refine ⟨fun h => by simp [Fence.wide] at h, hR2.mono ?_⟩
      rintro e W5 (⟨rfl, D5, hJ5, hk5, hD5⟩ | ⟨rfl, hJx5, _⟩)
      · have HJ5 := hide hJ5
        clear hJ5 hk5 hD5
        gi_wp2
        go_end0
        exact ⟨⟨_, rfl⟩, .inl ⟨D5, by rw [hfl]; exact HJ5.out⟩⟩
      · have HJ5 := hide hJx5
        clear hJx5
        gi_wp2
        go_end0
        exact ⟨⟨_, rfl⟩, .inr HJ5.out⟩
    · have HJ3 := hide hJx3
      clear hJx3
      gi_wp2
      go_end0
      exact ⟨⟨_, rfl⟩, .inr HJ3.out⟩
end Go.Proofs.YtlmaopljihbdkaaGreat
