/- Fi5 in one text: what each says stands at its head below. -/
import Derived.Test.YtbfdnjhdlnfpmaaG19
import Derived.Test.YtbfdnjhdlnfpmaaG20
import Derived.Test.YtbfdnjhdlnfpmaaG06
import Derived.Test.YtbfdnjhdlnfpmaaG10
import Derived.Deep.RegionLaw
/- Chapter 8: 'PackDir' of both sides, walked. -/
namespace Go.Proofs.Ytbfdnjhdlnfpmaa
open Go.RowKit

/-- The words of files, one behind the other. -/
def bdF : List Oj → List Int
  | [] => []
  | p :: r => p.1 :: p.2.1 :: (p.2.2 ++ bdF r)
theorem bdF_snoc : ∀ (fs : List Oj) (p : Oj), bdF (fs ++ [p]) = bdF fs ++ ([p.1, p.2.1] ++ p.2.2)
  | [], p => by simp [bdF]
  | q :: r, p => by simp [bdF, bdF_snoc r p]
def pkF (fs : List Oj) : List Int := (fs.length : Int) :: bdF fs
theorem bdF_len : ∀ (fs : List Oj), (bdF fs).length = (blksF fs).length + 2 * fs.length
  | [] => rfl
  | p :: r => by simp [bdF, blksF, bdF_len r]; omega
def pkTo (n : Nat) (fs : List Oj) (k : Nat) : List Int := (n : Int) :: bdF (fs.take k)
theorem pkTo_succ (n : Nat) (fs : List Oj) (k : Nat) (h : k < fs.length) : pkTo n fs (k + 1) = pkTo n fs k ++ [(fs.getD k oj0).1, (fs.getD k oj0).2.1] ++ (fs.getD k oj0).2.2 := by
  unfold pkTo
  rw [List.take_succ_eq_append_getElem h, bdF_snoc]
  simp [List.getD, h]
theorem pkTo_len (n : Nat) (fs : List Oj) (k : Nat) (hk : k ≤ fs.length) : (pkTo n fs k).length ≤ (pkF fs).length := by
  unfold pkTo pkF
  simp only [List.length_cons, bdF_len, List.length_take]
  have := blks_take_len fs k
  omega
theorem pkTo_all {n : Nat} {fs : List Oj} (h : fs.length = n) : pkTo n fs n = pkF fs := by unfold pkTo pkF; rw [← h]; simp
theorem pkF_small {fs : List Oj} (h : filF fs = 0) : (pkF fs).length ≤ 29 := by
  have hi := filF_iff.1 h
  have h1 := blksF_len hi.one
  have h2 := hi.len
  unfold pkF
  simp only [List.length_cons, bdF_len]
  omega
def pdR (fs : List Oj) : List Int := if filF fs = 0 then pkF fs else []
theorem pdR_len (fs : List Oj) : (pdR fs).length ≤ 1048576 := by
  unfold pdR
  by_cases h : filF fs = 0
  · rw [if_pos h]; have := pkF_small h; omega
  · rw [if_neg h]; simp
def pdC (fs : List Oj) : Int := filF fs

set_option maxHeartbeats 4000000 in
set_option maxRecDepth 4000 in
theorem implPackDir {S : Nat → Prop} {w : World} {v : Value} {fs : List Oj} (hv : RdJ S w v fs) :
    Calls Try.prog 9 #[v] w (EndsI (pdC fs) (pdR fs) w) := by
  obtain ⟨av, cv, rfl, hm⟩ := hv.shape
  have HV := hide hv
  obtain ⟨n, hn⟩ : ∃ n, fs.length = n := ⟨_, rfl⟩
  have HN := hide hn
  rw [hn] at HV hm ⊢
  clear hv hn
  unfold pdC pdR
  obtain ⟨z, hz⟩ : ∃ z, filF fs = z := ⟨_, rfl⟩
  have HZ := hide hz
  rw [hz]
  clear hz
  have HC := hide (implFilesFault (HV.out.later (below_alloc w (.cells #[.int .i64 0, .slice none 0 0] 32))))
  rw [HZ.out] at HC
  by_cases h0 : z = 0
  · subst h0
    rw [if_pos rfl]
    have hsm := pkF_small HZ.out
    obtain ⟨i0, hi, hz0, hz1, hz2⟩ := info_parts Try.infoInt
    have HAll := hide (pkTo_all HN.out)
    have HLs := hide (fun k hk => pkTo_len n fs k hk)
    obtain ⟨R, hR⟩ : ∃ R, pkF fs = R := ⟨_, rfl⟩
    rw [hR] at HAll HLs hsm ⊢
    clear hR
    go_enter Try.func9, Try.ntmps9
    go_wp2_with fail
    refine HC.out.mono ?_
    rintro e w1 ⟨rfl, hb⟩
    have HRs := hide ((ResF.start w 32).later hb)
    clear hb HC
    have hw1 := HRs.out.lt
    have HRow0 : Hid ((w1.alloc (.cells #[.int .i64 (n : Int)] 2)).ownsRow w1.heap.size 2 1 (.slice (some ⟨w1.heap.size, 0, none⟩) 1 1) 1 ((pkTo n fs 0).map (Value.int .i64))) :=
      ownsRow_fullF w1 [.int .i64 (n : Int)] 2 (by simp)
    have HB0 := hide (below_alloc w1 (.cells #[.int .i64 (n : Int)] 2))
    go_wp2
    go_loopw [4, 18] (fun v i wr => ∃ (k j : Nat), k ≤ n ∧ i = .int .i64 k ∧ Hid ((pkTo n fs k).length = j) ∧ Hid (wr.ownsRow w1.heap.size 2 1 v j ((pkTo n fs k).map (Value.int .i64))) ∧ Hid (Below w1.heap.size w1 wr)) (fun _ i _ => n - (RowKit.intOf i).toNat)
    case atStart => exact ⟨0, 1, Nat.zero_le _, rfl, rfl, HRow0.out, HB0.out⟩
    case round =>
      clear HRow0 HB0
      obtain ⟨k, j, hk, rfl, HJ, HRow, HB⟩ := hrel
      by_cases hlt : k < n
      · obtain ⟨b, off, rfl, y, q0, q1, q2, q3⟩ := HV.out.file (k := k) (by rw [HN.out]; exact hlt)
        have HSn := hide (pkTo_succ n fs k (by rw [HN.out]; exact hlt))
        have hjl : j + 2 + (fs.getD k oj0).2.2.length ≤ 29 := by
          have h1 := HLs.out (k + 1) (by rw [HN.out]; exact hlt)
          rw [HSn.out] at h1
          simp only [List.length_append, HJ.out, List.length_cons, List.length_nil] at h1
          omega
        obtain ⟨p, hp⟩ : ∃ p, fs.getD k oj0 = p := ⟨_, rfl⟩
        rw [hp] at q0 q1 q3 HSn hjl
        obtain ⟨a, s, xs⟩ := p
        dsimp only at q0 q1 q3 HSn hjl
        have hB2 := below_on HRs.out.below HB.out
        have g0 := cell_later hB2 q0
        have g1 := cell_later hB2 q1
        have g2 := cell_later hB2 q2
        obtain ⟨a3, c3, rfl⟩ := q3.shape
        obtain ⟨l, hl⟩ : ∃ l, xs.length = l := ⟨_, rfl⟩
        rw [hl] at g2 q3 hjl
        have HQ3 := hide q3
        have HL := hide hl
        have hzz := HB.out.size
        clear hp q0 q1 q2 q3 hl hB2
        have hk0 : (0 : Int) ≤ (k : Int) := by omega
        have hk1 : (k : Int) < (n : Int) := by omega
        obtain ⟨P, hP⟩ : ∃ P, pkTo n fs k = P := ⟨_, rfl⟩
        rw [hP] at HJ HRow HSn
        clear hP
        have bA := below_alloc wr (.cells #[.int .i64 a, .int .i64 s, .slice a3 l c3] 35)
        have HBa := hide (below_on HB.out bA)
        have HRowA := hide (ownsRow_later HRow.out bA)
        have HRlt := hide (fun r hr => HRow.out.lt r hr)
        clear bA HRow HB
        have HPk : Hid (∀ (cap g : Nat) (w4 : World), w4.ownsRow w1.heap.size 2 1 (.slice (some ⟨g, 0, none⟩) (j + 2) cap) (j + 2) (P.map (Value.int .i64) ++ [.int .i64 a, .int .i64 s]) → ((wr.alloc (.cells #[.int .i64 a, .int .i64 s, .slice a3 l c3] 35)).alloc (.cells #[.int .i64 a, .int .i64 s] 2)).grownBy w4 u4.ownBlock →
            w4.cell? ⟨wr.heap.size, 2, none⟩ = some (.slice a3 l c3) ∧ Below w1.heap.size w1 w4 ∧ w1.heap.size ≤ w4.heap.size ∧ (l ≠ 0 → ∃ ad, a3 = some ad ∧ ∀ j u, (xs.map (Value.int .i64))[j]? = some u → w4.cell? (ad.add j) = some u)) := by
          intro cap g w4 hown3 hgrow
          have bB := below_alloc (wr.alloc (.cells #[.int .i64 a, .int .i64 s, .slice a3 l c3] 35)) (.cells #[.int .i64 a, .int .i64 s] 2)
          have d2 : w4.cell? ⟨wr.heap.size, 2, none⟩ = some (.slice a3 l c3) := (hgrow.cell_far ⟨wr.heap.size, 2, none⟩ (by simp; omega) (fun e => by have := (HRlt.out _ e.symm).2; dsimp only at this; omega)).trans (cell_later bB (by simp [go_sem]))
          have HB4 := (below_on HBa.out bB).grown hgrow (by simp; omega) (fun r hr => (HRlt.out r hr).1)
          obtain ⟨a4, c4, e4, hsrc⟩ := (HQ3.out.later (below_on HRs.out.below HB4)).src
          injection e4 with e5 _ e6
          subst e5
          rw [HL.out] at hsrc
          exact ⟨d2, HB4, HB4.size, hsrc⟩
        go_wp2_with (first
          | (at_builtin; refine wpList_append_any _ rfl _ _ 24 rfl w1.heap.size 2 i0 (.int .i64 0) 1 8 Try.underlying24 hi hz0 hz1 hz2 rfl (by decide) _ (j + 2) _ (by rfl) HRow4.out a3 l c3 (xs.map (Value.int .i64)) (by rfl) (by simp [HL.out]) HS.out (ints_oneCell _ _) (by unfold maxLen; omega) (by omega) (by omega) ?_; intro v' w5 hown hgrow)
          | (at_builtin; refine wpList_append_lies _ rfl _ _ _ rfl w1.heap.size 2 i0 (.int .i64 0) 1 8 Try.underlying24 hi hz0 hz1 hz2 rfl (by omega) _ j _ (by rfl) (HRowA.out.alloc (.cells #[.int .i64 a, .int .i64 s] 2)) ⟨wr.heap.size + 1, 0, none⟩ 2 2 [.int .i64 a, .int .i64 s] (by rfl) (by rfl) (by have h := World.news_of_block (cs := #[.int .i64 a, .int .i64 s]) (t := 2) (fr := (0, 0)) (heap_alloc_new (wr.alloc (.cells #[.int .i64 a, .int .i64 s, .slice a3 l c3] 35)) (.cells #[.int .i64 a, .int .i64 s] 2)); simpa using h) (by simp [Value.oneCell']) (by omega) (by unfold maxLen; omega) (by omega) (by simp; omega) (wr.heap.size + 1 + 1) (by simp) ?_; intro g cap w4 hown3 hgrow3 hat hlt3; obtain ⟨d2, hb4, hz4, hsrc⟩ := HPk.out cap g w4 hown3 hgrow3; have HB4 := hide hb4; have HS := hide hsrc; have HRow4 := hide hown3; clear hown3 hgrow3 hat hlt3 hb4 hsrc HPk))
        have HRow5 : Hid (w5.ownsRow w1.heap.size 2 1 v' (j + 2 + l) ((pkTo n fs (k + 1)).map (Value.int .i64))) := by
          rw [Hid, HSn.out, List.map_append, List.map_append]
          exact hown
        have HB5 := hide (HB4.out.grown hgrow (by omega) (fun r hr => (HRow4.out.lt r hr).1))
        have HJ5 : Hid ((pkTo n fs (k + 1)).length = j + 2 + l) := by rw [Hid, HSn.out, List.length_append, List.length_append, HJ.out, HL.out]; rfl
        clear hown hgrow
        go_wp2
        go_roundw
        case rel => exact ⟨k + 1, j + 2 + l, by omega, by go_num, HJ5.out, HRow5.out, HB5.out⟩
        case measure => simp [RowKit.intOf]; omega
      · have hkn : k = n := by omega
        subst hkn
        rw [HAll.out] at HJ HRow
        obtain ⟨az, cz, hz⟩ := owns_shapeM HRow.out
        subst hz
        have hO := ow_of_owns HJ.out HRow.out (by omega)
        have HRs2 := hide (HRs.out.later HB.out)
        have HFn := hide (ret_ints (x := .int .i64 0) HRs2.out.below (Nat.le_refl _) hO hw1)
        have c0 := HRs2.out.c0
        have c1 := HRs2.out.c1
        have F0 := HRs2.out.fr 0
        have F1 := HRs2.out.fr 1
        clear hO
        go_wp2
        refine bodyPost_ret (v := .agg #[.int .i64 0, .slice az j cz]) (by simp [results, Try.results9, go_sem, c0, c1]) rfl ⟨_, rfl, HFn.out.1, HFn.out.2⟩
  · rw [if_neg h0]
    have h0b : (z == 0) = false := by simpa using h0
    go_enter Try.func9, Try.ntmps9
    go_wp2_with fail
    refine HC.out.mono ?_
    rintro e w1 ⟨rfl, hb⟩
    have HRs := hide ((ResF.start w 32).later hb)
    have c0 := HRs.out.c0
    have c1 := HRs.out.c1
    have F0 := HRs.out.fr 0
    have F1 := HRs.out.fr 1
    clear hb
    go_wp2
    refine bodyPost_ret (v := .agg #[.int .i64 z, .slice none 0 0]) (by simp [results, Try.results9, go_sem, c0, c1]) rfl ⟨_, rfl, HRs.out.shut _ _, OwI_nil _ _⟩
end Go.Proofs.Ytbfdnjhdlnfpmaa
