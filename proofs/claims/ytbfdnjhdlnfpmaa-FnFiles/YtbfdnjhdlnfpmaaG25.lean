/- Fi10 Fi5b in one text: what each says stands at its head below. -/
import Derived.Test.YtbfdnjhdlnfpmaaG24
import Derived.Test.YtbfdnjhdlnfpmaaG21
import Derived.Deep.AppendLies
/- Chapter 8: 'DropFile' of both sides, walked. -/
namespace Go.Proofs.Ytbfdnjhdlnfpmaa
open Go.RowKit

def drR (fs : List Oj) (a : Int) : List Oj := if faC fs a = 0 then fs.filter (notN a) else []
theorem faC_fil {fs : List Oj} {a : Int} (h : faC fs a = 0) : filF fs = 0 := by
  by_cases h0 : filF fs = 0
  · exact h0
  · rw [faC_bad h0] at h; exact h
theorem faC_has {fs : List Oj} {a : Int} (h : faC fs a = 0) : ∃ k, AtF fs a k := by
  rcases at_or_no fs a with hk | hno
  · exact hk
  · rw [faC_no hno (faC_fil h)] at h; exact absurd h (by decide)
theorem drR_tot (fs : List Oj) (a : Int) : totJ (drR fs a) (drR fs a).length ≤ 1048576 := by
  unfold drR
  by_cases h : faC fs a = 0
  · rw [if_pos h]
    have h0 := faC_fil h
    refine tot_sub h0 (fun p hp => (List.mem_filter.1 hp).1) ?_
    have := List.length_filter_le (notN a) fs
    have := (filF_iff.1 h0).len
    omega
  · rw [if_neg h]; simp [totJ]
/-- Of files without a fault the ones of another label are the ones of another name. -/
theorem notL_notN {fs : List Oj} {a : Int} {k : Nat} (h0 : filF fs = 0) (h : AtF fs a k) : fs.filter (notL a (fs.getD k oj0).2.1) = fs.filter (notN a) := by
  refine List.filter_congr fun p hp => ?_
  unfold notL notN
  by_cases e : p.1 = a
  · have hm : p ∈ fs.filter (fun p => p.1 == a) := List.mem_filter.2 ⟨hp, by simpa using e⟩
    rw [filter_at (filF_iff.1 h0).up h] at hm
    have : p = fs.getD k oj0 := by simpa using hm
    rw [this]; simp
  · have e' : (p.1 == a) = false := by simpa using e
    simp [e']
theorem notL_none {fs : List Oj} (h0 : filF fs = 0) : fs.filter (notL 0 0) = fs := by
  rw [List.filter_eq_self]
  intro p hp
  have := (oneF_iff.1 ((filF_iff.1 h0).one p hp)).1.1
  unfold notL
  have e : (p.1 == 0) = false := by simp; omega
  simp [e]
theorem notN_none {fs : List Oj} {a : Int} (h : NoF fs a) : fs.filter (notN a) = fs := by
  rw [List.filter_eq_self]
  intro p hp
  obtain ⟨i, hi, rfl⟩ := List.mem_iff_getElem.1 hp
  have := h i hi
  simp only [List.getD, List.getElem?_eq_getElem hi, Option.getD_some] at this
  unfold notN
  simpa using this
theorem lens_of {fs : List Oj} (h0 : filF fs = 0) : fs.length ≤ 1048576 ∧ ∀ i, i < fs.length → (fs.getD i oj0).2.2.length ≤ 1048576 :=
  ⟨by have := (filF_iff.1 h0).len; omega, fun i hi => by have := one_len h0 hi; omega⟩

set_option maxHeartbeats 1000000 in
theorem implDropFile {S : Nat → Prop} {w : World} {v : Value} {fs : List Oj} (a : Int) (hv : RdJ S w v fs) :
    Calls Try.prog 15 #[v, .int .i64 a] w (EndsFi (faC fs a) (drR fs a) w) := by
  obtain ⟨av, cv, rfl, hm⟩ := hv.shape
  have HV := hide hv
  obtain ⟨n, hn⟩ : ∃ n, fs.length = n := ⟨_, rfl⟩
  have HN := hide hn
  rw [hn] at HV hm ⊢
  clear hv hn
  have HC := hide (pointAt a (HV.out.later (below_alloc w (.cells #[.int .i64 0, .slice none 0 0] 28))) HN.out)
  unfold drR
  obtain ⟨z, hz⟩ : ∃ z, faC fs a = z := ⟨_, rfl⟩
  have HZ := hide hz
  rw [hz] at HC ⊢
  clear hz
  by_cases h0 : z = 0
  · subst h0
    rw [if_pos rfl]
    have HF0 := hide (faC_fil HZ.out)
    have HLe := hide (lens_of HF0.out)
    go_enter Try.func15, Try.ntmps15
    go_wp2_with fail
    refine HC.out.mono ?_
    rintro e w1 ⟨pt, rfl, hb, hp⟩
    have HRs := hide ((ResF.start w 28).later hb)
    have hw1 := HRs.out.lt
    rcases hp HF0.out with ⟨k, b, off, hat, rfl, rfl⟩ | hno
    · obtain ⟨b', off', e', hfp⟩ := HV.out.file hat.1
      injection e' with e'
      injection e' with e1 e2
      subst e1 e2
      have HEq := hide (notL_notN HF0.out hat)
      have HC2 := hide (withoutFile (pt := some ⟨b, off + k * 3, none⟩) (a := a) (s := (fs.getD k oj0).2.1) (HV.out.later HRs.out.below) HLe.out.1 HLe.out.2 (fun w9 hb9 => by
        have h := labelOf ((hfp.later HRs.out.below).later hb9)
        rw [hat.2.1] at h
        exact h))
      rw [HEq.out] at HC2
      clear hb hp HC hfp hat
      go_wp2_with fail
      refine HC2.out.mono ?_
      rintro e w2 ⟨z2, rfl, hb, ho⟩
      obtain ⟨az, cz, hz2⟩ := ho.shape
      subst hz2
      have HRs2 := hide (HRs.out.later hb)
      have HO := hide (ho.ow rfl (by have := List.length_filter_le (notN a) fs; have := HLe.out.1; omega))
      have HFn := hide (ret_files (x := .int .i64 0) HRs2.out.below (Nat.le_refl _) HO.out (fun b hb => ⟨by have := hb.1; omega, hb.2⟩))
      obtain ⟨l, hl⟩ : ∃ l, (fs.filter (notN a)).length = l := ⟨_, rfl⟩
      rw [hl] at HFn
      (try rw [hl])
      have c0 := HRs2.out.c0
      have c1 := HRs2.out.c1
      have F0 := HRs2.out.fr 0
      have F1 := HRs2.out.fr 1
      clear hb ho HC2 hl
      go_wp2
      refine bodyPost_ret (v := .agg #[.int .i64 0, .slice az l cz]) (by simp [results, Try.results15, go_sem, c0, c1]) rfl ⟨_, rfl, HFn.out.1, HFn.out.2⟩
    · exact absurd HZ.out (by rw [faC_no hno HF0.out]; decide)
  · have h0b : (z == 0) = false := by simpa using h0
    rw [if_neg h0]
    go_enter Try.func15, Try.ntmps15
    go_wp2_with fail
    refine HC.out.mono ?_
    rintro e w1 ⟨pt, rfl, hb, hp⟩
    have HRs := hide ((ResF.start w 28).later hb)
    have c0 := HRs.out.c0
    have c1 := HRs.out.c1
    have F0 := HRs.out.fr 0
    have F1 := HRs.out.fr 1
    clear hb hp HC
    go_wp2
    refine bodyPost_ret (v := .agg #[.int .i64 z, .slice none 0 0]) (by simp [results, Try.results15, go_sem, c0, c1]) rfl ⟨_, rfl, HRs.out.shut _ _, OwJ_nil _ _⟩

end Go.Proofs.Ytbfdnjhdlnfpmaa
/- Chapter 8: 'PackDir' of the model, walked. -/
namespace Go.Proofs.Ytbfdnjhdlnfpmaa
open Go.RowKit

set_option maxHeartbeats 4000000 in
set_option maxRecDepth 4000 in
theorem l8Pack {S : Nat → Prop} {w : World} {v : Value} {fs : List Oj} (hv : RdJ S w v fs) (hsm : (pkF fs).length ≤ 1048576) :
    Calls Try.prog 22 #[v] w fun e w' => ∃ z, e = .returned z ∧ Below w.heap.size w w' ∧ w'.ownsRow w.heap.size 2 1 z (pkF fs).length ((pkF fs).map (Value.int .i64)) := by
  obtain ⟨av, cv, rfl, hm⟩ := hv.shape
  have HV := hide hv
  obtain ⟨n, hn⟩ : ∃ n, fs.length = n := ⟨_, rfl⟩
  have HN := hide hn
  rw [hn] at HV hm ⊢
  clear hv hn
  obtain ⟨i0, hi, hz0, hz1, hz2⟩ := info_parts Try.infoInt
  have HAll := hide (pkTo_all HN.out)
  have HLs := hide (fun k hk => pkTo_len n fs k hk)
  obtain ⟨R, hR⟩ : ∃ R, pkF fs = R := ⟨_, rfl⟩
  rw [hR] at HAll HLs hsm ⊢
  clear hR
  have HRow0 : Hid ((w.alloc (.cells #[.int .i64 (n : Int)] 2)).ownsRow w.heap.size 2 1 (.slice (some ⟨w.heap.size, 0, none⟩) 1 1) 1 ((pkTo n fs 0).map (Value.int .i64))) :=
    ownsRow_fullF w [.int .i64 (n : Int)] 2 (by simp)
  have HB0 := hide (below_alloc w (.cells #[.int .i64 (n : Int)] 2))
  go_enter Try.func22, Try.ntmps22
  go_wp2
  go_loopw [3, 4] (fun v i wr => ∃ (k j : Nat), k ≤ n ∧ i = .int .i64 k ∧ Hid ((pkTo n fs k).length = j) ∧ Hid (wr.ownsRow w.heap.size 2 1 v j ((pkTo n fs k).map (Value.int .i64))) ∧ Hid (Below w.heap.size w wr)) (fun _ i _ => n - (RowKit.intOf i).toNat)
  case atStart => exact ⟨0, 1, Nat.zero_le _, rfl, rfl, HRow0.out, HB0.out⟩
  case round =>
    clear HRow0 HB0
    obtain ⟨k, j, hk, rfl, HJ, HRow, HB⟩ := hrel
    by_cases hlt : k < n
    · obtain ⟨b, off, rfl, y, q0, q1, q2, q3⟩ := HV.out.file (k := k) (by rw [HN.out]; exact hlt)
      have HSn := hide (pkTo_succ n fs k (by rw [HN.out]; exact hlt))
      have hjl : j + 2 + (fs.getD k oj0).2.2.length ≤ 1048576 := by
        have h1 := HLs.out (k + 1) (by rw [HN.out]; exact hlt)
        rw [HSn.out] at h1
        simp only [List.length_append, HJ.out, List.length_cons, List.length_nil] at h1
        omega
      obtain ⟨p, hp⟩ : ∃ p, fs.getD k oj0 = p := ⟨_, rfl⟩
      rw [hp] at q0 q1 q3 HSn hjl
      obtain ⟨a, s, xs⟩ := p
      dsimp only at q0 q1 q3 HSn hjl
      have g0 := cell_later HB.out q0
      have g1 := cell_later HB.out q1
      have g2 := cell_later HB.out q2
      obtain ⟨a3, c3, rfl⟩ := q3.shape
      obtain ⟨l, hl⟩ : ∃ l, xs.length = l := ⟨_, rfl⟩
      rw [hl] at g2 q2 q3 hjl
      have HQ2 := hide q2
      have HQ3 := hide q3
      have HL := hide hl
      have hzz := HB.out.size
      have hbl : b < wr.heap.size := World.block_lt_of_cell? _ _ g0
      have hbw : b < w.heap.size := World.block_lt_of_cell? _ _ q0
      clear hp q0 q1 q2 q3 hl
      have hk0 : (0 : Int) ≤ (k : Int) := by omega
      have hk1 : (k : Int) < (n : Int) := by omega
      obtain ⟨P, hP⟩ : ∃ P, pkTo n fs k = P := ⟨_, rfl⟩
      rw [hP] at HJ HRow HSn
      clear hP
      have HRowd : Hid (wr.drew.ownsRow w.heap.size 2 1 u3 j (P.map (Value.int .i64))) := HRow.out
      have HPk : Hid (∀ (cap g : Nat) (w4 : World), w4.ownsRow w.heap.size 2 1 (.slice (some ⟨g, 0, none⟩) (j + 2) cap) (j + 2) (P.map (Value.int .i64) ++ [.int .i64 a, .int .i64 s]) → (wr.drew.alloc (.cells #[.int .i64 a, .int .i64 s] 2)).grownBy w4 u3.ownBlock →
          w4.cell? ⟨b, off + k * 3 + 2, none⟩ = some (.slice a3 l c3) ∧ Below w.heap.size w w4 ∧ w.heap.size ≤ w4.heap.size ∧ (l ≠ 0 → ∃ ad, a3 = some ad ∧ ∀ j u, (xs.map (Value.int .i64))[j]? = some u → w4.cell? (ad.add j) = some u)) := by
        intro cap g w4 hown3 hgrow
        have bB := below_on (below_drewN wr 1) (below_alloc (wr.drewN 1) (.cells #[.int .i64 a, .int .i64 s] 2))
        have HB4 := (below_on HB.out bB).grown hgrow (by simp; omega) (fun r hr => (HRow.out.lt r hr).1)
        obtain ⟨a4, c4, e4, hsrc⟩ := (HQ3.out.later HB4).src
        injection e4 with e5 _ e6
        subst e5
        rw [HL.out] at hsrc
        exact ⟨cell_later HB4 HQ2.out, HB4, HB4.size, hsrc⟩
      go_wp2_with fail
      go_region_law (first
        | (refine step_append_fi _ (by rfl) _ _ _ (by rfl) w.heap.size 2 i0 (.int .i64 0) 1 8 Try.underlying24 hi hz0 hz1 hz2 rfl (by decide) (.slice (some ⟨g, 0, none⟩) (j + 2) cap) (j + 2) _ (by rfl) HRow4.out a3 l c3 (xs.map (Value.int .i64)) (by rfl) (by simp [HL.out]) HS.out (ints_oneCell _ _) (by unfold maxLen; omega) (by omega) (by omega) ?_; intro v' w5 hown hgrow)
        | (refine step_append_lies _ (by rfl) _ _ _ (by rfl) w.heap.size 2 i0 (.int .i64 0) 1 8 Try.underlying24 hi hz0 hz1 hz2 rfl (by omega) u3 j _ (by rfl) (HRowd.out.alloc (.cells #[.int .i64 a, .int .i64 s] 2)) ⟨wr.heap.size, 0, none⟩ 2 2 [.int .i64 a, .int .i64 s] (by rfl) (by rfl) (World.news_of_block (cs := #[.int .i64 a, .int .i64 s]) (t := 2) (fr := (0, 0)) (heap_alloc_new wr.drew _)) (by simp [Value.oneCell']) (by omega) (by unfold maxLen; omega) (by omega) (by simp; omega) (wr.heap.size + 1) (by simp) ?_; intro g cap w4 hown3 hgrow3 hat hlt3; obtain ⟨d2, hb4, hz4, hsrc⟩ := HPk.out cap g w4 hown3 hgrow3; have HB4 := hide hb4; have HS := hide hsrc; have HRow4 := hide hown3; clear hown3 hgrow3 hat hlt3 hb4 hsrc HPk))
      all_goals
        have HRow5 : Hid (w5.ownsRow w.heap.size 2 1 v' (j + 2 + l) ((pkTo n fs (k + 1)).map (Value.int .i64))) := by
          rw [Hid, HSn.out, List.map_append, List.map_append]
          exact hown
        have HB5 := hide (HB4.out.grown hgrow (by omega) (fun r hr => (HRow4.out.lt r hr).1))
        have HJ5 : Hid ((pkTo n fs (k + 1)).length = j + 2 + l) := by rw [Hid, HSn.out, List.length_append, List.length_append, HJ.out, HL.out]; rfl
        clear hown hgrow
        go_wp2
        go_roundw
        case rel => exact ⟨k + 1, j + 2 + l, by omega, by go_num, HJ5.out, HRow5.out, HB5.out⟩
        case measure => simp [RowKit.intOf]; omega
    · have hkn : k = n := by omega
      subst hkn
      rw [HAll.out] at HJ HRow
      go_wp2
      go_ret
      exact ⟨_, rfl, HB.out, by rw [HJ.out]; exact HRow.out⟩
end Go.Proofs.Ytbfdnjhdlnfpmaa
