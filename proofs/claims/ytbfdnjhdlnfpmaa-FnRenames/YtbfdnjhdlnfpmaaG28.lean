/- Fi10 in one text: what each says stands at its head below. -/
import Derived.Test.YtbfdnjhdlnfpmaaG27
/- Chapter 8: 'DropFile' of both sides, walked. -/
namespace Go.Proofs.Ytbfdnjhdlnfpmaa
open Go.RowKit

def drR (fs : List Oj) (a : Int) : List Oj := if faC fs a = 0 then fs.filter (notN a) else []
theorem faC_fil {fs : List Oj} {a : Int} (h : faC fs a = 0) : filF fs = 0 := by
  by_cases h0 : filF fs = 0
  · exact h0
  · rw [faC_bad h0] at h; exact h
theorem faC_has {fs : List Oj} {a : Int} (h : faC fs a = 0) : ∃ k, AtF fs a k := by
  rcases at_or_no fs a with hk | hno
  · exact hk
  · rw [faC_no hno (faC_fil h)] at h; exact absurd h (by decide)
theorem drR_tot (fs : List Oj) (a : Int) : totJ (drR fs a) (drR fs a).length ≤ 1048576 := by
  unfold drR
  by_cases h : faC fs a = 0
  · rw [if_pos h]
    have h0 := faC_fil h
    refine tot_sub h0 (fun p hp => (List.mem_filter.1 hp).1) ?_
    have := List.length_filter_le (notN a) fs
    have := (filF_iff.1 h0).len
    omega
  · rw [if_neg h]; simp [totJ]
/-- Of files without a fault the ones of another label are the ones of another name. -/
theorem notL_notN {fs : List Oj} {a : Int} {k : Nat} (h0 : filF fs = 0) (h : AtF fs a k) : fs.filter (notL a (fs.getD k oj0).2.1) = fs.filter (notN a) := by
  refine List.filter_congr fun p hp => ?_
  unfold notL notN
  by_cases e : p.1 = a
  · have hm : p ∈ fs.filter (fun p => p.1 == a) := List.mem_filter.2 ⟨hp, by simpa using e⟩
    rw [filter_at (filF_iff.1 h0).up h] at hm
    have : p = fs.getD k oj0 := by simpa using hm
    rw [this]; simp
  · have e' : (p.1 == a) = false := by simpa using e
    simp [e']
theorem notL_none {fs : List Oj} (h0 : filF fs = 0) : fs.filter (notL 0 0) = fs := by
  rw [List.filter_eq_self]
  intro p hp
  have := (oneF_iff.1 ((filF_iff.1 h0).one p hp)).1.1
  unfold notL
  have e : (p.1 == 0) = false := by simp; omega
  simp [e]
theorem notN_none {fs : List Oj} {a : Int} (h : NoF fs a) : fs.filter (notN a) = fs := by
  rw [List.filter_eq_self]
  intro p hp
  obtain ⟨i, hi, rfl⟩ := List.mem_iff_getElem.1 hp
  have := h i hi
  simp only [List.getD, List.getElem?_eq_getElem hi, Option.getD_some] at this
  unfold notN
  simpa using this
theorem lens_of {fs : List Oj} (h0 : filF fs = 0) : fs.length ≤ 1048576 ∧ ∀ i, i < fs.length → (fs.getD i oj0).2.2.length ≤ 1048576 :=
  ⟨by have := (filF_iff.1 h0).len; omega, fun i hi => by have := one_len h0 hi; omega⟩

set_option maxHeartbeats 1000000 in
theorem implDropFile {S : Nat → Prop} {w : World} {v : Value} {fs : List Oj} (a : Int) (hv : RdJ S w v fs) :
    Calls Try.prog 15 #[v, .int .i64 a] w (EndsFi (faC fs a) (drR fs a) w) := by
  obtain ⟨av, cv, rfl, hm⟩ := hv.shape
  have HV := hide hv
  obtain ⟨n, hn⟩ : ∃ n, fs.length = n := ⟨_, rfl⟩
  have HN := hide hn
  rw [hn] at HV hm ⊢
  clear hv hn
  have HC := hide (pointAt a (HV.out.later (below_alloc w (.cells #[.int .i64 0, .slice none 0 0] 28))) HN.out)
  unfold drR
  obtain ⟨z, hz⟩ : ∃ z, faC fs a = z := ⟨_, rfl⟩
  have HZ := hide hz
  rw [hz] at HC ⊢
  clear hz
  by_cases h0 : z = 0
  · subst h0
    rw [if_pos rfl]
    have HF0 := hide (faC_fil HZ.out)
    have HLe := hide (lens_of HF0.out)
    go_enter Try.func15, Try.ntmps15
    go_wp2_with fail
    refine HC.out.mono ?_
    rintro e w1 ⟨pt, rfl, hb, hp⟩
    have HRs := hide ((ResF.start w 28).later hb)
    have hw1 := HRs.out.lt
    rcases hp HF0.out with ⟨k, b, off, hat, rfl, rfl⟩ | hno
    · obtain ⟨b', off', e', hfp⟩ := HV.out.file hat.1
      injection e' with e'
      injection e' with e1 e2
      subst e1 e2
      have HEq := hide (notL_notN HF0.out hat)
      have HC2 := hide (withoutFile (pt := some ⟨b, off + k * 3, none⟩) (a := a) (s := (fs.getD k oj0).2.1) (HV.out.later HRs.out.below) HLe.out.1 HLe.out.2 (fun w9 hb9 => by
        have h := labelOf ((hfp.later HRs.out.below).later hb9)
        rw [hat.2.1] at h
        exact h))
      rw [HEq.out] at HC2
      clear hb hp HC hfp hat
      go_wp2_with fail
      refine HC2.out.mono ?_
      rintro e w2 ⟨z2, rfl, hb, ho⟩
      obtain ⟨az, cz, hz2⟩ := ho.shape
      subst hz2
      have HRs2 := hide (HRs.out.later hb)
      have HO := hide (ho.ow rfl (by have := List.length_filter_le (notN a) fs; have := HLe.out.1; omega))
      have HFn := hide (ret_files (x := .int .i64 0) HRs2.out.below (Nat.le_refl _) HO.out (fun b hb => ⟨by have := hb.1; omega, hb.2⟩))
      obtain ⟨l, hl⟩ : ∃ l, (fs.filter (notN a)).length = l := ⟨_, rfl⟩
      rw [hl] at HFn
      (try rw [hl])
      have c0 := HRs2.out.c0
      have c1 := HRs2.out.c1
      have F0 := HRs2.out.fr 0
      have F1 := HRs2.out.fr 1
      clear hb ho HC2 hl
      go_wp2
      refine bodyPost_ret (v := .agg #[.int .i64 0, .slice az l cz]) (by simp [results, Try.results15, go_sem, c0, c1]) rfl ⟨_, rfl, HFn.out.1, HFn.out.2⟩
    · exact absurd HZ.out (by rw [faC_no hno HF0.out]; decide)
  · have h0b : (z == 0) = false := by simpa using h0
    rw [if_neg h0]
    go_enter Try.func15, Try.ntmps15
    go_wp2_with fail
    refine HC.out.mono ?_
    rintro e w1 ⟨pt, rfl, hb, hp⟩
    have HRs := hide ((ResF.start w 28).later hb)
    have c0 := HRs.out.c0
    have c1 := HRs.out.c1
    have F0 := HRs.out.fr 0
    have F1 := HRs.out.fr 1
    clear hb hp HC
    go_wp2
    refine bodyPost_ret (v := .agg #[.int .i64 z, .slice none 0 0]) (by simp [results, Try.results15, go_sem, c0, c1]) rfl ⟨_, rfl, HRs.out.shut _ _, OwJ_nil _ _⟩

end Go.Proofs.Ytbfdnjhdlnfpmaa
