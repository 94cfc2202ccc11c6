/- Chapter 8: 'DropFile' of both sides, walked. -/
import Derived.Test.YtoffjbpnggdgnaaFi9
namespace Go.Proofs.Ytoffjbpnggdgnaa
open Go.RowKit

def drR (fs : List Oj) (a : Int) : List Oj := if faC fs a = 0 then fs.filter (notN a) else []
theorem faC_fil {fs : List Oj} {a : Int} (h : faC fs a = 0) : filF fs = 0 := by
  by_cases h0 : filF fs = 0
  · exact h0
  · rw [faC_bad h0] at h; exact h
theorem faC_has {fs : List Oj} {a : Int} (h : faC fs a = 0) : ∃ k, AtF fs a k := by
  rcases at_or_no fs a with hk | hno
  · exact hk
  · rw [faC_no hno (faC_fil h)] at h; exact absurd h (by decide)
theorem drR_tot (fs : List Oj) (a : Int) : totJ (drR fs a) (drR fs a).length ≤ 1048576 := by
  unfold drR
  by_cases h : faC fs a = 0
  · rw [if_pos h]
    have h0 := faC_fil h
    refine tot_sub h0 (fun p hp => (List.mem_filter.1 hp).1) ?_
    have := List.length_filter_le (notN a) fs
    have := (filF_iff.1 h0).len
    omega
  · rw [if_neg h]; simp [totJ]
/-- Of files without a fault the ones of another label are the ones of another name. -/
theorem notL_notN {fs : List Oj} {a : Int} {k : Nat} (h0 : filF fs = 0) (h : AtF fs a k) : fs.filter (notL a (fs.getD k oj0).2.1) = fs.filter (notN a) := by
  refine List.filter_congr fun p hp => ?_
  unfold notL notN
  by_cases e : p.1 = a
  · have hm : p ∈ fs.filter (fun p => p.1 == a) := List.mem_filter.2 ⟨hp, by simpa using e⟩
    rw [filter_at (filF_iff.1 h0).up h] at hm
    have : p = fs.getD k oj0 := by simpa using hm
    rw [this]; simp
  · have e' : (p.1 == a) = false := by simpa using e
    simp [e']
theorem notL_none {fs : List Oj} (h0 : filF fs = 0) : fs.filter (notL 0 0) = fs := by
  rw [List.filter_eq_self]
  intro p hp
  have := (oneF_iff.1 ((filF_iff.1 h0).one p hp)).1.1
  unfold notL
  have e : (p.1 == 0) = false := by simp; omega
  simp [e]
theorem notN_none {fs : List Oj} {a : Int} (h : NoF fs a) : fs.filter (notN a) = fs := by
  rw [List.filter_eq_self]
  intro p hp
  obtain ⟨i, hi, rfl⟩ := List.mem_iff_getElem.1 hp
  have := h i hi
  simp only [List.getD, List.getElem?_eq_getElem hi, Option.getD_some] at this
  unfold notN
  simpa using this
theorem lens_of {fs : List Oj} (h0 : filF fs = 0) : fs.length ≤ 1048576 ∧ ∀ i, i < fs.length → (fs.getD i oj0).2.2.length ≤ 1048576 :=
  ⟨by have := (filF_iff.1 h0).len; omega, fun i hi => by have := one_len h0 hi; omega⟩

end Go.Proofs.Ytoffjbpnggdgnaa
