/- MathRn MathFf in one text: what each says stands at its head below. -/
import Derived.Test.YtbfdnjhdlnfpmaaG35
import Derived.Test.YtbfdnjhdlnfpmaaG34
import Derived.Test.YtbfdnjhdlnfpmaaG27
import Derived.Test.YtbfdnjhdlnfpmaaG26
/- Chapter 8: what is known of a list in which a file was renamed (mathematics alone). -/
namespace Go.Proofs.Ytbfdnjhdlnfpmaa
open Go.RowKit

theorem blksF_perm {fs gs : List Oj} (h : fs.Perm gs) : (blksF fs).Perm (blksF gs) := by
  induction h with
  | nil => exact List.Perm.refl _
  | cons p _ ih => exact List.Perm.append_left _ ih
  | swap p q l =>
    show (q.2.2 ++ (p.2.2 ++ blksF l)).Perm (p.2.2 ++ (q.2.2 ++ blksF l))
    rw [← List.append_assoc, ← List.append_assoc]
    exact List.Perm.append_right _ List.perm_append_comm
  | trans _ _ h1 h2 => exact h1.trans h2
theorem part_perm (q : Oj → Bool) : ∀ fs : List Oj, (fs.filter q ++ fs.filter (fun p => !q p)).Perm fs
  | [] => List.Perm.refl _
  | p :: r => by
    have ih := part_perm q r
    by_cases h : q p = true
    · rw [List.filter_cons_of_pos h, List.filter_cons_of_neg (by simp [h])]
      exact List.Perm.cons p ih
    · rw [List.filter_cons_of_neg h, List.filter_cons_of_pos (by simpa using h)]
      exact List.perm_middle.trans (List.Perm.cons p ih)
theorem notN_not (a : Int) : (fun p : Oj => !notN a p) = fun p => p.1 == a := by
  funext p
  unfold notN
  simp
theorem hasF_iff {fs : List Oj} {a : Int} : hasF fs a = true ↔ ∃ p, p ∈ fs ∧ p.1 = a := by
  unfold hasF
  rw [List.any_eq_true]
  constructor
  · rintro ⟨p, hp, e⟩; exact ⟨p, hp, by simpa using e⟩
  · rintro ⟨p, hp, e⟩; exact ⟨p, hp, by simpa using e⟩
theorem len_notN {fs : List Oj} (a : Int) (hup : fs.Pairwise (fun p q => p.1 < q.1)) : (fs.filter (notN a)).length + (if hasF fs a = true then 1 else 0) = fs.length := by
  have hl := (part_perm (notN a) fs).length_eq
  rw [notN_not, List.length_append] at hl
  rcases at_or_no fs a with ⟨k, hk⟩ | hno
  · rw [filter_at hup hk] at hl
    rw [if_pos (hasF_at hk)]
    simpa using hl
  · rw [filter_no hno] at hl
    rw [if_neg (by rw [hasF_no hno]; decide)]
    simpa using hl
theorem put_has (fs : List Oj) (p : Oj) : hasF (putF fs p) p.1 = true := hasF_iff.2 ⟨p, List.mem_append_right _ (List.mem_cons_self), rfl⟩
theorem put_filter (fs : List Oj) (p : Oj) : (putF fs p).filter (fun q => q.1 == p.1) = [p] := by
  have h1 : (fs.filter (fun q => decide (q.1 < p.1))).filter (fun q => q.1 == p.1) = [] := by
    rw [List.filter_eq_nil_iff]
    intro q hq e
    have := (List.mem_filter.1 hq).2
    simp at this e
    omega
  have h2 : (fs.filter (fun q => decide (p.1 < q.1))).filter (fun q => q.1 == p.1) = [] := by
    rw [List.filter_eq_nil_iff]
    intro q hq e
    have := (List.mem_filter.1 hq).2
    simp at this e
    omega
  unfold putF
  rw [List.filter_append, h1, List.filter_cons_of_pos (by simp), h2]
  rfl
theorem put_other {fs : List Oj} {p : Oj} {a : Int} (hup : fs.Pairwise (fun p q => p.1 < q.1)) (ha : a ≠ p.1) : hasF (putF fs p) a = hasF fs a := by
  have hm : ∀ q, q ∈ putF fs p ↔ q ∈ fs.filter (notN p.1) ++ [p] := fun q => (put_perm p hup).mem_iff.symm
  rw [Bool.eq_iff_iff, hasF_iff, hasF_iff]
  constructor
  · rintro ⟨q, hq, e⟩
    rcases List.mem_append.1 ((hm q).1 hq) with h | h
    · exact ⟨q, (List.mem_filter.1 h).1, e⟩
    · rw [List.mem_singleton] at h
      subst h
      exact absurd e.symm ha
  · rintro ⟨q, hq, e⟩
    exact ⟨q, (hm q).2 (List.mem_append_left _ (List.mem_filter.2 ⟨hq, by unfold notN; simp; omega⟩)), e⟩
theorem faC_of {fs : List Oj} {a : Int} (h0 : filF fs = 0) : faC fs a = if hasF fs a = true then 0 else 4 := by unfold faC; rw [if_pos h0]
theorem faR_of {fs : List Oj} {a : Int} (h0 : filF fs = 0) : faR fs a = fs.filter (fun p => p.1 == a) := by unfold faR; rw [if_pos h0]
theorem notN_has {fs : List Oj} {a t : Int} (h : a ≠ t) : hasF (fs.filter (notN a)) t = hasF fs t := by
  rw [Bool.eq_iff_iff, hasF_iff, hasF_iff]
  constructor
  · rintro ⟨q, hq, e⟩
    exact ⟨q, (List.mem_filter.1 hq).1, e⟩
  · rintro ⟨q, hq, e⟩
    exact ⟨q, List.mem_filter.2 ⟨hq, by unfold notN; simp; omega⟩, e⟩
theorem notN_gone (fs : List Oj) (a : Int) : hasF (fs.filter (notN a)) a = false := by
  rw [Bool.eq_false_iff]
  intro h
  obtain ⟨q, hq, e⟩ := hasF_iff.1 h
  have := (List.mem_filter.1 hq).2
  unfold notN at this
  simp at this
  exact this e
/-- All that the law of renaming asks. -/
theorem rn_all {fs : List Oj} {a t : Int} (h : rnC fs a t = 0) : ∃ p : Oj, p.2.2.length ≤ 5 ∧ faC fs a = 0 ∧ faR fs a = [p] ∧ filF (rnR fs a t) = 0 ∧ faC (rnR fs a t) t = 0 ∧ faR (rnR fs a t) t = [(t, p.2.1, p.2.2)] ∧
    (rnR fs a t).length + (if a ≠ t ∧ faC fs t = 0 then 1 else 0) = fs.length ∧ (a ≠ t → faC (rnR fs a t) a = 4) := by
  have h1 := rnC_fa h
  have h0 := faC_fil h1
  obtain ⟨k, hk⟩ := faC_has h1
  have ht : 1 ≤ t ∧ t ≤ 99 := by
    unfold rnC at h
    rw [if_pos h1] at h
    by_cases ht : 1 ≤ t ∧ t ≤ 99
    · exact ht
    · rw [if_neg ht] at h; cases h
  have hi := filF_iff.1 h0
  have hf := flF_at h0 hk
  have hR : rnR fs a t = putF (fs.filter (notN a)) (t, (flF fs a).2.1, (flF fs a).2.2) := by unfold rnR; rw [if_pos h]
  rw [hf] at hR
  have hlk := one_len h0 hk.1
  have hin : fs.getD k oj0 ∈ fs := by
    rw [List.getD, List.getElem?_eq_getElem hk.1]
    exact List.getElem_mem hk.1
  have hfl := filter_at hi.up hk
  obtain ⟨p, hp⟩ : ∃ p, fs.getD k oj0 = p := ⟨_, rfl⟩
  have hpa : p.1 = a := hp ▸ hk.2.1
  rw [hp] at hR hlk hin hfl
  have hs := filF_sub (notN a) h0
  have hsi := filF_iff.1 hs
  have hpp := put_perm (t, p.2.1, p.2.2) hsi.up
  have hlen : (rnR fs a t).length = ((fs.filter (notN a)).filter (notN t)).length + 1 := by
    rw [hR, ← hpp.length_eq, List.length_append]; rfl
  have hla := len_notN a hi.up
  rw [if_pos (hasF_at hk)] at hla
  have hlt := len_notN t hsi.up
  have hblk : (blksF (rnR fs a t)).Nodup := by
    have e1 : (blksF ((fs.filter (notN a)).filter (notN t) ++ [p])).Perm (blksF (rnR fs a t)) := by
      have := blksF_perm hpp
      rw [blksF_snoc] at this ⊢
      rw [hR]
      exact this
    have e2 : (blksF (fs.filter (notN a) ++ [p])).Perm (blksF fs) := by
      have := blksF_perm (part_perm (notN a) fs)
      rw [notN_not, hfl] at this
      exact this
    have e3 : (blksF ((fs.filter (notN a)).filter (notN t) ++ [p])).Sublist (blksF (fs.filter (notN a) ++ [p])) := by
      rw [blksF_snoc, blksF_snoc]
      exact List.Sublist.append (blksF_sub _ _) (List.Sublist.refl _)
    exact e1.nodup_iff.1 (e3.nodup (e2.nodup_iff.2 hi.nd))
  have hR0 : filF (rnR fs a t) = 0 := by
    refine filF_iff.2 ⟨?_, ?_, ?_, hblk⟩
    · have := hi.len
      have h5 : ((fs.filter (notN a)).filter (notN t)).length ≤ (fs.filter (notN a)).length := List.length_filter_le _ _
      omega
    · intro q hq
      rw [hR] at hq
      rcases List.mem_append.1 (hpp.mem_iff.2 hq) with h2 | h2
      · exact hsi.one q (List.mem_filter.1 h2).1
      · rw [List.mem_singleton] at h2
        subst h2
        have hq := oneF_iff.1 (hi.one p hin)
        exact oneF_iff.2 ⟨⟨ht, hq.1.2⟩, hq.2⟩
    · rw [hR]; exact put_up _ hsi.up
  refine ⟨p, hlk, h1, ?_, hR0, ?_, ?_, ?_, ?_⟩
  · rw [faR_of h0, hfl]
  · rw [faC_of hR0, hR]
    exact if_pos (put_has _ (t, p.2.1, p.2.2))
  · rw [faR_of hR0, hR]
    exact put_filter _ (t, p.2.1, p.2.2)
  · by_cases hat : a = t
    · subst hat
      rw [notN_gone, if_neg (by decide)] at hlt
      rw [if_neg (by simp)]
      omega
    · rw [notN_has hat] at hlt
      rw [faC_of h0]
      by_cases hh : hasF fs t = true
      · rw [if_pos hh] at hlt
        rw [if_pos hh, if_pos ⟨hat, rfl⟩]
        omega
      · rw [if_neg hh] at hlt
        rw [if_neg hh, if_neg (by simp)]
        omega
  · intro hat
    rw [faC_of hR0, hR, put_other hsi.up hat, notN_gone]
    rfl
end Go.Proofs.Ytbfdnjhdlnfpmaa
/- Chapter 8: what is known of a list into which a file was put, and of words read back (mathematics alone). -/
namespace Go.Proofs.Ytbfdnjhdlnfpmaa
open Go.RowKit

theorem words_allF {xs : List Int} (h1 : xs.length ≤ 64) (h2 : ∀ x, x ∈ xs → 0 ≤ x ∧ x ≤ 65535) : wordsF xs = 0 := by
  unfold wordsF
  refine wF_ok h1 (fun i hi => ?_)
  have := h2 xs[i] (List.getElem_mem hi)
  simpa [List.getD, hi] using this
theorem bdF_small : ∀ {fs : List Oj}, (∀ p, p ∈ fs → oneF p = 0) → ∀ x, x ∈ bdF fs → 0 ≤ x ∧ x ≤ 99
  | [], _, x, hx => by simp [bdF] at hx
  | p :: r, h, x, hx => by
    obtain ⟨⟨h1, h2, h3⟩, _, h4⟩ := oneF_iff.1 (h p (by simp))
    rw [bdF, List.mem_cons, List.mem_cons, List.mem_append] at hx
    rcases hx with rfl | rfl | hx | hx
    · omega
    · omega
    · have := List.all_eq_true.1 h4 x hx
      unfold inB at this
      simp at this
      omega
    · exact bdF_small (fun q hq => h q (by simp [hq])) x hx
theorem pk_words {fs : List Oj} (h : filF fs = 0) : wordsF (pkF fs) = 0 := by
  have hi := filF_iff.1 h
  have hl := pkF_small h
  refine words_allF (by omega) (fun x hx => ?_)
  unfold pkF at hx
  rcases List.mem_cons.1 hx with rfl | hx
  · have := hi.len
    omega
  · have := bdF_small hi.one x hx
    omega
/-- A directory is read back from its words. -/
theorem dir_back {fs : List Oj} (h : filF fs = 0) : udC (pkF fs) = 0 ∧ udR (pkF fs) = fs := by
  have hw := pk_words h
  have hd : DirOf (pkF fs) fs := ⟨h, rfl⟩
  have he := dir_I hd
  have hb : dirB (pkF fs) = true := by rw [dirB_iff, he]; exact hd
  have hne : pkF fs ≠ [] := by unfold pkF; simp
  constructor
  · unfold udC; rw [if_pos hw, if_neg hne, if_pos hb]
  · unfold udR; rw [if_pos hw, if_neg hne, if_pos hb, he]
/-- .. and words from their files. -/
theorem ud_back {ws : List Int} (h : udC ws = 0) (hne : ws ≠ []) : pdR (udR ws) = ws := by
  unfold udC at h
  by_cases hw : wordsF ws = 0
  · rw [if_pos hw, if_neg hne] at h
    by_cases hb : dirB ws = true
    · have hd := dirB_iff.1 hb
      have e : udR ws = prI ws.tail := by unfold udR; rw [if_pos hw, if_neg hne, if_pos hb]
      rw [e]
      unfold pdR
      rw [if_pos hd.1]
      exact hd.2
    · rw [if_neg hb] at h; exact absurd h (by decide)
  · rw [if_neg hw] at h; exact absurd h hw
theorem put_filter_other {fs : List Oj} {p : Oj} {a : Int} (hup : fs.Pairwise (fun p q => p.1 < q.1)) (ha : a ≠ p.1) : (putF fs p).filter (fun q => q.1 == a) = fs.filter (fun q => q.1 == a) := by
  have h1 : (fs.filter (notN p.1)).filter (fun q => q.1 == a) = fs.filter (fun q => q.1 == a) := by
    rw [List.filter_filter]
    refine List.filter_congr fun q _ => ?_
    unfold notN
    by_cases e : q.1 = a
    · have e2 : ¬ q.1 = p.1 := by omega
      simp [e, ha]
    · simp [e]
  rw [← h1, notN_split p.1 hup]
  unfold putF
  rw [List.filter_append, List.filter_append, List.filter_cons_of_neg (by simp; omega)]
theorem at_of_up : ∀ {fs : List Oj}, fs.Pairwise (fun p q => p.1 < q.1) → ∀ {i : Nat}, i < fs.length → AtF fs (fs.getD i oj0).1 i := by
  intro fs hup i hi
  refine ⟨hi, rfl, fun j hj e => ?_⟩
  have h := List.pairwise_iff_getElem.1 hup j i (by omega) hi hj
  have e1 : fs.getD j oj0 = fs[j] := by simp [List.getD, Nat.lt_trans hj hi]
  have e2 : fs.getD i oj0 = fs[i] := by simp [List.getD, hi]
  rw [e1, e2] at e
  omega
/-- All that the law of files asks. -/
theorem pt_all {fs : List Oj} {p : Oj} (h : ptC fs p = 0) : filF (ptR fs p) = 0 ∧ faC (ptR fs p) p.1 = 0 ∧ faR (ptR fs p) p.1 = [p] ∧ faC (drR (ptR fs p) p.1) p.1 = 4 ∧
    (∀ i, i < fs.length → (fs.getD i oj0).1 ≠ p.1 → faC (ptR fs p) (fs.getD i oj0).1 = 0 ∧ faR (ptR fs p) (fs.getD i oj0).1 = [fs.getD i oj0]) ∧
    udR (pdR (ptR fs p)) = ptR fs p ∧ (biR (ptR fs p)).length = (blksF (ptR fs p)).length := by
  obtain ⟨h0, h1⟩ := ptC_fil h
  have hR : ptR fs p = putF fs p := by unfold ptR; rw [if_pos h]
  rw [hR]
  have hi := filF_iff.1 h0
  have hc : faC (putF fs p) p.1 = 0 := by rw [faC_of h1, if_pos (put_has fs p)]
  refine ⟨h1, hc, ?_, ?_, ?_, ?_, ?_⟩
  · rw [faR_of h1, put_filter]
  · have hd : drR (putF fs p) p.1 = (putF fs p).filter (notN p.1) := by unfold drR; rw [if_pos hc]
    rw [hd, faC_of (filF_sub _ h1), notN_gone]
    rfl
  · intro i hi' hne
    have hA := at_of_up hi.up hi'
    constructor
    · rw [faC_of h1, put_other hi.up hne, if_pos (hasF_at hA)]
    · rw [faR_of h1, put_filter_other hi.up hne, filter_at hi.up hA]
  · have e : pdR (putF fs p) = pkF (putF fs p) := by unfold pdR; rw [if_pos h1]
    rw [e]
    exact (dir_back h1).2
  · unfold biR
    rw [if_pos h1, srtF_len]
/-- How many blocks the first files have. -/
def sumL (fs : List Oj) (k : Nat) : Nat := (blksF (fs.take k)).length
theorem sumL_succ {fs : List Oj} {k : Nat} (h : k < fs.length) : sumL fs (k + 1) = sumL fs k + (fs.getD k oj0).2.2.length := by
  unfold sumL
  rw [List.take_succ_eq_append_getElem h, blksF_snoc, List.length_append]
  simp [List.getD, h]
theorem sumL_all (fs : List Oj) {n : Nat} (h : fs.length = n) : sumL fs n = (blksF fs).length := by unfold sumL; rw [← h, List.take_length]
theorem sumL_le (fs : List Oj) (k : Nat) : sumL fs k ≤ (blksF fs).length := blks_take_len fs k
end Go.Proofs.Ytbfdnjhdlnfpmaa
