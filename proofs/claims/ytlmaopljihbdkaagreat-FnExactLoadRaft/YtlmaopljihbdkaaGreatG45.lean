/- MathRn MathFf Ld0 in one text: what each says stands at its head below. -/
import Derived.Test.YtlmaopljihbdkaaGreatG44
import Derived.Test.YtlmaopljihbdkaaGreatG33
import Derived.Test.YtlmaopljihbdkaaGreatG32
import Derived.Test.YtlmaopljihbdkaaGreatG24
import Derived.Test.YtlmaopljihbdkaaGreatG34
/- Chapter 8: what is known of a list in which a file was renamed (mathematics alone). -/
namespace Go.Proofs.YtlmaopljihbdkaaGreat
open Go.RowKit

theorem blksF_perm {fs gs : List Oj} (h : fs.Perm gs) : (blksF fs).Perm (blksF gs) := by
  induction h with
  | nil => exact List.Perm.refl _
  | cons p _ ih => exact List.Perm.append_left _ ih
  | swap p q l =>
    show (q.2.2 ++ (p.2.2 ++ blksF l)).Perm (p.2.2 ++ (q.2.2 ++ blksF l))
    rw [← List.append_assoc, ← List.append_assoc]
    exact List.Perm.append_right _ List.perm_append_comm
  | trans _ _ h1 h2 => exact h1.trans h2
theorem part_perm (q : Oj → Bool) : ∀ fs : List Oj, (fs.filter q ++ fs.filter (fun p => !q p)).Perm fs
  | [] => List.Perm.refl _
  | p :: r => by
    have ih := part_perm q r
    by_cases h : q p = true
    · rw [List.filter_cons_of_pos h, List.filter_cons_of_neg (by simp [h])]
      exact List.Perm.cons p ih
    · rw [List.filter_cons_of_neg h, List.filter_cons_of_pos (by simpa using h)]
      exact List.perm_middle.trans (List.Perm.cons p ih)
theorem notN_not (a : Int) : (fun p : Oj => !notN a p) = fun p => p.1 == a := by
  funext p
  unfold notN
  simp
theorem hasF_iff {fs : List Oj} {a : Int} : hasF fs a = true ↔ ∃ p, p ∈ fs ∧ p.1 = a := by
  unfold hasF
  rw [List.any_eq_true]
  constructor
  · rintro ⟨p, hp, e⟩; exact ⟨p, hp, by simpa using e⟩
  · rintro ⟨p, hp, e⟩; exact ⟨p, hp, by simpa using e⟩
theorem len_notN {fs : List Oj} (a : Int) (hup : fs.Pairwise (fun p q => p.1 < q.1)) : (fs.filter (notN a)).length + (if hasF fs a = true then 1 else 0) = fs.length := by
  have hl := (part_perm (notN a) fs).length_eq
  rw [notN_not, List.length_append] at hl
  rcases at_or_no fs a with ⟨k, hk⟩ | hno
  · rw [filter_at hup hk] at hl
    rw [if_pos (hasF_at hk)]
    simpa using hl
  · rw [filter_no hno] at hl
    rw [if_neg (by rw [hasF_no hno]; decide)]
    simpa using hl
theorem put_has (fs : List Oj) (p : Oj) : hasF (putF fs p) p.1 = true := hasF_iff.2 ⟨p, List.mem_append_right _ (List.mem_cons_self), rfl⟩
theorem put_filter (fs : List Oj) (p : Oj) : (putF fs p).filter (fun q => q.1 == p.1) = [p] := by
  have h1 : (fs.filter (fun q => decide (q.1 < p.1))).filter (fun q => q.1 == p.1) = [] := by
    rw [List.filter_eq_nil_iff]
    intro q hq e
    have := (List.mem_filter.1 hq).2
    simp at this e
    omega
  have h2 : (fs.filter (fun q => decide (p.1 < q.1))).filter (fun q => q.1 == p.1) = [] := by
    rw [List.filter_eq_nil_iff]
    intro q hq e
    have := (List.mem_filter.1 hq).2
    simp at this e
    omega
  unfold putF
  rw [List.filter_append, h1, List.filter_cons_of_pos (by simp), h2]
  rfl
theorem put_other {fs : List Oj} {p : Oj} {a : Int} (hup : fs.Pairwise (fun p q => p.1 < q.1)) (ha : a ≠ p.1) : hasF (putF fs p) a = hasF fs a := by
  have hm : ∀ q, q ∈ putF fs p ↔ q ∈ fs.filter (notN p.1) ++ [p] := fun q => (put_perm p hup).mem_iff.symm
  rw [Bool.eq_iff_iff, hasF_iff, hasF_iff]
  constructor
  · rintro ⟨q, hq, e⟩
    rcases List.mem_append.1 ((hm q).1 hq) with h | h
    · exact ⟨q, (List.mem_filter.1 h).1, e⟩
    · rw [List.mem_singleton] at h
      subst h
      exact absurd e.symm ha
  · rintro ⟨q, hq, e⟩
    exact ⟨q, (hm q).2 (List.mem_append_left _ (List.mem_filter.2 ⟨hq, by unfold notN; simp; omega⟩)), e⟩
theorem faC_of {fs : List Oj} {a : Int} (h0 : filF fs = 0) : faC fs a = if hasF fs a = true then 0 else 4 := by unfold faC; rw [if_pos h0]
theorem faR_of {fs : List Oj} {a : Int} (h0 : filF fs = 0) : faR fs a = fs.filter (fun p => p.1 == a) := by unfold faR; rw [if_pos h0]
theorem notN_has {fs : List Oj} {a t : Int} (h : a ≠ t) : hasF (fs.filter (notN a)) t = hasF fs t := by
  rw [Bool.eq_iff_iff, hasF_iff, hasF_iff]
  constructor
  · rintro ⟨q, hq, e⟩
    exact ⟨q, (List.mem_filter.1 hq).1, e⟩
  · rintro ⟨q, hq, e⟩
    exact ⟨q, List.mem_filter.2 ⟨hq, by unfold notN; simp; omega⟩, e⟩
theorem notN_gone (fs : List Oj) (a : Int) : hasF (fs.filter (notN a)) a = false := by
  rw [Bool.eq_false_iff]
  intro h
  obtain ⟨q, hq, e⟩ := hasF_iff.1 h
  have := (List.mem_filter.1 hq).2
  unfold notN at this
  simp at this
  exact this e
/-- All that the law of renaming asks. -/
theorem rn_all {fs : List Oj} {a t : Int} (h : rnC fs a t = 0) : ∃ p : Oj, p.2.2.length ≤ 5 ∧ faC fs a = 0 ∧ faR fs a = [p] ∧ filF (rnR fs a t) = 0 ∧ faC (rnR fs a t) t = 0 ∧ faR (rnR fs a t) t = [(t, p.2.1, p.2.2)] ∧
    (rnR fs a t).length + (if a ≠ t ∧ faC fs t = 0 then 1 else 0) = fs.length ∧ (a ≠ t → faC (rnR fs a t) a = 4) := by
  have h1 := rnC_fa h
  have h0 := faC_fil h1
  obtain ⟨k, hk⟩ := faC_has h1
  have ht : 1 ≤ t ∧ t ≤ 99 := by
    unfold rnC at h
    rw [if_pos h1] at h
    by_cases ht : 1 ≤ t ∧ t ≤ 99
    · exact ht
    · rw [if_neg ht] at h; cases h
  have hi := filF_iff.1 h0
  have hf := flF_at h0 hk
  have hR : rnR fs a t = putF (fs.filter (notN a)) (t, (flF fs a).2.1, (flF fs a).2.2) := by unfold rnR; rw [if_pos h]
  rw [hf] at hR
  have hlk := one_len h0 hk.1
  have hin : fs.getD k oj0 ∈ fs := by
    rw [List.getD, List.getElem?_eq_getElem hk.1]
    exact List.getElem_mem hk.1
  have hfl := filter_at hi.up hk
  obtain ⟨p, hp⟩ : ∃ p, fs.getD k oj0 = p := ⟨_, rfl⟩
  have hpa : p.1 = a := hp ▸ hk.2.1
  rw [hp] at hR hlk hin hfl
  have hs := filF_sub (notN a) h0
  have hsi := filF_iff.1 hs
  have hpp := put_perm (t, p.2.1, p.2.2) hsi.up
  have hlen : (rnR fs a t).length = ((fs.filter (notN a)).filter (notN t)).length + 1 := by
    rw [hR, ← hpp.length_eq, List.length_append]; rfl
  have hla := len_notN a hi.up
  rw [if_pos (hasF_at hk)] at hla
  have hlt := len_notN t hsi.up
  have hblk : (blksF (rnR fs a t)).Nodup := by
    have e1 : (blksF ((fs.filter (notN a)).filter (notN t) ++ [p])).Perm (blksF (rnR fs a t)) := by
      have := blksF_perm hpp
      rw [blksF_snoc] at this ⊢
      rw [hR]
      exact this
    have e2 : (blksF (fs.filter (notN a) ++ [p])).Perm (blksF fs) := by
      have := blksF_perm (part_perm (notN a) fs)
      rw [notN_not, hfl] at this
      exact this
    have e3 : (blksF ((fs.filter (notN a)).filter (notN t) ++ [p])).Sublist (blksF (fs.filter (notN a) ++ [p])) := by
      rw [blksF_snoc, blksF_snoc]
      exact List.Sublist.append (blksF_sub _ _) (List.Sublist.refl _)
    exact e1.nodup_iff.1 (e3.nodup (e2.nodup_iff.2 hi.nd))
  have hR0 : filF (rnR fs a t) = 0 := by
    refine filF_iff.2 ⟨?_, ?_, ?_, hblk⟩
    · have := hi.len
      have h5 : ((fs.filter (notN a)).filter (notN t)).length ≤ (fs.filter (notN a)).length := List.length_filter_le _ _
      omega
    · intro q hq
      rw [hR] at hq
      rcases List.mem_append.1 (hpp.mem_iff.2 hq) with h2 | h2
      · exact hsi.one q (List.mem_filter.1 h2).1
      · rw [List.mem_singleton] at h2
        subst h2
        have hq := oneF_iff.1 (hi.one p hin)
        exact oneF_iff.2 ⟨⟨ht, hq.1.2⟩, hq.2⟩
    · rw [hR]; exact put_up _ hsi.up
  refine ⟨p, hlk, h1, ?_, hR0, ?_, ?_, ?_, ?_⟩
  · rw [faR_of h0, hfl]
  · rw [faC_of hR0, hR]
    exact if_pos (put_has _ (t, p.2.1, p.2.2))
  · rw [faR_of hR0, hR]
    exact put_filter _ (t, p.2.1, p.2.2)
  · by_cases hat : a = t
    · subst hat
      rw [notN_gone, if_neg (by decide)] at hlt
      rw [if_neg (by simp)]
      omega
    · rw [notN_has hat] at hlt
      rw [faC_of h0]
      by_cases hh : hasF fs t = true
      · rw [if_pos hh] at hlt
        rw [if_pos hh, if_pos ⟨hat, rfl⟩]
        omega
      · rw [if_neg hh] at hlt
        rw [if_neg hh, if_neg (by simp)]
        omega
  · intro hat
    rw [faC_of hR0, hR, put_other hsi.up hat, notN_gone]
    rfl
end Go.Proofs.YtlmaopljihbdkaaGreat
/- Chapter 8: what is known of a list into which a file was put, and of words read back (mathematics alone). -/
namespace Go.Proofs.YtlmaopljihbdkaaGreat
open Go.RowKit

theorem words_allF {xs : List Int} (h1 : xs.length ≤ 64) (h2 : ∀ x, x ∈ xs → 0 ≤ x ∧ x ≤ 65535) : wordsF xs = 0 := by
  unfold wordsF
  refine wF_ok h1 (fun i hi => ?_)
  have := h2 xs[i] (List.getElem_mem hi)
  simpa [List.getD, hi] using this
theorem bdF_small : ∀ {fs : List Oj}, (∀ p, p ∈ fs → oneF p = 0) → ∀ x, x ∈ bdF fs → 0 ≤ x ∧ x ≤ 99
  | [], _, x, hx => by simp [bdF] at hx
  | p :: r, h, x, hx => by
    obtain ⟨⟨h1, h2, h3⟩, _, h4⟩ := oneF_iff.1 (h p (by simp))
    rw [bdF, List.mem_cons, List.mem_cons, List.mem_append] at hx
    rcases hx with rfl | rfl | hx | hx
    · omega
    · omega
    · have := List.all_eq_true.1 h4 x hx
      unfold inB at this
      simp at this
      omega
    · exact bdF_small (fun q hq => h q (by simp [hq])) x hx
theorem pk_words {fs : List Oj} (h : filF fs = 0) : wordsF (pkF fs) = 0 := by
  have hi := filF_iff.1 h
  have hl := pkF_small h
  refine words_allF (by omega) (fun x hx => ?_)
  unfold pkF at hx
  rcases List.mem_cons.1 hx with rfl | hx
  · have := hi.len
    omega
  · have := bdF_small hi.one x hx
    omega
/-- A directory is read back from its words. -/
theorem dir_back {fs : List Oj} (h : filF fs = 0) : udC (pkF fs) = 0 ∧ udR (pkF fs) = fs := by
  have hw := pk_words h
  have hd : DirOf (pkF fs) fs := ⟨h, rfl⟩
  have he := dir_I hd
  have hb : dirB (pkF fs) = true := by rw [dirB_iff, he]; exact hd
  have hne : pkF fs ≠ [] := by unfold pkF; simp
  constructor
  · unfold udC; rw [if_pos hw, if_neg hne, if_pos hb]
  · unfold udR; rw [if_pos hw, if_neg hne, if_pos hb, he]
/-- .. and words from their files. -/
theorem ud_back {ws : List Int} (h : udC ws = 0) (hne : ws ≠ []) : pdR (udR ws) = ws := by
  unfold udC at h
  by_cases hw : wordsF ws = 0
  · rw [if_pos hw, if_neg hne] at h
    by_cases hb : dirB ws = true
    · have hd := dirB_iff.1 hb
      have e : udR ws = prI ws.tail := by unfold udR; rw [if_pos hw, if_neg hne, if_pos hb]
      rw [e]
      unfold pdR
      rw [if_pos hd.1]
      exact hd.2
    · rw [if_neg hb] at h; exact absurd h (by decide)
  · rw [if_neg hw] at h; exact absurd h hw
theorem put_filter_other {fs : List Oj} {p : Oj} {a : Int} (hup : fs.Pairwise (fun p q => p.1 < q.1)) (ha : a ≠ p.1) : (putF fs p).filter (fun q => q.1 == a) = fs.filter (fun q => q.1 == a) := by
  have h1 : (fs.filter (notN p.1)).filter (fun q => q.1 == a) = fs.filter (fun q => q.1 == a) := by
    rw [List.filter_filter]
    refine List.filter_congr fun q _ => ?_
    unfold notN
    by_cases e : q.1 = a
    · have e2 : ¬ q.1 = p.1 := by omega
      simp [e, ha]
    · simp [e]
  rw [← h1, notN_split p.1 hup]
  unfold putF
  rw [List.filter_append, List.filter_append, List.filter_cons_of_neg (by simp; omega)]
theorem at_of_up : ∀ {fs : List Oj}, fs.Pairwise (fun p q => p.1 < q.1) → ∀ {i : Nat}, i < fs.length → AtF fs (fs.getD i oj0).1 i := by
  intro fs hup i hi
  refine ⟨hi, rfl, fun j hj e => ?_⟩
  have h := List.pairwise_iff_getElem.1 hup j i (by omega) hi hj
  have e1 : fs.getD j oj0 = fs[j] := by simp [List.getD, Nat.lt_trans hj hi]
  have e2 : fs.getD i oj0 = fs[i] := by simp [List.getD, hi]
  rw [e1, e2] at e
  omega
/-- All that the law of files asks. -/
theorem pt_all {fs : List Oj} {p : Oj} (h : ptC fs p = 0) : filF (ptR fs p) = 0 ∧ faC (ptR fs p) p.1 = 0 ∧ faR (ptR fs p) p.1 = [p] ∧ faC (drR (ptR fs p) p.1) p.1 = 4 ∧
    (∀ i, i < fs.length → (fs.getD i oj0).1 ≠ p.1 → faC (ptR fs p) (fs.getD i oj0).1 = 0 ∧ faR (ptR fs p) (fs.getD i oj0).1 = [fs.getD i oj0]) ∧
    udR (pdR (ptR fs p)) = ptR fs p ∧ (biR (ptR fs p)).length = (blksF (ptR fs p)).length := by
  obtain ⟨h0, h1⟩ := ptC_fil h
  have hR : ptR fs p = putF fs p := by unfold ptR; rw [if_pos h]
  rw [hR]
  have hi := filF_iff.1 h0
  have hc : faC (putF fs p) p.1 = 0 := by rw [faC_of h1, if_pos (put_has fs p)]
  refine ⟨h1, hc, ?_, ?_, ?_, ?_, ?_⟩
  · rw [faR_of h1, put_filter]
  · have hd : drR (putF fs p) p.1 = (putF fs p).filter (notN p.1) := by unfold drR; rw [if_pos hc]
    rw [hd, faC_of (filF_sub _ h1), notN_gone]
    rfl
  · intro i hi' hne
    have hA := at_of_up hi.up hi'
    constructor
    · rw [faC_of h1, put_other hi.up hne, if_pos (hasF_at hA)]
    · rw [faR_of h1, put_filter_other hi.up hne, filter_at hi.up hA]
  · have e : pdR (putF fs p) = pkF (putF fs p) := by unfold pdR; rw [if_pos h1]
    rw [e]
    exact (dir_back h1).2
  · unfold biR
    rw [if_pos h1, srtF_len]
/-- How many blocks the first files have. -/
def sumL (fs : List Oj) (k : Nat) : Nat := (blksF (fs.take k)).length
theorem sumL_succ {fs : List Oj} {k : Nat} (h : k < fs.length) : sumL fs (k + 1) = sumL fs k + (fs.getD k oj0).2.2.length := by
  unfold sumL
  rw [List.take_succ_eq_append_getElem h, blksF_snoc, List.length_append]
  simp [List.getD, h]
theorem sumL_all (fs : List Oj) {n : Nat} (h : fs.length = n) : sumL fs n = (blksF fs).length := by unfold sumL; rw [← h, List.take_length]
theorem sumL_le (fs : List Oj) (k : Nat) : sumL fs k ≤ (blksF fs).length := blks_take_len fs k
end Go.Proofs.YtlmaopljihbdkaaGreat
/- Chapter 11: a store read out of blocks: the mathematics. -/
namespace Go.Proofs.YtlmaopljihbdkaaGreat
open Go.RowKit

/-- The numbers of block 2. -/
def ldN (M : Int → List Int) (k : Nat) : Int := (M 2).getD k 0
/-- The blocks of files. -/
def ldB (M : Int → List Int) : List Int := blksF (udR (M 1))
/-- How many entries are looked for. -/
def ldK (M : Int → List Int) : Nat := (if ldN M 4 < 14 then ldN M 4 else 14).toNat
/-- The words of one entry's slot. -/
def ldW (M : Int → List Int) (i : Nat) : List Int := M (sfV (ldN M 2 + 1 + (i : Int)))
def ldE (M : Int → List Int) (n : Nat) : List Oj := (List.range n).flatMap fun i => ueR (ldW M i)
/-- What the program reads. -/
def ldA (M : Int → List Int) : Rf := ⟨ldN M 0, ldN M 1, ldN M 2, ldN M 3, (ldB M).flatMap M, ldE M (ldK M)⟩
/-- Each block of the image stands there. -/
def hlAll (M : Int → List Int) (L : List (Int × List Int)) : Prop := ∀ p, p ∈ L → M p.1 = p.2
/-- Blocks that are passed over. -/
def psB (a : Int) : Prop := (24 ≤ a ∧ a < 38) ∨ (3 ≤ a ∧ a ≤ 22)
instance (a : Int) : Decidable (psB a) := by unfold psB; infer_instance
def hlRest (M : Int → List Int) (L : List (Int × List Int)) : Prop := ∀ a : Nat, a < 40 → M (a : Int) ≠ [] → (∀ p, p ∈ L → p.1 ≠ (a : Int)) → psB (a : Int)
def hlP (M : Int → List Int) (r : Rf) : Prop := hlAll M (stP r) ∧ hlRest M (stP r)
instance (M : Int → List Int) (L : List (Int × List Int)) : Decidable (hlAll M L) := by unfold hlAll; infer_instance
instance (M : Int → List Int) (L : List (Int × List Int)) : Decidable (hlRest M L) := by unfold hlRest; infer_instance
instance (M : Int → List Int) (r : Rf) : Decidable (hlP M r) := by unfold hlP; infer_instance
/-- What the model asks of the blocks. -/
def lmW (M : Int → List Int) (i : Nat) : List Int := M (24 + (ldN M 2 + 1 + (i : Int)) % 14)
structure LmD (M : Int → List Int) : Prop where
  len : (M 2).length = 5
  dir : udC (M 1) = 0
  most : ldN M 4 ≤ 14
  each : ∀ i : Nat, (i : Int) < ldN M 4 → ueC (lmW M i) = 0
def lmS (M : Int → List Int) : List Int := match udR (M 1) with
  | [] => []
  | p :: _ => p.2.2.flatMap M
/-- What the model reads. -/
def lmA (M : Int → List Int) : Rf := ⟨ldN M 0, ldN M 1, ldN M 2, ldN M 3, lmS M, (List.range (ldN M 4).toNat).map fun i => enO (lmW M i)⟩

theorem mem_me (r : Rf) : (2, [r.tm, r.vt, r.si, r.st, (r.lg.length : Int)]) ∈ stP r := by simp [stP, meP]
theorem mem_sn {r : Rf} {x : Int × List Int} (h : x ∈ snP r) : x ∈ stP r := by simp [stP, h]
theorem mem_en {r : Rf} {p : Oj} (h : p ∈ r.lg) : (sfV p.1, peR p) ∈ stP r := by
  unfold stP enP
  exact List.mem_append_right _ (List.mem_map.2 ⟨p, h, rfl⟩)
/-- Chunks of a list, one behind the other, are the list. -/
theorem chunks (xs : List Int) : ∀ (n : Nat), ((List.range n).flatMap fun k => (xs.drop (8 * k)).take 8) = xs.take (8 * n) := by
  intro n
  induction n with
  | zero => simp
  | succ n ih =>
    rw [List.range_succ, List.flatMap_append, ih]
    simp only [List.flatMap_cons, List.flatMap_nil, List.append_nil]
    rw [show 8 * (n + 1) = 8 * n + 8 by omega, List.take_add]
theorem fm_range {M : Int → List Int} : ∀ (L : List Int), L.flatMap M = (List.range L.length).flatMap fun k => M (L.getD k 0) := by
  intro L
  have : L = (List.range L.length).map fun k => L.getD k 0 := by
    refine List.ext_getElem (by simp) fun i h1 h2 => ?_
    simp [List.getD, h1]
  conv => lhs; rw [this]
  rw [List.flatMap_map]
theorem flatMap_same {α β : Type} {f g : α → List β} : ∀ (L : List α), (∀ a, a ∈ L → f a = g a) → L.flatMap f = L.flatMap g := by
  intro L
  induction L with
  | nil => intro _; rfl
  | cons a L ih =>
    intro h
    rw [List.flatMap_cons, List.flatMap_cons, h a (by simp), ih fun b hb => h b (by simp [hb])]
theorem flatMap_one {α β : Type} (f : α → β) : ∀ (L : List α), L.flatMap (fun a => [f a]) = L.map f := by
  intro L
  induction L with
  | nil => rfl
  | cons a L ih => rw [List.flatMap_cons, ih]; rfl

/-- Where the blocks of a store without a fault stand, both read this store. -/
theorem ld_back {M : Int → List Int} {r : Rf} (h : rfF r = 0) (hp : hlP M r) : LmD M ∧ lmA M = r ∧ ldA M = r := by
  obtain ⟨ha, hr⟩ := hp
  have hi := rfF_iff.1 h
  have hl := daF_len hi.da
  have h2 : M 2 = [r.tm, r.vt, r.si, r.st, (r.lg.length : Int)] := ha _ (mem_me r)
  have h14 := (logF_iff.1 hi.lo).1
  have n0 : ldN M 0 = r.tm := by unfold ldN; rw [h2]; rfl
  have n1 : ldN M 1 = r.vt := by unfold ldN; rw [h2]; rfl
  have n2 : ldN M 2 = r.si := by unfold ldN; rw [h2]; rfl
  have n3 : ldN M 3 = r.st := by unfold ldN; rw [h2]; rfl
  have n4 : ldN M 4 = (r.lg.length : Int) := by unfold ldN; rw [h2]; rfl
  -- the directory
  have hdir : udC (M 1) = 0 ∧ udR (M 1) = sfL r := by
    by_cases h0 : r.si = 0
    · have e : sfL r = [] := by unfold sfL; rw [if_pos h0]
      have hfl : flP r = [] := by unfold flP; rw [if_pos e]
      have h1 : M 1 = [] := by
        refine Classical.byContradiction fun hne => ?_
        have := hr 1 (by omega) hne fun p hpm => by
          unfold stP at hpm
          rw [hfl, List.nil_append] at hpm
          rcases List.mem_append.1 hpm with hpm | hpm
          · rcases List.mem_append.1 hpm with hpm | hpm
            · obtain rfl : p = _ := by simpa [meP] using hpm
              show (2 : Int) ≠ 1
              decide
            · have := (sn_some hl hpm).1; omega
          · have := (en_some hi.lo hpm).1; omega
        unfold psB at this
        omega
      rw [h1, e]
      exact udC_nil
    · have e : sfL r ≠ [] := by unfold sfL; rw [if_neg h0]; simp
      have hm : (1, pdR (sfL r)) ∈ stP r := by unfold stP flP; rw [if_neg e]; simp
      have h1 : M 1 = pkF (sfL r) := by
        have := ha _ hm
        unfold pdR at this
        rw [if_pos (sf_fil r hl)] at this
        exact this
      rw [h1]
      exact dir_back (sf_fil r hl)
  obtain ⟨hd1, hd2⟩ := hdir
  -- the words
  have hbl : ldB M = sbL r := by
    unfold ldB
    rw [hd2]
    unfold sfL sbL
    split <;> simp [blksF]
  have hsn : (sbL r).flatMap M = r.sn := by
    rw [fm_range, flatMap_same (g := fun k => (r.sn.drop (8 * k)).take 8) _ (fun k hk => ?_), chunks]
    · by_cases h0 : r.si = 0
      · have := hi.fm.2 h0
        rw [this]; simp
      · exact List.take_of_length_le ((sbL_some hl).2.2 h0)
    · have hk := List.mem_range.1 hk
      have hm : ((sbL r).getD k 0, (r.sn.drop (8 * k)).take 8) ∈ snP r := by
        unfold snP
        exact List.mem_map.2 ⟨k, List.mem_range.2 hk, rfl⟩
      exact ha _ (mem_sn hm)
  have hlm : lmS M = r.sn := by
    unfold lmS
    rw [hd2]
    unfold sfL
    by_cases h0 : r.si = 0
    · rw [if_pos h0]
      exact (hi.fm.2 h0).symm
    · rw [if_neg h0]
      show (tbL [] (nbF r.sn.length)).flatMap M = r.sn
      have e : sbL r = tbL [] (nbF r.sn.length) := by unfold sbL; rw [if_neg h0]
      rw [← e]
      exact hsn
  -- the entries
  have hat : ∀ i : Nat, i < r.lg.length → entF (r.lg.getD i oj0) = 0 ∧ (r.lg.getD i oj0).1 = r.si + 1 + (i : Int) ∧ M (sfV (r.lg.getD i oj0).1) = pkE (r.lg.getD i oj0) := fun i hi' => by
    have he := (logF_iff.1 hi.lo).2.1 i hi'
    have hne : r.lg ≠ [] := by intro e; rw [e] at hi'; simp at hi'
    have h1 := en_at hi.lo i 0 (by omega)
    have h0 := (hi.lk hne).1
    rw [Nat.zero_add] at h1
    refine ⟨he, by omega, ?_⟩
    have hm : r.lg.getD i oj0 ∈ r.lg := by
      rw [show r.lg.getD i oj0 = r.lg[i] by simp [List.getD, hi']]
      exact List.getElem_mem hi'
    have := ha _ (mem_en hm)
    unfold peR at this
    rw [if_pos he] at this
    exact this
  have hld : ∀ i : Nat, i < r.lg.length → ldW M i = pkE (r.lg.getD i oj0) ∧ lmW M i = pkE (r.lg.getD i oj0) := fun i hi' => by
    obtain ⟨he, hx, hM⟩ := hat i hi'
    have hz := (entF_zero he).1.1
    rw [hx] at hM hz
    have hM' := hM
    unfold sfV at hM'
    rw [if_pos hz] at hM'
    unfold ldW lmW
    rw [n2]
    exact ⟨hM, hM'⟩
  have hK : ldK M = r.lg.length := by
    unfold ldK
    rw [n4]
    split <;> omega
  have hlg : (List.range r.lg.length).map (fun i => r.lg.getD i oj0) = r.lg := by
    refine List.ext_getElem (by simp) fun i h1 h2 => ?_
    simp [List.getD, h2]
  refine ⟨⟨by rw [h2]; rfl, hd1, by omega, fun i hi' => ?_⟩, ?_, ?_⟩
  · rw [n4] at hi'
    have hi' : i < r.lg.length := by omega
    rw [(hld i hi').2]
    exact (pk_back (hat i hi').1).1
  · have e : ((List.range (ldN M 4).toNat).map fun i => enO (lmW M i)) = r.lg := by
      rw [n4, show ((r.lg.length : Int)).toNat = r.lg.length by omega]
      conv => rhs; rw [← hlg]
      refine List.map_congr_left fun i hi' => ?_
      have hi' := List.mem_range.1 hi'
      rw [(hld i hi').2]
      have := en_back (pk_back (hat i hi').1).1
      have h9 := (pk_back (hat i hi').1).2.1
      rw [this.1] at h9
      simpa using h9
    unfold lmA
    rw [n0, n1, n2, n3, hlm, e]
  · have e : ldE M (ldK M) = r.lg := by
      rw [hK]
      unfold ldE
      conv => rhs; rw [← hlg]
      rw [← flatMap_one]
      refine flatMap_same _ fun i hi' => ?_
      have hi' := List.mem_range.1 hi'
      rw [(hld i hi').1]
      exact (pk_back (hat i hi').1).2.1
    unfold ldA
    rw [n0, n1, n2, n3, hbl, hsn, e]

/-- Is what is read a store whose blocks these are? -/
def ldO (M : Int → List Int) : Bool := decide (rfF (ldA M) = 0 ∧ hlP M (ldA M))
theorem ldO_iff {M : Int → List Int} : ldO M = true ↔ rfF (ldA M) = 0 ∧ hlP M (ldA M) := by unfold ldO; simp
theorem ldO_no {M : Int → List Int} (h : ¬ (rfF (ldA M) = 0 ∧ hlP M (ldA M))) : ldO M = false := by unfold ldO; simp [h]
/-- The model reads a store just where the program does, and the same one. -/
theorem ld_same {M : Int → List Int} : (LmD M ∧ rfF (lmA M) = 0 ∧ hlP M (lmA M)) ↔ ldO M = true := by
  rw [ldO_iff]
  constructor
  · rintro ⟨_, h1, h2⟩
    have := (ld_back h1 h2).2.2
    rw [this]
    exact ⟨h1, h2⟩
  · rintro ⟨h1, h2⟩
    obtain ⟨a, b, _⟩ := ld_back h1 h2
    rw [b]
    exact ⟨a, h1, h2⟩
theorem ld_eq {M : Int → List Int} (h : ldO M = true) : lmA M = ldA M := by
  obtain ⟨h1, h2⟩ := ldO_iff.1 h
  exact (ld_back h1 h2).2.1

/-- What 'LoadRaft' answers. -/
def ldC (vs : List (Int × List Int)) : Int := if vF vs = 0 then (if vs = [] then 0 else if ldO (lkP vs) = true then 0 else 5) else vF vs
def ldR (vs : List (Int × List Int)) : Rf := if vF vs = 0 ∧ vs ≠ [] ∧ ldO (lkP vs) = true then ldA (lkP vs) else rf0
theorem ld_bad {vs : List (Int × List Int)} (h : vF vs ≠ 0) : ldC vs = vF vs ∧ ldR vs = rf0 := by unfold ldC ldR; rw [if_neg h, if_neg (fun k => h k.1)]; exact ⟨rfl, rfl⟩
theorem ld_none {vs : List (Int × List Int)} (h : vF vs = 0) (h1 : vs = []) : ldC vs = 0 ∧ ldR vs = rf0 := by unfold ldC ldR; rw [if_pos h, if_pos h1, if_neg (fun k => k.2.1 h1)]; exact ⟨rfl, rfl⟩
theorem ld_text {vs : List (Int × List Int)} (h : vF vs = 0) (h1 : vs ≠ []) (h2 : ldO (lkP vs) = false) : ldC vs = 5 ∧ ldR vs = rf0 := by unfold ldC ldR; rw [if_pos h, if_neg h1, h2, if_neg (by decide), if_neg (fun k => by simp at k)]; exact ⟨rfl, rfl⟩
theorem ld_ok {vs : List (Int × List Int)} (h : vF vs = 0) (h1 : vs ≠ []) (h2 : ldO (lkP vs) = true) : ldC vs = 0 ∧ ldR vs = ldA (lkP vs) := by unfold ldC ldR; rw [if_pos h, if_neg h1, if_pos h2, if_pos ⟨h, h1, h2⟩]; exact ⟨rfl, rfl⟩
end Go.Proofs.YtlmaopljihbdkaaGreat
