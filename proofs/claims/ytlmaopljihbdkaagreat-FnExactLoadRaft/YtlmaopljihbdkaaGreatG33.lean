/- Fi9 Fi10 Fu1 Fi6 Fu2 in one text: what each says stands at its head below. -/
import Derived.Test.YtlmaopljihbdkaaGreatG32
import Derived.Test.YtlmaopljihbdkaaGreatG25
import Derived.Test.YtlmaopljihbdkaaGreatG21
import Derived.Test.YtlmaopljihbdkaaGreatG30
import Derived.Deep.AppendLies
import Derived.Test.YtlmaopljihbdkaaGreatG15
/- Chapter 8: files without one; 'DropFile' of both sides, walked. -/
namespace Go.Proofs.YtlmaopljihbdkaaGreat
open Go.RowKit

theorem fcount_succ (q : Oj → Bool) (fs : List Oj) (k : Nat) (h : k < fs.length) : ((fs.take (k + 1)).filter q).length = ((fs.take k).filter q).length + if q (fs.getD k oj0) = true then 1 else 0 := by
  have e : fs.getD k oj0 = fs[k] := by simp [List.getD, h]
  rw [e, List.take_succ_eq_append_getElem h, List.filter_append, List.length_append]
  congr 1
  by_cases hq : q fs[k] = true
  · rw [if_pos hq]; simp [hq]
  · rw [if_neg hq]; simp [hq]
theorem fcount_all (q : Oj → Bool) {fs : List Oj} {n : Nat} (h : fs.length = n) : ((fs.take n).filter q).length = (fs.filter q).length := by rw [← h, List.take_length]
theorem fcount_le (q : Oj → Bool) (fs : List Oj) (k : Nat) : ((fs.take k).filter q).length ≤ (fs.filter q).length := by
  conv => rhs; rw [← List.take_append_drop k fs, List.filter_append, List.length_append]
  omega
theorem filter_getD (q : Oj → Bool) (fs : List Oj) (k : Nat) (h : k < fs.length) (hq : q (fs.getD k oj0) = true) : (fs.filter q).getD ((fs.take k).filter q).length oj0 = fs.getD k oj0 := by
  have e : fs.getD k oj0 = fs[k] := by simp [List.getD, h]
  rw [e] at hq ⊢
  have e2 : fs = fs.take k ++ fs[k] :: fs.drop (k + 1) := by rw [← List.drop_eq_getElem_cons h, List.take_append_drop]
  have e3 : fs.filter q = (fs.take k).filter q ++ fs[k] :: (fs.drop (k + 1)).filter q := by
    conv => lhs; rw [e2]
    rw [List.filter_append, List.filter_cons_of_pos hq]
  rw [e3]
  simp [List.getD]
theorem filter_lens (q : Oj → Bool) {fs : List Oj} {m : Nat} (h : ∀ i, i < fs.length → (fs.getD i oj0).2.2.length ≤ m) : ∀ i, i < (fs.filter q).length → ((fs.filter q).getD i oj0).2.2.length ≤ m := by
  intro i hi
  have hm : (fs.filter q)[i] ∈ fs := (List.mem_filter.1 (List.getElem_mem hi)).1
  obtain ⟨j, hj, e⟩ := List.mem_iff_getElem.1 hm
  have := h j hj
  simp only [List.getD, List.getElem?_eq_getElem hj, Option.getD_some] at this
  simp only [List.getD, List.getElem?_eq_getElem hi, Option.getD_some]
  rw [← e]; exact this
/-- Whether a file has another label. -/
def notL (a s : Int) (p : Oj) : Bool := !(p.1 == a && p.2.1 == s)

/-- Files that share their words with older memory: j of them, in a row of their own. -/
def ShFi (w wr : World) (v : Value) (j : Nat) (gs : List Oj) : Prop :=
  ∃ V, wr.ownsRow w.heap.size 114 3 v j (cellsFi gs j V) ∧ (∀ i, i < j → RdI (fun _ => True) w (V i) (gs.getD i oj0).2.2) ∧ Below w.heap.size w wr
theorem ShFi.empty (w : World) (gs : List Oj) : ShFi w (w.alloc (.cells #[] 114)) (.slice (some ⟨w.heap.size, 0, none⟩) 0 0) 0 gs :=
  ⟨fun _ => .bool false, World.ownsRow_made w #[] 0 (Nat.le_refl _) (by unfold maxLen; omega) (by simp), fun i hi => absurd hi (Nat.not_lt_zero _), below_alloc _ _⟩
theorem ShFi.step {w wr w3 : World} {v z : Value} {j g cap : Nat} {gs : List Oj} {V : Nat → Value} {o : Obj} {a s : Int} (hr : wr.ownsRow w.heap.size 114 3 v j (cellsFi gs j V)) (hV : ∀ i, i < j → RdI (fun _ => True) w (V i) (gs.getD i oj0).2.2) (hb : Below w.heap.size w wr)
    (hz : RdI (fun _ => True) w z (gs.getD j oj0).2.2) (h1 : (gs.getD j oj0).1 = a) (h2 : (gs.getD j oj0).2.1 = s)
    (hown : w3.ownsRow w.heap.size 114 3 (.slice (some ⟨g, 0, none⟩) (j + 1) cap) (j + 1) (cellsFi gs j V ++ [.int .i64 a, .int .i64 s, z])) (hg : (wr.alloc o).grownBy w3 v.ownBlock) :
    ShFi w w3 (.slice (some ⟨g, 0, none⟩) (j + 1) cap) (j + 1) gs := by
  refine ⟨fun i => if i = j then z else V i, ?_, fun i hi => ?_, (below_on hb (below_alloc wr o)).grown hg (by have := hb.size; simp; omega) (fun r hr' => (hr.lt r hr').1)⟩
  · rw [cellsFi_next, cellsFi_congr gs j _ V (fun i hi => by rw [if_neg (by omega)]), if_pos rfl, h1, h2]
    exact hown
  · by_cases e : i = j
    · subst e; simp only [if_true]; exact hz
    · simp only [if_neg e]; exact hV i (by omega)
theorem ShFi.rd {w wr : World} {v : Value} {j : Nat} {gs : List Oj} (h : ShFi w wr v j gs) (hj : gs.length = j) (hm : j ≤ 1048576) : RdJ (fun _ => True) wr v gs := by
  obtain ⟨V, h1, h2, hb⟩ := h
  subst hj
  rcases h1.2 with ⟨rfl, e⟩ | ⟨g, cap, cur, rfl, hg, hh, _⟩
  · have : gs = [] := List.eq_nil_of_length_eq_zero e
    subst this
    exact ⟨none, 0, rfl, by simp, fun h => absurd rfl h⟩
  · refine ⟨_, cap, rfl, by omega, fun _ => ⟨g, 0, V, rfl, trivial, fun i hi => ⟨?_, ?_, ?_, (h2 i hi).later hb⟩⟩⟩
    · rw [Nat.zero_add, h1.cellAt (i * 3) (by omega)]
      exact cellsFi_flg _ _ _ _ hi
    · rw [Nat.zero_add, h1.cellAt (i * 3 + 1) (by omega)]
      exact cellsFi_num _ _ _ _ hi
    · rw [Nat.zero_add, h1.cellAt (i * 3 + 2) (by omega)]
      exact cellsFi_words _ _ _ _ hi
/-- Whether a file has another name. -/
def notN (a : Int) (p : Oj) : Bool := !(p.1 == a)

end Go.Proofs.YtlmaopljihbdkaaGreat
/- Chapter 8: 'DropFile' of both sides, walked. -/
namespace Go.Proofs.YtlmaopljihbdkaaGreat
open Go.RowKit

def drR (fs : List Oj) (a : Int) : List Oj := if faC fs a = 0 then fs.filter (notN a) else []
theorem faC_fil {fs : List Oj} {a : Int} (h : faC fs a = 0) : filF fs = 0 := by
  by_cases h0 : filF fs = 0
  · exact h0
  · rw [faC_bad h0] at h; exact h
theorem faC_has {fs : List Oj} {a : Int} (h : faC fs a = 0) : ∃ k, AtF fs a k := by
  rcases at_or_no fs a with hk | hno
  · exact hk
  · rw [faC_no hno (faC_fil h)] at h; exact absurd h (by decide)
theorem drR_tot (fs : List Oj) (a : Int) : totJ (drR fs a) (drR fs a).length ≤ 1048576 := by
  unfold drR
  by_cases h : faC fs a = 0
  · rw [if_pos h]
    have h0 := faC_fil h
    refine tot_sub h0 (fun p hp => (List.mem_filter.1 hp).1) ?_
    have := List.length_filter_le (notN a) fs
    have := (filF_iff.1 h0).len
    omega
  · rw [if_neg h]; simp [totJ]
/-- Of files without a fault the ones of another label are the ones of another name. -/
theorem notL_notN {fs : List Oj} {a : Int} {k : Nat} (h0 : filF fs = 0) (h : AtF fs a k) : fs.filter (notL a (fs.getD k oj0).2.1) = fs.filter (notN a) := by
  refine List.filter_congr fun p hp => ?_
  unfold notL notN
  by_cases e : p.1 = a
  · have hm : p ∈ fs.filter (fun p => p.1 == a) := List.mem_filter.2 ⟨hp, by simpa using e⟩
    rw [filter_at (filF_iff.1 h0).up h] at hm
    have : p = fs.getD k oj0 := by simpa using hm
    rw [this]; simp
  · have e' : (p.1 == a) = false := by simpa using e
    simp [e']
theorem notL_none {fs : List Oj} (h0 : filF fs = 0) : fs.filter (notL 0 0) = fs := by
  rw [List.filter_eq_self]
  intro p hp
  have := (oneF_iff.1 ((filF_iff.1 h0).one p hp)).1.1
  unfold notL
  have e : (p.1 == 0) = false := by simp; omega
  simp [e]
theorem notN_none {fs : List Oj} {a : Int} (h : NoF fs a) : fs.filter (notN a) = fs := by
  rw [List.filter_eq_self]
  intro p hp
  obtain ⟨i, hi, rfl⟩ := List.mem_iff_getElem.1 hp
  have := h i hi
  simp only [List.getD, List.getElem?_eq_getElem hi, Option.getD_some] at this
  unfold notN
  simpa using this
theorem lens_of {fs : List Oj} (h0 : filF fs = 0) : fs.length ≤ 1048576 ∧ ∀ i, i < fs.length → (fs.getD i oj0).2.2.length ≤ 1048576 :=
  ⟨by have := (filF_iff.1 h0).len; omega, fun i hi => by have := one_len h0 hi; omega⟩

end Go.Proofs.YtlmaopljihbdkaaGreat
/- Chapter 8: the mathematics of a directory's words. -/
namespace Go.Proofs.YtlmaopljihbdkaaGreat
open Go.RowKit

theorem forgetE {Q : Exit → Act → World → Prop} {x : Exit} {a : Act} {w0 : World} (R : World → Prop) (h0 : R w0) (h : ∀ w, R w → Q x a w) : Q x a w0 := h _ h0
/-- The files that words tell of, as much as is there; g: how many blocks a size needs. -/
def prs (g : Int → Nat) : Nat → List Int → List Oj
  | 0, _ => []
  | _ + 1, [] => []
  | _ + 1, [_] => []
  | n + 1, a :: s :: r => (a, s, r.take (g s)) :: prs g n (r.drop (g s))
def gI (s : Int) : Nat := (nbF s).toNat
def gS (s : Int) : Nat := (nbF (if s < 100 then s else 100)).toNat
/-- More rounds than words: nothing more comes. -/
theorem prs_more (g : Int → Nat) : ∀ (n m : Nat) (ws : List Int), ws.length ≤ n → ws.length ≤ m → prs g n ws = prs g m ws
  | 0, m, ws, h, _ => by
    have : ws = [] := List.eq_nil_of_length_eq_zero (by omega)
    subst this
    cases m <;> rfl
  | n + 1, 0, ws, _, h => by
    have : ws = [] := List.eq_nil_of_length_eq_zero (by omega)
    subst this
    rfl
  | n + 1, m + 1, [], _, _ => rfl
  | n + 1, m + 1, [_], _, _ => rfl
  | n + 1, m + 1, a :: s :: r, h1, h2 => by
    rw [prs, prs]
    simp only [List.length_cons] at h1 h2
    have : (r.drop (g s)).length ≤ r.length := by simp
    rw [prs_more g n m (r.drop (g s)) (by omega) (by omega)]
def prI (ws : List Int) : List Oj := prs gI ws.length ws
theorem prI_two (a s : Int) (r : List Int) : prI (a :: s :: r) = (a, s, r.take (gI s)) :: prI (r.drop (gI s)) := by
  unfold prI
  rw [List.length_cons, prs]
  congr 1
  exact prs_more gI _ _ _ (by simp; omega) (Nat.le_refl _)
theorem prI_short {ws : List Int} (h : ws.length < 2) : prI ws = [] := by
  match ws, h with
  | [], _ => rfl
  | [_], _ => rfl
theorem prs_len (g : Int → Nat) : ∀ (n : Nat) (ws : List Int), (prs g n ws).length ≤ ws.length
  | 0, _ => by simp [prs]
  | _ + 1, [] => by simp [prs]
  | _ + 1, [_] => by simp [prs]
  | n + 1, a :: s :: r => by
    rw [prs]
    have := prs_len g n (r.drop (g s))
    simp at this ⊢
    omega
theorem prs_lens (g : Int → Nat) : ∀ (n : Nat) (ws : List Int) (p : Oj), p ∈ prs g n ws → p.2.2.length ≤ ws.length
  | 0, _, p, h => by simp [prs] at h
  | _ + 1, [], p, h => by simp [prs] at h
  | _ + 1, [_], p, h => by simp [prs] at h
  | n + 1, a :: s :: r, p, h => by
    rw [prs, List.mem_cons] at h
    rcases h with rfl | h
    · simp; omega
    · have := prs_lens g n (r.drop (g s)) p h
      simp at this ⊢
      omega
/-- What files without a fault tell is read back. -/
theorem prs_bd (g : Int → Nat) : ∀ (fs : List Oj), (∀ p, p ∈ fs → p.2.2.length = g p.2.1) → prs g fs.length (bdF fs) = fs
  | [], _ => rfl
  | p :: r, h => by
    have hp := h p (by simp)
    have ih := prs_bd g r (fun q hq => h q (by simp [hq]))
    rw [bdF, List.length_cons, prs, ← hp, List.take_left, List.drop_left, ih]
theorem prs_bd' (g : Int → Nat) : ∀ (fs : List Oj) (n : Nat), (∀ p, p ∈ fs → p.2.2.length = g p.2.1) → fs.length ≤ n → prs g n (bdF fs) = fs
  | [], n, _, _ => by cases n <;> rfl
  | p :: r, 0, _, hl => by simp at hl
  | p :: r, n + 1, h, hl => by
    have hp := h p (by simp)
    have ih := prs_bd' g r n (fun q hq => h q (by simp [hq])) (by simp at hl; omega)
    rw [bdF, prs, ← hp, List.take_left, List.drop_left, ih]
theorem bdF_ge : ∀ (fs : List Oj), fs.length ≤ (bdF fs).length := fun fs => by rw [bdF_len]; omega
theorem one_g {p : Oj} (h : oneF p = 0) : p.2.2.length = gI p.2.1 ∧ p.2.2.length = gS p.2.1 := by
  obtain ⟨h1, h2, _⟩ := oneF_iff.1 h
  unfold gI gS
  rw [if_pos (by omega)]
  omega
/-- Words that files without a fault tell. -/
def DirOf (ws : List Int) (fs : List Oj) : Prop := filF fs = 0 ∧ pkF fs = ws
theorem dir_I {ws : List Int} {fs : List Oj} (h : DirOf ws fs) : prI ws.tail = fs := by
  obtain ⟨h0, rfl⟩ := h
  have hi := filF_iff.1 h0
  unfold prI pkF
  exact prs_bd' gI fs _ (fun p hp => (one_g (hi.one p hp)).1) (bdF_ge fs)
theorem dir_S {ws : List Int} {fs : List Oj} (h : DirOf ws fs) : prs gS (ws.getD 0 0).toNat ws.tail = fs := by
  obtain ⟨h0, rfl⟩ := h
  have hi := filF_iff.1 h0
  unfold pkF
  simp only [List.getD_cons_zero, List.tail_cons, Int.toNat_natCast]
  exact prs_bd' gS fs _ (fun p hp => (one_g (hi.one p hp)).2) (Nat.le_refl _)
/-- Whether words are a directory. -/
def dirB (ws : List Int) : Bool := decide (filF (prI ws.tail) = 0) && decide (pkF (prI ws.tail) = ws)
theorem dirB_iff {ws : List Int} : dirB ws = true ↔ DirOf ws (prI ws.tail) := by unfold dirB DirOf; simp
theorem dirB_S {ws : List Int} : dirB ws = (decide (filF (prs gS (ws.getD 0 0).toNat ws.tail) = 0) && decide (pkF (prs gS (ws.getD 0 0).toNat ws.tail) = ws)) := by
  rw [Bool.eq_iff_iff, dirB_iff]
  constructor
  · intro h
    have e := dir_S h
    rw [e]
    unfold DirOf at h
    simpa using h
  · intro h
    have h' : DirOf ws (prs gS (ws.getD 0 0).toNat ws.tail) := by unfold DirOf; simpa using h
    have e := dir_I h'
    rw [e]; exact h'
theorem dirB_pd {ws : List Int} (hne : ws ≠ []) : decide (pdR (prI ws.tail) = ws) = dirB ws := by
  rw [Bool.eq_iff_iff, dirB_iff]
  unfold pdR DirOf
  by_cases h : filF (prI ws.tail) = 0
  · rw [if_pos h]; simp [h]
  · rw [if_neg h]; simp [h]; exact fun e => hne (by first | exact e | exact e.symm)
def udC (ws : List Int) : Int := if wordsF ws = 0 then (if ws = [] then 0 else if dirB ws = true then 0 else 5) else wordsF ws
def udR (ws : List Int) : List Oj := if wordsF ws = 0 then (if ws = [] then [] else if dirB ws = true then prI ws.tail else []) else []
theorem udR_tot (ws : List Int) : totJ (udR ws) (udR ws).length ≤ 1048576 := by
  unfold udR
  by_cases h : wordsF ws = 0
  · rw [if_pos h]
    by_cases h1 : ws = []
    · rw [if_pos h1]; simp [totJ]
    · rw [if_neg h1]
      by_cases h2 : dirB ws = true
      · rw [if_pos h2]
        have hd := (dirB_iff.1 h2).1
        exact tot_sub hd (fun p hp => hp) (by have := (filF_iff.1 hd).len; omega)
      · rw [if_neg h2]; simp [totJ]
  · rw [if_neg h]; simp [totJ]
end Go.Proofs.YtlmaopljihbdkaaGreat
/- Chapter 8: 'BlocksIn' of both sides, walked. -/
namespace Go.Proofs.YtlmaopljihbdkaaGreat
open Go.RowKit

/-- The block x, once for each file that has it. -/
def lb2 (fs : List Oj) (x : Int) : List Int := (fs.filter (fun p => decide (x ∈ p.2.2))).map (fun _ => x)
theorem lb2_succ (fs : List Oj) (x : Int) (k : Nat) (h : k < fs.length) : lb2 (fs.take (k + 1)) x = lb2 (fs.take k) x ++ if x ∈ (fs.getD k oj0).2.2 then [x] else [] := by
  have e : fs.getD k oj0 = fs[k] := by simp [List.getD, h]
  rw [e]
  unfold lb2
  rw [List.take_succ_eq_append_getElem h, List.filter_append, List.map_append]
  by_cases hx : x ∈ fs[k].2.2
  · rw [if_pos hx]; simp [hx]
  · rw [if_neg hx]; simp [hx]
theorem lb2_len (fs : List Oj) (x : Int) : (lb2 fs x).length ≤ fs.length := by
  unfold lb2; rw [List.length_map]; exact List.length_filter_le _ _
def lbTo (fs : List Oj) : Nat → List Int
  | 0 => []
  | k + 1 => lbTo fs k ++ lb2 fs (3 + (k : Int))
theorem lbTo_len (fs : List Oj) : ∀ k, (lbTo fs k).length ≤ k * fs.length
  | 0 => by simp [lbTo]
  | k + 1 => by
    have h1 := lbTo_len fs k
    have h2 := lb2_len fs (3 + (k : Int))
    rw [lbTo, List.length_append, Nat.succ_mul]
    omega
theorem lb2_mem {fs : List Oj} {x y : Int} : y ∈ lb2 fs x ↔ y = x ∧ x ∈ blksF fs := by
  unfold lb2
  rw [List.mem_map, blksF_mem]
  constructor
  · rintro ⟨p, hp, rfl⟩
    rw [List.mem_filter] at hp
    exact ⟨rfl, p, hp.1, by simpa using hp.2⟩
  · rintro ⟨rfl, p, h1, h2⟩
    exact ⟨p, List.mem_filter.2 ⟨h1, by simpa using h2⟩, rfl⟩
theorem lbTo_mem {fs : List Oj} {y : Int} : ∀ {k : Nat}, y ∈ lbTo fs k ↔ 3 ≤ y ∧ y < 3 + (k : Int) ∧ y ∈ blksF fs
  | 0 => by simp [lbTo]; omega
  | k + 1 => by
    rw [lbTo, List.mem_append, lbTo_mem (k := k), lb2_mem]
    constructor
    · rintro (⟨h1, h2, h3⟩ | ⟨rfl, h⟩)
      · exact ⟨h1, by push_cast; omega, h3⟩
      · exact ⟨by omega, by push_cast; omega, h⟩
    · rintro ⟨h1, h2, h3⟩
      push_cast at h2
      by_cases e : y = 3 + (k : Int)
      · exact Or.inr ⟨e, e ▸ h3⟩
      · exact Or.inl ⟨h1, by omega, h3⟩
theorem lb2_one {x : Int} : ∀ {fs : List Oj}, (blksF fs).Nodup → (lb2 fs x).length ≤ 1
  | [], _ => by simp [lb2]
  | p :: r, h => by
    simp only [blksF] at h
    obtain ⟨_, h2, h3⟩ := List.nodup_append.1 h
    have ih := lb2_one (x := x) h2
    unfold lb2 at *
    rw [List.length_map] at *
    by_cases hx : x ∈ p.2.2
    · have : r.filter (fun p => decide (x ∈ p.2.2)) = [] := by
        rw [List.filter_eq_nil_iff]
        intro q hq
        simp only [decide_eq_true_eq]
        intro hxq
        exact h3 x hx x (blksF_mem.2 ⟨q, hq, hxq⟩) rfl
      simp [hx, this]
    · simp [hx]; exact ih
theorem one_pair {l : List Int} (h : l.length ≤ 1) : l.Pairwise (· < ·) := by
  match l, h with
  | [], _ => exact List.Pairwise.nil
  | [a], _ => exact List.pairwise_singleton _ _
theorem lbTo_up {fs : List Oj} (h : (blksF fs).Nodup) : ∀ k, (lbTo fs k).Pairwise (· < ·)
  | 0 => List.Pairwise.nil
  | k + 1 => by
    rw [lbTo, List.pairwise_append]
    refine ⟨lbTo_up h k, one_pair (lb2_one h), fun a ha b hb => ?_⟩
    have h1 := (lbTo_mem.1 ha).2.1
    have h2 := (lb2_mem.1 hb).1
    omega
theorem up_unique : ∀ {xs ys : List Int}, xs.Pairwise (· < ·) → ys.Pairwise (· < ·) → (∀ a, a ∈ xs ↔ a ∈ ys) → xs = ys := by
  intro xs ys h1 h2 h
  have n1 : xs.Nodup := h1.imp (fun h => by omega)
  have n2 : ys.Nodup := h2.imp (fun h => by omega)
  have hp : xs.Perm ys := (List.perm_ext_iff_of_nodup n1 n2).2 h
  exact hp.eq_of_pairwise (fun a b _ _ h1 h2 => by omega) h1 h2
theorem lb_srt {fs : List Oj} (h : IsFi fs) : lbTo fs 20 = srtF fs := by
  have hn : (srtF fs).Nodup := ((srtF_perm fs).nodup_iff).2 h.nd
  have hu : (srtF fs).Pairwise (· < ·) := (mapF_iff.1 ((srtF_map h.one).2 h.nd)).2
  refine up_unique (lbTo_up h.nd 20) hu (fun a => ?_)
  rw [lbTo_mem, (srtF_perm fs).mem_iff]
  constructor
  · exact fun h => h.2.2
  · intro ha
    have := blksF_in h.one a ha
    exact ⟨this.1, by omega, ha⟩

def biR (fs : List Oj) : List Int := if filF fs = 0 then srtF fs else []
theorem biR_len (fs : List Oj) : (biR fs).length ≤ 1048576 := by
  unfold biR
  by_cases h : filF fs = 0
  · rw [if_pos h, srtF_len]
    have hi := filF_iff.1 h
    have h1 := blksF_len hi.one
    have h2 := hi.len
    omega
  · rw [if_neg h]; simp
end Go.Proofs.YtlmaopljihbdkaaGreat
/- Chapter 8: 'UnpackDir' of the program, walked. -/
namespace Go.Proofs.YtlmaopljihbdkaaGreat
open Go.RowKit

set_option maxHeartbeats 4000000 in
set_option maxRecDepth 4000 in
theorem filesIn {S : Nat → Prop} {w : World} {v : Value} {ws : List Int} (hv : RdI S w v ws) (hm : ws.length ≤ 64) (hw : ∀ x, x ∈ ws → 0 ≤ x ∧ x ≤ 65535) :
    Calls Tryz.prog 141 #[v] w fun e w' => ∃ z, e = .returned z ∧ Below w.heap.size w w' ∧ BuiltFi (w.heap.size ≤ ·) w' z (prI ws).length (prI ws) := by
  have HV := hide hv
  have HW := hide hw
  have HPl := hide (prs_len gI ws.length ws)
  obtain ⟨i0, hi, hz0, hz1, hz2⟩ := info_parts Tryz.infoFl
  obtain ⟨fs, hfs⟩ : ∃ fs, prI ws = fs := ⟨_, rfl⟩
  have hfl : fs.length ≤ 64 := by rw [← hfs]; unfold prI; exact Nat.le_trans HPl.out hm
  have HFs := hide hfs
  rw [hfs]
  clear hv hfs hw HPl
  go_enter Tryz.func141, Tryz.ntmps141
  go_wp2
  go_loopw [0, 3] (fun u v wr => ∃ (us : List Int) (k : Nat), us.length ≤ ws.length ∧ k ≤ fs.length ∧ Hid (∀ x, x ∈ us → x ∈ ws) ∧ Hid (fs.drop k = prI us) ∧ Hid (RdI S w u us) ∧ Hid (BuiltFi (w.heap.size ≤ ·) wr v k fs) ∧ Hid (Below w.heap.size w wr)) (fun u _ _ => match u with | .slice _ n _ => n | _ => 0)
  case atStart => exact ⟨ws, 0, Nat.le_refl _, Nat.zero_le _, fun _ h => h, HFs.out.symm, HV.out, BuiltFi.nil _ _ _, Below.refl _ _⟩
  case round =>
    obtain ⟨us, k, hul, hkl, HIn, HD, HU, HBu, HB⟩ := hrel
    obtain ⟨ao, c, hu⟩ := HU.out.shape
    subst hu
    by_cases h2 : 2 ≤ us.length
    · match us, h2 with
      | a :: s :: r, _ =>
        obtain ⟨n, hn⟩ : ∃ n, r.length = n := ⟨_, rfl⟩
        have hl2 : (a :: s :: r).length = n + 2 := by simp [hn]
        rw [hl2] at HU hul
        have HA := HU.out.at (k := 0) (by simp)
        have HA1 := HU.out.at (k := 1) (by simp)
        obtain ⟨b, off, rfl, q0⟩ := HA
        obtain ⟨b', off', e', q1⟩ := HA1
        injection e' with e'
        injection e' with e1 e2
        subst e1 e2
        have g0 : wr.cell? ⟨b, off, none⟩ = some (.int .i64 a) := by have := cell_later HB.out q0; simpa using this
        have g1 : wr.cell? ⟨b, off + 1, none⟩ = some (.int .i64 s) := by have := cell_later HB.out q1; simpa using this
        have hs := HW.out s (HIn.out s (by simp))
        have HPr := hide (prI_two a s r)
        rw [HPr.out] at HD
        have hbl := World.block_lt_of_cell? _ _ g0
        clear q0 q1
        rw [hl2]
        go_wp2_with fail
        go_region
        have hcap : n + 2 ≤ c := by obtain ⟨_, c', e, _⟩ := HU.out; injection e with _ e2 e3; simp at e3; omega
        refine forgetE (fun wx => Below wr.heap.size wr wx ∧ wx.heap.size = wr.heap.size + 1 ∧ (wx.cell? ⟨wr.heap.size, 0, none⟩ = some (.int .i64 a) ∧ wx.cell? ⟨wr.heap.size, 1, none⟩ = some (.int .i64 s) ∧ wx.cell? ⟨wr.heap.size, 2, none⟩ = some (.slice none 0 0)) ∧ ∀ o, wx.frozen? ⟨wr.heap.size, o, none⟩ = false) ⟨below_on (below_alloc _ _) (below_drewN _ 1), by simp, ⟨by simp [go_sem], by simp [go_sem], by simp [go_sem]⟩, fun o => by simp [go_sem]⟩ ?_
        rintro W1 ⟨hb1, hs1, ⟨f0, f1, f2⟩, ff⟩
        have HB1 := hide hb1
        have HFf := hide ff
        clear hb1 ff g0 g1
        have HFor := hide (fun W => blocksForI s hs.1 (by omega) W)
        obtain ⟨A, hA⟩ : ∃ A : Option Addr, (if c = 2 then some (⟨b, off, none⟩ : Addr) else some ⟨b, off + 2, none⟩) = A := ⟨_, rfl⟩
        have hMx : ∃ M : Nat, nbF s = (M : Int) := ⟨(nbF s).toNat, by unfold nbF; omega⟩
        obtain ⟨M, hM⟩ := hMx
        rw [hM] at HFor
        have HGM : Hid (gI s = M) := by unfold gI; rw [Hid, hM]; rfl
        go_wp2_with fail
        refine (HFor.out _).mono ?_
        rintro e w2 ⟨rfl, hw2⟩
        have hw2 := hw2.symm
        subst hw2
        have hmx : ∃ m : Nat, min (M : Int) (n : Int) = (m : Int) ∧ m = min M n := ⟨min M n, by omega, rfl⟩
        obtain ⟨m, hmin, hm2⟩ := hmx
        have hmn : m ≤ n := by omega
        have HTk : Hid (r.take M = r.take m) := by
          rw [Hid]
          by_cases e : M ≤ n
          · rw [show m = M by omega]
          · rw [List.take_of_length_le (by omega), List.take_of_length_le (by omega)]
        have HDr : Hid (r.drop M = r.drop m) := by
          rw [Hid]
          by_cases e : M ≤ n
          · rw [show m = M by omega]
          · rw [List.drop_eq_nil_of_le (by omega), List.drop_eq_nil_of_le (by omega)]
        have HR1 : Hid (RdI S w (.slice A n (c - 2)) r) := by
          have h := HU.out.from 2 (by omega)
          have e : slA (some ⟨b, off, none⟩) c 2 = A := by rw [← hA]; unfold slA; simp [Addr.add_lit]
          rw [e] at h
          exact h
        have HR2 := hide (HR1.out.upto m hmn)
        have HR3 := hide (HR1.out.from m hmn)
        obtain ⟨A2, hA2⟩ : ∃ A2, (if c - 2 = m then A else Option.map (fun x => x.add m) A) = A2 := ⟨_, rfl⟩
        have eA2 : slA A (c - 2) m = A2 := by rw [← hA2]; rfl
        rw [eA2] at HR3
        have hzz := HB.out.size
        have HCw := hide (copyWords ((HR2.out.later HB.out).later HB1.out) (by simp; omega))
        have hlt : (r.take m).length = m := by simp; omega
        have HLt := hide hlt
        have hmc : m ≤ c - 2 := by omega
        clear hm2 eA2 hlt
        go_wp2_with fail
        refine HCw.out.mono ?_
        rintro e w3 ⟨z3, rfl, hb3, ho3⟩
        obtain ⟨a3, c3, hz3⟩ := ho3.shape
        rw [HLt.out] at hz3
        subst hz3
        have k0 := cell_later hb3 f0
        have k1 := cell_later hb3 f1
        have k2 := cell_later hb3 f2
        have kf : ∀ o, w3.frozen? ⟨wr.heap.size, o, none⟩ = false := fun o => ((bcell hb3).2 _ _ (by omega)).trans (HFf.out o)
        have kf2 := kf 2
        have hwr : Wr (fun y => y = wr.heap.size) w3 (w3.setCell ⟨wr.heap.size, 2, none⟩ (.slice a3 m c3)) := (Wr.refl (fun y => y = wr.heap.size) _).setCell (p := ⟨wr.heap.size, 2, none⟩) rfl _
        have HO4 := hide ((ho3.wr hwr (fun b h1 _ e => by omega)).mono (show wr.heap.size ≤ W1.heap.size by omega))
        have HB4 := hide ((below_on HB1.out hb3).setCell (p := ⟨wr.heap.size, 2, none⟩) (Nat.le_refl _) (.slice a3 m c3))
        have hz3' := hb3.size
        obtain ⟨V2, Bk2, hown, hpr, hin⟩ := HBu.out
        have HOw0 := hide hown
        have HPr := hide hpr
        have HIn2 := hide hin
        have hkf : k < fs.length := by
          have := HD.out
          by_cases e : k < fs.length
          · exact e
          · rw [List.drop_eq_nil_of_le (by omega)] at this
            cases this
        have HG : Hid (fs.getD k oj0 = (a, s, r.take m)) := by
          have h := HD.out
          rw [List.drop_eq_getElem_cons hkf] at h
          injection h with h1 h2
          simp only [List.getD, List.getElem?_eq_getElem hkf, Option.getD_some]
          rw [Hid, h1, HGM.out, HTk.out]
        have HD2 : Hid (fs.drop (k + 1) = prI (r.drop m)) := by
          have h := HD.out
          rw [List.drop_eq_getElem_cons hkf] at h
          injection h with h1 h2
          rw [Hid, h2, HGM.out, HDr.out]
        have HIn3 : Hid (∀ x, x ∈ r.drop m → x ∈ ws) := fun x hx => HIn.out x (by simp [List.mem_of_mem_drop hx])
        clear hb3 ho3 hwr hown hpr hin f0 f1 f2 HCw
        go_wp2_with (at_builtin; refine wpList_append_lies _ rfl _ _ _ rfl 0 114 i0 (.agg #[.int .i64 0, .int .i64 0, .slice none 0 0]) 3 40 Tryz.underlying111 hi hz0 hz1 hz2 rfl (by omega) _ k _ (by rfl) (ownsRow_later (ownsRow_later HOw0.out HB4.out) (below_alloc (w3.setCell ⟨wr.heap.size, 2, none⟩ (.slice a3 m c3)) (.cells #[.int .i64 a, .int .i64 s, .slice a3 m c3] 114))) ⟨w3.heap.size, 0, none⟩ 1 1 [.int .i64 a, .int .i64 s, .slice a3 m c3] (by rfl) (by rfl) (by have h := World.news_of_block (cs := #[.int .i64 a, .int .i64 s, .slice a3 m c3]) (t := 114) (fr := (0, 0)) (heap_alloc_new (w3.setCell ⟨wr.heap.size, 2, none⟩ (.slice a3 m c3)) (.cells #[.int .i64 a, .int .i64 s, .slice a3 m c3] 114)); simpa using h) cellsFi_one (by omega) (by unfold maxLen; omega) (by omega) (Nat.zero_le _) (w3.heap.size + 1) (by simp) ?_; intro g cap w5 hown5 hgrow hat hlt5)
        have HS := hide (BuiltFi.step (P' := (w.heap.size ≤ ·)) HIn2.out HOw0.out HPr.out (fun _ h => h) (fun b hb => by omega) HB4.out (by rw [HG.out]; exact HO4.out) (below_alloc (w3.setCell ⟨wr.heap.size, 2, none⟩ (.slice a3 m c3)) (.cells #[.int .i64 a, .int .i64 s, .slice a3 m c3] 114)) (by rw [HG.out]; exact hown5) hgrow (by simpa using hat))
        have HB5 := hide ((below_on (below_on HB.out HB4.out) (below_alloc (w3.setCell ⟨wr.heap.size, 2, none⟩ (.slice a3 m c3)) (.cells #[.int .i64 a, .int .i64 s, .slice a3 m c3] 114))).grown hgrow (by simp; omega) (fun r hr => HPr.out r hr))
        have hdl : (r.drop m).length ≤ ws.length := by simp; omega
        clear hown5 hgrow hat hlt5
        go_wp2
        go_roundw
        case rel => exact ⟨r.drop m, k + 1, hdl, hkf, HIn3.out, HD2.out, HR3.out, HS.out, HB5.out⟩
        case measure => first | (simp; omega) | omega
    · have hsh : us.length < 2 := by omega
      have HE := hide (prI_short hsh)
      obtain ⟨n, hn⟩ : ∃ n, us.length = n := ⟨_, rfl⟩
      have h2' : ¬ (2 : Int) ≤ (n : Int) := by omega
      have h2n : ¬ 2 ≤ n := by omega
      rw [hn]
      rw [HE.out] at HD
      have hkl2 : k = fs.length := by
        have := congrArg List.length HD.out
        simp at this
        omega
      subst hkl2
      clear h2 hsh hn
      go_wp2
      go_ret
      exact ⟨_, rfl, HB.out, HBu.out⟩
end Go.Proofs.YtlmaopljihbdkaaGreat
