/- Chapter 8: the mathematics of a directory's words. -/
import Derived.Test.YtefcfhccbeaieaaFi8
import Derived.Test.YtefcfhccbeaieaaZero
namespace Go.Proofs.Ytefcfhccbeaieaa
open Go.RowKit

theorem forgetE {Q : Exit → Act → World → Prop} {x : Exit} {a : Act} {w0 : World} (R : World → Prop) (h0 : R w0) (h : ∀ w, R w → Q x a w) : Q x a w0 := h _ h0
/-- The files that words tell of, as much as is there; g: how many blocks a size needs. -/
def prs (g : Int → Nat) : Nat → List Int → List Oj
  | 0, _ => []
  | _ + 1, [] => []
  | _ + 1, [_] => []
  | n + 1, a :: s :: r => (a, s, r.take (g s)) :: prs g n (r.drop (g s))
def gI (s : Int) : Nat := (nbF s).toNat
def gS (s : Int) : Nat := (nbF (if s < 100 then s else 100)).toNat
/-- More rounds than words: nothing more comes. -/
theorem prs_more (g : Int → Nat) : ∀ (n m : Nat) (ws : List Int), ws.length ≤ n → ws.length ≤ m → prs g n ws = prs g m ws
  | 0, m, ws, h, _ => by
    have : ws = [] := List.eq_nil_of_length_eq_zero (by omega)
    subst this
    cases m <;> rfl
  | n + 1, 0, ws, _, h => by
    have : ws = [] := List.eq_nil_of_length_eq_zero (by omega)
    subst this
    rfl
  | n + 1, m + 1, [], _, _ => rfl
  | n + 1, m + 1, [_], _, _ => rfl
  | n + 1, m + 1, a :: s :: r, h1, h2 => by
    rw [prs, prs]
    simp only [List.length_cons] at h1 h2
    have : (r.drop (g s)).length ≤ r.length := by simp
    rw [prs_more g n m (r.drop (g s)) (by omega) (by omega)]
def prI (ws : List Int) : List Oj := prs gI ws.length ws
theorem prI_two (a s : Int) (r : List Int) : prI (a :: s :: r) = (a, s, r.take (gI s)) :: prI (r.drop (gI s)) := by
  unfold prI
  rw [List.length_cons, prs]
  congr 1
  exact prs_more gI _ _ _ (by simp; omega) (Nat.le_refl _)
theorem prI_short {ws : List Int} (h : ws.length < 2) : prI ws = [] := by
  match ws, h with
  | [], _ => rfl
  | [_], _ => rfl
theorem prs_len (g : Int → Nat) : ∀ (n : Nat) (ws : List Int), (prs g n ws).length ≤ ws.length
  | 0, _ => by simp [prs]
  | _ + 1, [] => by simp [prs]
  | _ + 1, [_] => by simp [prs]
  | n + 1, a :: s :: r => by
    rw [prs]
    have := prs_len g n (r.drop (g s))
    simp at this ⊢
    omega
theorem prs_lens (g : Int → Nat) : ∀ (n : Nat) (ws : List Int) (p : Oj), p ∈ prs g n ws → p.2.2.length ≤ ws.length
  | 0, _, p, h => by simp [prs] at h
  | _ + 1, [], p, h => by simp [prs] at h
  | _ + 1, [_], p, h => by simp [prs] at h
  | n + 1, a :: s :: r, p, h => by
    rw [prs, List.mem_cons] at h
    rcases h with rfl | h
    · simp; omega
    · have := prs_lens g n (r.drop (g s)) p h
      simp at this ⊢
      omega
/-- What files without a fault tell is read back. -/
theorem prs_bd (g : Int → Nat) : ∀ (fs : List Oj), (∀ p, p ∈ fs → p.2.2.length = g p.2.1) → prs g fs.length (bdF fs) = fs
  | [], _ => rfl
  | p :: r, h => by
    have hp := h p (by simp)
    have ih := prs_bd g r (fun q hq => h q (by simp [hq]))
    rw [bdF, List.length_cons, prs, ← hp, List.take_left, List.drop_left, ih]
theorem prs_bd' (g : Int → Nat) : ∀ (fs : List Oj) (n : Nat), (∀ p, p ∈ fs → p.2.2.length = g p.2.1) → fs.length ≤ n → prs g n (bdF fs) = fs
  | [], n, _, _ => by cases n <;> rfl
  | p :: r, 0, _, hl => by simp at hl
  | p :: r, n + 1, h, hl => by
    have hp := h p (by simp)
    have ih := prs_bd' g r n (fun q hq => h q (by simp [hq])) (by simp at hl; omega)
    rw [bdF, prs, ← hp, List.take_left, List.drop_left, ih]
theorem bdF_ge : ∀ (fs : List Oj), fs.length ≤ (bdF fs).length := fun fs => by rw [bdF_len]; omega
theorem one_g {p : Oj} (h : oneF p = 0) : p.2.2.length = gI p.2.1 ∧ p.2.2.length = gS p.2.1 := by
  obtain ⟨h1, h2, _⟩ := oneF_iff.1 h
  unfold gI gS
  rw [if_pos (by omega)]
  omega
/-- Words that files without a fault tell. -/
def DirOf (ws : List Int) (fs : List Oj) : Prop := filF fs = 0 ∧ pkF fs = ws
theorem dir_I {ws : List Int} {fs : List Oj} (h : DirOf ws fs) : prI ws.tail = fs := by
  obtain ⟨h0, rfl⟩ := h
  have hi := filF_iff.1 h0
  unfold prI pkF
  exact prs_bd' gI fs _ (fun p hp => (one_g (hi.one p hp)).1) (bdF_ge fs)
theorem dir_S {ws : List Int} {fs : List Oj} (h : DirOf ws fs) : prs gS (ws.getD 0 0).toNat ws.tail = fs := by
  obtain ⟨h0, rfl⟩ := h
  have hi := filF_iff.1 h0
  unfold pkF
  simp only [List.getD_cons_zero, List.tail_cons, Int.toNat_natCast]
  exact prs_bd' gS fs _ (fun p hp => (one_g (hi.one p hp)).2) (Nat.le_refl _)
/-- Whether words are a directory. -/
def dirB (ws : List Int) : Bool := decide (filF (prI ws.tail) = 0) && decide (pkF (prI ws.tail) = ws)
theorem dirB_iff {ws : List Int} : dirB ws = true ↔ DirOf ws (prI ws.tail) := by unfold dirB DirOf; simp
theorem dirB_S {ws : List Int} : dirB ws = (decide (filF (prs gS (ws.getD 0 0).toNat ws.tail) = 0) && decide (pkF (prs gS (ws.getD 0 0).toNat ws.tail) = ws)) := by
  rw [Bool.eq_iff_iff, dirB_iff]
  constructor
  · intro h
    have e := dir_S h
    rw [e]
    unfold DirOf at h
    simpa using h
  · intro h
    have h' : DirOf ws (prs gS (ws.getD 0 0).toNat ws.tail) := by unfold DirOf; simpa using h
    have e := dir_I h'
    rw [e]; exact h'
theorem dirB_pd {ws : List Int} (hne : ws ≠ []) : decide (pdR (prI ws.tail) = ws) = dirB ws := by
  rw [Bool.eq_iff_iff, dirB_iff]
  unfold pdR DirOf
  by_cases h : filF (prI ws.tail) = 0
  · rw [if_pos h]; simp [h]
  · rw [if_neg h]; simp [h]; exact fun e => hne (by first | exact e | exact e.symm)
def udC (ws : List Int) : Int := if wordsF ws = 0 then (if ws = [] then 0 else if dirB ws = true then 0 else 5) else wordsF ws
def udR (ws : List Int) : List Oj := if wordsF ws = 0 then (if ws = [] then [] else if dirB ws = true then prI ws.tail else []) else []
theorem udR_tot (ws : List Int) : totJ (udR ws) (udR ws).length ≤ 1048576 := by
  unfold udR
  by_cases h : wordsF ws = 0
  · rw [if_pos h]
    by_cases h1 : ws = []
    · rw [if_pos h1]; simp [totJ]
    · rw [if_neg h1]
      by_cases h2 : dirB ws = true
      · rw [if_pos h2]
        have hd := (dirB_iff.1 h2).1
        exact tot_sub hd (fun p hp => hp) (by have := (filF_iff.1 hd).len; omega)
      · rw [if_neg h2]; simp [totJ]
  · rw [if_neg h]; simp [totJ]
/-- A part of a reading, from the i-th on. -/
def slA (ao : Option Addr) (c i : Nat) : Option Addr := if c = i then ao else ao.map (fun x => x.add i)
theorem RdI.from {S : Nat → Prop} {w : World} {ao : Option Addr} {n c : Nat} {xs : List Int} (h : RdI S w (.slice ao n c) xs) (i : Nat) (hi : i ≤ n) : RdI S w (.slice (slA ao c i) (n - i) (c - i)) (xs.drop i) := by
  obtain ⟨ao', c', e1, e2, e3⟩ := h
  injection e1 with e1 e4 e5
  subst e1 e4
  have hl : (xs.drop i).length = xs.length - i := by simp
  refine ⟨slA ao c i, c', by rw [hl]; congr 1; omega, by rw [hl]; omega, fun hne => ?_⟩
  have hlt : i < xs.length := by
    have := List.length_pos_iff.2 hne
    rw [hl] at this; omega
  obtain ⟨b, off, f1, f2, f3⟩ := e3 (by rintro rfl; simp at hlt)
  refine ⟨b, off + i, ?_, f2, fun j hj => ?_⟩
  · unfold slA
    rw [if_neg (by omega), f1]
    simp [Addr.add_lit]
  · rw [hl] at hj
    rw [Nat.add_assoc, f3 (i + j) (by omega)]
    congr 2
    simp [List.getD, List.getElem?_drop]
theorem RdI.upto {S : Nat → Prop} {w : World} {ao : Option Addr} {n c : Nat} {xs : List Int} (h : RdI S w (.slice ao n c) xs) (m : Nat) (hm : m ≤ n) : RdI S w (.slice ao m c) (xs.take m) := by
  obtain ⟨ao', c', e1, e2, e3⟩ := h
  injection e1 with e1 e4 e5
  subst e1 e4
  have hl : (xs.take m).length = m := by simp; omega
  refine ⟨ao, c' + (xs.length - m), by rw [hl]; congr 1; omega, by rw [hl]; omega, fun hne => ?_⟩
  obtain ⟨b, off, f1, f2, f3⟩ := e3 (by rintro rfl; simp at hne)
  refine ⟨b, off, f1, f2, fun j hj => ?_⟩
  rw [hl] at hj
  rw [f3 j (by omega)]
  congr 2
  simp [List.getD, hj]
end Go.Proofs.Ytefcfhccbeaieaa
