/- Zero in one text: what each says stands at its head below. -/
import Derived.Test.YtcbapclpopbjbaaDoorG26
/- What is known of a disk without a fault; rows that are overwritten, empty disks among them. -/
namespace Go.Proofs.YtcbapclpopbjbaaDoor
open Go.RowKit

theorem wordsF_zero {xs : List Int} (h : wordsF xs = 0) : xs.length ≤ 64 ∧ ∀ i, i < xs.length → 0 ≤ xs.getD i 0 ∧ xs.getD i 0 ≤ 65535 := by
  unfold wordsF wF at h
  split at h
  · exact absurd h (by decide)
  · rename_i h1
    split at h
    · rename_i h2
      exact ⟨by omega, h2⟩
    · exact absurd h (by decide)

theorem firstF_zero {xss : List (List Int)} (h : firstF xss = 0) : ∀ i, i < xss.length → wordsF (xss.getD i []) = 0 := by
  induction xss with
  | nil => intro i hi; simp at hi
  | cons xs r ih =>
    simp only [firstF] at h
    split at h
    · rename_i h1
      intro i hi
      cases i with
      | zero => simpa using h1
      | succ i => simpa using ih h i (by simpa using hi)
    · rename_i h1
      exact absurd h h1

theorem firstP_zero {n : Nat} {ps : List (Int × List Int)} (h : firstP n ps = 0) : ∀ i, i < ps.length → (0 ≤ (ps.getD i (0, [])).1 ∧ (ps.getD i (0, [])).1 < (n : Int)) ∧ wordsF (ps.getD i (0, [])).2 = 0 := by
  induction ps with
  | nil => intro i hi; simp at hi
  | cons p r ih =>
    simp only [firstP] at h
    split at h
    · rename_i h0
      split at h
      · rename_i h1
        intro i hi
        cases i with
        | zero => simpa using ⟨h0, h1⟩
        | succ i => simpa using ih h i (by simpa using hi)
      · rename_i h1
        exact absurd h h1
    · exact absurd h (by decide)

/-- A disk without a fault. -/
structure Sound (xss : List (List Int)) (ps : List (Int × List Int)) : Prop where
  rows : xss.length ≤ 70
  puts : ps.length ≤ 200
  row : ∀ i, i < xss.length → wordsF (xss.getD i []) = 0
  at0 : ∀ i, i < ps.length → 0 ≤ (ps.getD i (0, [])).1
  at1 : ∀ i, i < ps.length → (ps.getD i (0, [])).1 < (xss.length : Int)
  put : ∀ i, i < ps.length → wordsF (ps.getD i (0, [])).2 = 0

theorem diskF_zero {xss : List (List Int)} {ps : List (Int × List Int)} (h : diskF xss ps = 0) : Sound xss ps := by
  unfold diskF at h
  split at h
  · exact absurd h (by decide)
  · rename_i h1
    split at h
    · rename_i h2
      have h3 := firstP_zero h
      exact ⟨by omega, by omega, firstF_zero h2, fun i hi => (h3 i hi).1.1, fun i hi => (h3 i hi).1.2, fun i hi => (h3 i hi).2⟩
    · rename_i h2
      exact absurd h h2

theorem Sound.len {xss : List (List Int)} {ps : List (Int × List Int)} (h : Sound xss ps) (i : Nat) : (xss.getD i []).length ≤ 64 := by
  by_cases hi : i < xss.length
  · exact (wordsF_zero (h.row i hi)).1
  · simp [List.getD, List.getElem?_eq_none (Nat.le_of_not_lt hi)]

/-- Rows stay short, whatever is kept. -/
theorem keepTo_short {xss : List (List Int)} {ps : List (Int × List Int)} (h : Sound xss ps) (pk : Nat → Int) : ∀ k, k ≤ ps.length → ∀ i, ((keepTo xss ps pk k).getD i []).length ≤ 64 := by
  intro k
  induction k with
  | zero => intro _ i; exact h.len i
  | succ k ih =>
    intro hk i
    have ih := ih (by omega)
    unfold keepTo
    by_cases e : i = (ps.getD k (0, [])).1.toNat
    · by_cases hi : i < (keepTo xss ps pk k).length
      · rw [← e, getD_set_same _ _ _ hi]
        exact tear_len (ih _) (wordsF_zero (h.put k (by omega))).1
      · simp only [List.getD]
        rw [List.getElem?_eq_none (by rw [List.length_set]; omega)]
        simp
    · rw [getD_set_other _ _ _ _ e]
      exact ih i

/-- Rows at the head of the block that ao names, if there is one at all. -/
def RowsA (P : Nat → Prop) (w : World) (ao : Option Addr) (n : Nat) (xss : List (List Int)) : Prop :=
  xss.length = n ∧ (n ≠ 0 → ∃ g V Bk, ao = some ⟨g, 0, none⟩ ∧ RowsW P w g n V Bk xss)

theorem RowsA.of {P : Nat → Prop} {w : World} {v : Value} {xss : List (List Int)} (h : BuiltII P w v xss.length xss) : ∃ ao c, v = .slice ao xss.length c ∧ RowsA P w ao xss.length xss := by
  by_cases hn : 0 < xss.length
  · obtain ⟨g, cap, V, Bk, rfl, hw⟩ := h.rowsW hn
    exact ⟨_, _, rfl, rfl, fun _ => ⟨g, V, Bk, rfl, hw⟩⟩
  · obtain ⟨ao, c, rfl⟩ := h.shape
    exact ⟨ao, c, rfl, rfl, fun h0 => by omega⟩

theorem RowsW.mono {P P' : Nat → Prop} {w : World} {g n : Nat} {V : Nat → Value} {Bk : Nat → Nat} {xss : List (List Int)} (h : RowsW P w g n V Bk xss) (hP : ∀ b, P b → b < w.heap.size → P' b) : RowsW P' w g n V Bk xss :=
  ⟨h.len, hP _ h.inP h.lt, h.lt, h.free, h.cell, h.rd, fun i hi hn => by
    obtain ⟨q1, q2, q3, q4, q5⟩ := h.own i hi hn
    exact ⟨hP _ q1 q3, q2, q3, q4, q5⟩⟩
theorem RowsA.mono {P P' : Nat → Prop} {w : World} {ao : Option Addr} {n : Nat} {xss : List (List Int)} (h : RowsA P w ao n xss) (hP : ∀ b, P b → b < w.heap.size → P' b) : RowsA P' w ao n xss :=
  ⟨h.1, fun h0 => by
    obtain ⟨g, V, Bk, e, hw⟩ := h.2 h0
    exact ⟨g, V, Bk, e, hw.mono hP⟩⟩
theorem RowsA.later {P : Nat → Prop} {w w' : World} {ao : Option Addr} {n : Nat} {xss : List (List Int)} (h : RowsA P w ao n xss) (hb : Below w.heap.size w w') : RowsA P w' ao n xss :=
  ⟨h.1, fun h0 => by
    obtain ⟨g, V, Bk, e, hw⟩ := h.2 h0
    exact ⟨g, V, Bk, e, hw.later hb⟩⟩

theorem OwII_zero (S : Nat → Prop) (w : World) (ao : Option Addr) (c : Nat) : OwII S w (.slice ao 0 c) [] :=
  ⟨ao, c, 0, 0, fun _ => .bool false, fun _ => 0, rfl, by simp, fun h => absurd rfl h, fun i hi => absurd hi (Nat.not_lt_zero _)⟩

theorem RowsA.ow {P : Nat → Prop} {w : World} {ao : Option Addr} {n c : Nat} {xss : List (List Int)} (h : RowsA P w ao n xss) (hm : n ≤ 9223372036854775807) : OwII (fun b => P b ∧ b < w.heap.size) w (.slice ao n c) xss := by
  by_cases h0 : n = 0
  · subst h0
    have := List.eq_nil_of_length_eq_zero h.1
    subst this
    exact OwII_zero _ _ _ _
  · obtain ⟨g, V, Bk, rfl, hw⟩ := h.2 h0
    exact hw.ow hm

theorem RowsW.set {P : Nat → Prop} {w : World} {g n : Nat} {V : Nat → Value} {Bk : Nat → Nat} {xss : List (List Int)} (h : RowsW P w g n V Bk xss) {r o : Nat} {x : Value} (hr : ∀ b, P b → b ≠ r) : RowsW P (w.setCell ⟨r, o, none⟩ x) g n V Bk xss := by
  refine ⟨h.len, h.inP, by simpa using h.lt, fun o => by rw [World.frozen?_setCell]; exact h.free o, fun i hi => ?_, fun i hi => (h.rd i hi).setOther fun hn => hr _ (h.own i hi hn).1, fun i hi hn => ?_⟩
  · rw [World.cell?_setCell_other _ _ _ _ (by intro h'; injection h' with h1 _; exact hr _ h.inP h1.symm)]
    exact h.cell i hi
  · obtain ⟨q1, q2, q3, q4, q5⟩ := h.own i hi hn
    exact ⟨q1, q2, by simpa using q3, fun o => by rw [World.frozen?_setCell]; exact q4 o, q5⟩

theorem RowsA.set {P : Nat → Prop} {w : World} {ao : Option Addr} {n : Nat} {xss : List (List Int)} (h : RowsA P w ao n xss) {r o : Nat} {x : Value} (hr : ∀ b, P b → b ≠ r) : RowsA P (w.setCell ⟨r, o, none⟩ x) ao n xss :=
  ⟨h.1, fun h0 => by
    obtain ⟨g, V, Bk, e, hw⟩ := h.2 h0
    exact ⟨g, V, Bk, e, hw.set hr⟩⟩

/-- A round: the row of the k-th put is overwritten by what is kept of it. -/
theorem RowsW.round {P : Nat → Prop} {w w1 : World} {g n a k : Nat} {V : Nat → Value} {Bk : Nat → Nat} {xss : List (List Int)} {ps : List (Int × List Int)} {pk : Nat → Int} {z : Value} {ao : Option Addr} (h : RowsW P w g n V Bk (keepTo xss ps pk k)) (hao : ao = some ⟨g, 0, none⟩) (hP : ∀ b, w.heap.size ≤ b → P b) (hb : Below w.heap.size w w1)
    (hz : OwI w.heap.size w1 z (tear ((keepTo xss ps pk k).getD a []) (ps.getD k (0, [])).2 (pk k))) (ha : a < n) (hak : (ps.getD k (0, [])).1 = (a : Int)) : RowsA P (w1.setCell ⟨g, a, none⟩ z) ao n (keepTo xss ps pk (k + 1)) := by
  have e : (ps.getD k (0, [])).1.toNat = a := by rw [hak]; simp
  have hk : keepTo xss ps pk (k + 1) = (keepTo xss ps pk k).set a (tear ((keepTo xss ps pk k).getD a []) (ps.getD k (0, [])).2 (pk k)) := by
    rw [← e]; rfl
  rw [hk]
  obtain ⟨Bk', h'⟩ := h.step hP hb hz ha
  exact ⟨h'.len, fun _ => ⟨g, _, Bk', hao, h'⟩⟩
theorem tot_short {xss : List (List Int)} (h : ∀ i, (xss.getD i []).length ≤ 64) : ∀ n, n ≤ xss.length → tot xss n ≤ 64 * n := by
  intro n
  induction n with
  | zero => intro _; simp [tot]
  | succ n ih => intro hn; rw [tot_succ xss n (by omega)]; have := ih (by omega); have := h n; omega

theorem keep_bound {xss : List (List Int)} {ps : List (Int × List Int)} (h : Sound xss ps) (pk : Nat → Int) :
    tot (keepTo xss ps pk ps.length) (keepTo xss ps pk ps.length).length + totP [] ([] : List (Int × List Int)).length ≤ 16777216 := by
  have h1 := tot_short (keepTo_short h pk ps.length (Nat.le_refl _)) _ (Nat.le_refl _)
  have h2 := keepTo_len xss ps pk ps.length
  have h3 := h.rows
  simp only [totP]
  simp
  omega
end Go.Proofs.YtcbapclpopbjbaaDoor
