/- RowsW Zero Obj3 En5b in one text: what each says stands at its head below. -/
import Derived.Test.YtlmaopljihbdkaaGreatG24
import Derived.Test.YtlmaopljihbdkaaGreatG13
import Derived.Test.YtlmaopljihbdkaaGreatG23
import Derived.Test.YtlmaopljihbdkaaGreatG14
import Derived.Laws.CopyOwn
/- Rows of a slice that are overwritten one by one. -/
namespace Go.Proofs.YtlmaopljihbdkaaGreat
open Go.RowKit

/-- n rows at the head of block g, which is not frozen; each in a block of its own; all in P. -/
structure RowsW (P : Nat → Prop) (w : World) (g n : Nat) (V : Nat → Value) (Bk : Nat → Nat) (xss : List (List Int)) : Prop where
  len : xss.length = n
  inP : P g
  lt : g < w.heap.size
  free : ∀ o, w.frozen? ⟨g, o, none⟩ = false
  cell : ∀ i, i < n → w.cell? ⟨g, i, none⟩ = some (V i)
  rd : ∀ i, i < n → RdI (· = Bk i) w (V i) (xss.getD i [])
  own : ∀ i, i < n → xss.getD i [] ≠ [] → P (Bk i) ∧ Bk i ≠ g ∧ Bk i < w.heap.size ∧ (∀ o, w.frozen? ⟨Bk i, o, none⟩ = false) ∧ ∀ j, j < n → xss.getD j [] ≠ [] → Bk j = Bk i → j = i

theorem RowsW.later {P : Nat → Prop} {w w' : World} {g n : Nat} {V : Nat → Value} {Bk : Nat → Nat} {xss : List (List Int)} (h : RowsW P w g n V Bk xss) (hb : Below w.heap.size w w') : RowsW P w' g n V Bk xss :=
  ⟨h.len, h.inP, Nat.lt_of_lt_of_le h.lt hb.size, fun o => ((bcell hb).2 _ _ h.lt).trans (h.free o), fun i hi => cell_later hb (h.cell i hi), fun i hi => (h.rd i hi).later hb, fun i hi hn => by
    obtain ⟨h1, h2, h3, h4, h5⟩ := h.own i hi hn
    exact ⟨h1, h2, Nat.lt_of_lt_of_le h3 hb.size, fun o => ((bcell hb).2 _ _ h3).trans (h4 o), h5⟩⟩

theorem BuiltII.rowsW {P : Nat → Prop} {w : World} {v : Value} {xss : List (List Int)} (h : BuiltII P w v xss.length xss) (hn : 0 < xss.length) :
    ∃ g cap V Bk, v = .slice (some ⟨g, 0, none⟩) xss.length cap ∧ RowsW P w g xss.length V Bk xss := by
  obtain ⟨V, Bk, h1, h2, h3⟩ := h
  rcases h1.2 with ⟨rfl, e⟩ | ⟨g, cap, cur, rfl, hg, hh, _⟩
  · omega
  · refine ⟨g, cap, V, Bk, rfl, rfl, h2 g rfl, (Array.getElem?_eq_some_iff.1 hh).1, fun o => h1.frozenAt o, fun i hi => ?_, h3.rd, fun i hi hn => ?_⟩
    · rw [h1.cellAt i (by omega)]
      simp [hi]
    · obtain ⟨q1, q2, q3, q4, q5⟩ := h3.own i hi hn
      exact ⟨q1, fun e => q4 (by rw [e]; rfl), q2, q3, q5⟩

theorem RowsW.ow {P : Nat → Prop} {w : World} {g n cap : Nat} {V : Nat → Value} {Bk : Nat → Nat} {xss : List (List Int)} (h : RowsW P w g n V Bk xss) (hm : n ≤ 9223372036854775807) : OwII (fun b => P b ∧ b < w.heap.size) w (.slice (some ⟨g, 0, none⟩) n cap) xss := by
  have hl := h.len
  subst hl
  refine ⟨_, cap, g, 0, V, Bk, rfl, hm, fun _ => ⟨rfl, h.inP, h.lt⟩, fun i hi => ⟨by rw [Nat.zero_add]; exact h.cell i hi, h.rd i hi, fun hn => ?_⟩⟩
  obtain ⟨q1, q2, q3, q4, q5⟩ := h.own i hi hn
  exact ⟨⟨q1, q3⟩, q2, q4, q5⟩

theorem getD_set_same (xss : List (List Int)) (a : Nat) (ys : List Int) (h : a < xss.length) : (xss.set a ys).getD a [] = ys := by simp [List.getD, h]
theorem getD_set_other (xss : List (List Int)) (a i : Nat) (ys : List Int) (h : i ≠ a) : (xss.set a ys).getD i [] = xss.getD i [] := by simp [List.getD, List.getElem?_set_ne (Ne.symm h)]

theorem RowsW.step {P : Nat → Prop} {w w1 : World} {g n a : Nat} {V : Nat → Value} {Bk : Nat → Nat} {xss : List (List Int)} {z : Value} {ys : List Int} (h : RowsW P w g n V Bk xss) (hP : ∀ b, w.heap.size ≤ b → P b) (hb : Below w.heap.size w w1) (hz : OwI w.heap.size w1 z ys) (ha : a < n) :
    ∃ Bk', RowsW P (w1.setCell ⟨g, a, none⟩ z) g n (fun i => if i = a then z else V i) Bk' (xss.set a ys) := by
  have h1 := h.later hb
  have hl := h.lt
  have hla : a < xss.length := by rw [h.len]; exact ha
  obtain ⟨bz, hz1, hz2⟩ := hz
  refine ⟨fun i => if i = a then bz else Bk i, by simpa using h.len, h.inP, by simpa using h1.lt, fun o => by rw [World.frozen?_setCell]; exact h1.free o, fun i hi => ?_, fun i hi => ?_, fun i hi hn => ?_⟩
  · by_cases e : i = a
    · subst e
      rw [if_pos rfl]
      exact World.cell?_setCell_same _ _ _ (h1.cell i hi)
    · rw [if_neg e, World.cell?_setCell_other _ _ _ _ (by intro h'; injection h' with _ h2; exact e h2.symm)]
      exact h1.cell i hi
  · by_cases e : i = a
    · subst e
      simp only [if_true]
      rw [getD_set_same _ _ _ hla]
      exact hz1.setOther fun hn => by have := (hz2 hn).1; omega
    · simp only [if_neg e]
      rw [getD_set_other _ _ _ _ e]
      exact (h1.rd i hi).setOther fun hn => (h1.own i hi hn).2.1
  · by_cases e : i = a
    · subst e
      rw [getD_set_same _ _ _ hla] at hn
      obtain ⟨k1, k2, k3⟩ := hz2 hn
      simp only [if_true]
      refine ⟨hP _ k1, by omega, by simpa using k2, fun o => by rw [World.frozen?_setCell]; exact k3 o, fun j hj hj' ej => ?_⟩
      by_cases e2 : j = i
      · exact e2
      · simp only [if_neg e2] at ej
        rw [getD_set_other _ _ _ _ e2] at hj'
        have := (h.own j hj hj').2.2.1
        omega
    · rw [getD_set_other _ _ _ _ e] at hn
      obtain ⟨q1, q2, q3, q4, q5⟩ := h1.own i hi hn
      have q3' := (h.own i hi hn).2.2.1
      simp only [if_neg e]
      refine ⟨q1, q2, by simpa using q3, fun o => by rw [World.frozen?_setCell]; exact q4 o, fun j hj hj' ej => ?_⟩
      by_cases e2 : j = a
      · subst e2
        rw [getD_set_same _ _ _ hla] at hj'
        simp only [if_true] at ej
        have := (hz2 hj').1
        omega
      · simp only [if_neg e2] at ej
        rw [getD_set_other _ _ _ _ e2] at hj'
        exact q5 j hj hj' ej

/-- The rows behind the first k puts, of which so much is kept as pk says. -/
def keepTo (xss : List (List Int)) (ps : List (Int × List Int)) (pk : Nat → Int) : Nat → List (List Int)
  | 0 => xss
  | k + 1 => (keepTo xss ps pk k).set (ps.getD k (0, [])).1.toNat (tear ((keepTo xss ps pk k).getD (ps.getD k (0, [])).1.toNat []) (ps.getD k (0, [])).2 (pk k))

theorem keepTo_len (xss : List (List Int)) (ps : List (Int × List Int)) (pk : Nat → Int) : ∀ k, (keepTo xss ps pk k).length = xss.length := by
  intro k
  induction k with
  | zero => rfl
  | succ k ih => unfold keepTo; rw [List.length_set]; exact ih
end Go.Proofs.YtlmaopljihbdkaaGreat
/- What is known of a disk without a fault; rows that are overwritten, empty disks among them. -/
namespace Go.Proofs.YtlmaopljihbdkaaGreat
open Go.RowKit

theorem wordsF_zero {xs : List Int} (h : wordsF xs = 0) : xs.length ≤ 64 ∧ ∀ i, i < xs.length → 0 ≤ xs.getD i 0 ∧ xs.getD i 0 ≤ 65535 := by
  unfold wordsF wF at h
  split at h
  · exact absurd h (by decide)
  · rename_i h1
    split at h
    · rename_i h2
      exact ⟨by omega, h2⟩
    · exact absurd h (by decide)

theorem firstF_zero {xss : List (List Int)} (h : firstF xss = 0) : ∀ i, i < xss.length → wordsF (xss.getD i []) = 0 := by
  induction xss with
  | nil => intro i hi; simp at hi
  | cons xs r ih =>
    simp only [firstF] at h
    split at h
    · rename_i h1
      intro i hi
      cases i with
      | zero => simpa using h1
      | succ i => simpa using ih h i (by simpa using hi)
    · rename_i h1
      exact absurd h h1

theorem firstP_zero {n : Nat} {ps : List (Int × List Int)} (h : firstP n ps = 0) : ∀ i, i < ps.length → (0 ≤ (ps.getD i (0, [])).1 ∧ (ps.getD i (0, [])).1 < (n : Int)) ∧ wordsF (ps.getD i (0, [])).2 = 0 := by
  induction ps with
  | nil => intro i hi; simp at hi
  | cons p r ih =>
    simp only [firstP] at h
    split at h
    · rename_i h0
      split at h
      · rename_i h1
        intro i hi
        cases i with
        | zero => simpa using ⟨h0, h1⟩
        | succ i => simpa using ih h i (by simpa using hi)
      · rename_i h1
        exact absurd h h1
    · exact absurd h (by decide)

/-- A disk without a fault. -/
structure Sound (xss : List (List Int)) (ps : List (Int × List Int)) : Prop where
  rows : xss.length ≤ 70
  puts : ps.length ≤ 200
  row : ∀ i, i < xss.length → wordsF (xss.getD i []) = 0
  at0 : ∀ i, i < ps.length → 0 ≤ (ps.getD i (0, [])).1
  at1 : ∀ i, i < ps.length → (ps.getD i (0, [])).1 < (xss.length : Int)
  put : ∀ i, i < ps.length → wordsF (ps.getD i (0, [])).2 = 0

theorem diskF_zero {xss : List (List Int)} {ps : List (Int × List Int)} (h : diskF xss ps = 0) : Sound xss ps := by
  unfold diskF at h
  split at h
  · exact absurd h (by decide)
  · rename_i h1
    split at h
    · rename_i h2
      have h3 := firstP_zero h
      exact ⟨by omega, by omega, firstF_zero h2, fun i hi => (h3 i hi).1.1, fun i hi => (h3 i hi).1.2, fun i hi => (h3 i hi).2⟩
    · rename_i h2
      exact absurd h h2

theorem Sound.len {xss : List (List Int)} {ps : List (Int × List Int)} (h : Sound xss ps) (i : Nat) : (xss.getD i []).length ≤ 64 := by
  by_cases hi : i < xss.length
  · exact (wordsF_zero (h.row i hi)).1
  · simp [List.getD, List.getElem?_eq_none (Nat.le_of_not_lt hi)]

/-- Rows stay short, whatever is kept. -/
theorem keepTo_short {xss : List (List Int)} {ps : List (Int × List Int)} (h : Sound xss ps) (pk : Nat → Int) : ∀ k, k ≤ ps.length → ∀ i, ((keepTo xss ps pk k).getD i []).length ≤ 64 := by
  intro k
  induction k with
  | zero => intro _ i; exact h.len i
  | succ k ih =>
    intro hk i
    have ih := ih (by omega)
    unfold keepTo
    by_cases e : i = (ps.getD k (0, [])).1.toNat
    · by_cases hi : i < (keepTo xss ps pk k).length
      · rw [← e, getD_set_same _ _ _ hi]
        exact tear_len (ih _) (wordsF_zero (h.put k (by omega))).1
      · simp only [List.getD]
        rw [List.getElem?_eq_none (by rw [List.length_set]; omega)]
        simp
    · rw [getD_set_other _ _ _ _ e]
      exact ih i

/-- Rows at the head of the block that ao names, if there is one at all. -/
def RowsA (P : Nat → Prop) (w : World) (ao : Option Addr) (n : Nat) (xss : List (List Int)) : Prop :=
  xss.length = n ∧ (n ≠ 0 → ∃ g V Bk, ao = some ⟨g, 0, none⟩ ∧ RowsW P w g n V Bk xss)

theorem RowsA.of {P : Nat → Prop} {w : World} {v : Value} {xss : List (List Int)} (h : BuiltII P w v xss.length xss) : ∃ ao c, v = .slice ao xss.length c ∧ RowsA P w ao xss.length xss := by
  by_cases hn : 0 < xss.length
  · obtain ⟨g, cap, V, Bk, rfl, hw⟩ := h.rowsW hn
    exact ⟨_, _, rfl, rfl, fun _ => ⟨g, V, Bk, rfl, hw⟩⟩
  · obtain ⟨ao, c, rfl⟩ := h.shape
    exact ⟨ao, c, rfl, rfl, fun h0 => by omega⟩

theorem RowsW.mono {P P' : Nat → Prop} {w : World} {g n : Nat} {V : Nat → Value} {Bk : Nat → Nat} {xss : List (List Int)} (h : RowsW P w g n V Bk xss) (hP : ∀ b, P b → b < w.heap.size → P' b) : RowsW P' w g n V Bk xss :=
  ⟨h.len, hP _ h.inP h.lt, h.lt, h.free, h.cell, h.rd, fun i hi hn => by
    obtain ⟨q1, q2, q3, q4, q5⟩ := h.own i hi hn
    exact ⟨hP _ q1 q3, q2, q3, q4, q5⟩⟩
theorem RowsA.mono {P P' : Nat → Prop} {w : World} {ao : Option Addr} {n : Nat} {xss : List (List Int)} (h : RowsA P w ao n xss) (hP : ∀ b, P b → b < w.heap.size → P' b) : RowsA P' w ao n xss :=
  ⟨h.1, fun h0 => by
    obtain ⟨g, V, Bk, e, hw⟩ := h.2 h0
    exact ⟨g, V, Bk, e, hw.mono hP⟩⟩
theorem RowsA.later {P : Nat → Prop} {w w' : World} {ao : Option Addr} {n : Nat} {xss : List (List Int)} (h : RowsA P w ao n xss) (hb : Below w.heap.size w w') : RowsA P w' ao n xss :=
  ⟨h.1, fun h0 => by
    obtain ⟨g, V, Bk, e, hw⟩ := h.2 h0
    exact ⟨g, V, Bk, e, hw.later hb⟩⟩

theorem OwII_zero (S : Nat → Prop) (w : World) (ao : Option Addr) (c : Nat) : OwII S w (.slice ao 0 c) [] :=
  ⟨ao, c, 0, 0, fun _ => .bool false, fun _ => 0, rfl, by simp, fun h => absurd rfl h, fun i hi => absurd hi (Nat.not_lt_zero _)⟩

theorem RowsA.ow {P : Nat → Prop} {w : World} {ao : Option Addr} {n c : Nat} {xss : List (List Int)} (h : RowsA P w ao n xss) (hm : n ≤ 9223372036854775807) : OwII (fun b => P b ∧ b < w.heap.size) w (.slice ao n c) xss := by
  by_cases h0 : n = 0
  · subst h0
    have := List.eq_nil_of_length_eq_zero h.1
    subst this
    exact OwII_zero _ _ _ _
  · obtain ⟨g, V, Bk, rfl, hw⟩ := h.2 h0
    exact hw.ow hm

theorem RowsW.set {P : Nat → Prop} {w : World} {g n : Nat} {V : Nat → Value} {Bk : Nat → Nat} {xss : List (List Int)} (h : RowsW P w g n V Bk xss) {r o : Nat} {x : Value} (hr : ∀ b, P b → b ≠ r) : RowsW P (w.setCell ⟨r, o, none⟩ x) g n V Bk xss := by
  refine ⟨h.len, h.inP, by simpa using h.lt, fun o => by rw [World.frozen?_setCell]; exact h.free o, fun i hi => ?_, fun i hi => (h.rd i hi).setOther fun hn => hr _ (h.own i hi hn).1, fun i hi hn => ?_⟩
  · rw [World.cell?_setCell_other _ _ _ _ (by intro h'; injection h' with h1 _; exact hr _ h.inP h1.symm)]
    exact h.cell i hi
  · obtain ⟨q1, q2, q3, q4, q5⟩ := h.own i hi hn
    exact ⟨q1, q2, by simpa using q3, fun o => by rw [World.frozen?_setCell]; exact q4 o, q5⟩

theorem RowsA.set {P : Nat → Prop} {w : World} {ao : Option Addr} {n : Nat} {xss : List (List Int)} (h : RowsA P w ao n xss) {r o : Nat} {x : Value} (hr : ∀ b, P b → b ≠ r) : RowsA P (w.setCell ⟨r, o, none⟩ x) ao n xss :=
  ⟨h.1, fun h0 => by
    obtain ⟨g, V, Bk, e, hw⟩ := h.2 h0
    exact ⟨g, V, Bk, e, hw.set hr⟩⟩

/-- A round: the row of the k-th put is overwritten by what is kept of it. -/
theorem RowsW.round {P : Nat → Prop} {w w1 : World} {g n a k : Nat} {V : Nat → Value} {Bk : Nat → Nat} {xss : List (List Int)} {ps : List (Int × List Int)} {pk : Nat → Int} {z : Value} {ao : Option Addr} (h : RowsW P w g n V Bk (keepTo xss ps pk k)) (hao : ao = some ⟨g, 0, none⟩) (hP : ∀ b, w.heap.size ≤ b → P b) (hb : Below w.heap.size w w1)
    (hz : OwI w.heap.size w1 z (tear ((keepTo xss ps pk k).getD a []) (ps.getD k (0, [])).2 (pk k))) (ha : a < n) (hak : (ps.getD k (0, [])).1 = (a : Int)) : RowsA P (w1.setCell ⟨g, a, none⟩ z) ao n (keepTo xss ps pk (k + 1)) := by
  have e : (ps.getD k (0, [])).1.toNat = a := by rw [hak]; simp
  have hk : keepTo xss ps pk (k + 1) = (keepTo xss ps pk k).set a (tear ((keepTo xss ps pk k).getD a []) (ps.getD k (0, [])).2 (pk k)) := by
    rw [← e]; rfl
  rw [hk]
  obtain ⟨Bk', h'⟩ := h.step hP hb hz ha
  exact ⟨h'.len, fun _ => ⟨g, _, Bk', hao, h'⟩⟩
theorem tot_short {xss : List (List Int)} (h : ∀ i, (xss.getD i []).length ≤ 64) : ∀ n, n ≤ xss.length → tot xss n ≤ 64 * n := by
  intro n
  induction n with
  | zero => intro _; simp [tot]
  | succ n ih => intro hn; rw [tot_succ xss n (by omega)]; have := ih (by omega); have := h n; omega

theorem keep_bound {xss : List (List Int)} {ps : List (Int × List Int)} (h : Sound xss ps) (pk : Nat → Int) :
    tot (keepTo xss ps pk ps.length) (keepTo xss ps pk ps.length).length + totP [] ([] : List (Int × List Int)).length ≤ 16777216 := by
  have h1 := tot_short (keepTo_short h pk ps.length (Nat.le_refl _)) _ (Nat.le_refl _)
  have h2 := keepTo_len xss ps pk ps.length
  have h3 := h.rows
  simp only [totP]
  simp
  omega
end Go.Proofs.YtlmaopljihbdkaaGreat
/- Chapter 5: ReadObject of the program, walked: rows that are made and copied over. -/
namespace Go.Proofs.YtlmaopljihbdkaaGreat
open Go.RowKit

/-- A made row that is known whole. -/
theorem owns_row {w : World} {g n t : Nat} {xs : List Int} (hg : w.heap[g]? = some (.cells (xs.map (Value.int .i64)).toArray t (0, 0))) (hn : xs.length = n) (hm : n ≤ 1048576) :
    w.ownsRow g t 1 (.slice (some ⟨g, 0, none⟩) n n) n (xs.map (Value.int .i64)) :=
  ⟨by simp [hn], Or.inr ⟨g, n, _, rfl, Nat.le_refl _, hg, Nat.le_refl _, by unfold maxLen; omega, by simp [hn], by simp [List.take_of_length_le, hn]⟩⟩
theorem ow_row {w : World} {g n t : Nat} {xs : List Int} (hg : w.heap[g]? = some (.cells (xs.map (Value.int .i64)).toArray t (0, 0))) (hn : xs.length = n) (hm : n ≤ 1048576) :
    OwI g w (.slice (some ⟨g, 0, none⟩) n n) xs := ow_of_owns hn (owns_row hg hn hm) (by omega)
theorem made_rep (n : Nat) : madeCells #[Value.int .i64 0] n = (List.replicate n (Value.int .i64 0)).toArray := by
  apply Array.ext'
  rw [List.toList_toArray, List.eq_replicate_iff]
  refine ⟨by simp [madeCells], fun b hb => ?_⟩
  simp [madeCells] at hb
  obtain ⟨i, _, rfl⟩ := hb
  simp [Nat.mod_one]

/-- The n words from f on; 0 where there are none. -/
def readL (xs : List Int) (f n : Nat) : List Int := (List.range n).map fun i => xs.getD (f + i) 0
theorem readL_len (xs : List Int) (f n : Nat) : (readL xs f n).length = n := by simp [readL]
theorem readL_none (xs : List Int) (f n : Nat) (h : xs.length ≤ f) : readL xs f n = List.replicate n 0 := by
  unfold readL
  rw [List.eq_replicate_iff]
  refine ⟨by simp, fun b hb => ?_⟩
  obtain ⟨i, _, rfl⟩ := List.mem_map.1 hb
  simp [List.getD, List.getElem?_eq_none (show xs.length ≤ f + i by omega)]
theorem splice_read (xs : List Int) (f n : Nat) : splice (List.replicate n (Value.int .i64 0)) 0 (((xs.drop f).take n).map (Value.int .i64)) = (readL xs f n).map (Value.int .i64) := by
  unfold splice readL
  apply List.ext_getElem?
  intro i
  simp only [List.take_zero, List.nil_append, Nat.zero_add, List.length_map, List.map_map]
  by_cases hi : i < n
  · by_cases hl : i < ((xs.drop f).take n).length
    · have hl' : i < n ∧ i < xs.length - f := by simpa [List.length_take, Nat.lt_min] using hl
      rw [List.getElem?_append_left (by simpa using hl)]
      simp [hi, List.getD, List.getElem?_drop, List.getElem?_eq_getElem (show f + i < xs.length by omega)]
    · have hl' : xs.length ≤ f + i := by
        simp [List.length_take, Nat.lt_min] at hl
        omega
      rw [List.getElem?_append_right (by simpa using hl)]
      simp [hi, List.getD, List.getElem?_eq_none hl', List.getElem?_replicate]
      simp [List.length_take] at hl
      omega
  · rw [List.getElem?_eq_none (by simp [List.length_take]; omega), List.getElem?_eq_none (by simp; omega)]

/-- copy, run: what lies there goes over the row that is known whole. -/
theorem copy_run {w : World} {g o dLen dCap b p sLen sCap : Nat} {cur X : List Value} (hg : w.heap[g]? = some (.cells cur.toArray 2 (0, 0))) (hn : X.length = Nat.min sLen dLen)
    (hsrc : ∀ j v, X[j]? = some v → w.cell? ((⟨b, p, none⟩ : Addr).add j) = some v) (hfit : o + X.length ≤ cur.length) (h1 : ∀ v ∈ X, v.oneCell' = true) :
    ∃ w', (Builtin.copy_ #[22, 22] 3 #[.slice (some ⟨g, o, none⟩) dLen dCap, .slice (some ⟨b, p, none⟩) sLen sCap]).run Tryz.prog w = .ok (goInt X.length) w' ∧
      w'.heap[g]? = some (.cells (splice cur o X).toArray 2 (0, 0)) ∧ Below g w w' :=
  ⟨_, run_copy_row (P := Tryz.prog) w 22 22 3 2 g o dLen dCap ⟨b, p, none⟩ sLen sCap cur.toArray 2 X Tryz.underlying22 (by kernel_rfl) hg hn hsrc (by simpa using hfit) h1,
    by simpa [splice] using setRow_heap w g _ _ 2 _ hg, below_setRow (Below.refl _ _) (Nat.le_refl _) _⟩

/-- The code of ReadObject. -/
def readC (xs : List Int) (f n : Int) : Int := if wordsF xs = 0 then (if 0 ≤ f ∧ f ≤ 64 ∧ 0 ≤ n ∧ f + n ≤ 64 then 0 else 3) else wordsF xs
/-- What ReadObject tells. -/
def rdL (xs : List Int) (f n : Int) : List Int := if wordsF xs = 0 then (if 0 ≤ f ∧ f ≤ 64 ∧ 0 ≤ n ∧ f + n ≤ 64 then readL xs f.toNat n.toNat else []) else []
theorem rdL_len (xs : List Int) (f n : Int) : (rdL xs f n).length ≤ 64 := by
  unfold rdL
  split
  · split
    · rw [readL_len]; omega
    · simp
  · simp

end Go.Proofs.YtlmaopljihbdkaaGreat
/- Chapter 9: 'UnpackEntry' of the program, walked: the panic is recovered at its face. -/
namespace Go.Proofs.YtlmaopljihbdkaaGreat
open Go.RowKit

theorem catchP (r : Nat) (x y : Value) (u : TypeId) (pv : Value) (older : List PanicEntry) (w : World) (c0 : w.cell? ⟨r, 0, none⟩ = some x) (c1 : w.cell? ⟨r, 1, none⟩ = some y) (f0 : w.frozen? ⟨r, 0, none⟩ = false) (f1 : w.frozen? ⟨r, 1, none⟩ = false) :
    CallsD Tryz.prog 143 #[.pointer (some ⟨r, 0, none⟩)] (.panicking ({ v := .iface u pv, recovered := false } :: older)) w fun e u' w' =>
      e = .returned (.tuple #[]) ∧ u' = .panicking ({ v := .iface u pv, recovered := true } :: older) ∧ w' = (w.setCell ⟨r, 0, none⟩ (.int .i64 5)).setCell ⟨r, 1, none⟩ (.slice none 0 0) := by
  refine callsD_of_wpS Tryz.func143 rfl fun c₀ cs hu => ?_
  apply wpS_seq
  apply wpS_region
  simp [wpOpsS, go_sem, recoverD, hu, Tryz.ntmps143, Exit.thenS]
  refine wpS_cond (t := true) (by simp [Act.eval, Array.replicate]) ?_
  simp only [if_true]
  apply wpS_region
  simp [wpOpsS, go_sem, c0, c1, f0, f1, bodyPostS, results, Tryz.results143]

theorem catchI (r : Nat) (w : World) :
    CallsD Tryz.prog 143 #[.pointer (some ⟨r, 0, none⟩)] .returning w fun e u' w' => e = .returned (.tuple #[]) ∧ u' = .returning ∧ w' = w := by
  refine callsD_of_wpS Tryz.func143 rfl fun c₀ cs hu => ?_
  apply wpS_seq
  apply wpS_region
  simp [wpOpsS, go_sem, recoverD, hu, Tryz.ntmps143, Exit.thenS]
  refine wpS_cond (t := false) (by simp [Act.eval, Array.replicate]) ?_
  simp only [Bool.false_eq_true, if_false]
  refine wpS_of_wp (wp_skip ?_)
  cases c₀
  simp_all [bodyPostS, results, Tryz.results143]

/-- One entry in a list of its own. -/
theorem OwJ_made {lo : Nat} {w3 : World} {p : Oj} {z : Value} (T : TypeId) (hz : OwI lo w3 z p.2.2) (hlo : lo ≤ w3.heap.size) :
    OwJ (fun b => lo ≤ b ∧ b < w3.heap.size + 1) (w3.alloc (.cells #[.int .i64 p.1, .int .i64 p.2.1, z] T)) (.slice (some ⟨w3.heap.size, 0, none⟩) 1 1) [p] := by
  obtain ⟨b, h1, h2⟩ := hz
  refine ⟨_, 1, w3.heap.size, 0, fun _ => z, fun _ => b, rfl, by simp, fun _ => ⟨rfl, ⟨hlo, Nat.lt_succ_self _⟩, fun o => by simp [go_sem]⟩, fun i hi => ?_⟩
  have e : i = 0 := by simpa using hi
  subst e
  refine ⟨by simp [go_sem], by simp [go_sem], by simp [go_sem], h1.later (below_alloc _ _), fun hn => ?_⟩
  obtain ⟨k1, k2, k3⟩ := h2 hn
  exact ⟨⟨k1, Nat.lt_succ_of_lt k2⟩, Nat.ne_of_lt k2, fun o => ((bcell (below_alloc _ _)).2 _ _ k2).trans (k3 o), fun j hj _ _ => by simpa using hj⟩

set_option maxHeartbeats 4000000 in
set_option maxRecDepth 4000 in
theorem implUnpackEntry {S : Nat → Prop} {w : World} {v : Value} {xs : List Int} (hv : RdI S w v xs) :
    Calls Tryz.prog 100 #[v] w (EndsEn (ueC xs) (ueR xs) w) := by
  have hmf : ∀ (fn : Fn) (first cap : Array Value) (w : World), (Instr.makeFunc fn first cap).run Tryz.prog w = .ok (.func fn first cap) w := fun _ _ _ _ => rfl
  obtain ⟨ao, c, rfl⟩ := hv.shape
  have HV := hide hv
  clear hv
  unfold ueC ueR
  obtain ⟨z, hz⟩ : ∃ z, wordsF xs = z := ⟨_, rfl⟩
  have HZ := hide hz
  rw [hz]
  clear hz
  obtain ⟨n, hn⟩ : ∃ n, xs.length = n := ⟨_, rfl⟩
  have HN := hide hn
  rw [hn] at HV ⊢
  clear hn
  have HC := hide (wordsFault (HV.out.later (below_alloc w (.cells #[.int .i64 0, .slice none 0 0] 145))))
  rw [HZ.out] at HC
  by_cases h0 : z = 0
  · subst h0
    have hm64 : n ≤ 64 := by have := words_len HZ.out; rw [HN.out] at this; exact this
    by_cases hB : enB xs
    · rw [if_pos rfl, if_pos hB, if_pos ⟨rfl, hB⟩]
      obtain ⟨p, hp⟩ : ∃ p, enO xs = p := ⟨_, rfl⟩
      have HP := hide hp
      rw [hp]
      clear hp
      have HB := hide hB
      clear hB
      obtain ⟨a, t, ys⟩ := p
      obtain ⟨l, hl⟩ : ∃ l, ys.length = l := ⟨_, rfl⟩
      have HL := hide hl
      clear hl
      go_enter_defers Tryz.func100, Tryz.ntmps100
      go_wp2_with fail
      refine HC.out.mono ?_
      rintro e w1 ⟨rfl, q, rfl⟩
      have HRs := hide ((ResF.start w 145).later (below_drewN _ q))
      have HEn := hide (entryIn (HV.out.later HRs.out.below) (by rw [HN.out]; exact hm64))
      have hsz1 : ((w.alloc (.cells #[.int .i64 0, .slice none 0 0] 145)).drewN q).heap.size = w.heap.size + 1 := by simp
      have HSz := hide hsz1
      clear hsz1
      go_wp2_with fail
      refine HEn.out.mono ?_
      rintro e w2 ⟨hb, ⟨_, z, rfl, ho⟩ | ⟨hB, _⟩⟩
      · rw [HP.out] at ho ⊢
        dsimp only at ho ⊢
        obtain ⟨az, cz, hz⟩ := ho.shape
        rw [HL.out] at hz
        subst hz
        have HRs2 := hide (HRs.out.later hb)
        have hs2 := hb.size
        rw [HSz.out] at ho hs2
        have HOj := hide (OwJ_made (p := (a, t, ys)) 110 ho (by omega))
        have bA := below_alloc w2 (.cells #[.int .i64 a, .int .i64 t, .slice az l cz] 110)
        have HRs3 := hide (HRs2.out.later bA)
        have HFn := hide (ret_entries (x := .int .i64 0) (r := w.heap.size) HRs3.out.below (Nat.le_refl _) HOj.out (fun b hb => ⟨by have := hb.1; omega, by have := hb.2; simp; omega⟩))
        have r0 := HRs2.out.c0
        have r1 := HRs2.out.c1
        have f0 := HRs2.out.fr 0
        have f1 := HRs2.out.fr 1
        have hlt := HRs2.out.lt
        have hlt' : w.heap.size < (w2.setCell ⟨w.heap.size, 0, none⟩ (.int .i64 0)).heap.size := by simpa using hlt
        rw [World.setCell_alloc_past _ _ _ _ hlt, World.setCell_alloc_past _ _ _ _ hlt'] at HFn
        clear hb ho bA HRs3 HOj hlt'
        go_wp2
        refine leaves_cons (f := 143) (args := #[.pointer (some ⟨w.heap.size, 0, none⟩)]) (by simp) (by simp [go_sem]) ?_
        refine (catchI w.heap.size _).mono ?_
        rintro e u' w'' ⟨rfl, rfl, rfl⟩
        exact ⟨.agg #[.int .i64 0, .slice (some ⟨w2.heap.size, 0, none⟩) 1 1], by simp [results, Tryz.results100, go_sem, r0, r1, hlt], _, rfl, HFn.out.1, HFn.out.2⟩
      · exact absurd HB.out hB
    · rw [if_pos rfl, if_neg hB, if_neg (fun h => hB h.2)]
      have HB := hide hB
      clear hB
      go_enter_defers Tryz.func100, Tryz.ntmps100
      go_wp2_with fail
      refine HC.out.mono ?_
      rintro e w1 ⟨rfl, q, rfl⟩
      have HRs := hide ((ResF.start w 145).later (below_drewN _ q))
      have HEn := hide (entryIn (HV.out.later HRs.out.below) (by rw [HN.out]; exact hm64))
      go_wp2_with fail
      refine HEn.out.mono ?_
      rintro e w2 ⟨hb, ⟨hB, _⟩ | ⟨_, pv, rfl⟩⟩
      · exact absurd hB HB.out
      · have HRs2 := hide (HRs.out.later hb)
        clear hb
        go_wp2
        refine leaves_cons (f := 143) (args := #[.pointer (some ⟨w.heap.size, 0, none⟩)]) (by simp) (by simp [go_sem]) ?_
        refine (catchP w.heap.size _ _ _ pv [] _ HRs2.out.c0 HRs2.out.c1 (HRs2.out.fr 0) (HRs2.out.fr 1)).mono ?_
        rintro e u' w'' ⟨rfl, rfl, rfl⟩
        have r0 := HRs2.out.c0
        have r1 := HRs2.out.c1
        exact ⟨.agg #[.int .i64 5, .slice none 0 0], by simp [results, Tryz.results100, go_sem, r0, r1], _, rfl, HRs2.out.shut _ _, OwJ_nil _ _⟩
  · rw [if_neg h0, if_neg (fun h => h0 h.1)]
    have h0b : (z == 0) = false := by simpa using h0
    go_enter_defers Tryz.func100, Tryz.ntmps100
    go_wp2_with fail
    refine HC.out.mono ?_
    rintro e w1 ⟨rfl, q, rfl⟩
    have HRs := hide ((ResF.start w 145).later (below_drewN _ q))
    go_wp2
    exact ⟨.agg #[.int .i64 z, .slice none 0 0], by simp [results, Tryz.results100, go_sem], _, rfl, HRs.out.shut _ _, OwJ_nil _ _⟩
end Go.Proofs.YtlmaopljihbdkaaGreat
