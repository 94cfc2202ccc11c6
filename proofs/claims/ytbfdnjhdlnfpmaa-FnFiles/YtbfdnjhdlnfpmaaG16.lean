/- RowsW Zero Lw in one text: what each says stands at its head below. -/
import Derived.Test.YtbfdnjhdlnfpmaaG15
import Derived.Test.YtbfdnjhdlnfpmaaG07
import Derived.Test.YtbfdnjhdlnfpmaaG05
/- Rows of a slice that are overwritten one by one. -/
namespace Go.Proofs.Ytbfdnjhdlnfpmaa
open Go.RowKit

/-- n rows at the head of block g, which is not frozen; each in a block of its own; all in P. -/
structure RowsW (P : Nat → Prop) (w : World) (g n : Nat) (V : Nat → Value) (Bk : Nat → Nat) (xss : List (List Int)) : Prop where
  len : xss.length = n
  inP : P g
  lt : g < w.heap.size
  free : ∀ o, w.frozen? ⟨g, o, none⟩ = false
  cell : ∀ i, i < n → w.cell? ⟨g, i, none⟩ = some (V i)
  rd : ∀ i, i < n → RdI (· = Bk i) w (V i) (xss.getD i [])
  own : ∀ i, i < n → xss.getD i [] ≠ [] → P (Bk i) ∧ Bk i ≠ g ∧ Bk i < w.heap.size ∧ (∀ o, w.frozen? ⟨Bk i, o, none⟩ = false) ∧ ∀ j, j < n → xss.getD j [] ≠ [] → Bk j = Bk i → j = i

theorem RowsW.later {P : Nat → Prop} {w w' : World} {g n : Nat} {V : Nat → Value} {Bk : Nat → Nat} {xss : List (List Int)} (h : RowsW P w g n V Bk xss) (hb : Below w.heap.size w w') : RowsW P w' g n V Bk xss :=
  ⟨h.len, h.inP, Nat.lt_of_lt_of_le h.lt hb.size, fun o => ((bcell hb).2 _ _ h.lt).trans (h.free o), fun i hi => cell_later hb (h.cell i hi), fun i hi => (h.rd i hi).later hb, fun i hi hn => by
    obtain ⟨h1, h2, h3, h4, h5⟩ := h.own i hi hn
    exact ⟨h1, h2, Nat.lt_of_lt_of_le h3 hb.size, fun o => ((bcell hb).2 _ _ h3).trans (h4 o), h5⟩⟩

theorem BuiltII.rowsW {P : Nat → Prop} {w : World} {v : Value} {xss : List (List Int)} (h : BuiltII P w v xss.length xss) (hn : 0 < xss.length) :
    ∃ g cap V Bk, v = .slice (some ⟨g, 0, none⟩) xss.length cap ∧ RowsW P w g xss.length V Bk xss := by
  obtain ⟨V, Bk, h1, h2, h3⟩ := h
  rcases h1.2 with ⟨rfl, e⟩ | ⟨g, cap, cur, rfl, hg, hh, _⟩
  · omega
  · refine ⟨g, cap, V, Bk, rfl, rfl, h2 g rfl, (Array.getElem?_eq_some_iff.1 hh).1, fun o => h1.frozenAt o, fun i hi => ?_, h3.rd, fun i hi hn => ?_⟩
    · rw [h1.cellAt i (by omega)]
      simp [hi]
    · obtain ⟨q1, q2, q3, q4, q5⟩ := h3.own i hi hn
      exact ⟨q1, fun e => q4 (by rw [e]; rfl), q2, q3, q5⟩

theorem RowsW.ow {P : Nat → Prop} {w : World} {g n cap : Nat} {V : Nat → Value} {Bk : Nat → Nat} {xss : List (List Int)} (h : RowsW P w g n V Bk xss) (hm : n ≤ 9223372036854775807) : OwII (fun b => P b ∧ b < w.heap.size) w (.slice (some ⟨g, 0, none⟩) n cap) xss := by
  have hl := h.len
  subst hl
  refine ⟨_, cap, g, 0, V, Bk, rfl, hm, fun _ => ⟨rfl, h.inP, h.lt⟩, fun i hi => ⟨by rw [Nat.zero_add]; exact h.cell i hi, h.rd i hi, fun hn => ?_⟩⟩
  obtain ⟨q1, q2, q3, q4, q5⟩ := h.own i hi hn
  exact ⟨⟨q1, q3⟩, q2, q4, q5⟩

theorem getD_set_same (xss : List (List Int)) (a : Nat) (ys : List Int) (h : a < xss.length) : (xss.set a ys).getD a [] = ys := by simp [List.getD, h]
theorem getD_set_other (xss : List (List Int)) (a i : Nat) (ys : List Int) (h : i ≠ a) : (xss.set a ys).getD i [] = xss.getD i [] := by simp [List.getD, List.getElem?_set_ne (Ne.symm h)]

theorem RowsW.step {P : Nat → Prop} {w w1 : World} {g n a : Nat} {V : Nat → Value} {Bk : Nat → Nat} {xss : List (List Int)} {z : Value} {ys : List Int} (h : RowsW P w g n V Bk xss) (hP : ∀ b, w.heap.size ≤ b → P b) (hb : Below w.heap.size w w1) (hz : OwI w.heap.size w1 z ys) (ha : a < n) :
    ∃ Bk', RowsW P (w1.setCell ⟨g, a, none⟩ z) g n (fun i => if i = a then z else V i) Bk' (xss.set a ys) := by
  have h1 := h.later hb
  have hl := h.lt
  have hla : a < xss.length := by rw [h.len]; exact ha
  obtain ⟨bz, hz1, hz2⟩ := hz
  refine ⟨fun i => if i = a then bz else Bk i, by simpa using h.len, h.inP, by simpa using h1.lt, fun o => by rw [World.frozen?_setCell]; exact h1.free o, fun i hi => ?_, fun i hi => ?_, fun i hi hn => ?_⟩
  · by_cases e : i = a
    · subst e
      rw [if_pos rfl]
      exact World.cell?_setCell_same _ _ _ (h1.cell i hi)
    · rw [if_neg e, World.cell?_setCell_other _ _ _ _ (by intro h'; injection h' with _ h2; exact e h2.symm)]
      exact h1.cell i hi
  · by_cases e : i = a
    · subst e
      simp only [if_true]
      rw [getD_set_same _ _ _ hla]
      exact hz1.setOther fun hn => by have := (hz2 hn).1; omega
    · simp only [if_neg e]
      rw [getD_set_other _ _ _ _ e]
      exact (h1.rd i hi).setOther fun hn => (h1.own i hi hn).2.1
  · by_cases e : i = a
    · subst e
      rw [getD_set_same _ _ _ hla] at hn
      obtain ⟨k1, k2, k3⟩ := hz2 hn
      simp only [if_true]
      refine ⟨hP _ k1, by omega, by simpa using k2, fun o => by rw [World.frozen?_setCell]; exact k3 o, fun j hj hj' ej => ?_⟩
      by_cases e2 : j = i
      · exact e2
      · simp only [if_neg e2] at ej
        rw [getD_set_other _ _ _ _ e2] at hj'
        have := (h.own j hj hj').2.2.1
        omega
    · rw [getD_set_other _ _ _ _ e] at hn
      obtain ⟨q1, q2, q3, q4, q5⟩ := h1.own i hi hn
      have q3' := (h.own i hi hn).2.2.1
      simp only [if_neg e]
      refine ⟨q1, q2, by simpa using q3, fun o => by rw [World.frozen?_setCell]; exact q4 o, fun j hj hj' ej => ?_⟩
      by_cases e2 : j = a
      · subst e2
        rw [getD_set_same _ _ _ hla] at hj'
        simp only [if_true] at ej
        have := (hz2 hj').1
        omega
      · simp only [if_neg e2] at ej
        rw [getD_set_other _ _ _ _ e2] at hj'
        exact q5 j hj hj' ej

/-- The rows behind the first k puts, of which so much is kept as pk says. -/
def keepTo (xss : List (List Int)) (ps : List (Int × List Int)) (pk : Nat → Int) : Nat → List (List Int)
  | 0 => xss
  | k + 1 => (keepTo xss ps pk k).set (ps.getD k (0, [])).1.toNat (tear ((keepTo xss ps pk k).getD (ps.getD k (0, [])).1.toNat []) (ps.getD k (0, [])).2 (pk k))

theorem keepTo_len (xss : List (List Int)) (ps : List (Int × List Int)) (pk : Nat → Int) : ∀ k, (keepTo xss ps pk k).length = xss.length := by
  intro k
  induction k with
  | zero => rfl
  | succ k ih => unfold keepTo; rw [List.length_set]; exact ih
end Go.Proofs.Ytbfdnjhdlnfpmaa
/- What is known of a disk without a fault; rows that are overwritten, empty disks among them. -/
namespace Go.Proofs.Ytbfdnjhdlnfpmaa
open Go.RowKit

theorem wordsF_zero {xs : List Int} (h : wordsF xs = 0) : xs.length ≤ 64 ∧ ∀ i, i < xs.length → 0 ≤ xs.getD i 0 ∧ xs.getD i 0 ≤ 65535 := by
  unfold wordsF wF at h
  split at h
  · exact absurd h (by decide)
  · rename_i h1
    split at h
    · rename_i h2
      exact ⟨by omega, h2⟩
    · exact absurd h (by decide)

theorem firstF_zero {xss : List (List Int)} (h : firstF xss = 0) : ∀ i, i < xss.length → wordsF (xss.getD i []) = 0 := by
  induction xss with
  | nil => intro i hi; simp at hi
  | cons xs r ih =>
    simp only [firstF] at h
    split at h
    · rename_i h1
      intro i hi
      cases i with
      | zero => simpa using h1
      | succ i => simpa using ih h i (by simpa using hi)
    · rename_i h1
      exact absurd h h1

theorem firstP_zero {n : Nat} {ps : List (Int × List Int)} (h : firstP n ps = 0) : ∀ i, i < ps.length → (0 ≤ (ps.getD i (0, [])).1 ∧ (ps.getD i (0, [])).1 < (n : Int)) ∧ wordsF (ps.getD i (0, [])).2 = 0 := by
  induction ps with
  | nil => intro i hi; simp at hi
  | cons p r ih =>
    simp only [firstP] at h
    split at h
    · rename_i h0
      split at h
      · rename_i h1
        intro i hi
        cases i with
        | zero => simpa using ⟨h0, h1⟩
        | succ i => simpa using ih h i (by simpa using hi)
      · rename_i h1
        exact absurd h h1
    · exact absurd h (by decide)

/-- A disk without a fault. -/
structure Sound (xss : List (List Int)) (ps : List (Int × List Int)) : Prop where
  rows : xss.length ≤ 70
  puts : ps.length ≤ 200
  row : ∀ i, i < xss.length → wordsF (xss.getD i []) = 0
  at0 : ∀ i, i < ps.length → 0 ≤ (ps.getD i (0, [])).1
  at1 : ∀ i, i < ps.length → (ps.getD i (0, [])).1 < (xss.length : Int)
  put : ∀ i, i < ps.length → wordsF (ps.getD i (0, [])).2 = 0

theorem diskF_zero {xss : List (List Int)} {ps : List (Int × List Int)} (h : diskF xss ps = 0) : Sound xss ps := by
  unfold diskF at h
  split at h
  · exact absurd h (by decide)
  · rename_i h1
    split at h
    · rename_i h2
      have h3 := firstP_zero h
      exact ⟨by omega, by omega, firstF_zero h2, fun i hi => (h3 i hi).1.1, fun i hi => (h3 i hi).1.2, fun i hi => (h3 i hi).2⟩
    · rename_i h2
      exact absurd h h2

theorem Sound.len {xss : List (List Int)} {ps : List (Int × List Int)} (h : Sound xss ps) (i : Nat) : (xss.getD i []).length ≤ 64 := by
  by_cases hi : i < xss.length
  · exact (wordsF_zero (h.row i hi)).1
  · simp [List.getD, List.getElem?_eq_none (Nat.le_of_not_lt hi)]

/-- Rows stay short, whatever is kept. -/
theorem keepTo_short {xss : List (List Int)} {ps : List (Int × List Int)} (h : Sound xss ps) (pk : Nat → Int) : ∀ k, k ≤ ps.length → ∀ i, ((keepTo xss ps pk k).getD i []).length ≤ 64 := by
  intro k
  induction k with
  | zero => intro _ i; exact h.len i
  | succ k ih =>
    intro hk i
    have ih := ih (by omega)
    unfold keepTo
    by_cases e : i = (ps.getD k (0, [])).1.toNat
    · by_cases hi : i < (keepTo xss ps pk k).length
      · rw [← e, getD_set_same _ _ _ hi]
        exact tear_len (ih _) (wordsF_zero (h.put k (by omega))).1
      · simp only [List.getD]
        rw [List.getElem?_eq_none (by rw [List.length_set]; omega)]
        simp
    · rw [getD_set_other _ _ _ _ e]
      exact ih i

/-- Rows at the head of the block that ao names, if there is one at all. -/
def RowsA (P : Nat → Prop) (w : World) (ao : Option Addr) (n : Nat) (xss : List (List Int)) : Prop :=
  xss.length = n ∧ (n ≠ 0 → ∃ g V Bk, ao = some ⟨g, 0, none⟩ ∧ RowsW P w g n V Bk xss)

theorem RowsA.of {P : Nat → Prop} {w : World} {v : Value} {xss : List (List Int)} (h : BuiltII P w v xss.length xss) : ∃ ao c, v = .slice ao xss.length c ∧ RowsA P w ao xss.length xss := by
  by_cases hn : 0 < xss.length
  · obtain ⟨g, cap, V, Bk, rfl, hw⟩ := h.rowsW hn
    exact ⟨_, _, rfl, rfl, fun _ => ⟨g, V, Bk, rfl, hw⟩⟩
  · obtain ⟨ao, c, rfl⟩ := h.shape
    exact ⟨ao, c, rfl, rfl, fun h0 => by omega⟩

theorem RowsW.mono {P P' : Nat → Prop} {w : World} {g n : Nat} {V : Nat → Value} {Bk : Nat → Nat} {xss : List (List Int)} (h : RowsW P w g n V Bk xss) (hP : ∀ b, P b → b < w.heap.size → P' b) : RowsW P' w g n V Bk xss :=
  ⟨h.len, hP _ h.inP h.lt, h.lt, h.free, h.cell, h.rd, fun i hi hn => by
    obtain ⟨q1, q2, q3, q4, q5⟩ := h.own i hi hn
    exact ⟨hP _ q1 q3, q2, q3, q4, q5⟩⟩
theorem RowsA.mono {P P' : Nat → Prop} {w : World} {ao : Option Addr} {n : Nat} {xss : List (List Int)} (h : RowsA P w ao n xss) (hP : ∀ b, P b → b < w.heap.size → P' b) : RowsA P' w ao n xss :=
  ⟨h.1, fun h0 => by
    obtain ⟨g, V, Bk, e, hw⟩ := h.2 h0
    exact ⟨g, V, Bk, e, hw.mono hP⟩⟩
theorem RowsA.later {P : Nat → Prop} {w w' : World} {ao : Option Addr} {n : Nat} {xss : List (List Int)} (h : RowsA P w ao n xss) (hb : Below w.heap.size w w') : RowsA P w' ao n xss :=
  ⟨h.1, fun h0 => by
    obtain ⟨g, V, Bk, e, hw⟩ := h.2 h0
    exact ⟨g, V, Bk, e, hw.later hb⟩⟩

theorem OwII_zero (S : Nat → Prop) (w : World) (ao : Option Addr) (c : Nat) : OwII S w (.slice ao 0 c) [] :=
  ⟨ao, c, 0, 0, fun _ => .bool false, fun _ => 0, rfl, by simp, fun h => absurd rfl h, fun i hi => absurd hi (Nat.not_lt_zero _)⟩

theorem RowsA.ow {P : Nat → Prop} {w : World} {ao : Option Addr} {n c : Nat} {xss : List (List Int)} (h : RowsA P w ao n xss) (hm : n ≤ 9223372036854775807) : OwII (fun b => P b ∧ b < w.heap.size) w (.slice ao n c) xss := by
  by_cases h0 : n = 0
  · subst h0
    have := List.eq_nil_of_length_eq_zero h.1
    subst this
    exact OwII_zero _ _ _ _
  · obtain ⟨g, V, Bk, rfl, hw⟩ := h.2 h0
    exact hw.ow hm

theorem RowsW.set {P : Nat → Prop} {w : World} {g n : Nat} {V : Nat → Value} {Bk : Nat → Nat} {xss : List (List Int)} (h : RowsW P w g n V Bk xss) {r o : Nat} {x : Value} (hr : ∀ b, P b → b ≠ r) : RowsW P (w.setCell ⟨r, o, none⟩ x) g n V Bk xss := by
  refine ⟨h.len, h.inP, by simpa using h.lt, fun o => by rw [World.frozen?_setCell]; exact h.free o, fun i hi => ?_, fun i hi => (h.rd i hi).setOther fun hn => hr _ (h.own i hi hn).1, fun i hi hn => ?_⟩
  · rw [World.cell?_setCell_other _ _ _ _ (by intro h'; injection h' with h1 _; exact hr _ h.inP h1.symm)]
    exact h.cell i hi
  · obtain ⟨q1, q2, q3, q4, q5⟩ := h.own i hi hn
    exact ⟨q1, q2, by simpa using q3, fun o => by rw [World.frozen?_setCell]; exact q4 o, q5⟩

theorem RowsA.set {P : Nat → Prop} {w : World} {ao : Option Addr} {n : Nat} {xss : List (List Int)} (h : RowsA P w ao n xss) {r o : Nat} {x : Value} (hr : ∀ b, P b → b ≠ r) : RowsA P (w.setCell ⟨r, o, none⟩ x) ao n xss :=
  ⟨h.1, fun h0 => by
    obtain ⟨g, V, Bk, e, hw⟩ := h.2 h0
    exact ⟨g, V, Bk, e, hw.set hr⟩⟩

/-- A round: the row of the k-th put is overwritten by what is kept of it. -/
theorem RowsW.round {P : Nat → Prop} {w w1 : World} {g n a k : Nat} {V : Nat → Value} {Bk : Nat → Nat} {xss : List (List Int)} {ps : List (Int × List Int)} {pk : Nat → Int} {z : Value} {ao : Option Addr} (h : RowsW P w g n V Bk (keepTo xss ps pk k)) (hao : ao = some ⟨g, 0, none⟩) (hP : ∀ b, w.heap.size ≤ b → P b) (hb : Below w.heap.size w w1)
    (hz : OwI w.heap.size w1 z (tear ((keepTo xss ps pk k).getD a []) (ps.getD k (0, [])).2 (pk k))) (ha : a < n) (hak : (ps.getD k (0, [])).1 = (a : Int)) : RowsA P (w1.setCell ⟨g, a, none⟩ z) ao n (keepTo xss ps pk (k + 1)) := by
  have e : (ps.getD k (0, [])).1.toNat = a := by rw [hak]; simp
  have hk : keepTo xss ps pk (k + 1) = (keepTo xss ps pk k).set a (tear ((keepTo xss ps pk k).getD a []) (ps.getD k (0, [])).2 (pk k)) := by
    rw [← e]; rfl
  rw [hk]
  obtain ⟨Bk', h'⟩ := h.step hP hb hz ha
  exact ⟨h'.len, fun _ => ⟨g, _, Bk', hao, h'⟩⟩
theorem tot_short {xss : List (List Int)} (h : ∀ i, (xss.getD i []).length ≤ 64) : ∀ n, n ≤ xss.length → tot xss n ≤ 64 * n := by
  intro n
  induction n with
  | zero => intro _; simp [tot]
  | succ n ih => intro hn; rw [tot_succ xss n (by omega)]; have := ih (by omega); have := h n; omega

theorem keep_bound {xss : List (List Int)} {ps : List (Int × List Int)} (h : Sound xss ps) (pk : Nat → Int) :
    tot (keepTo xss ps pk ps.length) (keepTo xss ps pk ps.length).length + totP [] ([] : List (Int × List Int)).length ≤ 16777216 := by
  have h1 := tot_short (keepTo_short h pk ps.length (Nat.le_refl _)) _ (Nat.le_refl _)
  have h2 := keepTo_len xss ps pk ps.length
  have h3 := h.rows
  simp only [totP]
  simp
  omega
end Go.Proofs.Ytbfdnjhdlnfpmaa
/- The laws' own helpers: 'lwBig', 'lwNums', walked. -/
namespace Go.Proofs.Ytbfdnjhdlnfpmaa
open Go.RowKit

theorem lwBig (ao : Option Addr) (n c : Nat) (w : World) (hn : n ≤ 9223372036854775807) :
    Calls Try.prog 5 #[.slice ao n c] w fun e w' => e = .returned (.bool (decide (1048576 < n))) ∧ w' = w := by
  by_cases h : 1048576 < n
  · go_enter Try.func5, Try.ntmps5
    go_wp2
    go_ret
    exact ⟨by simp; omega, rfl⟩
  · go_enter Try.func5, Try.ntmps5
    go_wp2
    go_ret
    exact ⟨by simp; omega, rfl⟩

theorem lw_ne_of_at {xs ys : List Int} {i : Nat} (h : xs.getD i 0 ≠ ys.getD i 0) : xs ≠ ys := fun e => h (by rw [e])
theorem lw_eq_of_at {xs ys : List Int} (hl : xs.length = ys.length) (h : ∀ i, i < xs.length → xs.getD i 0 = ys.getD i 0) : xs = ys := by
  refine List.ext_getElem hl fun i h1 h2 => ?_
  have := h i h1
  simpa [List.getD, h1, h2] using this

set_option maxHeartbeats 1000000 in
set_option maxRecDepth 4000 in
theorem lwNums {S T : Nat → Prop} {w : World} {u v : Value} {xs ys : List Int} (hu : RdI S w u xs) (hv : RdI T w v ys) :
    Calls Try.prog 8 #[u, v] w fun e w' => e = .returned (.bool (decide (xs = ys))) ∧ ∃ q, w' = w.drewN q := by
  have HU := hide hu
  have HV := hide hv
  have hul : xs.length ≤ 9223372036854775807 := by obtain ⟨_, _, _, h, _⟩ := hu; exact h
  have hvl : ys.length ≤ 9223372036854775807 := by obtain ⟨_, _, _, h, _⟩ := hv; exact h
  obtain ⟨ao, c, rfl⟩ := hu.shape
  obtain ⟨ao', c', rfl⟩ := hv.shape
  obtain ⟨n, hn⟩ : ∃ n, xs.length = n := ⟨_, rfl⟩
  obtain ⟨m, hm⟩ : ∃ m, ys.length = m := ⟨_, rfl⟩
  have HN := hide hn
  have HM := hide hm
  rw [hn] at HU hul ⊢
  rw [hm] at HV hvl ⊢
  clear hu hv hn hm
  obtain ⟨bb, hbb⟩ : ∃ bb, decide (xs = ys) = bb := ⟨_, rfl⟩
  have HBb := hide hbb
  rw [hbb]
  clear hbb
  by_cases hnm : n = m
  · subst hnm
    go_enter Try.func8, Try.ntmps8
    go_wp2
    go_loopw [5] (fun i wr => ∃ k : Nat, k ≤ n ∧ i = .int .i64 k ∧ Hid (∀ j, j < k → xs.getD j 0 = ys.getD j 0) ∧ Hid (∃ q, wr = w.drewN q)) (fun i _ => n - (intOf i).toNat)
    case atStart => exact ⟨0, Nat.zero_le _, rfl, fun j hj => absurd hj (Nat.not_lt_zero _), 0, rfl⟩
    case round =>
      obtain ⟨k, hk, rfl, HA, HQ⟩ := hrel
      by_cases hlt : k < n
      · obtain ⟨b1, o1, rfl, p1⟩ := HU.out.at (k := k) (by rw [HN.out]; exact hlt)
        obtain ⟨b2, o2, rfl, p2⟩ := HV.out.at (k := k) (by rw [HM.out]; exact hlt)
        have g1 := (drewN_cell HQ.out _).trans p1
        have g2 := (drewN_cell HQ.out _).trans p2
        obtain ⟨x, hx⟩ : ∃ x, xs.getD k 0 = x := ⟨_, rfl⟩
        obtain ⟨y, hy⟩ : ∃ y, ys.getD k 0 = y := ⟨_, rfl⟩
        have HX := hide hx
        have HY := hide hy
        rw [hx] at g1
        rw [hy] at g2
        have hk0 : (0 : Int) ≤ (k : Int) := Int.natCast_nonneg _
        have hk1 : (k : Int) < (n : Int) := by omega
        clear hx hy p1 p2
        by_cases hxy : x = y
        · subst hxy
          go_wp2_with fail
          go_quiet (fail)
          go_wp2
          go_roundw
          case rel => exact ⟨k + 1, by omega, by go_num, fun j hj => (by by_cases e : j = k; · subst e; rw [HX.out, HY.out]
                                                                         · exact HA.out j (by omega)), drewN_on HQ.out ⟨_, rfl⟩⟩
          case measure => simp [intOf]; omega
        · have hb0 : bb = false := by rw [← HBb.out]; exact decide_eq_false (lw_ne_of_at (i := k) (by rw [HX.out, HY.out]; exact hxy))
          subst hb0
          go_wp2_with fail
          go_quiet (fail)
          go_wp2
          go_ret
          exact ⟨rfl, drewN_on HQ.out ⟨_, rfl⟩⟩
      · have hb1 : bb = true := by rw [← HBb.out]; exact decide_eq_true (lw_eq_of_at (by rw [HN.out, HM.out]) (fun i hi => HA.out i (by rw [HN.out] at hi; omega)))
        subst hb1
        go_wp2
        go_ret
        exact ⟨rfl, HQ.out⟩
  · have hb0 : bb = false := by rw [← HBb.out]; exact decide_eq_false (fun e => hnm (by rw [← HN.out, ← HM.out, e]))
    subst hb0
    go_enter Try.func8, Try.ntmps8
    go_wp2
    go_ret
    exact ⟨rfl, 0, rfl⟩
end Go.Proofs.Ytbfdnjhdlnfpmaa
