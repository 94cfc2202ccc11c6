/- Chapter 4: 'spec.AbsorbPuts', walked: rows of puts joined, and what is taken out of them. -/
import Derived.Test.YtdfndgeoaagihaaAbsI
import Derived.Test.YtdfndgeoaagihaaL4
namespace Go.Proofs.Ytdfndgeoaagihaa
open Go.RowKit Go.Maps

theorem RdI.grownN {S : Nat → Prop} {w w' : World} {v : Value} {xs : List Int} {row : Option Nat} (h : RdI S w v xs) (hS : xs ≠ [] → ∀ b, S b → some b ≠ row) (hg : w.grownBy w' row) : RdI S w' v xs := by
  obtain ⟨ao, c, e1, e2, e3⟩ := h
  refine ⟨ao, c, e1, e2, fun hne => ?_⟩
  obtain ⟨b, off, f1, f2, f3⟩ := e3 hne
  exact ⟨b, off, f1, f2, fun j hj => (World.cell?_of_block (hg.block b (World.block_lt_of_cell? _ _ (f3 j hj)) (fun e => hS hne b f2 e))).trans (f3 j hj)⟩

theorem BuiltP.join {Q : Nat → Prop} {w1 w2 w3 : World} {z1 : Value} {r2 : Option Nat} {n m g cap : Nat} {vs ps : List (Int × List Int)} {V1 V2 : Nat → Value} {B1 B2 : Nat → Nat} (hn : vs.length = n) (hm : ps.length = m)
    (h1 : w1.ownsRow 0 49 2 z1 n (cellsP vs n V1)) (p1 : ∀ r, z1.ownBlock = some r → Q r) (i1 : Inner Q w1 z1.ownBlock n V1 B1 (fun i => (vs.getD i (0, [])).2)) (hb : Below w1.heap.size w1 w2)
    (i2 : Inner (w1.heap.size ≤ ·) w2 r2 m V2 B2 (fun i => (ps.getD i (0, [])).2)) (hQ : ∀ b, w1.heap.size ≤ b → Q b)
    (hown : w3.ownsRow 0 49 2 (.slice (some ⟨g, 0, none⟩) (n + m) cap) (n + m) (cellsP vs n V1 ++ cellsP ps ps.length V2)) (hg : w2.grownBy w3 z1.ownBlock) (hat : z1.ownBlock = some g ∨ g = w2.heap.size) :
    BuiltP Q w3 (.slice (some ⟨g, 0, none⟩) (n + m) cap) (n + m) (vs ++ ps) := by
  have hlt : ∀ r, z1.ownBlock = some r → r < w1.heap.size := fun r hr => (h1.lt r hr).2
  have hs := hb.size
  have hs3 := hg.size
  have eL : ∀ i, i < n → (vs ++ ps).getD i (0, []) = vs.getD i (0, []) := fun i hi => by simp [List.getD, List.getElem?_append_left (show i < vs.length by omega)]
  have eR : ∀ i, ¬ i < n → (vs ++ ps).getD i (0, []) = ps.getD (i - n) (0, []) := fun i hi => by simp [List.getD, List.getElem?_append_right (show vs.length ≤ i by omega), hn]
  have fz : ∀ b, b < w2.heap.size → some b ≠ z1.ownBlock → ∀ o, w3.frozen? ⟨b, o, none⟩ = w2.frozen? ⟨b, o, none⟩ := fun b h1 h2 o => World.frozen?_of_block (hg.block b h1 (fun e => h2 e))
  have L : ∀ i, i < n → (vs.getD i (0, [])).2 ≠ [] → Q (B1 i) ∧ B1 i < w1.heap.size ∧ some (B1 i) ≠ z1.ownBlock ∧ (∀ o, w3.frozen? ⟨B1 i, o, none⟩ = false) := fun i hi hne => by
    obtain ⟨k1, k2, k3, k4, _⟩ := i1.own i hi hne
    exact ⟨k1, k2, fun e => k4 e.symm, fun o => (fz _ (by omega) (fun e => k4 e.symm) o).trans (((bcell hb).2 _ _ k2).trans (k3 o))⟩
  have R : ∀ i, i < m → (ps.getD i (0, [])).2 ≠ [] → w1.heap.size ≤ B2 i ∧ B2 i < w2.heap.size ∧ some (B2 i) ≠ z1.ownBlock ∧ (∀ o, w3.frozen? ⟨B2 i, o, none⟩ = false) := fun i hi hne => by
    obtain ⟨k1, k2, k3, k4, _⟩ := i2.own i hi hne
    have hne2 : some (B2 i) ≠ z1.ownBlock := fun e => by have := hlt _ e.symm; omega
    exact ⟨k1, k2, hne2, fun o => (fz _ k2 hne2 o).trans (k3 o)⟩
  refine ⟨fun i => if i < n then V1 i else V2 (i - n), fun i => if i < n then B1 i else B2 (i - n), ?_, fun r hr => ?_, fun i hi => ?_, fun i hi hne => ?_⟩
  · have := cellsP_append vs ps V1 V2
    rw [hn] at this
    rw [hm] at this hown
    rw [this]
    exact hown
  · injection hr with hr
    subst hr
    rcases hat with h | h
    · exact p1 _ h
    · exact hQ _ (by dsimp only; omega)
  · by_cases h : i < n
    · simp only [if_pos h]
      rw [eL i h]
      exact ((i1.rd i h).later hb).grownN (fun hne b e => by rw [e]; exact (L i h hne).2.2.1) hg
    · simp only [if_neg h]
      rw [eR i h]
      exact (i2.rd (i - n) (by omega)).grownN (fun hne b e => by rw [e]; exact (R _ (by omega) hne).2.2.1) hg
  · by_cases h : i < n
    · simp only [if_pos h]
      simp only [eL i h] at hne
      obtain ⟨k1, k2, k3, k4⟩ := L i h hne
      refine ⟨k1, by omega, k4, fun e => ?_, fun j hj hnj e => ?_⟩
      · injection e with e
        rcases hat with h' | h'
        · exact k3 (by rw [h', ← e])
        · dsimp only at e; omega
      · by_cases hj' : j < n
        · simp only [if_pos hj'] at e
          simp only [eL j hj'] at hnj
          exact (i1.own i h hne).2.2.2.2 j hj' hnj e
        · simp only [if_neg hj'] at e
          simp only [eR j hj'] at hnj
          have := (R (j - n) (by omega) hnj).1
          omega
    · simp only [if_neg h]
      simp only [eR i h] at hne
      obtain ⟨k1, k2, k3, k4⟩ := R (i - n) (by omega) hne
      refine ⟨hQ _ k1, by omega, k4, fun e => ?_, fun j hj hnj e => ?_⟩
      · injection e with e
        rcases hat with h' | h'
        · exact k3 (by rw [h', ← e])
        · dsimp only at e; omega
      · by_cases hj' : j < n
        · simp only [if_pos hj'] at e
          simp only [eL j hj'] at hnj
          have := (L j hj' hnj).2.1
          omega
        · simp only [if_neg hj'] at e
          simp only [eR j hj'] at hnj
          have := (i2.own (i - n) (by omega) hne).2.2.2.2 (j - n) (by omega) hnj e
          omega

/-- Of the first k puts of n the numbers of those that are the last one of their block. -/
def absI (ps : List (Int × List Int)) (n : Nat) : Nat → List Nat
  | 0 => []
  | k + 1 => absI ps n k ++ if lastI ps n (ps.getD k (0, [])).1 = (k : Int) then [k] else []
theorem absI_map (ps : List (Int × List Int)) (n : Nat) : ∀ k, absP ps n k = (absI ps n k).map fun i => ps.getD i (0, [])
  | 0 => rfl
  | k + 1 => by
    rw [absP, absI, List.map_append, absI_map ps n k]
    split <;> rfl
theorem absI_lt (ps : List (Int × List Int)) (n : Nat) : ∀ k, (absI ps n k).Pairwise (· < ·) ∧ ∀ i ∈ absI ps n k, i < k
  | 0 => ⟨List.Pairwise.nil, fun i hi => by simp [absI] at hi⟩
  | k + 1 => by
    obtain ⟨h1, h2⟩ := absI_lt ps n k
    rw [absI]
    split
    · refine ⟨List.pairwise_append.2 ⟨h1, List.pairwise_singleton _ _, fun a ha b hb => ?_⟩, fun i hi => ?_⟩
      · rw [List.mem_singleton] at hb; subst hb; exact h2 a ha
      · rcases List.mem_append.1 hi with h | h
        · have := h2 i h; omega
        · rw [List.mem_singleton] at h; omega
    · rw [List.append_nil]
      exact ⟨h1, fun i hi => by have := h2 i hi; omega⟩
theorem absI_pre (ps : List (Int × List Int)) (n : Nat) : ∀ d k, ∃ r, absI ps n (k + d) = absI ps n k ++ r
  | 0, k => ⟨[], by simp⟩
  | d + 1, k => by
    obtain ⟨r, hr⟩ := absI_pre ps n d k
    exact ⟨_, by rw [← Nat.add_assoc, absI, hr, List.append_assoc]⟩
theorem absI_at (ps : List (Int × List Int)) (n k : Nat) (hk : k < n) (h : lastI ps n (ps.getD k (0, [])).1 = (k : Int)) : (absI ps n n).getD (absI ps n k).length 0 = k := by
  obtain ⟨r, hr⟩ := absI_pre ps n (n - (k + 1)) (k + 1)
  rw [show k + 1 + (n - (k + 1)) = n by omega] at hr
  rw [hr, absI, if_pos h, List.append_assoc]
  simp [List.getD]
theorem absI_inj (ps : List (Int × List Int)) (n i j : Nat) (hi : i < (absI ps n n).length) (hj : j < (absI ps n n).length) (h : (absI ps n n).getD i 0 = (absI ps n n).getD j 0) : i = j := by
  have hp := (absI_lt ps n n).1
  have g : ∀ t, t < (absI ps n n).length → (absI ps n n).getD t 0 = (absI ps n n)[t]! := fun t ht => by simp [List.getD, ht]
  rcases Nat.lt_trichotomy i j with h1 | h1 | h1
  · have := List.pairwise_iff_getElem.1 hp i j hi hj h1
    simp [List.getD, hi, hj] at h
    omega
  · exact h1
  · have := List.pairwise_iff_getElem.1 hp j i hj hi h1
    simp [List.getD, hi, hj] at h
    omega

/-- What is taken out of a built row is built. -/
theorem BuiltP.sub {Q : Nat → Prop} {wa wr : World} {ra : Option Nat} {N j O : Nat} {J : List (Int × List Int)} {V : Nat → Value} {Bk : Nat → Nat} {z : Value} (hj : (absI J N N).length = j)
    (hi : Inner Q wa ra N V Bk (fun i => (J.getD i (0, [])).2)) (hO : wa.heap.size = O) (hb : Below O wa wr) (hr : wr.ownsRow (O + 1) 49 2 z j (cellsP (absP J N N) j (fun t => V ((absI J N N).getD t 0)))) (hQ : ∀ b, O < b → Q b) :
    BuiltP Q wr z j (absP J N N) := by
  subst hO
  have hs := hb.size
  have e : ∀ t, t < j → (absP J N N).getD t (0, []) = J.getD ((absI J N N).getD t 0) (0, []) := fun t ht => by
    rw [absI_map]
    simp [List.getD, show t < (absI J N N).length by omega]
  have lt : ∀ t, t < j → (absI J N N).getD t 0 < N := fun t ht => by
    have hm : (absI J N N).getD t 0 ∈ absI J N N := by simp [List.getD, show t < (absI J N N).length by omega]
    exact (absI_lt J N N).2 _ hm
  refine ⟨_, fun t => Bk ((absI J N N).getD t 0), ⟨hr.1, hr.2.imp id (fun ⟨g, cap, cur, h1, h2, h3⟩ => ⟨g, cap, cur, h1, Nat.zero_le _, h3⟩)⟩, fun r hr' => hQ _ (by have := (hr.lt r hr').1; omega), fun t ht => ?_, fun t ht hne => ?_⟩
  · rw [e t ht]
    exact (hi.rd _ (lt t ht)).later hb
  · simp only [e t ht] at hne
    obtain ⟨k1, k2, k3, k4, k5⟩ := hi.own _ (lt t ht) hne
    refine ⟨k1, by omega, fun o => ((bcell hb).2 _ _ k2).trans (k3 o), fun h => ?_, fun t' ht' hne' h => ?_⟩
    · have := (hr.lt _ h).1; omega
    · simp only [e t' ht'] at hne'
      exact absI_inj J N t' t (by omega) (by omega) (k5 _ (lt t' ht') hne' h)
end Go.Proofs.Ytdfndgeoaagihaa
