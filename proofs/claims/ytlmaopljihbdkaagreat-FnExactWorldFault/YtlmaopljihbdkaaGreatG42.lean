/- AbsS Im5a in one text: what each says stands at its head below. -/
import Derived.Test.YtlmaopljihbdkaaGreatG41
import Derived.Test.YtlmaopljihbdkaaGreatG28
import Derived.Test.YtlmaopljihbdkaaGreatG35
import Derived.Test.YtlmaopljihbdkaaGreatG36
import Derived.Test.YtlmaopljihbdkaaGreatG39
namespace Go.Proofs.YtlmaopljihbdkaaGreat
open Go.RowKit Go.Maps
theorem RdI.grownN {S : Nat → Prop} {w w' : World} {v : Value} {xs : List Int} {row : Option Nat} (h : RdI S w v xs) (hS : xs ≠ [] → ∀ b, S b → some b ≠ row) (hg : w.grownBy w' row) : RdI S w' v xs := by
  obtain ⟨ao, c, e1, e2, e3⟩ := h
  refine ⟨ao, c, e1, e2, fun hne => ?_⟩
  obtain ⟨b, off, f1, f2, f3⟩ := e3 hne
  exact ⟨b, off, f1, f2, fun j hj => (World.cell?_of_block (hg.block b (World.block_lt_of_cell? _ _ (f3 j hj)) (fun e => hS hne b f2 e))).trans (f3 j hj)⟩
theorem BuiltP.join {Q : Nat → Prop} {w1 w2 w3 : World} {z1 : Value} {r2 : Option Nat} {n m g cap : Nat} {vs ps : List (Int × List Int)} {V1 V2 : Nat → Value} {B1 B2 : Nat → Nat} (hn : vs.length = n) (hm : ps.length = m)
    (h1 : w1.ownsRow 0 74 2 z1 n (cellsP vs n V1)) (p1 : ∀ r, z1.ownBlock = some r → Q r) (i1 : Inner Q w1 z1.ownBlock n V1 B1 (fun i => (vs.getD i (0, [])).2)) (hb : Below w1.heap.size w1 w2)
    (i2 : Inner (w1.heap.size ≤ ·) w2 r2 m V2 B2 (fun i => (ps.getD i (0, [])).2)) (hQ : ∀ b, w1.heap.size ≤ b → Q b)
    (hown : w3.ownsRow 0 74 2 (.slice (some ⟨g, 0, none⟩) (n + m) cap) (n + m) (cellsP vs n V1 ++ cellsP ps ps.length V2)) (hg : w2.grownBy w3 z1.ownBlock) (hat : z1.ownBlock = some g ∨ g = w2.heap.size) :
    BuiltP Q w3 (.slice (some ⟨g, 0, none⟩) (n + m) cap) (n + m) (vs ++ ps) := by
  have hlt : ∀ r, z1.ownBlock = some r → r < w1.heap.size := fun r hr => (h1.lt r hr).2
  have hs := hb.size
  have hs3 := hg.size
  have eL : ∀ i, i < n → (vs ++ ps).getD i (0, []) = vs.getD i (0, []) := fun i hi => by simp [List.getD, List.getElem?_append_left (show i < vs.length by omega)]
  have eR : ∀ i, ¬ i < n → (vs ++ ps).getD i (0, []) = ps.getD (i - n) (0, []) := fun i hi => by simp [List.getD, List.getElem?_append_right (show vs.length ≤ i by omega), hn]
  have fz : ∀ b, b < w2.heap.size → some b ≠ z1.ownBlock → ∀ o, w3.frozen? ⟨b, o, none⟩ = w2.frozen? ⟨b, o, none⟩ := fun b h1 h2 o => World.frozen?_of_block (hg.block b h1 (fun e => h2 e))
  have L : ∀ i, i < n → (vs.getD i (0, [])).2 ≠ [] → Q (B1 i) ∧ B1 i < w1.heap.size ∧ some (B1 i) ≠ z1.ownBlock ∧ (∀ o, w3.frozen? ⟨B1 i, o, none⟩ = false) := fun i hi hne => by
    obtain ⟨k1, k2, k3, k4, _⟩ := i1.own i hi hne
    exact ⟨k1, k2, fun e => k4 e.symm, fun o => (fz _ (by omega) (fun e => k4 e.symm) o).trans (((bcell hb).2 _ _ k2).trans (k3 o))⟩
  have R : ∀ i, i < m → (ps.getD i (0, [])).2 ≠ [] → w1.heap.size ≤ B2 i ∧ B2 i < w2.heap.size ∧ some (B2 i) ≠ z1.ownBlock ∧ (∀ o, w3.frozen? ⟨B2 i, o, none⟩ = false) := fun i hi hne => by
    obtain ⟨k1, k2, k3, k4, _⟩ := i2.own i hi hne
    have hne2 : some (B2 i) ≠ z1.ownBlock := fun e => by have := hlt _ e.symm; omega
    exact ⟨k1, k2, hne2, fun o => (fz _ k2 hne2 o).trans (k3 o)⟩
  refine ⟨fun i => if i < n then V1 i else V2 (i - n), fun i => if i < n then B1 i else B2 (i - n), ?_, fun r hr => ?_, fun i hi => ?_, fun i hi hne => ?_⟩
  · have := cellsP_append vs ps V1 V2
    rw [hn] at this
    rw [hm] at this hown
    rw [this]
    exact hown
  · injection hr with hr
    subst hr
    rcases hat with h | h
    · exact p1 _ h
    · exact hQ _ (by dsimp only; omega)
  · by_cases h : i < n
    · simp only [if_pos h]
      rw [eL i h]
      exact ((i1.rd i h).later hb).grownN (fun hne b e => by rw [e]; exact (L i h hne).2.2.1) hg
    · simp only [if_neg h]
      rw [eR i h]
      exact (i2.rd (i - n) (by omega)).grownN (fun hne b e => by rw [e]; exact (R _ (by omega) hne).2.2.1) hg
  · by_cases h : i < n
    · simp only [if_pos h]
      simp only [eL i h] at hne
      obtain ⟨k1, k2, k3, k4⟩ := L i h hne
      refine ⟨k1, by omega, k4, fun e => ?_, fun j hj hnj e => ?_⟩
      · injection e with e
        rcases hat with h' | h'
        · exact k3 (by rw [h', ← e])
        · dsimp only at e; omega
      · by_cases hj' : j < n
        · simp only [if_pos hj'] at e
          simp only [eL j hj'] at hnj
          exact (i1.own i h hne).2.2.2.2 j hj' hnj e
        · simp only [if_neg hj'] at e
          simp only [eR j hj'] at hnj
          have := (R (j - n) (by omega) hnj).1
          omega
    · simp only [if_neg h]
      simp only [eR i h] at hne
      obtain ⟨k1, k2, k3, k4⟩ := R (i - n) (by omega) hne
      refine ⟨hQ _ k1, by omega, k4, fun e => ?_, fun j hj hnj e => ?_⟩
      · injection e with e
        rcases hat with h' | h'
        · exact k3 (by rw [h', ← e])
        · dsimp only at e; omega
      · by_cases hj' : j < n
        · simp only [if_pos hj'] at e
          simp only [eL j hj'] at hnj
          have := (L j hj' hnj).2.1
          omega
        · simp only [if_neg hj'] at e
          simp only [eR j hj'] at hnj
          have := (i2.own (i - n) (by omega) hne).2.2.2.2 (j - n) (by omega) hnj e
          omega
def absI (ps : List (Int × List Int)) (n : Nat) : Nat → List Nat
  | 0 => []
  | k + 1 => absI ps n k ++ if lastI ps n (ps.getD k (0, [])).1 = (k : Int) then [k] else []
theorem absI_map (ps : List (Int × List Int)) (n : Nat) : ∀ k, absP ps n k = (absI ps n k).map fun i => ps.getD i (0, [])
  | 0 => rfl
  | k + 1 => by
    rw [absP, absI, List.map_append, absI_map ps n k]
    split <;> rfl
theorem absI_lt (ps : List (Int × List Int)) (n : Nat) : ∀ k, (absI ps n k).Pairwise (· < ·) ∧ ∀ i ∈ absI ps n k, i < k
  | 0 => ⟨List.Pairwise.nil, fun i hi => by simp [absI] at hi⟩
  | k + 1 => by
    obtain ⟨h1, h2⟩ := absI_lt ps n k
    rw [absI]
    split
    · refine ⟨List.pairwise_append.2 ⟨h1, List.pairwise_singleton _ _, fun a ha b hb => ?_⟩, fun i hi => ?_⟩
      · rw [List.mem_singleton] at hb; subst hb; exact h2 a ha
      · rcases List.mem_append.1 hi with h | h
        · have := h2 i h; omega
        · rw [List.mem_singleton] at h; omega
    · rw [List.append_nil]
      exact ⟨h1, fun i hi => by have := h2 i hi; omega⟩
theorem absI_inj (ps : List (Int × List Int)) (n i j : Nat) (hi : i < (absI ps n n).length) (hj : j < (absI ps n n).length) (h : (absI ps n n).getD i 0 = (absI ps n n).getD j 0) : i = j := by
  have hp := (absI_lt ps n n).1
  have g : ∀ t, t < (absI ps n n).length → (absI ps n n).getD t 0 = (absI ps n n)[t]! := fun t ht => by simp [List.getD, ht]
  rcases Nat.lt_trichotomy i j with h1 | h1 | h1
  · have := List.pairwise_iff_getElem.1 hp i j hi hj h1
    simp [List.getD, hi, hj] at h
    omega
  · exact h1
  · have := List.pairwise_iff_getElem.1 hp j i hj hi h1
    simp [List.getD, hi, hj] at h
    omega
theorem BuiltP.sub {Q : Nat → Prop} {wa wr : World} {ra : Option Nat} {N j O : Nat} {J : List (Int × List Int)} {V : Nat → Value} {Bk : Nat → Nat} {z : Value} (hj : (absI J N N).length = j)
    (hi : Inner Q wa ra N V Bk (fun i => (J.getD i (0, [])).2)) (hO : wa.heap.size = O) (hb : Below O wa wr) (hr : wr.ownsRow (O + 1) 74 2 z j (cellsP (absP J N N) j (fun t => V ((absI J N N).getD t 0)))) (hQ : ∀ b, O < b → Q b) :
    BuiltP Q wr z j (absP J N N) := by
  subst hO
  have hs := hb.size
  have e : ∀ t, t < j → (absP J N N).getD t (0, []) = J.getD ((absI J N N).getD t 0) (0, []) := fun t ht => by
    rw [absI_map]
    simp [List.getD, show t < (absI J N N).length by omega]
  have lt : ∀ t, t < j → (absI J N N).getD t 0 < N := fun t ht => by
    have hm : (absI J N N).getD t 0 ∈ absI J N N := by simp [List.getD, show t < (absI J N N).length by omega]
    exact (absI_lt J N N).2 _ hm
  refine ⟨_, fun t => Bk ((absI J N N).getD t 0), ⟨hr.1, hr.2.imp id (fun ⟨g, cap, cur, h1, h2, h3⟩ => ⟨g, cap, cur, h1, Nat.zero_le _, h3⟩)⟩, fun r hr' => hQ _ (by have := (hr.lt r hr').1; omega), fun t ht => ?_, fun t ht hne => ?_⟩
  · rw [e t ht]
    exact (hi.rd _ (lt t ht)).later hb
  · simp only [e t ht] at hne
    obtain ⟨k1, k2, k3, k4, k5⟩ := hi.own _ (lt t ht) hne
    refine ⟨k1, by omega, fun o => ((bcell hb).2 _ _ k2).trans (k3 o), fun h => ?_, fun t' ht' hne' h => ?_⟩
    · have := (hr.lt _ h).1; omega
    · simp only [e t' ht'] at hne'
      exact absI_inj J N t' t (by omega) (by omega) (k5 _ (lt t' ht') hne' h)
end Go.Proofs.YtlmaopljihbdkaaGreat
namespace Go.Proofs.YtlmaopljihbdkaaGreat
open Go.RowKit
theorem cellsP_like {ps qs : List (Int × List Int)} {k : Nat} (V : Nat → Value) (h : ∀ i, i < k → qs.getD i (0, []) = ps.getD i (0, [])) : cellsP qs k V = cellsP ps k V := by
  unfold cellsP
  refine List.map_congr_left fun t ht => ?_
  have := List.mem_range.1 ht
  rw [h (t / 2) (by omega)]
theorem BuiltP.to {P : Nat → Prop} {w : World} {v : Value} {k : Nat} {ps qs : List (Int × List Int)} (h : BuiltP P w v k ps) (he : ∀ i, i < k → qs.getD i (0, []) = ps.getD i (0, [])) : BuiltP P w v k qs := by
  obtain ⟨V, Bk, h1, h2, h3, h4⟩ := h
  refine ⟨V, Bk, by rw [cellsP_like V he]; exact h1, h2, fun i hi => ?_, fun i hi hne => ?_⟩
  · try dsimp only
    rw [he i hi]; exact h3 i hi
  · try dsimp only at hne
    rw [he i hi] at hne
    obtain ⟨a, b, c, d, e⟩ := h4 i hi hne
    refine ⟨a, b, c, d, fun j hj hnj => e j hj ?_⟩
    try dsimp only at hnj
    rw [he j hj] at hnj
    exact hnj
theorem BuiltP.joinK {Q : Nat → Prop} {w1 w2 w3 : World} {z1 : Value} {r2 : Option Nat} {k m g cap : Nat} {ps qs : List (Int × List Int)} {V1 V2 : Nat → Value} {B1 B2 : Nat → Nat} (hk : k ≤ ps.length) (hm : qs.length = m) (hq : ∀ i, i < m → ps.getD (k + i) (0, []) = qs.getD i (0, []))
    (h1 : w1.ownsRow 0 74 2 z1 k (cellsP ps k V1)) (p1 : ∀ r, z1.ownBlock = some r → Q r) (i1 : Inner Q w1 z1.ownBlock k V1 B1 (fun i => (ps.getD i (0, [])).2)) (hb : Below w1.heap.size w1 w2)
    (i2 : Inner (w1.heap.size ≤ ·) w2 r2 m V2 B2 (fun i => (qs.getD i (0, [])).2)) (hQ : ∀ b, w1.heap.size ≤ b → Q b)
    (hown : w3.ownsRow 0 74 2 (.slice (some ⟨g, 0, none⟩) (k + m) cap) (k + m) (cellsP ps k V1 ++ cellsP qs qs.length V2)) (hg : w2.grownBy w3 z1.ownBlock) (hat : z1.ownBlock = some g ∨ g = w2.heap.size) :
    BuiltP Q w3 (.slice (some ⟨g, 0, none⟩) (k + m) cap) (k + m) ps := by
  have hl : (ps.take k).length = k := by rw [List.length_take]; omega
  have et : ∀ i, i < k → (ps.take k).getD i (0, []) = ps.getD i (0, []) := fun i hi => by simp [List.getD, hi]
  have hc := cellsP_like (k := k) V1 et
  refine (BuiltP.join (vs := ps.take k) (ps := qs) (B1 := B1) hl hm (by rw [hc]; exact h1) p1 ?_ hb i2 hQ (by rw [hc]; exact hown) hg hat).to fun i hi => ?_
  · refine ⟨fun i hi => by (try dsimp only); rw [et i hi]; exact i1.rd i hi, fun i hi hne => ?_⟩
    try dsimp only at hne
    rw [et i hi] at hne
    obtain ⟨a, b, c, d, e⟩ := i1.own i hi hne
    refine ⟨a, b, c, d, fun j hj hnj => e j hj ?_⟩
    try dsimp only at hnj
    rw [et j hj] at hnj
    exact hnj
  · by_cases h : i < k
    · rw [← et i h]; simp only [List.getD]; rw [List.getElem?_append_left (by omega)]
    · have := hq (i - k) (by omega)
      rw [show k + (i - k) = i by omega] at this
      rw [this]; simp only [List.getD]; rw [List.getElem?_append_right (by omega), hl]
theorem inner_two {w w1 w2 w3 : World} {z1 z2 : Value} {a b : Int} {x1 x2 : List Int} (h1 : OwI w.heap.size w1 z1 x1) (hb1 : Below w1.heap.size w1 w2) (h2 : OwI w1.heap.size w2 z2 x2) (hb2 : Below w2.heap.size w2 w3) (hs : w.heap.size ≤ w1.heap.size) :
    ∃ B2, Inner (w.heap.size ≤ ·) w3 (some w2.heap.size) 2 (fun i => if i = 0 then z1 else z2) B2 (fun i => ([(a, x1), (b, x2)].getD i (0, [])).2) := by
  obtain ⟨g1, r1, o1⟩ := h1
  obtain ⟨g2, r2, o2⟩ := h2
  have s1 := hb1.size
  have s2 := hb2.size
  have r1' := (r1.later hb1).later hb2
  have r2' := r2.later hb2
  refine ⟨fun i => if i = 0 then g1 else g2, fun i hi => ?_, fun i hi hne => ?_⟩
  · rcases (by omega : i = 0 ∨ i = 1) with rfl | rfl
    · simpa using r1'
    · simpa using r2'
  · rcases (by omega : i = 0 ∨ i = 1) with rfl | rfl
    · obtain ⟨k1, k2, k3⟩ := o1 (by simpa using hne)
      refine ⟨by simpa using k1, by simp; omega, fun o => ?_, by simp; omega, fun j hj hnj e => ?_⟩
      · have := ((bcell hb2).2 g1 o (by omega)).trans (((bcell hb1).2 g1 o k2).trans (k3 o))
        simpa using this
      · rcases (by omega : j = 0 ∨ j = 1) with rfl | rfl
        · rfl
        · obtain ⟨q1, q2, q3⟩ := o2 (by simpa using hnj)
          simp at e
          omega
    · obtain ⟨k1, k2, k3⟩ := o2 (by simpa using hne)
      refine ⟨by simp; omega, by simp; omega, fun o => ?_, by simp; omega, fun j hj hnj e => ?_⟩
      · have := ((bcell hb2).2 g2 o k2).trans (k3 o)
        simpa using this
      · rcases (by omega : j = 0 ∨ j = 1) with rfl | rfl
        · obtain ⟨q1, q2, q3⟩ := o1 (by simpa using hnj)
          simp at e
          omega
        · rfl
theorem cells_two (a b : Int) (x1 x2 : List Int) (z1 z2 : Value) : cellsP [(a, x1), (b, x2)] 2 (fun i => if i = 0 then z1 else z2) = [.int .i64 a, z1, .int .i64 b, z2] := by
  rfl
theorem OwP.parts {B : Nat} {w : World} {v : Value} {ps : List (Int × List Int)} (h : OwP (fun b => B ≤ b ∧ b < w.heap.size) w v ps) (hne : ps ≠ []) :
    ∃ (b off c : Nat) (V : Nat → Value) (Bk : Nat → Nat), v = .slice (some ⟨b, off, none⟩) ps.length c ∧ Inner (B ≤ ·) w (some b) ps.length V Bk (fun i => (ps.getD i (0, [])).2) ∧
      (∀ j x, (cellsP ps ps.length V)[j]? = some x → w.cell? ((⟨b, off, none⟩ : Addr).add j) = some x) ∧ ∀ x ∈ cellsP ps ps.length V, x.oneCell' = true := by
  obtain ⟨ao, c, b, off, V, Bk, rfl, _, h3, h4⟩ := h
  obtain ⟨rfl, _, _⟩ := h3 hne
  refine ⟨b, off, c, V, Bk, rfl, ⟨fun i hi => (h4 i hi).2.2.1, fun i hi hn => ?_⟩, cellsP_at fun i hi => ⟨(h4 i hi).1, (h4 i hi).2.1⟩, cellsP_one (S := fun _ => True) (w := w) fun i hi => ((h4 i hi).2.2.1).narrow fun _ _ _ => trivial⟩
  obtain ⟨k1, k2, k3, k4⟩ := (h4 i hi).2.2.2 hn
  exact ⟨k1.1, k1.2, k3, fun e => by injection e with e; exact k2 e.symm, k4⟩
theorem st_at1 (r : Rf) (i : Nat) (h : i < (flP r).length) : (stP r).getD i (0, []) = (flP r).getD i (0, []) := by
  unfold stP
  simp only [List.append_assoc, List.getD]
  rw [List.getElem?_append_left h]
theorem st_at2 (r : Rf) : (stP r).getD (flP r).length (0, []) = (2, [r.tm, r.vt, r.si, r.st, (r.lg.length : Int)]) := by
  unfold stP
  simp only [List.append_assoc, List.getD]
  rw [List.getElem?_append_right (by omega)]
  simp [meP]
theorem st_at3 (r : Rf) (i : Nat) (h : i < (snP r).length) : (stP r).getD ((flP r).length + 1 + i) (0, []) = (snP r).getD i (0, []) := by
  unfold stP
  simp only [List.append_assoc, List.getD]
  rw [List.getElem?_append_right (by omega), List.getElem?_append_right (by simp [meP]; omega), List.getElem?_append_left (by simp [meP]; omega)]
  simp [meP]
  congr 2
  omega
theorem st_at4 (r : Rf) (i : Nat) (h : i < r.lg.length) : (stP r).getD ((flP r).length + 1 + (snP r).length + i) (0, []) = (sfV (r.lg.getD i oj0).1, peR (r.lg.getD i oj0)) := by
  unfold stP
  simp only [List.getD]
  rw [List.getElem?_append_right (by simp [meP]; omega)]
  simp [meP, enP]
  rw [show (flP r).length + 1 + (snP r).length + i - ((flP r).length + ((snP r).length + 1)) = i by omega]
  simp [h]
theorem st_length (r : Rf) : (stP r).length = (flP r).length + 1 + (snP r).length + r.lg.length := by
  simp [stP, meP, enP]; omega
theorem st_words {r : Rf} (h : rfF r = 0) (i : Nat) : ((stP r).getD i (0, [])).2.length ≤ 64 := by
  have hr := rfF_iff.1 h
  have key : ∀ x, x ∈ stP r → x.2.length ≤ 64 := fun x hx => by
    unfold stP at hx
    rcases List.mem_append.1 hx with hx | hx
    · rcases List.mem_append.1 hx with hx | hx
      · rcases List.mem_append.1 hx with hx | hx
        · unfold flP at hx
          split at hx
          · simp at hx
          · simp only [List.mem_cons, List.not_mem_nil, or_false] at hx
            rcases hx with rfl | rfl
            · unfold pmR; split <;> simp [pkL]
            · unfold pdR
              split
              · rename_i h1; have := pkF_small h1; dsimp only; omega
              · simp
        · obtain rfl : x = _ := by simpa [meP] using hx
          simp
      · unfold snP at hx
        obtain ⟨k, _, rfl⟩ := List.mem_map.1 hx
        simp only [List.length_take]
        omega
    · unfold enP at hx
      obtain ⟨p, _, rfl⟩ := List.mem_map.1 hx
      unfold peR
      split
      · rename_i h1
        have := (entF_zero h1).2.1
        simp [pkE]
        omega
      · simp
  by_cases hi : i < (stP r).length
  · exact key _ (by simp [List.getD, hi])
  · simp [List.getD, List.getElem?_eq_none (show (stP r).length ≤ i by omega)]
theorem st_forty {r : Rf} (h : rfF r = 0) : (stP r).length ≤ 40 := by
  have hr := rfF_iff.1 h
  have h1 := (sbL_some (daF_len hr.da)).1
  have h2 := (logF_iff.1 hr.lo).1
  have h3 : (flP r).length ≤ 2 := by unfold flP; split <;> simp
  rw [st_length, snP_len]
  omega
theorem st_apply {r : Rf} (h : rfF r = 0) : (stP r).length ≤ 60 ∧ ∀ i, i < (stP r).length → 0 ≤ ((stP r).getD i (0, [])).1 ∧ ((stP r).getD i (0, [])).1 < 40 ∧ ((stP r).getD i (0, [])).2.length ≤ 64 := by
  have h40 := st_forty h
  refine ⟨by omega, fun i hi => ?_⟩
  have hm : (stP r).getD i (0, []) ∈ stP r := by simp [List.getD, hi]
  obtain ⟨a, b⟩ := (st_laid h).room _ hm
  exact ⟨a, b, st_words h i⟩
theorem fl_two {r : Rf} (h : rfF r = 0) (h0 : r.si ≠ 0) : sfL r = [(2, (r.sn.length : Int), sbL r)] ∧ flP r = [(0, pkL (sbL r)), (1, pkF (sfL r))] := by
  have hl := daF_len (rfF_iff.1 h).da
  have e : sfL r = [(2, (r.sn.length : Int), sbL r)] := by unfold sfL sbL; rw [if_neg h0, if_neg h0]
  refine ⟨e, ?_⟩
  unfold flP
  rw [if_neg (by rw [e]; simp)]
  unfold pmR pdR
  rw [if_pos (sb_map r hl), if_pos (sf_fil r hl)]
theorem fl_none {r : Rf} (h0 : r.si = 0) : sfL r = [] ∧ flP r = [] ∧ sbL r = [] := by
  have e : sfL r = [] := by unfold sfL; rw [if_pos h0]
  exact ⟨e, by unfold flP; rw [if_pos e], by unfold sbL; rw [if_pos h0]⟩
end Go.Proofs.YtlmaopljihbdkaaGreat
