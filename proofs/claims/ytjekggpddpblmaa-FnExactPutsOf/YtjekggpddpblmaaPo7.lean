/- Chapter 5: what the loop of 'spec.PutsOf' keeps. -/
import Derived.Test.YtjekggpddpblmaaPo6
import Derived.Test.YtjekggpddpblmaaApplyT
import Derived.Test.YtjekggpddpblmaaL4
import Derived.Test.YtjekggpddpblmaaObj6
namespace Go.Proofs.Ytjekggpddpblmaa
open Go.RowKit Go.Maps

theorem l4Last_no {S : Nat → Prop} {w : World} {v : Value} {qs : List (Int × List Int)} (a : Int) (hv : RdP S w v qs) (h : ∀ j, j < qs.length → (qs.getD j (0, [])).1 ≠ a) :
    Calls Try.prog 21 #[v, .int .i64 a] w fun e w' => e = .returned (.int .i64 (-1)) ∧ w' = w :=
  (l4Last a hv).mono fun e w' ⟨hw, h1⟩ => by
    rcases h1 with ⟨he, _⟩ | ⟨i, _, hi, ha, _⟩
    · exact ⟨he, hw⟩
    · exact absurd ha (h i hi)
theorem l4Last_at {S : Nat → Prop} {w : World} {v : Value} {qs : List (Int × List Int)} (a : Int) (hv : RdP S w v qs) (t : Nat) (ht : t < qs.length) (ha : (qs.getD t (0, [])).1 = a) (h : ∀ j, j < qs.length → (qs.getD j (0, [])).1 = a → j = t) :
    Calls Try.prog 21 #[v, .int .i64 a] w fun e w' => e = .returned (.int .i64 (t : Int)) ∧ w' = w :=
  (l4Last a hv).mono fun e w' ⟨hw, h1⟩ => by
    rcases h1 with ⟨_, hn⟩ | ⟨i, he, hi, hai, _⟩
    · exact absurd ha (hn t ht)
    · have := h i hi hai
      subst this
      exact ⟨he, hw⟩
theorem Inner.congrJ {P : Nat → Prop} {w : World} {row : Option Nat} {k : Nat} {V : Nat → Value} {Bk : Nat → Nat} {X X' : Nat → List Int} (h : Inner P w row k V Bk X) (hX : ∀ i, i < k → X' i = X i) : Inner P w row k V Bk X' :=
  ⟨fun i hi => by rw [hX i hi]; exact h.rd i hi, fun i hi hn => by
    rw [hX i hi] at hn
    obtain ⟨h1, h2, h3, h4, h5⟩ := h.own i hi hn
    exact ⟨h1, h2, h3, h4, fun j hj hj' => by rw [hX j hj] at hj'; exact h5 j hj hj'⟩⟩

/-- The answer that grows in the variable at block O: its row and its words are the call's own. -/
structure PoS (W : World) (O : Nat) (P : List (Int × List Int)) (j : Nat) (ao : Option Addr) (c : Nat) (wr : World) : Prop where
  row : ∃ V Bk, wr.ownsRow (O + 1) 51 2 (.slice ao j c) j (cellsP P j V) ∧ Inner (O < ·) wr (Value.slice ao j c).ownBlock j V Bk (fun i => (P.getD i (0, [])).2)
  below : Below O W wr
  lt : O < wr.heap.size
  h0 : wr.cell? ⟨O, 0, none⟩ = some (.int .i64 0)
  h1 : wr.cell? ⟨O, 1, none⟩ = some (.slice ao j c)
  hf : ∀ o, wr.frozen? ⟨O, o, none⟩ = false
theorem PoS.later {W wr w1 : World} {O j c : Nat} {P : List (Int × List Int)} {ao : Option Addr} (h : PoS W O P j ao c wr) (hb : Below wr.heap.size wr w1) : PoS W O P j ao c w1 := by
  obtain ⟨V, Bk, h1, h2⟩ := h.row
  exact ⟨⟨V, Bk, ownsRow_later h1 hb, h2.later hb⟩, h.below.trans (hb.mono (Nat.le_of_lt h.lt)), Nat.lt_of_lt_of_le h.lt hb.size, cell_later hb h.h0, cell_later hb h.h1, fun o => ((bcell hb).2 _ _ h.lt).trans (h.hf o)⟩
theorem PoS.built {W wr : World} {O j c : Nat} {P : List (Int × List Int)} {ao : Option Addr} (h : PoS W O P j ao c wr) : BuiltP (O < ·) wr (.slice ao j c) j P := by
  obtain ⟨V, Bk, h1, h2⟩ := h.row
  refine ⟨V, Bk, ⟨h1.1, ?_⟩, fun r hr => (h1.lt r hr).1, h2⟩
  rcases h1.2 with k | ⟨g, cap, cur, e, hg, hh, t⟩
  · exact Or.inl k
  · exact Or.inr ⟨g, cap, cur, e, Nat.zero_le _, hh, t⟩
theorem PoS.ow {W wr : World} {O j c : Nat} {P : List (Int × List Int)} {ao : Option Addr} (h : PoS W O P j ao c wr) (hj : P.length = j) (hm : j ≤ 64) : OwP (fun b => O < b ∧ b < wr.heap.size) wr (.slice ao j c) P := h.built.ow hj (by omega)
theorem PoS.at {W wr : World} {O j c t : Nat} {P : List (Int × List Int)} {ao : Option Addr} (h : PoS W O P j ao c wr) (ht : t < j) :
    ∃ g V, ao = some ⟨g, 0, none⟩ ∧ O < g ∧ g < wr.heap.size ∧ wr.cell? ⟨g, t * 2 + 1, none⟩ = some V ∧ (∀ o, wr.frozen? ⟨g, o, none⟩ = false) ∧ RdI (fun b => b < wr.heap.size) wr V (P.getD t (0, [])).2 := by
  obtain ⟨V, Bk, h1, h2⟩ := h.row
  obtain ⟨b, k1, k2⟩ : ∃ g, ao = some ⟨g, 0, none⟩ ∧ O + 1 ≤ g := by
    rcases h1.2 with ⟨_, e⟩ | ⟨g, cap, cur, e, hg, _⟩
    · omega
    · injection e with e1 _ _
      exact ⟨g, e1, hg⟩
  subst k1
  have hl := h1.lt b rfl
  refine ⟨b, V t, rfl, by omega, hl.2, (h1.cellAt (t * 2 + 1) (by omega)).trans (cellsP_words _ _ _ _ ht), fun o => ?_, ?_⟩
  · exact h1.frozenAt o
  · obtain ⟨a', c', e1, e2, e3⟩ := h2.rd t ht
    refine ⟨a', c', e1, e2, fun hne => ?_⟩
    obtain ⟨b', off, f1, f2, f3⟩ := e3 hne
    exact ⟨b', off, f1, World.block_lt_of_cell? _ _ (f3 0 (List.length_pos_iff.2 hne)), f3⟩
theorem PoS.app {W wr w2 w3 : World} {O j c g cap : Nat} {P : List (Int × List Int)} {ao : Option Addr} {z : Value} {x : Int} {ws : List Int} {o : Obj} {V : Nat → Value} {Bk : Nat → Nat} (h : PoS W O P j ao c wr)
    (hr : wr.ownsRow (O + 1) 51 2 (.slice ao j c) j (cellsP P j V)) (hI : Inner (O < ·) wr (Value.slice ao j c).ownBlock j V Bk (fun i => (P.getD i (0, [])).2)) (hj : P.length = j) (hb2 : Below wr.heap.size wr w2) (hz : OwI wr.heap.size w2 z ws)
    (hown : w3.ownsRow (O + 1) 51 2 (.slice (some ⟨g, 0, none⟩) (j + 1) cap) (j + 1) (cellsP P j V ++ [.int .i64 x, z])) (hg : (w2.alloc o).grownBy w3 (Value.slice ao j c).ownBlock) (hat : (Value.slice ao j c).ownBlock = some g ∨ g = (w2.alloc o).heap.size) :
    PoS W O (P ++ [(x, ws)]) (j + 1) (some ⟨g, 0, none⟩) cap (w3.setCell ⟨O, 1, none⟩ (.slice (some ⟨g, 0, none⟩) (j + 1) cap)) := by
  have hl := h.lt
  have hs2 := hb2.size
  have hnew : (P ++ [(x, ws)]).getD j (0, []) = (x, ws) := by rw [← hj]; simp [List.getD]
  have hold : ∀ i, i < j → (P ++ [(x, ws)]).getD i (0, []) = P.getD i (0, []) := fun i hi => by simp [List.getD, List.getElem?_append_left (show i < P.length by omega)]
  have hI2 := hI.congrJ (X' := fun i => ((P ++ [(x, ws)]).getD i (0, [])).2) (fun i hi => by rw [hold i hi])
  obtain ⟨Bk', hI3⟩ := hI2.step (P' := (O < ·)) (fun _ h => h) (fun b hb => by omega) (fun r hr' => (hr.lt r hr').2) hb2 (z := z) (by rw [hnew]; exact hz) (below_alloc w2 o) hg hat
  have hB : Below (O + 1) wr w3 := ((below_on hb2 (below_alloc w2 o)).mono (by omega)).grown hg (by simp; omega) (fun r hr' => (hr.lt r hr').1)
  have hs := hB.size
  have hc : ∀ o, w3.cell? ⟨O, o, none⟩ = wr.cell? ⟨O, o, none⟩ := fun o => hB.cell (p := ⟨O, o, none⟩) (Nat.lt_succ_self _)
  have hz' : ∀ o, w3.frozen? ⟨O, o, none⟩ = wr.frozen? ⟨O, o, none⟩ := fun o => hB.frozen (p := ⟨O, o, none⟩) (Nat.lt_succ_self _)
  refine ⟨⟨fun i => if i = j then z else V i, Bk', ?_, hI3.set (fun b hb e => by omega)⟩, ?_, by simp; omega, ?_, ?_, fun o => ?_⟩
  · have e := cellsP_snoc P (x, ws) V z
    rw [show (P ++ [(x, ws)]).length = j + 1 by simp [hj], hj] at e
    rw [e]
    exact ownsRow_set hown (fun e => by injection e with e; have := (hown.lt g rfl).1; dsimp only at e; omega)
  · exact (h.below.trans (hB.mono (by omega))).setCell (Nat.le_refl _) _
  · rw [World.cell?_setCell_other _ _ _ _ (by intro e; injection e with _ e; omega), hc]; exact h.h0
  · exact World.cell?_setCell_same _ _ _ ((hc _).trans h.h1)
  · rw [World.frozen?_setCell, hz']; exact h.hf o
theorem PoS.put {W wr w1 : World} {O j c t g : Nat} {P P' : List (Int × List Int)} {z : Value} {ws : List Int} (h : PoS W O P j (some ⟨g, 0, none⟩) c wr) (ht : t < j) (hb : Below wr.heap.size wr w1) (hz : OwI wr.heap.size w1 z ws)
    (hP : ∀ i, i < j → P'.getD i (0, []) = if i = t then ((P.getD i (0, [])).1, ws) else P.getD i (0, [])) : PoS W O P' j (some ⟨g, 0, none⟩) c (w1.setCell ⟨g, t * 2 + 1, none⟩ z) := by
  obtain ⟨V, Bk, h1, h2⟩ := h.row
  have hg := h1.lt g rfl
  obtain ⟨k1, Bk', k2⟩ := puts_set (P' := P') ht h1 h2 hb hz hP
  have hL := h.later hb
  refine ⟨⟨_, Bk', k1, k2⟩, hL.below.setCell (by dsimp only; omega) _, by simpa using hL.lt, ?_, ?_, fun o => by rw [World.frozen?_setCell]; exact hL.hf o⟩
  · rw [World.cell?_setCell_other _ _ _ _ (by intro e; injection e with e _; omega)]; exact hL.h0
  · rw [World.cell?_setCell_other _ _ _ _ (by intro e; injection e with e _; omega)]; exact hL.h1

/-- How the answer of k objects becomes that of one more. -/
theorem poR_len (L : List Int) (M : Int → List Int) : (poR L M).length = L.length := by simp [poR]
theorem poR_set {L : List Int} {M : Int → List Int} {a : Int} {ws : List Int} {t : Nat} (hn : L.Nodup) (ht : t < L.length) (ha : L.getD t 0 = a) (i : Nat) (hi : i < L.length) :
    (poR L (putM M (a, ws))).getD i (0, []) = if i = t then (((poR L M).getD i (0, [])).1, ws) else (poR L M).getD i (0, []) := by
  rw [poR_at _ _ _ hi, poR_at _ _ _ hi]
  by_cases e : i = t
  · subst e
    rw [if_pos rfl, ha]
    simp [putM]
  · rw [if_neg e]
    have : L.getD i 0 ≠ a := fun h => e (by
      have e1 : L.getD i 0 = L[i] := by simp [List.getD, hi]
      have e2 : L.getD t 0 = L[t] := by simp [List.getD, ht]
      rw [← ha, e1, e2] at h
      rcases Nat.lt_trichotomy i t with q | q | q
      · exact absurd h (List.pairwise_iff_getElem.1 hn i t hi ht q)
      · exact q
      · exact absurd h.symm (List.pairwise_iff_getElem.1 hn t i ht hi q))
    rw [show putM M (a, ws) (L.getD i 0) = M (L.getD i 0) from if_neg this]
theorem poM_out {M : Int → List Int} {os : List Oj} {a : Int} : ∀ k, k ≤ os.length → a ∉ poL os k → poM M os k a = M a
  | 0, _, _ => by simp [poM]
  | k + 1, hk, hn => by
    rw [poL_succ _ _ (by omega), ordL] at hn
    have h1 : a ∉ poL os k ∧ a ≠ (os.getD k oj0).1 := by
      by_cases e : (os.getD k oj0).1 ∈ poL os k
      · rw [if_pos e] at hn
        exact ⟨hn, fun h => hn (h ▸ e)⟩
      · rw [if_neg e] at hn
        exact ⟨fun h => hn (List.mem_append_left _ h), fun h => hn (List.mem_append_right _ (by simp [h]))⟩
    rw [poM_succ _ _ _ (by omega), ojM]
    have h2 := poM_out (M := M) k (by omega) h1.1
    exact (if_neg h1.2).trans h2
end Go.Proofs.Ytjekggpddpblmaa
