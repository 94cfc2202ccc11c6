/- Built in one text: what each says stands at its head below. -/
import Derived.Test.YtcbapclpopbjbaaDoorG05
import Derived.Test.YtcbapclpopbjbaaDoorG09
import Derived.Deep.AppendLies
/- Slices of slices and of puts that are built by append, one element a round. -/
namespace Go.Proofs.YtcbapclpopbjbaaDoor
open Go.RowKit

/-- The inner lists of what has been built so far: each in a block of its own, none of them the row's. -/
structure Inner (P : Nat → Prop) (w : World) (row : Option Nat) (k : Nat) (V : Nat → Value) (Bk : Nat → Nat) (X : Nat → List Int) : Prop where
  rd : ∀ i, i < k → RdI (· = Bk i) w (V i) (X i)
  own : ∀ i, i < k → X i ≠ [] → P (Bk i) ∧ Bk i < w.heap.size ∧ (∀ o, w.frozen? ⟨Bk i, o, none⟩ = false) ∧ row ≠ some (Bk i) ∧ ∀ j, j < k → X j ≠ [] → Bk j = Bk i → j = i

theorem Inner.zero (P : Nat → Prop) (w : World) (row : Option Nat) (V : Nat → Value) (Bk : Nat → Nat) (X : Nat → List Int) : Inner P w row 0 V Bk X :=
  ⟨fun _ h => absurd h (Nat.not_lt_zero _), fun _ h => absurd h (Nat.not_lt_zero _)⟩

theorem Inner.later {P : Nat → Prop} {w w' : World} {row : Option Nat} {k : Nat} {V : Nat → Value} {Bk : Nat → Nat} {X : Nat → List Int} (h : Inner P w row k V Bk X) (hb : Below w.heap.size w w') : Inner P w' row k V Bk X :=
  ⟨fun i hi => (h.rd i hi).later hb, fun i hi hn => by
    obtain ⟨h1, h2, h3, h4, h5⟩ := h.own i hi hn
    exact ⟨h1, Nat.lt_of_lt_of_le h2 hb.size, fun o => ((bcell hb).2 _ _ h2).trans (h3 o), h4, h5⟩⟩

theorem Inner.step {P P' : Nat → Prop} {w w1 w2 w3 : World} {row : Option Nat} {k g : Nat} {V : Nat → Value} {Bk : Nat → Nat} {X : Nat → List Int} {z : Value}
    (h : Inner P w row k V Bk X) (hP : ∀ b, P b → P' b) (hN : ∀ b, w.heap.size ≤ b → P' b) (hrow : ∀ r, row = some r → r < w.heap.size) (hb1 : Below w.heap.size w w1) (hz : OwI w.heap.size w1 z (X k)) (hb2 : Below w1.heap.size w1 w2)
    (hg : w2.grownBy w3 row) (hat : row = some g ∨ g = w2.heap.size) :
    ∃ Bk', Inner P' w3 (some g) (k + 1) (fun i => if i = k then z else V i) Bk' X := by
  obtain ⟨bz, hz1, hz2⟩ := hz
  have hs1 := hb1.size
  have hs2 := hb2.size
  have keep : ∀ b o, b < w2.heap.size → some b ≠ row → w3.cell? ⟨b, o, none⟩ = w2.cell? ⟨b, o, none⟩ := fun b o hl hne => hg.cell_far ⟨b, o, none⟩ hl hne
  have keepf : ∀ b o, b < w2.heap.size → some b ≠ row → w3.frozen? ⟨b, o, none⟩ = w2.frozen? ⟨b, o, none⟩ := fun b o hl hne => hg.frozen_far ⟨b, o, none⟩ hl hne
  have h2 := (h.later hb1).later hb2
  have hz1' := hz1.later hb2
  refine ⟨fun i => if i = k then bz else Bk i, fun i hi => ?_, fun i hi hn => ?_⟩
  · by_cases e : i = k
    · subst e
      simp only [if_true]
      obtain ⟨ao, c, e1, e2, e3⟩ := hz1'
      refine ⟨ao, c, e1, e2, fun hne => ?_⟩
      obtain ⟨b, off, f1, f2, f3⟩ := e3 hne
      subst f2
      refine ⟨b, off, f1, rfl, fun t ht => ?_⟩
      rw [keep _ _ (World.block_lt_of_cell? _ _ (f3 t ht)) (fun e => by have := hrow b e.symm; have := (hz2 hne).1; omega)]
      exact f3 t ht
    · simp only [if_neg e]
      obtain ⟨ao, c, e1, e2, e3⟩ := h2.rd i (by omega)
      refine ⟨ao, c, e1, e2, fun hne => ?_⟩
      obtain ⟨b, off, f1, f2, f3⟩ := e3 hne
      subst f2
      refine ⟨Bk i, off, f1, rfl, fun t ht => ?_⟩
      rw [keep _ _ (World.block_lt_of_cell? _ _ (f3 t ht)) (fun e => (h2.own i (by omega) hne).2.2.2.1 e.symm)]
      exact f3 t ht
  · have hsz3 := hg.size
    by_cases e : i = k
    · subst e
      simp only [if_true]
      obtain ⟨k1, k2, k3⟩ := hz2 hn
      refine ⟨hN _ k1, by omega, fun o => ?_, ?_, fun j hj hj' ej => ?_⟩
      · rw [keepf _ _ (by omega) (fun e => by have := hrow bz e.symm; omega)]
        exact ((bcell hb2).2 _ _ k2).trans (k3 o)
      · intro e
        injection e with e
        rcases hat with hat | hat
        · have := hrow g hat; omega
        · omega
      · by_cases e2 : j = i
        · exact e2
        · simp only [if_neg e2] at ej
          have := (h.own j (by omega) hj').2.1
          omega
    · simp only [if_neg e]
      obtain ⟨k1, k2, k3, k4, k5⟩ := h.own i (by omega) hn
      obtain ⟨_, q2, q3, _, _⟩ := h2.own i (by omega) hn
      refine ⟨hP _ k1, by omega, fun o => ?_, ?_, fun j hj hj' ej => ?_⟩
      · rw [keepf _ _ q2 (fun e => k4 e.symm)]
        exact q3 o
      · intro e
        injection e with e
        rcases hat with hat | hat
        · exact k4 (by rw [hat, e])
        · omega
      · by_cases e2 : j = k
        · subst e2
          simp only [if_true] at ej
          have := (hz2 hj').1
          omega
        · simp only [if_neg e2] at ej
          exact k5 j (by omega) hj' ej

theorem ownsRow_later {w w' : World} {B e s : Nat} {v : Value} {n : Nat} {xs : List Value} (h : w.ownsRow B e s v n xs) (hb : Below w.heap.size w w') : w'.ownsRow B e s v n xs := by
  obtain ⟨h1, h2⟩ := h
  refine ⟨h1, ?_⟩
  rcases h2 with h2 | ⟨g, cap, cur, hv, hg, hh, r⟩
  · exact Or.inl h2
  · exact Or.inr ⟨g, cap, cur, hv, hg, by rw [hb.block g (Array.getElem?_eq_some_iff.1 hh).1]; exact hh, r⟩

/-- k rows have been built. -/
def BuiltII (P : Nat → Prop) (w : World) (v : Value) (k : Nat) (xss : List (List Int)) : Prop :=
  ∃ V Bk, w.ownsRow 0 29 1 v k ((List.range k).map V) ∧ (∀ r, v.ownBlock = some r → P r) ∧ Inner P w v.ownBlock k V Bk (fun i => xss.getD i [])

theorem BuiltII.nil (P : Nat → Prop) (w : World) (xss : List (List Int)) : BuiltII P w (.slice none 0 0) 0 xss :=
  ⟨fun _ => .bool false, fun _ => 0, World.ownsRow_nil _ _ _ _, fun _ h => (by cases h), Inner.zero _ _ _ _ _ _⟩
theorem BuiltII.later {P : Nat → Prop} {w w' : World} {v : Value} {k : Nat} {xss : List (List Int)} (h : BuiltII P w v k xss) (hb : Below w.heap.size w w') : BuiltII P w' v k xss := by
  obtain ⟨V, Bk, h1, h2, h3⟩ := h
  exact ⟨V, Bk, ownsRow_later h1 hb, h2, h3.later hb⟩
theorem Inner.mono {P P' : Nat → Prop} {w : World} {row : Option Nat} {k : Nat} {V : Nat → Value} {Bk : Nat → Nat} {X : Nat → List Int} (h : Inner P w row k V Bk X) (hP : ∀ b, P b → b < w.heap.size → P' b) : Inner P' w row k V Bk X :=
  ⟨h.rd, fun i hi hn => ⟨hP _ (h.own i hi hn).1 (h.own i hi hn).2.1, (h.own i hi hn).2⟩⟩
theorem BuiltII.mono {P P' : Nat → Prop} {w : World} {v : Value} {k : Nat} {xss : List (List Int)} (h : BuiltII P w v k xss) (hP : ∀ b, P b → b < w.heap.size → P' b) : BuiltII P' w v k xss := by
  obtain ⟨V, Bk, h1, h2, h3⟩ := h
  exact ⟨V, Bk, h1, fun r hr => hP r (h2 r hr) (h1.lt r hr).2, h3.mono hP⟩

theorem range_map_succ (k : Nat) (V : Nat → Value) (z : Value) : (List.range (k + 1)).map (fun i => if i = k then z else V i) = (List.range k).map V ++ [z] := by
  rw [List.range_succ, List.map_append]
  congr 1
  · refine List.map_congr_left fun i hi => ?_
    rw [if_neg (by have := List.mem_range.1 hi; omega)]
  · simp

theorem BuiltII.step {P P' : Nat → Prop} {w w1 w2 w3 : World} {v z : Value} {k g cap : Nat} {V : Nat → Value} {Bk : Nat → Nat} {xss : List (List Int)} (hi : Inner P w v.ownBlock k V Bk (fun i => xss.getD i [])) (hr : w.ownsRow 0 29 1 v k ((List.range k).map V)) (hpr : ∀ r, v.ownBlock = some r → P r)
    (hP : ∀ b, P b → P' b) (hN : ∀ b, w.heap.size ≤ b → P' b) (hb1 : Below w.heap.size w w1) (hz : OwI w.heap.size w1 z (xss.getD k [])) (hb2 : Below w1.heap.size w1 w2)
    (hown : w3.ownsRow 0 29 1 (.slice (some ⟨g, 0, none⟩) (k + 1) cap) (k + 1) ((List.range k).map V ++ [z])) (hg : w2.grownBy w3 v.ownBlock) (hat : v.ownBlock = some g ∨ g = w2.heap.size) :
    BuiltII P' w3 (.slice (some ⟨g, 0, none⟩) (k + 1) cap) (k + 1) xss := by
  obtain ⟨Bk', h⟩ := hi.step hP hN (fun r hr' => (hr.lt r hr').2) hb1 hz hb2 hg hat
  refine ⟨_, Bk', by rw [range_map_succ]; exact hown, fun r hr' => ?_, h⟩
  injection hr' with hr'
  subst hr'
  rcases hat with hat | hat
  · exact hP _ (hpr _ hat)
  · have h1 := hb1.size
    have h2 := hb2.size
    exact hN _ (by dsimp only; omega)

theorem BuiltII.ow {P : Nat → Prop} {w : World} {v : Value} {k : Nat} {xss : List (List Int)} (h : BuiltII P w v k xss) (hk : xss.length = k) (hm : k ≤ 9223372036854775807) : OwII (fun b => P b ∧ b < w.heap.size) w v xss := by
  obtain ⟨V, Bk, h1, hpr, h2⟩ := h
  subst hk
  rcases h1.2 with ⟨rfl, e⟩ | ⟨g, cap, cur, rfl, hg, hh, _⟩
  · have : xss = [] := List.eq_nil_of_length_eq_zero e
    subst this
    exact OwII_nil _ _
  · refine ⟨_, cap, g, 0, V, Bk, rfl, hm, fun _ => ⟨rfl, hpr g rfl, (Array.getElem?_eq_some_iff.1 hh).1⟩, fun i hi => ⟨?_, h2.rd i hi, fun hn => ?_⟩⟩
    · rw [Nat.zero_add, h1.cellAt i (by omega)]
      simp [hi]
    · obtain ⟨k1, k2, k3, k4, k5⟩ := h2.own i hi hn
      exact ⟨⟨k1, k2⟩, fun e => k4 (by rw [e]; rfl), k3, k5⟩

theorem BuiltII.shape {P : Nat → Prop} {w : World} {v : Value} {k : Nat} {xss : List (List Int)} (h : BuiltII P w v k xss) : ∃ ao c, v = .slice ao k c := by
  obtain ⟨V, Bk, h1, _⟩ := h
  rcases h1.2 with ⟨rfl, e⟩ | ⟨g, cap, cur, rfl, _⟩
  · exact ⟨none, 0, by rw [e]⟩
  · exact ⟨_, _, rfl⟩

end Go.Proofs.YtcbapclpopbjbaaDoor
