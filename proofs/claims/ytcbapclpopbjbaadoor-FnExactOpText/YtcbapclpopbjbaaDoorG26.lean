/- Tear RowsW in one text: what each says stands at its head below. -/
import Derived.Test.YtcbapclpopbjbaaDoorG03
import Derived.Test.YtcbapclpopbjbaaDoorG06
import Derived.Deep.AppendLies
import Derived.Test.YtcbapclpopbjbaaDoorG25
/- What a block holds if just so much of what was put is there: 'spec.l1Half', 'spec.l1Tear', walked. -/
namespace Go.Proofs.YtcbapclpopbjbaaDoor
open Go.RowKit
theorem RdI_nil (S : Nat → Prop) (w : World) (ao : Option Addr) (c : Nat) : RdI S w (.slice ao 0 c) [] := ⟨ao, c, by simp, by simp, fun h => absurd rfl h⟩

/-- What a block holds behind a tear. -/
def tearA (old next : List Int) (pick : Int) : List Int := if pick = 1 ∨ pick = 2 then next.take 32 else old.take 32
def tearB (old next : List Int) (pick : Int) : List Int := if pick = 1 ∨ pick = 3 then next.drop 32 else old.drop 32
/-- a, filled up with words 0 where b is not empty, and b behind it. -/
def joinT (a b : List Int) : List Int := if b = [] then a else a ++ List.replicate (32 - a.length) 0 ++ b
def tear (old next : List Int) (pick : Int) : List Int := joinT (tearA old next pick) (tearB old next pick)

theorem ownsRow_shape {w : World} {B e z n : Nat} {v : Value} {xs : List Value} (h : w.ownsRow B e z v n xs) : ∃ ao c, v = .slice ao n c := by
  rcases h.2 with ⟨rfl, e⟩ | ⟨g, cap, cur, rfl, _⟩
  · exact ⟨none, 0, by rw [e]⟩
  · exact ⟨_, _, rfl⟩

theorem snoc_zero (a : List Int) (j : Nat) : (a ++ List.replicate (j + 1) 0).map (Value.int .i64) = a.map (Value.int .i64) ++ (List.replicate j (.int .i64 0) ++ [.int .i64 0]) := by
  rw [List.replicate_succ']
  simp


/-- How long the slice in a slot is. -/
def sliceLen : Value → Nat
  | .slice _ n _ => n
  | _ => 0

theorem joinT_none (a : List Int) : joinT a [] = a := by unfold joinT; rw [if_pos rfl]
theorem joinT_some {a b : List Int} (h : b ≠ []) : joinT a b = a ++ List.replicate (32 - a.length) 0 ++ b := by unfold joinT; rw [if_neg h]

theorem tear_all {old next : List Int} (h : next.length ≤ 64) : tear old next 1 = next := by
  unfold tear tearA tearB
  rw [if_pos (Or.inl rfl), if_pos (Or.inl rfl)]
  by_cases hd : next.drop 32 = []
  · rw [hd, joinT_none]
    exact List.take_of_length_le (by have := congrArg List.length hd; simp at this; omega)
  · rw [joinT_some hd]
    have hl : 32 < next.length := by
      apply Nat.lt_of_not_le
      intro hle
      exact hd (List.drop_eq_nil_of_le hle)
    have e : (next.take 32).length = 32 := by simp; omega
    rw [e]
    simp

theorem tear_len {old next : List Int} {p : Int} (h1 : old.length ≤ 64) (h2 : next.length ≤ 64) : (tear old next p).length ≤ 64 := by
  have hA : (tearA old next p).length ≤ 32 := by unfold tearA; split <;> simp <;> omega
  have hB : (tearB old next p).length ≤ 32 := by unfold tearB; split <;> simp <;> omega
  unfold tear joinT
  split
  · omega
  · simp; omega
theorem RdI.at {S : Nat → Prop} {w : World} {ao : Option Addr} {n c : Nat} {xs : List Int} (h : RdI S w (.slice ao n c) xs) {k : Nat} (hk : k < xs.length) : ∃ b off, ao = some ⟨b, off, none⟩ ∧ w.cell? ⟨b, off + k, none⟩ = some (.int .i64 (xs.getD k 0)) := by
  obtain ⟨ao', c', e1, e2, e3⟩ := h
  obtain ⟨b, off, f1, f2, f3⟩ := e3 (by rintro rfl; simp at hk)
  injection e1 with e1 _ _
  exact ⟨b, off, by rw [e1, f1], f3 k hk⟩
end Go.Proofs.YtcbapclpopbjbaaDoor
/- Rows of a slice that are overwritten one by one. -/
namespace Go.Proofs.YtcbapclpopbjbaaDoor
open Go.RowKit

/-- n rows at the head of block g, which is not frozen; each in a block of its own; all in P. -/
structure RowsW (P : Nat → Prop) (w : World) (g n : Nat) (V : Nat → Value) (Bk : Nat → Nat) (xss : List (List Int)) : Prop where
  len : xss.length = n
  inP : P g
  lt : g < w.heap.size
  free : ∀ o, w.frozen? ⟨g, o, none⟩ = false
  cell : ∀ i, i < n → w.cell? ⟨g, i, none⟩ = some (V i)
  rd : ∀ i, i < n → RdI (· = Bk i) w (V i) (xss.getD i [])
  own : ∀ i, i < n → xss.getD i [] ≠ [] → P (Bk i) ∧ Bk i ≠ g ∧ Bk i < w.heap.size ∧ (∀ o, w.frozen? ⟨Bk i, o, none⟩ = false) ∧ ∀ j, j < n → xss.getD j [] ≠ [] → Bk j = Bk i → j = i

theorem RowsW.later {P : Nat → Prop} {w w' : World} {g n : Nat} {V : Nat → Value} {Bk : Nat → Nat} {xss : List (List Int)} (h : RowsW P w g n V Bk xss) (hb : Below w.heap.size w w') : RowsW P w' g n V Bk xss :=
  ⟨h.len, h.inP, Nat.lt_of_lt_of_le h.lt hb.size, fun o => ((bcell hb).2 _ _ h.lt).trans (h.free o), fun i hi => cell_later hb (h.cell i hi), fun i hi => (h.rd i hi).later hb, fun i hi hn => by
    obtain ⟨h1, h2, h3, h4, h5⟩ := h.own i hi hn
    exact ⟨h1, h2, Nat.lt_of_lt_of_le h3 hb.size, fun o => ((bcell hb).2 _ _ h3).trans (h4 o), h5⟩⟩

theorem BuiltII.rowsW {P : Nat → Prop} {w : World} {v : Value} {xss : List (List Int)} (h : BuiltII P w v xss.length xss) (hn : 0 < xss.length) :
    ∃ g cap V Bk, v = .slice (some ⟨g, 0, none⟩) xss.length cap ∧ RowsW P w g xss.length V Bk xss := by
  obtain ⟨V, Bk, h1, h2, h3⟩ := h
  rcases h1.2 with ⟨rfl, e⟩ | ⟨g, cap, cur, rfl, hg, hh, _⟩
  · omega
  · refine ⟨g, cap, V, Bk, rfl, rfl, h2 g rfl, (Array.getElem?_eq_some_iff.1 hh).1, fun o => h1.frozenAt o, fun i hi => ?_, h3.rd, fun i hi hn => ?_⟩
    · rw [h1.cellAt i (by omega)]
      simp [hi]
    · obtain ⟨q1, q2, q3, q4, q5⟩ := h3.own i hi hn
      exact ⟨q1, fun e => q4 (by rw [e]; rfl), q2, q3, q5⟩

theorem RowsW.ow {P : Nat → Prop} {w : World} {g n cap : Nat} {V : Nat → Value} {Bk : Nat → Nat} {xss : List (List Int)} (h : RowsW P w g n V Bk xss) (hm : n ≤ 9223372036854775807) : OwII (fun b => P b ∧ b < w.heap.size) w (.slice (some ⟨g, 0, none⟩) n cap) xss := by
  have hl := h.len
  subst hl
  refine ⟨_, cap, g, 0, V, Bk, rfl, hm, fun _ => ⟨rfl, h.inP, h.lt⟩, fun i hi => ⟨by rw [Nat.zero_add]; exact h.cell i hi, h.rd i hi, fun hn => ?_⟩⟩
  obtain ⟨q1, q2, q3, q4, q5⟩ := h.own i hi hn
  exact ⟨⟨q1, q3⟩, q2, q4, q5⟩

theorem getD_set_same (xss : List (List Int)) (a : Nat) (ys : List Int) (h : a < xss.length) : (xss.set a ys).getD a [] = ys := by simp [List.getD, h]
theorem getD_set_other (xss : List (List Int)) (a i : Nat) (ys : List Int) (h : i ≠ a) : (xss.set a ys).getD i [] = xss.getD i [] := by simp [List.getD, List.getElem?_set_ne (Ne.symm h)]

theorem RowsW.step {P : Nat → Prop} {w w1 : World} {g n a : Nat} {V : Nat → Value} {Bk : Nat → Nat} {xss : List (List Int)} {z : Value} {ys : List Int} (h : RowsW P w g n V Bk xss) (hP : ∀ b, w.heap.size ≤ b → P b) (hb : Below w.heap.size w w1) (hz : OwI w.heap.size w1 z ys) (ha : a < n) :
    ∃ Bk', RowsW P (w1.setCell ⟨g, a, none⟩ z) g n (fun i => if i = a then z else V i) Bk' (xss.set a ys) := by
  have h1 := h.later hb
  have hl := h.lt
  have hla : a < xss.length := by rw [h.len]; exact ha
  obtain ⟨bz, hz1, hz2⟩ := hz
  refine ⟨fun i => if i = a then bz else Bk i, by simpa using h.len, h.inP, by simpa using h1.lt, fun o => by rw [World.frozen?_setCell]; exact h1.free o, fun i hi => ?_, fun i hi => ?_, fun i hi hn => ?_⟩
  · by_cases e : i = a
    · subst e
      rw [if_pos rfl]
      exact World.cell?_setCell_same _ _ _ (h1.cell i hi)
    · rw [if_neg e, World.cell?_setCell_other _ _ _ _ (by intro h'; injection h' with _ h2; exact e h2.symm)]
      exact h1.cell i hi
  · by_cases e : i = a
    · subst e
      simp only [if_true]
      rw [getD_set_same _ _ _ hla]
      exact hz1.setOther fun hn => by have := (hz2 hn).1; omega
    · simp only [if_neg e]
      rw [getD_set_other _ _ _ _ e]
      exact (h1.rd i hi).setOther fun hn => (h1.own i hi hn).2.1
  · by_cases e : i = a
    · subst e
      rw [getD_set_same _ _ _ hla] at hn
      obtain ⟨k1, k2, k3⟩ := hz2 hn
      simp only [if_true]
      refine ⟨hP _ k1, by omega, by simpa using k2, fun o => by rw [World.frozen?_setCell]; exact k3 o, fun j hj hj' ej => ?_⟩
      by_cases e2 : j = i
      · exact e2
      · simp only [if_neg e2] at ej
        rw [getD_set_other _ _ _ _ e2] at hj'
        have := (h.own j hj hj').2.2.1
        omega
    · rw [getD_set_other _ _ _ _ e] at hn
      obtain ⟨q1, q2, q3, q4, q5⟩ := h1.own i hi hn
      have q3' := (h.own i hi hn).2.2.1
      simp only [if_neg e]
      refine ⟨q1, q2, by simpa using q3, fun o => by rw [World.frozen?_setCell]; exact q4 o, fun j hj hj' ej => ?_⟩
      by_cases e2 : j = a
      · subst e2
        rw [getD_set_same _ _ _ hla] at hj'
        simp only [if_true] at ej
        have := (hz2 hj').1
        omega
      · simp only [if_neg e2] at ej
        rw [getD_set_other _ _ _ _ e2] at hj'
        exact q5 j hj hj' ej

/-- The rows behind the first k puts, of which so much is kept as pk says. -/
def keepTo (xss : List (List Int)) (ps : List (Int × List Int)) (pk : Nat → Int) : Nat → List (List Int)
  | 0 => xss
  | k + 1 => (keepTo xss ps pk k).set (ps.getD k (0, [])).1.toNat (tear ((keepTo xss ps pk k).getD (ps.getD k (0, [])).1.toNat []) (ps.getD k (0, [])).2 (pk k))

theorem keepTo_len (xss : List (List Int)) (ps : List (Int × List Int)) (pk : Nat → Int) : ∀ k, (keepTo xss ps pk k).length = xss.length := by
  intro k
  induction k with
  | zero => rfl
  | succ k ih => unfold keepTo; rw [List.length_set]; exact ih
end Go.Proofs.YtcbapclpopbjbaaDoor
