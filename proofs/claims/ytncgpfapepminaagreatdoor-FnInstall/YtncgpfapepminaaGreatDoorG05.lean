/- Built Built2 Ret Built3 Built4 Draw4 Draw8 in one text: what each says stands at its head below. -/
import Derived.Test.YtncgpfapepminaaGreatDoorG04
import Derived.Deep.AppendLies
import Derived.Deep.RegionLaw
import Derived.Test.YtncgpfapepminaaGreatDoorG03
/- Slices of slices and of puts that are built by append, one element a round. -/
namespace Go.Proofs.YtncgpfapepminaaGreatDoor
open Go.RowKit

/-- The inner lists of what has been built so far: each in a block of its own, none of them the row's. -/
structure Inner (P : Nat → Prop) (w : World) (row : Option Nat) (k : Nat) (V : Nat → Value) (Bk : Nat → Nat) (X : Nat → List Int) : Prop where
  rd : ∀ i, i < k → RdI (· = Bk i) w (V i) (X i)
  own : ∀ i, i < k → X i ≠ [] → P (Bk i) ∧ Bk i < w.heap.size ∧ (∀ o, w.frozen? ⟨Bk i, o, none⟩ = false) ∧ row ≠ some (Bk i) ∧ ∀ j, j < k → X j ≠ [] → Bk j = Bk i → j = i

theorem Inner.zero (P : Nat → Prop) (w : World) (row : Option Nat) (V : Nat → Value) (Bk : Nat → Nat) (X : Nat → List Int) : Inner P w row 0 V Bk X :=
  ⟨fun _ h => absurd h (Nat.not_lt_zero _), fun _ h => absurd h (Nat.not_lt_zero _)⟩

theorem Inner.later {P : Nat → Prop} {w w' : World} {row : Option Nat} {k : Nat} {V : Nat → Value} {Bk : Nat → Nat} {X : Nat → List Int} (h : Inner P w row k V Bk X) (hb : Below w.heap.size w w') : Inner P w' row k V Bk X :=
  ⟨fun i hi => (h.rd i hi).later hb, fun i hi hn => by
    obtain ⟨h1, h2, h3, h4, h5⟩ := h.own i hi hn
    exact ⟨h1, Nat.lt_of_lt_of_le h2 hb.size, fun o => ((bcell hb).2 _ _ h2).trans (h3 o), h4, h5⟩⟩

theorem Inner.step {P P' : Nat → Prop} {w w1 w2 w3 : World} {row : Option Nat} {k g : Nat} {V : Nat → Value} {Bk : Nat → Nat} {X : Nat → List Int} {z : Value}
    (h : Inner P w row k V Bk X) (hP : ∀ b, P b → P' b) (hN : ∀ b, w.heap.size ≤ b → P' b) (hrow : ∀ r, row = some r → r < w.heap.size) (hb1 : Below w.heap.size w w1) (hz : OwI w.heap.size w1 z (X k)) (hb2 : Below w1.heap.size w1 w2)
    (hg : w2.grownBy w3 row) (hat : row = some g ∨ g = w2.heap.size) :
    ∃ Bk', Inner P' w3 (some g) (k + 1) (fun i => if i = k then z else V i) Bk' X := by
  obtain ⟨bz, hz1, hz2⟩ := hz
  have hs1 := hb1.size
  have hs2 := hb2.size
  have keep : ∀ b o, b < w2.heap.size → some b ≠ row → w3.cell? ⟨b, o, none⟩ = w2.cell? ⟨b, o, none⟩ := fun b o hl hne => hg.cell_far ⟨b, o, none⟩ hl hne
  have keepf : ∀ b o, b < w2.heap.size → some b ≠ row → w3.frozen? ⟨b, o, none⟩ = w2.frozen? ⟨b, o, none⟩ := fun b o hl hne => hg.frozen_far ⟨b, o, none⟩ hl hne
  have h2 := (h.later hb1).later hb2
  have hz1' := hz1.later hb2
  refine ⟨fun i => if i = k then bz else Bk i, fun i hi => ?_, fun i hi hn => ?_⟩
  · by_cases e : i = k
    · subst e
      simp only [if_true]
      obtain ⟨ao, c, e1, e2, e3⟩ := hz1'
      refine ⟨ao, c, e1, e2, fun hne => ?_⟩
      obtain ⟨b, off, f1, f2, f3⟩ := e3 hne
      subst f2
      refine ⟨b, off, f1, rfl, fun t ht => ?_⟩
      rw [keep _ _ (World.block_lt_of_cell? _ _ (f3 t ht)) (fun e => by have := hrow b e.symm; have := (hz2 hne).1; omega)]
      exact f3 t ht
    · simp only [if_neg e]
      obtain ⟨ao, c, e1, e2, e3⟩ := h2.rd i (by omega)
      refine ⟨ao, c, e1, e2, fun hne => ?_⟩
      obtain ⟨b, off, f1, f2, f3⟩ := e3 hne
      subst f2
      refine ⟨Bk i, off, f1, rfl, fun t ht => ?_⟩
      rw [keep _ _ (World.block_lt_of_cell? _ _ (f3 t ht)) (fun e => (h2.own i (by omega) hne).2.2.2.1 e.symm)]
      exact f3 t ht
  · have hsz3 := hg.size
    by_cases e : i = k
    · subst e
      simp only [if_true]
      obtain ⟨k1, k2, k3⟩ := hz2 hn
      refine ⟨hN _ k1, by omega, fun o => ?_, ?_, fun j hj hj' ej => ?_⟩
      · rw [keepf _ _ (by omega) (fun e => by have := hrow bz e.symm; omega)]
        exact ((bcell hb2).2 _ _ k2).trans (k3 o)
      · intro e
        injection e with e
        rcases hat with hat | hat
        · have := hrow g hat; omega
        · omega
      · by_cases e2 : j = i
        · exact e2
        · simp only [if_neg e2] at ej
          have := (h.own j (by omega) hj').2.1
          omega
    · simp only [if_neg e]
      obtain ⟨k1, k2, k3, k4, k5⟩ := h.own i (by omega) hn
      obtain ⟨_, q2, q3, _, _⟩ := h2.own i (by omega) hn
      refine ⟨hP _ k1, by omega, fun o => ?_, ?_, fun j hj hj' ej => ?_⟩
      · rw [keepf _ _ q2 (fun e => k4 e.symm)]
        exact q3 o
      · intro e
        injection e with e
        rcases hat with hat | hat
        · exact k4 (by rw [hat, e])
        · omega
      · by_cases e2 : j = k
        · subst e2
          simp only [if_true] at ej
          have := (hz2 hj').1
          omega
        · simp only [if_neg e2] at ej
          exact k5 j (by omega) hj' ej

theorem ownsRow_later {w w' : World} {B e s : Nat} {v : Value} {n : Nat} {xs : List Value} (h : w.ownsRow B e s v n xs) (hb : Below w.heap.size w w') : w'.ownsRow B e s v n xs := by
  obtain ⟨h1, h2⟩ := h
  refine ⟨h1, ?_⟩
  rcases h2 with h2 | ⟨g, cap, cur, hv, hg, hh, r⟩
  · exact Or.inl h2
  · exact Or.inr ⟨g, cap, cur, hv, hg, by rw [hb.block g (Array.getElem?_eq_some_iff.1 hh).1]; exact hh, r⟩

/-- k rows have been built. -/
def BuiltII (P : Nat → Prop) (w : World) (v : Value) (k : Nat) (xss : List (List Int)) : Prop :=
  ∃ V Bk, w.ownsRow 0 24 1 v k ((List.range k).map V) ∧ (∀ r, v.ownBlock = some r → P r) ∧ Inner P w v.ownBlock k V Bk (fun i => xss.getD i [])

theorem BuiltII.nil (P : Nat → Prop) (w : World) (xss : List (List Int)) : BuiltII P w (.slice none 0 0) 0 xss :=
  ⟨fun _ => .bool false, fun _ => 0, World.ownsRow_nil _ _ _ _, fun _ h => (by cases h), Inner.zero _ _ _ _ _ _⟩
theorem BuiltII.later {P : Nat → Prop} {w w' : World} {v : Value} {k : Nat} {xss : List (List Int)} (h : BuiltII P w v k xss) (hb : Below w.heap.size w w') : BuiltII P w' v k xss := by
  obtain ⟨V, Bk, h1, h2, h3⟩ := h
  exact ⟨V, Bk, ownsRow_later h1 hb, h2, h3.later hb⟩
theorem Inner.mono {P P' : Nat → Prop} {w : World} {row : Option Nat} {k : Nat} {V : Nat → Value} {Bk : Nat → Nat} {X : Nat → List Int} (h : Inner P w row k V Bk X) (hP : ∀ b, P b → b < w.heap.size → P' b) : Inner P' w row k V Bk X :=
  ⟨h.rd, fun i hi hn => ⟨hP _ (h.own i hi hn).1 (h.own i hi hn).2.1, (h.own i hi hn).2⟩⟩
theorem BuiltII.mono {P P' : Nat → Prop} {w : World} {v : Value} {k : Nat} {xss : List (List Int)} (h : BuiltII P w v k xss) (hP : ∀ b, P b → b < w.heap.size → P' b) : BuiltII P' w v k xss := by
  obtain ⟨V, Bk, h1, h2, h3⟩ := h
  exact ⟨V, Bk, h1, fun r hr => hP r (h2 r hr) (h1.lt r hr).2, h3.mono hP⟩

theorem range_map_succ (k : Nat) (V : Nat → Value) (z : Value) : (List.range (k + 1)).map (fun i => if i = k then z else V i) = (List.range k).map V ++ [z] := by
  rw [List.range_succ, List.map_append]
  congr 1
  · refine List.map_congr_left fun i hi => ?_
    rw [if_neg (by have := List.mem_range.1 hi; omega)]
  · simp

theorem BuiltII.step {P P' : Nat → Prop} {w w1 w2 w3 : World} {v z : Value} {k g cap : Nat} {V : Nat → Value} {Bk : Nat → Nat} {xss : List (List Int)} (hi : Inner P w v.ownBlock k V Bk (fun i => xss.getD i [])) (hr : w.ownsRow 0 24 1 v k ((List.range k).map V)) (hpr : ∀ r, v.ownBlock = some r → P r)
    (hP : ∀ b, P b → P' b) (hN : ∀ b, w.heap.size ≤ b → P' b) (hb1 : Below w.heap.size w w1) (hz : OwI w.heap.size w1 z (xss.getD k [])) (hb2 : Below w1.heap.size w1 w2)
    (hown : w3.ownsRow 0 24 1 (.slice (some ⟨g, 0, none⟩) (k + 1) cap) (k + 1) ((List.range k).map V ++ [z])) (hg : w2.grownBy w3 v.ownBlock) (hat : v.ownBlock = some g ∨ g = w2.heap.size) :
    BuiltII P' w3 (.slice (some ⟨g, 0, none⟩) (k + 1) cap) (k + 1) xss := by
  obtain ⟨Bk', h⟩ := hi.step hP hN (fun r hr' => (hr.lt r hr').2) hb1 hz hb2 hg hat
  refine ⟨_, Bk', by rw [range_map_succ]; exact hown, fun r hr' => ?_, h⟩
  injection hr' with hr'
  subst hr'
  rcases hat with hat | hat
  · exact hP _ (hpr _ hat)
  · have h1 := hb1.size
    have h2 := hb2.size
    exact hN _ (by dsimp only; omega)

theorem BuiltII.ow {P : Nat → Prop} {w : World} {v : Value} {k : Nat} {xss : List (List Int)} (h : BuiltII P w v k xss) (hk : xss.length = k) (hm : k ≤ 9223372036854775807) : OwII (fun b => P b ∧ b < w.heap.size) w v xss := by
  obtain ⟨V, Bk, h1, hpr, h2⟩ := h
  subst hk
  rcases h1.2 with ⟨rfl, e⟩ | ⟨g, cap, cur, rfl, hg, hh, _⟩
  · have : xss = [] := List.eq_nil_of_length_eq_zero e
    subst this
    exact OwII_nil _ _
  · refine ⟨_, cap, g, 0, V, Bk, rfl, hm, fun _ => ⟨rfl, hpr g rfl, (Array.getElem?_eq_some_iff.1 hh).1⟩, fun i hi => ⟨?_, h2.rd i hi, fun hn => ?_⟩⟩
    · rw [Nat.zero_add, h1.cellAt i (by omega)]
      simp [hi]
    · obtain ⟨k1, k2, k3, k4, k5⟩ := h2.own i hi hn
      exact ⟨⟨k1, k2⟩, fun e => k4 (by rw [e]; rfl), k3, k5⟩

theorem BuiltII.shape {P : Nat → Prop} {w : World} {v : Value} {k : Nat} {xss : List (List Int)} (h : BuiltII P w v k xss) : ∃ ao c, v = .slice ao k c := by
  obtain ⟨V, Bk, h1, _⟩ := h
  rcases h1.2 with ⟨rfl, e⟩ | ⟨g, cap, cur, rfl, _⟩
  · exact ⟨none, 0, by rw [e]⟩
  · exact ⟨_, _, rfl⟩

end Go.Proofs.YtncgpfapepminaaGreatDoor
/- Puts that are built by append, one a round. -/
namespace Go.Proofs.YtncgpfapepminaaGreatDoor
open Go.RowKit

/-- The cells of k puts. -/
def cellsP (ps : List (Int × List Int)) (k : Nat) (V : Nat → Value) : List Value :=
  (List.range (k * 2)).map fun t => if t % 2 = 0 then .int .i64 (ps.getD (t / 2) (0, [])).1 else V (t / 2)
theorem cellsP_len (ps : List (Int × List Int)) (k : Nat) (V : Nat → Value) : (cellsP ps k V).length = k * 2 := by simp [cellsP]
theorem cellsP_num (ps : List (Int × List Int)) (k : Nat) (V : Nat → Value) (i : Nat) (h : i < k) : (cellsP ps k V)[i * 2]? = some (.int .i64 (ps.getD i (0, [])).1) := by
  unfold cellsP
  rw [List.getElem?_map, List.getElem?_range (by omega)]
  simp only [Option.map_some]
  rw [if_pos (by omega), show i * 2 / 2 = i by omega]
theorem cellsP_words (ps : List (Int × List Int)) (k : Nat) (V : Nat → Value) (i : Nat) (h : i < k) : (cellsP ps k V)[i * 2 + 1]? = some (V i) := by
  unfold cellsP
  rw [List.getElem?_map, List.getElem?_range (by omega)]
  simp only [Option.map_some]
  rw [if_neg (by omega), show (i * 2 + 1) / 2 = i by omega]
theorem cellsP_succ (ps : List (Int × List Int)) (k : Nat) (V : Nat → Value) (z : Value) : cellsP ps (k + 1) (fun i => if i = k then z else V i) = cellsP ps k V ++ [.int .i64 (ps.getD k (0, [])).1, z] := by
  unfold cellsP
  rw [show (k + 1) * 2 = k * 2 + 1 + 1 by omega, List.range_succ, List.range_succ]
  simp only [List.map_append, List.append_assoc, List.map_cons, List.map_nil, List.singleton_append]
  congr 1
  · refine List.map_congr_left fun i hi => ?_
    have := List.mem_range.1 hi
    by_cases e : i % 2 = 0
    · rw [if_pos e, if_pos e]
    · rw [if_neg e, if_neg e, if_neg (by omega)]
  · rw [if_pos (by omega), if_neg (by omega), show k * 2 / 2 = k by omega, show (k * 2 + 1) / 2 = k by omega, if_pos rfl]

theorem cells2_one {x : Int} {ao : Option Addr} {n c : Nat} : ∀ u ∈ ([.int .i64 x, .slice ao n c] : List Value), u.oneCell' = true := by
  intro u hu
  simp at hu
  rcases hu with rfl | rfl <;> rfl
end Go.Proofs.YtncgpfapepminaaGreatDoor
/- The ends of functions that store a code and what goes with it into their result's variable. -/
namespace Go.Proofs.YtncgpfapepminaaGreatDoor
open Go.RowKit

/-- The end of a function that stores a code and a list into its result's variable. -/
theorem ret_ints {w w3 : World} {B r : Nat} {z : Value} {xs : List Int} {x : Value} (hb : Below w.heap.size w w3) (hr : w.heap.size ≤ r) (ho : OwI B w3 z xs) (hB : r < B) :
    Below w.heap.size w ((w3.setCell ⟨r, 0, none⟩ x).setCell ⟨r, 1, none⟩ z) ∧ OwI w.heap.size ((w3.setCell ⟨r, 0, none⟩ x).setCell ⟨r, 1, none⟩ z) z xs := by
  have hw : Wr (fun y => y = r) w3 ((w3.setCell ⟨r, 0, none⟩ x).setCell ⟨r, 1, none⟩ z) := ((Wr.refl (fun y => y = r) _).setCell (p := ⟨r, 0, none⟩) rfl _).setCell (p := ⟨r, 1, none⟩) rfl _
  exact ⟨(hb.setCell (p := ⟨r, 0, none⟩) hr _).setCell (p := ⟨r, 1, none⟩) hr _, (ho.wr hw (fun b h1 _ e => by omega)).mono (by omega)⟩

theorem OwD_nil (B : Nat) (w : World) : OwD B w (.slice none 0 0) (.slice none 0 0) [] [] :=
  ⟨fun _ => False, fun _ => False, fun _ h => absurd h id, fun _ h => absurd h id, fun _ h => absurd h id, OwII_nil _ _, OwP_nil _ _⟩

/-- The end of a function that stores a code and a disk into its result's variable. -/
theorem ret_disk {w w3 : World} {B r : Nat} {u v x : Value} {xss : List (List Int)} {ps : List (Int × List Int)} (hb : Below w.heap.size w w3) (hr : w.heap.size ≤ r) (ho : OwD B w3 u v xss ps) (hB : r < B) :
    Below w.heap.size w (((w3.setCell ⟨r, 0, none⟩ x).setCell ⟨r, 1, none⟩ u).setCell ⟨r, 2, none⟩ v) ∧ OwD w.heap.size (((w3.setCell ⟨r, 0, none⟩ x).setCell ⟨r, 1, none⟩ u).setCell ⟨r, 2, none⟩ v) u v xss ps := by
  have hw : Wr (fun y => y = r) w3 (((w3.setCell ⟨r, 0, none⟩ x).setCell ⟨r, 1, none⟩ u).setCell ⟨r, 2, none⟩ v) := (((Wr.refl (fun y => y = r) _).setCell (p := ⟨r, 0, none⟩) rfl _).setCell (p := ⟨r, 1, none⟩) rfl _).setCell (p := ⟨r, 2, none⟩) rfl _
  refine ⟨((hb.setCell (p := ⟨r, 0, none⟩) hr _).setCell (p := ⟨r, 1, none⟩) hr _).setCell (p := ⟨r, 2, none⟩) hr _, ?_⟩
  obtain ⟨S, T, h1, h2, h3, h4, h5⟩ := ho
  exact ⟨S, T, fun b hb => by have := h1 b hb; simp; omega, fun b hb => by have := h2 b hb; simp; omega, h3, h4.wr hw fun b hb e => by have := h1 b hb; omega, h5.wr hw fun b hb e => by have := h2 b hb; omega⟩
end Go.Proofs.YtncgpfapepminaaGreatDoor
/- 'spec.l1Puts' and 'spec.l1Copy', walked. -/
namespace Go.Proofs.YtncgpfapepminaaGreatDoor
open Go.RowKit
end Go.Proofs.YtncgpfapepminaaGreatDoor
/- 'spec.l1Copy', walked. -/
namespace Go.Proofs.YtncgpfapepminaaGreatDoor
open Go.RowKit

theorem Inner.set {P : Nat → Prop} {w : World} {row : Option Nat} {k : Nat} {V : Nat → Value} {Bk : Nat → Nat} {X : Nat → List Int} (h : Inner P w row k V Bk X) {r o : Nat} {x : Value} (hr : ∀ b, P b → b ≠ r) : Inner P (w.setCell ⟨r, o, none⟩ x) row k V Bk X := by
  refine ⟨fun i hi => (h.rd i hi).setOther fun hn => hr _ (h.own i hi hn).1, fun i hi hn => ?_⟩
  obtain ⟨h1, h2, h3, h4, h5⟩ := h.own i hi hn
  exact ⟨h1, by simpa using h2, fun o => by rw [World.frozen?_setCell]; exact h3 o, h4, h5⟩

theorem ownsRow_set {w : World} {B e s r o : Nat} {v x : Value} {n : Nat} {xs : List Value} (h : w.ownsRow B e s v n xs) (hr : v.ownBlock ≠ some r) : (w.setCell ⟨r, o, none⟩ x).ownsRow B e s v n xs := by
  obtain ⟨h1, h2⟩ := h
  refine ⟨h1, ?_⟩
  rcases h2 with h2 | ⟨g, cap, cur, rfl, hg, hh, t⟩
  · exact Or.inl h2
  · exact Or.inr ⟨g, cap, cur, rfl, hg, by rw [Below.heap_setCell _ _ _ _ (fun e => hr (congrArg some e))]; exact hh, t⟩

theorem BuiltII.set {P : Nat → Prop} {w : World} {v : Value} {k : Nat} {xss : List (List Int)} (h : BuiltII P w v k xss) {r o : Nat} {x : Value} (hr : ∀ b, P b → b ≠ r) : BuiltII P (w.setCell ⟨r, o, none⟩ x) v k xss := by
  obtain ⟨V, Bk, h1, h2, h3⟩ := h
  exact ⟨V, Bk, ownsRow_set h1 (fun e => hr _ (h2 _ e) rfl), h2, h3.set hr⟩
/-- What the copying loop knows behind k blocks; b: the block of the copy's variable. -/
structure CopyAt (xss : List (List Int)) (b : Nat) (vc : Value) (w1 : World) (k : Nat) (v : Value) (wr : World) : Prop where
  below : Below b w1 wr
  size : b < wr.heap.size
  rows : BuiltII (b + 1 ≤ ·) wr v k xss
  cell0 : wr.cell? ⟨b, 0, none⟩ = some v
  cell1 : wr.cell? ⟨b, 1, none⟩ = some vc
  free : ∀ o, wr.frozen? ⟨b, o, none⟩ = false

theorem CopyAt.step {xss : List (List Int)} {b : Nat} {vc v z : Value} {w1 wr w2 w3 : World} {k g cap : Nat} {V : Nat → Value} {Bk : Nat → Nat} {o : Obj} (h : CopyAt xss b vc w1 k v wr)
    (hi : Inner (b + 1 ≤ ·) wr v.ownBlock k V Bk (fun i => xss.getD i [])) (hr : wr.ownsRow 0 24 1 v k ((List.range k).map V)) (hpr : ∀ r, v.ownBlock = some r → b + 1 ≤ r)
    (hb2 : Below wr.heap.size wr w2) (hz : OwI wr.heap.size w2 z (xss.getD k [])) (hown : w3.ownsRow 0 24 1 (.slice (some ⟨g, 0, none⟩) (k + 1) cap) (k + 1) ((List.range k).map V ++ [z]))
    (hg : (w2.alloc o).grownBy w3 v.ownBlock) (hat : v.ownBlock = some g ∨ g = (w2.alloc o).heap.size) :
    CopyAt xss b vc w1 (k + 1) (.slice (some ⟨g, 0, none⟩) (k + 1) cap) (w3.setCell ⟨b, 0, none⟩ (.slice (some ⟨g, 0, none⟩) (k + 1) cap)) := by
  have hsz := h.size
  have hs2 := hb2.size
  have hs3 := hg.size
  simp only [World.size_alloc] at hs3
  have far : ∀ o', w3.cell? ⟨b, o', none⟩ = wr.cell? ⟨b, o', none⟩ := fun o' => by
    rw [hg.cell_far ⟨b, o', none⟩ (by simp; omega) (fun e => by have := hpr _ e.symm; dsimp only at this; omega)]
    exact ((bcell (below_alloc w2 o)).1 _ _ (by omega)).trans ((bcell hb2).1 _ _ hsz)
  have farf : ∀ o', w3.frozen? ⟨b, o', none⟩ = wr.frozen? ⟨b, o', none⟩ := fun o' => by
    rw [hg.frozen_far ⟨b, o', none⟩ (by simp; omega) (fun e => by have := hpr _ e.symm; dsimp only at this; omega)]
    exact ((bcell (below_alloc w2 o)).2 _ _ (by omega)).trans ((bcell hb2).2 _ _ hsz)
  refine ⟨?_, by simp; omega, ?_, World.cell?_setCell_same _ _ _ ((far 0).trans h.cell0), ?_, fun o' => by rw [World.frozen?_setCell]; exact (farf o').trans (h.free o')⟩
  · exact ((h.below.trans ((below_on hb2 (below_alloc w2 o)).mono (by omega))).grown hg (by simp; omega) (fun r hr' => by have := hpr r hr'; omega)).setCell (Nat.le_refl _) _
  · exact (BuiltII.step (P' := (b + 1 ≤ ·)) hi hr hpr (fun _ h => h) (fun x hx => by omega) hb2 hz (below_alloc w2 o) hown hg hat).set (fun x hx => by omega)
  · rw [World.cell?_setCell_other _ _ _ _ (by simp)]
    exact (far 1).trans h.cell1

end Go.Proofs.YtncgpfapepminaaGreatDoor
/- The model's draws of a header: 'spec.l2Draw', walked. -/
namespace Go.Proofs.YtncgpfapepminaaGreatDoor
open Go.RowKit

/-- A header that is being drawn: in block h, the result's variable in block r. -/
structure DrAt (w : World) (s : Nat) (v : Value) (bs : List Nat) (t : Nat) (r h : Nat) (a b : Int) (xs : List Int) (ao : Option Addr) (n c N t5 : Nat) (wr : World) : Prop where
  dr : Drawn N s v bs t t5 w wr
  rw : w.heap.size ≤ r
  rh : r < h
  hl : h < wr.heap.size
  r0 : wr.cell? ⟨r, 0, none⟩ = some (.int .i64 0)
  r1 : wr.cell? ⟨r, 1, none⟩ = some (.int .i64 0)
  r2 : wr.cell? ⟨r, 2, none⟩ = some (.slice none 0 0)
  rf : ∀ o, wr.frozen? ⟨r, o, none⟩ = false
  h0 : wr.cell? ⟨h, 0, none⟩ = some (.int .i64 a)
  h1 : wr.cell? ⟨h, 1, none⟩ = some (.int .i64 b)
  h2 : wr.cell? ⟨h, 2, none⟩ = some (.slice ao n c)
  hf : ∀ o, wr.frozen? ⟨h, o, none⟩ = false
  own : wr.ownsRow (h + 1) 2 1 (.slice ao n c) n (xs.map (Value.int .i64))
  len : xs.length = n

/-- A number has been drawn on the way. -/
theorem DrAt.on {w : World} {s : Nat} {v : Value} {bs : List Nat} {t r h : Nat} {a b : Int} {xs : List Int} {ao : Option Addr} {n c N t5 t6 M : Nat} {wr w6 : World} (H : DrAt w s v bs t r h a b xs ao n c N t5 wr) (hs : s < w.heap.size) (hd : Drawn M s v bs t5 t6 wr w6) :
    DrAt w s v bs t r h a b xs ao n c (N + M) t6 w6 := by
  have hw := hd.2.1
  have h1 := H.rw
  have h2 := H.rh
  have h3 := H.hl
  exact ⟨H.dr.on hd, H.rw, H.rh, Nat.lt_of_lt_of_le H.hl hw.size, cell_wr hw H.r0 (by omega), cell_wr hw H.r1 (by omega), cell_wr hw H.r2 (by omega), fun o => (hw.frz _ _ (by omega)).trans (H.rf o),
    cell_wr hw H.h0 (by omega), cell_wr hw H.h1 (by omega), cell_wr hw H.h2 (by omega), fun o => (hw.frz _ _ (by omega)).trans (H.hf o), ownsRow_wr H.own hw (ownBlock_ne H.own (by omega)), H.len⟩
theorem DrAt.later {w : World} {s : Nat} {v : Value} {bs : List Nat} {t r h : Nat} {a b : Int} {xs : List Int} {ao : Option Addr} {n c N t5 : Nat} {wr w6 : World} (H : DrAt w s v bs t r h a b xs ao n c N t5 wr) (hb : Below wr.heap.size wr w6) :
    DrAt w s v bs t r h a b xs ao n c N t5 w6 := by
  have h2 := H.rh
  have h3 := H.hl
  exact ⟨H.dr.later hb, H.rw, H.rh, Nat.lt_of_lt_of_le H.hl hb.size, cell_later hb H.r0, cell_later hb H.r1, cell_later hb H.r2, fun o => ((bcell hb).2 _ _ (by omega)).trans (H.rf o),
    cell_later hb H.h0, cell_later hb H.h1, cell_later hb H.h2, fun o => ((bcell hb).2 _ _ (by omega)).trans (H.hf o), ownsRow_later H.own hb, H.len⟩

/-- One address more. -/
theorem DrAt.step {w : World} {s : Nat} {v : Value} {bs : List Nat} {t r h : Nat} {a b x : Int} {xs : List Int} {ao : Option Addr} {n c N t5 g cap : Nat} {wr w3 : World} (hS : Src s v bs w t) (H : DrAt w s v bs t r h a b xs ao n c N t5 wr)
    (hown : w3.ownsRow (h + 1) 2 1 (.slice (some ⟨g, 0, none⟩) (n + 1) cap) (n + 1) ((xs ++ [x]).map (Value.int .i64)))
    (hgrow : (wr.alloc (.cells #[.int .i64 x] 2)).grownBy w3 (Value.slice ao n c).ownBlock) :
    DrAt w s v bs t r h a b (xs ++ [x]) (some ⟨g, 0, none⟩) (n + 1) cap N t5 (w3.setCell ⟨h, 2, none⟩ (.slice (some ⟨g, 0, none⟩) (n + 1) cap)) := by
  have k1 := H.rw
  have k2 := H.rh
  have k3 := H.hl
  have hB : Below (h + 1) wr w3 := ((below_alloc wr (.cells #[.int .i64 x] 2)).mono (by omega)).grown hgrow (by simp; omega) (fun r hr => (H.own.lt r hr).1)
  have hc : ∀ b o, b < h + 1 → w3.cell? ⟨b, o, none⟩ = wr.cell? ⟨b, o, none⟩ := fun b o hb => hB.cell (p := ⟨b, o, none⟩) hb
  have hz : ∀ b o, b < h + 1 → w3.frozen? ⟨b, o, none⟩ = wr.frozen? ⟨b, o, none⟩ := fun b o hb => hB.frozen (p := ⟨b, o, none⟩) hb
  have hs := hB.size
  have hB2 : Below w.heap.size wr (w3.setCell ⟨h, 2, none⟩ (.slice (some ⟨g, 0, none⟩) (n + 1) cap)) := (hB.mono (by omega)).setCell (by simp; omega) _
  refine ⟨H.dr.onBelow hS hB2, H.rw, H.rh, by simp; omega, ?_, ?_, ?_, fun o => ?_, ?_, ?_, ?_, fun o => ?_, ?_, by simp [H.len]⟩
  · rw [World.cell?_setCell_other _ _ _ _ (by intro e; injection e with e _; omega), hc _ _ (by omega)]; exact H.r0
  · rw [World.cell?_setCell_other _ _ _ _ (by intro e; injection e with e _; omega), hc _ _ (by omega)]; exact H.r1
  · rw [World.cell?_setCell_other _ _ _ _ (by intro e; injection e with e _; omega), hc _ _ (by omega)]; exact H.r2
  · rw [World.frozen?_setCell, hz _ _ (by omega)]; exact H.rf o
  · rw [World.cell?_setCell_other _ _ _ _ (by intro e; injection e with _ e; omega), hc _ _ (by omega)]; exact H.h0
  · rw [World.cell?_setCell_other _ _ _ _ (by intro e; injection e with _ e; omega), hc _ _ (by omega)]; exact H.h1
  · exact World.cell?_setCell_same _ _ _ ((hc _ _ (by omega)).trans H.h2)
  · rw [World.frozen?_setCell, hz _ _ (by omega)]; exact H.hf o
  · exact ownsRow_set hown (fun e => by have := (hown.lt _ e).1; omega)

theorem ownsRow_mono {w : World} {B B' e z : Nat} {v : Value} {n : Nat} {xs : List Value} (h : w.ownsRow B e z v n xs) (hB : B' ≤ B) : w.ownsRow B' e z v n xs := by
  obtain ⟨h1, h2⟩ := h
  refine ⟨h1, ?_⟩
  rcases h2 with h2 | ⟨g, cap, cur, hv, hg, r⟩
  · exact Or.inl h2
  · exact Or.inr ⟨g, cap, cur, hv, Nat.le_trans hB hg, r⟩

end Go.Proofs.YtncgpfapepminaaGreatDoor
/- The model's draw of picks: 'spec.l1Picks', walked. -/
namespace Go.Proofs.YtncgpfapepminaaGreatDoor
open Go.RowKit
end Go.Proofs.YtncgpfapepminaaGreatDoor
