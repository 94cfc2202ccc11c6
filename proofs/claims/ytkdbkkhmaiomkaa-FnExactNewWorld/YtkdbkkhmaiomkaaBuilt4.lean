/- 'spec.l1Copy', walked. -/
import Derived.Test.YtkdbkkhmaiomkaaBuilt3
import Derived.Deep.RegionLaw
namespace Go.Proofs.Ytkdbkkhmaiomkaa
open Go.RowKit

theorem Inner.set {P : Nat → Prop} {w : World} {row : Option Nat} {k : Nat} {V : Nat → Value} {Bk : Nat → Nat} {X : Nat → List Int} (h : Inner P w row k V Bk X) {r o : Nat} {x : Value} (hr : ∀ b, P b → b ≠ r) : Inner P (w.setCell ⟨r, o, none⟩ x) row k V Bk X := by
  refine ⟨fun i hi => (h.rd i hi).setOther fun hn => hr _ (h.own i hi hn).1, fun i hi hn => ?_⟩
  obtain ⟨h1, h2, h3, h4, h5⟩ := h.own i hi hn
  exact ⟨h1, by simpa using h2, fun o => by rw [World.frozen?_setCell]; exact h3 o, h4, h5⟩

theorem ownsRow_set {w : World} {B e s r o : Nat} {v x : Value} {n : Nat} {xs : List Value} (h : w.ownsRow B e s v n xs) (hr : v.ownBlock ≠ some r) : (w.setCell ⟨r, o, none⟩ x).ownsRow B e s v n xs := by
  obtain ⟨h1, h2⟩ := h
  refine ⟨h1, ?_⟩
  rcases h2 with h2 | ⟨g, cap, cur, rfl, hg, hh, t⟩
  · exact Or.inl h2
  · exact Or.inr ⟨g, cap, cur, rfl, hg, by rw [Below.heap_setCell _ _ _ _ (fun e => hr (congrArg some e))]; exact hh, t⟩

theorem BuiltII.set {P : Nat → Prop} {w : World} {v : Value} {k : Nat} {xss : List (List Int)} (h : BuiltII P w v k xss) {r o : Nat} {x : Value} (hr : ∀ b, P b → b ≠ r) : BuiltII P (w.setCell ⟨r, o, none⟩ x) v k xss := by
  obtain ⟨V, Bk, h1, h2, h3⟩ := h
  exact ⟨V, Bk, ownsRow_set h1 (fun e => hr _ (h2 _ e) rfl), h2, h3.set hr⟩
theorem BuiltP.set {P : Nat → Prop} {w : World} {v : Value} {k : Nat} {ps : List (Int × List Int)} (h : BuiltP P w v k ps) {r o : Nat} {x : Value} (hr : ∀ b, P b → b ≠ r) : BuiltP P (w.setCell ⟨r, o, none⟩ x) v k ps := by
  obtain ⟨V, Bk, h1, h2, h3⟩ := h
  exact ⟨V, Bk, ownsRow_set h1 (fun e => hr _ (h2 _ e) rfl), h2, h3.set hr⟩

theorem BuiltP.below {P : Nat → Prop} {w w' : World} {v : Value} {k B : Nat} {ps : List (Int × List Int)} (h : BuiltP P w v k ps) (hb : Below B w w') (hP : ∀ b, P b → b < B) : BuiltP P w' v k ps := by
  obtain ⟨V, Bk, h1, h2, h3⟩ := h
  refine ⟨V, Bk, ?_, h2, fun i hi => ?_, fun i hi hn => ?_⟩
  · obtain ⟨k1, k2⟩ := h1
    refine ⟨k1, ?_⟩
    rcases k2 with k2 | ⟨g, cap, cur, rfl, hg, hh, t⟩
    · exact Or.inl k2
    · exact Or.inr ⟨g, cap, cur, rfl, hg, by rw [hb.block g (hP g (h2 g rfl))]; exact hh, t⟩
  · obtain ⟨ao, c, e1, e2, e3⟩ := h3.rd i hi
    refine ⟨ao, c, e1, e2, fun hne => ?_⟩
    obtain ⟨b, off, f1, f2, f3⟩ := e3 hne
    refine ⟨b, off, f1, f2, fun t ht => ?_⟩
    rw [hb.cell (p := ⟨b, off + t, none⟩) (by rw [f2]; exact hP _ (h3.own i hi hne).1)]
    exact f3 t ht
  · obtain ⟨q1, q2, q3, q4, q5⟩ := h3.own i hi hn
    exact ⟨q1, Nat.lt_of_lt_of_le q2 hb.size, fun o => (hb.frozen (p := ⟨Bk i, o, none⟩) (hP _ q1)).trans (q3 o), q4, q5⟩

/-- What the copying loop knows behind k blocks; b: the block of the copy's variable. -/
structure CopyAt (xss : List (List Int)) (b : Nat) (vc : Value) (w1 : World) (k : Nat) (v : Value) (wr : World) : Prop where
  below : Below b w1 wr
  size : b < wr.heap.size
  rows : BuiltII (b + 1 ≤ ·) wr v k xss
  cell0 : wr.cell? ⟨b, 0, none⟩ = some v
  cell1 : wr.cell? ⟨b, 1, none⟩ = some vc
  free : ∀ o, wr.frozen? ⟨b, o, none⟩ = false

theorem CopyAt.step {xss : List (List Int)} {b : Nat} {vc v z : Value} {w1 wr w2 w3 : World} {k g cap : Nat} {V : Nat → Value} {Bk : Nat → Nat} {o : Obj} (h : CopyAt xss b vc w1 k v wr)
    (hi : Inner (b + 1 ≤ ·) wr v.ownBlock k V Bk (fun i => xss.getD i [])) (hr : wr.ownsRow 0 26 1 v k ((List.range k).map V)) (hpr : ∀ r, v.ownBlock = some r → b + 1 ≤ r)
    (hb2 : Below wr.heap.size wr w2) (hz : OwI wr.heap.size w2 z (xss.getD k [])) (hown : w3.ownsRow 0 26 1 (.slice (some ⟨g, 0, none⟩) (k + 1) cap) (k + 1) ((List.range k).map V ++ [z]))
    (hg : (w2.alloc o).grownBy w3 v.ownBlock) (hat : v.ownBlock = some g ∨ g = (w2.alloc o).heap.size) :
    CopyAt xss b vc w1 (k + 1) (.slice (some ⟨g, 0, none⟩) (k + 1) cap) (w3.setCell ⟨b, 0, none⟩ (.slice (some ⟨g, 0, none⟩) (k + 1) cap)) := by
  have hsz := h.size
  have hs2 := hb2.size
  have hs3 := hg.size
  simp only [World.size_alloc] at hs3
  have far : ∀ o', w3.cell? ⟨b, o', none⟩ = wr.cell? ⟨b, o', none⟩ := fun o' => by
    rw [hg.cell_far ⟨b, o', none⟩ (by simp; omega) (fun e => by have := hpr _ e.symm; dsimp only at this; omega)]
    exact ((bcell (below_alloc w2 o)).1 _ _ (by omega)).trans ((bcell hb2).1 _ _ hsz)
  have farf : ∀ o', w3.frozen? ⟨b, o', none⟩ = wr.frozen? ⟨b, o', none⟩ := fun o' => by
    rw [hg.frozen_far ⟨b, o', none⟩ (by simp; omega) (fun e => by have := hpr _ e.symm; dsimp only at this; omega)]
    exact ((bcell (below_alloc w2 o)).2 _ _ (by omega)).trans ((bcell hb2).2 _ _ hsz)
  refine ⟨?_, by simp; omega, ?_, World.cell?_setCell_same _ _ _ ((far 0).trans h.cell0), ?_, fun o' => by rw [World.frozen?_setCell]; exact (farf o').trans (h.free o')⟩
  · exact ((h.below.trans ((below_on hb2 (below_alloc w2 o)).mono (by omega))).grown hg (by simp; omega) (fun r hr' => by have := hpr r hr'; omega)).setCell (Nat.le_refl _) _
  · exact (BuiltII.step (P' := (b + 1 ≤ ·)) hi hr hpr (fun _ h => h) (fun x hx => by omega) hb2 hz (below_alloc w2 o) hown hg hat).set (fun x hx => by omega)
  · rw [World.cell?_setCell_other _ _ _ _ (by simp)]
    exact (far 1).trans h.cell1

end Go.Proofs.Ytkdbkkhmaiomkaa
