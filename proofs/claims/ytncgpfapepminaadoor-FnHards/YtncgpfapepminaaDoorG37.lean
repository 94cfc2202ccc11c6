/- Draw5 in one text: what each says stands at its head below. -/
import Derived.Test.YtncgpfapepminaaDoorG05
import Derived.Test.YtncgpfapepminaaDoorG24
import Derived.Deep.CutRange
/- The model's draws of a header that may be bent: 'spec.l2Bent', 'spec.DrawPackHeader', walked. -/
namespace Go.Proofs.YtncgpfapepminaaDoor
open Go.RowKit

/-- Of the world that the walk stands in no more is kept than R. -/
theorem forget' {P : Program} {c : Code} {Q : Exit → Act → World → Prop} {a : Act} {w0 : World} (R : World → Prop) (h0 : R w0) (h : ∀ w, R w → c.wp P Q a w) : c.wp P Q a w0 := h _ h0

theorem iv_of_owns {w : World} {B t g n cap : Nat} {xs : List Int} (hn : xs.length = n) (h : w.ownsRow B t 1 (.slice (some ⟨g, 0, none⟩) n cap) n (xs.map (Value.int .i64))) (hm : xs.length ≤ 9223372036854775807) : IvI g (g + 1) w (.slice (some ⟨g, 0, none⟩) n cap) xs := by
  subst hn
  rcases h.2 with ⟨e, _⟩ | ⟨g', cap', cur, e, hg, hh, hnc, _⟩
  · cases e
  · injection e with e1 e2 e3
    injection e1 with e1
    injection e1 with e1
    subst e1 e3
    refine ⟨g, ⟨_, cap - xs.length, by rw [Nat.add_sub_cancel' hnc], hm, fun _ => ⟨g, 0, rfl, rfl, fun i hi => ?_⟩⟩, fun _ => ⟨Nat.le_refl _, by omega, (Array.getElem?_eq_some_iff.1 hh).1, fun o => h.frozenAt o⟩⟩
    rw [Nat.zero_add, h.cellAt i (by simpa using hi)]
    simp [List.getD, hi]

/-- A header that is being bent: in block h, the result's variable in block r; its addresses lie in another block. -/
structure BtAt (w : World) (s : Nat) (v : Value) (bs : List Nat) (t : Nat) (r h : Nat) (a b : Int) (ao : Option Addr) (n c : Nat) (xs : List Int) (N t5 : Nat) (wr : World) : Prop where
  dr : Drawn N s v bs t t5 w wr
  rw : w.heap.size ≤ r
  rh : r < h
  hl : h < wr.heap.size
  r0 : wr.cell? ⟨r, 0, none⟩ = some (.int .i64 0)
  r1 : wr.cell? ⟨r, 1, none⟩ = some (.int .i64 0)
  r2 : wr.cell? ⟨r, 2, none⟩ = some (.slice none 0 0)
  rf : ∀ o, wr.frozen? ⟨r, o, none⟩ = false
  h0 : wr.cell? ⟨h, 0, none⟩ = some (.int .i64 a)
  h1 : wr.cell? ⟨h, 1, none⟩ = some (.int .i64 b)
  h2 : wr.cell? ⟨h, 2, none⟩ = some (.slice ao n c)
  hf : ∀ o, wr.frozen? ⟨h, o, none⟩ = false
  own : ∃ lo hi, IvI lo hi wr (.slice ao n c) xs ∧ r < lo ∧ (hi ≤ h ∨ h < lo)
  len : xs.length = n

theorem BtAt.on {w : World} {s : Nat} {v : Value} {bs : List Nat} {t r h : Nat} {a b : Int} {xs : List Int} {ao : Option Addr} {n c N t5 t6 M : Nat} {wr w6 : World} (H : BtAt w s v bs t r h a b ao n c xs N t5 wr) (hs : s < w.heap.size) (hd : Drawn M s v bs t5 t6 wr w6) :
    BtAt w s v bs t r h a b ao n c xs (N + M) t6 w6 := by
  have hw := hd.2.1
  have h1 := H.rw
  have h2 := H.rh
  have h3 := H.hl
  refine ⟨H.dr.on hd, H.rw, H.rh, Nat.lt_of_lt_of_le H.hl hw.size, cell_wr hw H.r0 (by omega), cell_wr hw H.r1 (by omega), cell_wr hw H.r2 (by omega), fun o => (hw.frz _ _ (by omega)).trans (H.rf o),
    cell_wr hw H.h0 (by omega), cell_wr hw H.h1 (by omega), cell_wr hw H.h2 (by omega), fun o => (hw.frz _ _ (by omega)).trans (H.hf o), ?_, H.len⟩
  obtain ⟨lo, hi, k1, k2, k3⟩ := H.own
  exact ⟨lo, hi, k1.wr hw (fun b g1 g2 => by omega), k2, k3⟩
theorem BtAt.later {w : World} {s : Nat} {v : Value} {bs : List Nat} {t r h : Nat} {a b : Int} {xs : List Int} {ao : Option Addr} {n c N t5 : Nat} {wr w6 : World} (H : BtAt w s v bs t r h a b ao n c xs N t5 wr) (hb : Below wr.heap.size wr w6) :
    BtAt w s v bs t r h a b ao n c xs N t5 w6 := by
  have h2 := H.rh
  have h3 := H.hl
  refine ⟨H.dr.later hb, H.rw, H.rh, Nat.lt_of_lt_of_le H.hl hb.size, cell_later hb H.r0, cell_later hb H.r1, cell_later hb H.r2, fun o => ((bcell hb).2 _ _ (by omega)).trans (H.rf o),
    cell_later hb H.h0, cell_later hb H.h1, cell_later hb H.h2, fun o => ((bcell hb).2 _ _ (by omega)).trans (H.hf o), ?_, H.len⟩
  obtain ⟨lo, hi, k1, k2, k3⟩ := H.own
  exact ⟨lo, hi, k1.later hb, k2, k3⟩

/-- The end: the header is laid into the result's variable. -/
theorem BtAt.fin {w : World} {s : Nat} {v : Value} {bs : List Nat} {t r h : Nat} {a b : Int} {xs : List Int} {ao : Option Addr} {n c N t5 : Nat} {wr : World} (hS : Src s v bs w t) (H : BtAt w s v bs t r h a b ao n c xs N t5 wr) (x y z : Value) :
    OwI w.heap.size (((wr.setCell ⟨r, 0, none⟩ x).setCell ⟨r, 1, none⟩ y).setCell ⟨r, 2, none⟩ z) (.slice ao n c) xs ∧ Drawn N s v bs t t5 w (((wr.setCell ⟨r, 0, none⟩ x).setCell ⟨r, 1, none⟩ y).setCell ⟨r, 2, none⟩ z) := by
  have k1 := H.rw
  have hB : Below w.heap.size wr (((wr.setCell ⟨r, 0, none⟩ x).setCell ⟨r, 1, none⟩ y).setCell ⟨r, 2, none⟩ z) := (((Below.refl _ _).setCell k1 _).setCell k1 _).setCell k1 _
  have hW : Wr (fun y => y = r) wr (((wr.setCell ⟨r, 0, none⟩ x).setCell ⟨r, 1, none⟩ y).setCell ⟨r, 2, none⟩ z) := (((Wr.refl (fun y => y = r) _).setCell (p := ⟨r, 0, none⟩) rfl _).setCell (p := ⟨r, 1, none⟩) rfl _).setCell (p := ⟨r, 2, none⟩) rfl _
  refine ⟨?_, H.dr.onBelow hS hB⟩
  obtain ⟨lo, hi, g1, g2, g3⟩ := H.own
  obtain ⟨b', q1, q2⟩ := g1.wr hW (fun b e1 e2 => by omega)
  exact ⟨b', q1, fun hne => ⟨by have := (q2 hne).1; omega, (q2 hne).2.2.1, (q2 hne).2.2.2⟩⟩

theorem BtAt.set0 {w : World} {s : Nat} {v : Value} {bs : List Nat} {t r h : Nat} {a b : Int} {xs : List Int} {ao : Option Addr} {n c N t5 : Nat} {wr : World} (hS : Src s v bs w t) (H : BtAt w s v bs t r h a b ao n c xs N t5 wr) (x : Int) :
    BtAt w s v bs t r h x b ao n c xs N t5 (wr.setCell ⟨h, 0, none⟩ (.int .i64 x)) := by
  have k1 := H.rw
  have k2 := H.rh
  have hW : Wr (fun y => y = h) wr (wr.setCell ⟨h, 0, none⟩ (.int .i64 x)) := (Wr.refl (fun y => y = h) _).setCell (p := ⟨h, 0, none⟩) rfl _
  refine ⟨H.dr.onBelow hS ((Below.refl _ _).setCell (by simp; omega) _), H.rw, H.rh, by simpa using H.hl, cell_wr hW H.r0 (by omega), cell_wr hW H.r1 (by omega), cell_wr hW H.r2 (by omega), fun o => by rw [World.frozen?_setCell]; exact H.rf o, World.cell?_setCell_same _ _ _ H.h0, ?_, ?_, fun o => by rw [World.frozen?_setCell]; exact H.hf o, ?_, H.len⟩
  · rw [World.cell?_setCell_other _ _ _ _ (by simp)]; exact H.h1
  · rw [World.cell?_setCell_other _ _ _ _ (by simp)]; exact H.h2
  · obtain ⟨lo, hi, g1, g2, g3⟩ := H.own
    exact ⟨lo, hi, g1.wr hW (fun b e1 e2 => by omega), g2, g3⟩
theorem BtAt.set1 {w : World} {s : Nat} {v : Value} {bs : List Nat} {t r h : Nat} {a b : Int} {xs : List Int} {ao : Option Addr} {n c N t5 : Nat} {wr : World} (hS : Src s v bs w t) (H : BtAt w s v bs t r h a b ao n c xs N t5 wr) (x : Int) :
    BtAt w s v bs t r h a x ao n c xs N t5 (wr.setCell ⟨h, 1, none⟩ (.int .i64 x)) := by
  have k1 := H.rw
  have k2 := H.rh
  have hW : Wr (fun y => y = h) wr (wr.setCell ⟨h, 1, none⟩ (.int .i64 x)) := (Wr.refl (fun y => y = h) _).setCell (p := ⟨h, 1, none⟩) rfl _
  refine ⟨H.dr.onBelow hS ((Below.refl _ _).setCell (by simp; omega) _), H.rw, H.rh, by simpa using H.hl, cell_wr hW H.r0 (by omega), cell_wr hW H.r1 (by omega), cell_wr hW H.r2 (by omega), fun o => by rw [World.frozen?_setCell]; exact H.rf o, ?_, World.cell?_setCell_same _ _ _ H.h1, ?_, fun o => by rw [World.frozen?_setCell]; exact H.hf o, ?_, H.len⟩
  · rw [World.cell?_setCell_other _ _ _ _ (by simp)]; exact H.h0
  · rw [World.cell?_setCell_other _ _ _ _ (by simp)]; exact H.h2
  · obtain ⟨lo, hi, g1, g2, g3⟩ := H.own
    exact ⟨lo, hi, g1.wr hW (fun b e1 e2 => by omega), g2, g3⟩
theorem BtAt.set2 {w : World} {s : Nat} {v : Value} {bs : List Nat} {t r h : Nat} {a b : Int} {xs ys : List Int} {ao ao' : Option Addr} {n c N t5 n' c' lo hi : Nat} {wr w3 : World} (hS : Src s v bs w t) (H : BtAt w s v bs t r h a b ao n c xs N t5 wr) (hc : ∀ b o, b = r ∨ b = h → w3.cell? ⟨b, o, none⟩ = wr.cell? ⟨b, o, none⟩) (hz : ∀ b o, b = r ∨ b = h → w3.frozen? ⟨b, o, none⟩ = wr.frozen? ⟨b, o, none⟩) (hB2 : Below w.heap.size wr w3)
    (hi3 : IvI lo hi w3 (.slice ao' n' c') ys) (h1 : r < lo) (h2 : hi ≤ h ∨ h < lo) (hl : ys.length = n') :
    BtAt w s v bs t r h a b ao' n' c' ys N t5 (w3.setCell ⟨h, 2, none⟩ (.slice ao' n' c')) := by
  have k1 := H.rw
  have k2 := H.rh
  have k3 := H.hl
  have hW : Wr (fun y => y = h) w3 (w3.setCell ⟨h, 2, none⟩ (.slice ao' n' c')) := (Wr.refl (fun y => y = h) _).setCell (p := ⟨h, 2, none⟩) rfl _
  refine ⟨H.dr.onBelow hS (hB2.setCell (by simp; omega) _), H.rw, H.rh, by simp; have := hB2.size; omega, ?_, ?_, ?_, fun o => by rw [World.frozen?_setCell, hz _ _ (Or.inl rfl)]; exact H.rf o, ?_, ?_, World.cell?_setCell_same _ _ _ ((hc _ _ (Or.inr rfl)).trans H.h2), fun o => by rw [World.frozen?_setCell, hz _ _ (Or.inr rfl)]; exact H.hf o, ⟨lo, hi, hi3.wr hW (fun b e1 e2 => by omega), h1, h2⟩, hl⟩
  · exact cell_wr hW ((hc _ _ (Or.inl rfl)).trans H.r0) (by omega)
  · exact cell_wr hW ((hc _ _ (Or.inl rfl)).trans H.r1) (by omega)
  · exact cell_wr hW ((hc _ _ (Or.inl rfl)).trans H.r2) (by omega)
  · rw [World.cell?_setCell_other _ _ _ _ (by simp)]; exact (hc _ _ (Or.inr rfl)).trans H.h0
  · rw [World.cell?_setCell_other _ _ _ _ (by simp)]; exact (hc _ _ (Or.inr rfl)).trans H.h1
end Go.Proofs.YtncgpfapepminaaDoor
