/- Bo2a in one text: what each says stands at its head below. -/
import Derived.Test.YtlliggfggadidaaGreatDoorG25
import Derived.Test.YtlliggfggadidaaGreatDoorG01
namespace Go.Proofs.YtlliggfggadidaaGreatDoor
open Go.RowKit
theorem OwnsIn {w : World} {B e s : Nat} {v : Value} {n : Nat} {xs : List Value} (h : w.ownsRow B e s v n xs) : ∀ r, v.ownBlock = some r → B ≤ r ∧ r < w.heap.size := fun r hr => by
  rcases h.2 with ⟨e1, _⟩ | ⟨g, cap, cur, e1, hg, hh, _⟩
  · rw [e1] at hr; cases hr
  · rw [e1] at hr
    injection hr with hr
    subst hr
    exact ⟨hg, (Array.getElem?_eq_some_iff.1 hh).1⟩
theorem owns_rdB {w : World} {B : Nat} {g cap n : Nat} {xs : List Int} (hn : xs.length = n) (h : w.ownsRow B 2 1 (.slice (some ⟨g, 0, none⟩) n cap) n (xs.map (Value.int .i64))) (hm : xs.length ≤ 1048576) : RdI (· = g) w (.slice (some ⟨g, 0, none⟩) n cap) xs := by
  subst hn
  have hnc : xs.length ≤ cap := by
    rcases h.2 with ⟨e, _⟩ | ⟨g', cap', cur, e, _, _, hnc, _⟩
    · cases e
    · injection e with _ _ e; omega
  refine ⟨_, cap - xs.length, by rw [Nat.add_sub_cancel' hnc], by omega, fun _ => ⟨g, 0, rfl, rfl, fun i hi => ?_⟩⟩
  rw [Nat.zero_add, h.cellAt i (by simpa using hi)]
  simp [List.getD, hi]
section
variable {w : World} {s : Nat} {v : Value} {bs : List Nat} {t N RR : Nat} {Q : Rf} {y z : Value} {t5 : Nat} {wr w6 : World}
theorem BgI.pushW {x : Int} {o : Obj} {g cap : Nat} (HS : Src s v bs w t) (h : BgI w s v bs t N RR Q y z t5 wr) (hrow : wr.ownsRow (w.heap.size + 1) 2 1 y Q.sn.length (Q.sn.map (Value.int .i64))) (hob : ∀ r, y.ownBlock = some r → r < RR) (hone : (Q.sn = [] ∧ y = .slice none 0 0) ∨ (Q.lg = [] ∧ z = .slice none 0 0)) (hln : Q.sn.length ≤ 1000)
    (hown : w6.ownsRow (w.heap.size + 1) 2 1 (.slice (some ⟨g, 0, none⟩) (Q.sn.length + 1) cap) (Q.sn.length + 1) ((Q.sn.map (Value.int .i64)) ++ [.int .i64 x])) (hgrow : (wr.alloc o).grownBy w6 y.ownBlock) (hat : y.ownBlock = some g ∨ g = wr.heap.size + 1) :
    Var6 w6 RR (.int .i64 Q.tm) (.int .i64 Q.vt) (.int .i64 Q.si) (.int .i64 Q.st) y z ∧ (∀ o, w6.frozen? ⟨RR, o, none⟩ = false) ∧ BgI w s v bs t N RR { Q with sn := Q.sn ++ [x] } (.slice (some ⟨g, 0, none⟩) (Q.sn.length + 1) cap) z t5 (w6.setCell ⟨RR, 4, none⟩ (.slice (some ⟨g, 0, none⟩) (Q.sn.length + 1) cap)) := by
  have hb4 := below_alloc wr o
  have H4 := h.later hb4
  obtain ⟨w4, hw4⟩ : ∃ q, wr.alloc o = q := ⟨_, rfl⟩
  have hs4 : w4.heap.size = wr.heap.size + 1 := by rw [← hw4]; simp
  rw [hw4] at hb4 H4 hgrow
  have hRl := h.lt
  have hg := h.ge
  have ho := OwnsIn hrow
  have hB : Below (w.heap.size + 1) w4 w6 := (Below.refl _ _).grown hgrow (by omega) (fun r hr => (ho r hr).1)
  have hnR : some RR ≠ y.ownBlock := fun e => by have := hob RR e.symm; omega
  have hv5 : Var6 w6 RR (.int .i64 Q.tm) (.int .i64 Q.vt) (.int .i64 Q.si) (.int .i64 Q.st) y z := by
    obtain ⟨a0, a1, a2, a3, a4, a5⟩ := H4.var
    have hlt : RR < w4.heap.size := H4.lt
    exact ⟨(hgrow.cell_far ⟨RR, 0, none⟩ hlt hnR).trans a0, (hgrow.cell_far ⟨RR, 1, none⟩ hlt hnR).trans a1, (hgrow.cell_far ⟨RR, 2, none⟩ hlt hnR).trans a2, (hgrow.cell_far ⟨RR, 3, none⟩ hlt hnR).trans a3, (hgrow.cell_far ⟨RR, 4, none⟩ hlt hnR).trans a4, (hgrow.cell_far ⟨RR, 5, none⟩ hlt hnR).trans a5⟩
  have hf5 : ∀ o, w6.frozen? ⟨RR, o, none⟩ = false := fun o => (hgrow.frozen_far ⟨RR, o, none⟩ H4.lt hnR).trans (H4.vfz o)
  have hgs : w.heap.size < g ∧ g < w6.heap.size := by
    have := OwnsIn hown g rfl
    omega
  have hgR : g ≠ RR := fun e => by
    rcases hat with hat | hat
    · have := hob g hat; omega
    · omega
  have hwx : Wr (· = RR) w6 (w6.setCell ⟨RR, 4, none⟩ (.slice (some ⟨g, 0, none⟩) (Q.sn.length + 1) cap)) := (Wr.refl (· = RR) w6).setCell (p := ⟨RR, 4, none⟩) rfl _
  have hsz := hB.size
  have hmem : MemG w.heap.size RR w6 (.slice (some ⟨g, 0, none⟩) (Q.sn.length + 1) cap) z (Q.sn ++ [x]) Q.lg := by
    have hrd : RdI (· = g) w6 (.slice (some ⟨g, 0, none⟩) (Q.sn.length + 1) cap) (Q.sn ++ [x]) := owns_rdB (by simp) (by rw [List.map_append]; exact hown) (by simp; omega)
    have hfz : ∀ o, w6.frozen? ⟨g, o, none⟩ = false := fun o => hown.frozenAt o
    rcases hone with ⟨e1, e2⟩ | ⟨e1, e2⟩
    · obtain ⟨b0, S0, _, _, m3, m4⟩ := h.mem
      have hb5 : Below w4.heap.size w4 w6 := (Below.refl _ _).grown hgrow (Nat.le_refl _) (fun r hr => by rw [e2] at hr; cases hr)
      have hgn : g = wr.heap.size + 1 := by
        rcases hat with hat | hat
        · rw [e2] at hat; cases hat
        · exact hat
      refine ⟨g, S0, hrd, fun _ => ⟨hgs.1, hgs.2, hgR, fun e => by have := (m3 g e).2.1; omega, hfz⟩, fun q hq => ⟨(m3 q hq).1, by have := (m3 q hq).2.1; omega, (m3 q hq).2.2⟩, ?_⟩
      exact (m4.later hb4).lowB hb5 (fun q hq => by have := (m3 q hq).2.1; omega)
    · refine ⟨g, fun _ => False, hrd, fun _ => ⟨hgs.1, hgs.2, hgR, fun e => e, hfz⟩, fun q hq => hq.elim, ?_⟩
      rw [e1, e2]
      exact OwJ_nil _ _
  refine ⟨hv5, hf5, ?_⟩
  obtain ⟨r0, r1, r2, r3, r4, r5⟩ := hv5
  have e4 := hf5 4
  have hrs := H4.res.lt
  exact ⟨Drawn.onBelow HS (Drawn.onBelow HS H4.dr (hB.mono (by omega))) (hwx.below (by omega) (fun q e => by omega)), (H4.res.lowB hB (by omega)).wr hwx (by show ¬ w.heap.size = RR; omega), fun o => (hwx.frz _ _ (by omega)).trans ((hB.frozen (p := ⟨w.heap.size, o, none⟩) (by show w.heap.size < w.heap.size + 1; omega)).trans (H4.rfz o)), ⟨by simp [go_sem, r0], by simp [go_sem, r1], by simp [go_sem, r2], by simp [go_sem, r3], by simp [go_sem, r4], by simp [go_sem, r5]⟩, fun o => (hwx.frz _ _ (by have := H4.lt; omega)).trans (hf5 o), hmem.wr hwx (fun b _ k e => k e), hg, h.old⟩
end
end Go.Proofs.YtlliggfggadidaaGreatDoor
