/- Draw5 Draw9 in one text: what each says stands at its head below. -/
import Derived.Test.YtamknomapabmfaaGreatG10
import Derived.Deep.CutRange
/- The model's draws of a header that may be bent: 'spec.l2Bent', 'spec.DrawPackHeader', walked. -/
namespace Go.Proofs.YtamknomapabmfaaGreat
open Go.RowKit

/-- Of the world that the walk stands in no more is kept than R. -/
theorem forget' {P : Program} {c : Code} {Q : Exit → Act → World → Prop} {a : Act} {w0 : World} (R : World → Prop) (h0 : R w0) (h : ∀ w, R w → c.wp P Q a w) : c.wp P Q a w0 := h _ h0

theorem iv_of_owns {w : World} {B t g n cap : Nat} {xs : List Int} (hn : xs.length = n) (h : w.ownsRow B t 1 (.slice (some ⟨g, 0, none⟩) n cap) n (xs.map (Value.int .i64))) (hm : xs.length ≤ 9223372036854775807) : IvI g (g + 1) w (.slice (some ⟨g, 0, none⟩) n cap) xs := by
  subst hn
  rcases h.2 with ⟨e, _⟩ | ⟨g', cap', cur, e, hg, hh, hnc, _⟩
  · cases e
  · injection e with e1 e2 e3
    injection e1 with e1
    injection e1 with e1
    subst e1 e3
    refine ⟨g, ⟨_, cap - xs.length, by rw [Nat.add_sub_cancel' hnc], hm, fun _ => ⟨g, 0, rfl, rfl, fun i hi => ?_⟩⟩, fun _ => ⟨Nat.le_refl _, by omega, (Array.getElem?_eq_some_iff.1 hh).1, fun o => h.frozenAt o⟩⟩
    rw [Nat.zero_add, h.cellAt i (by simpa using hi)]
    simp [List.getD, hi]

/-- A header that is being bent: in block h, the result's variable in block r; its addresses lie in another block. -/
structure BtAt (w : World) (s : Nat) (v : Value) (bs : List Nat) (t : Nat) (r h : Nat) (a b : Int) (ao : Option Addr) (n c : Nat) (xs : List Int) (N t5 : Nat) (wr : World) : Prop where
  dr : Drawn N s v bs t t5 w wr
  rw : w.heap.size ≤ r
  rh : r < h
  hl : h < wr.heap.size
  r0 : wr.cell? ⟨r, 0, none⟩ = some (.int .i64 0)
  r1 : wr.cell? ⟨r, 1, none⟩ = some (.int .i64 0)
  r2 : wr.cell? ⟨r, 2, none⟩ = some (.slice none 0 0)
  rf : ∀ o, wr.frozen? ⟨r, o, none⟩ = false
  h0 : wr.cell? ⟨h, 0, none⟩ = some (.int .i64 a)
  h1 : wr.cell? ⟨h, 1, none⟩ = some (.int .i64 b)
  h2 : wr.cell? ⟨h, 2, none⟩ = some (.slice ao n c)
  hf : ∀ o, wr.frozen? ⟨h, o, none⟩ = false
  own : ∃ lo hi, IvI lo hi wr (.slice ao n c) xs ∧ r < lo ∧ (hi ≤ h ∨ h < lo)
  len : xs.length = n

theorem BtAt.on {w : World} {s : Nat} {v : Value} {bs : List Nat} {t r h : Nat} {a b : Int} {xs : List Int} {ao : Option Addr} {n c N t5 t6 M : Nat} {wr w6 : World} (H : BtAt w s v bs t r h a b ao n c xs N t5 wr) (hs : s < w.heap.size) (hd : Drawn M s v bs t5 t6 wr w6) :
    BtAt w s v bs t r h a b ao n c xs (N + M) t6 w6 := by
  have hw := hd.2.1
  have h1 := H.rw
  have h2 := H.rh
  have h3 := H.hl
  refine ⟨H.dr.on hd, H.rw, H.rh, Nat.lt_of_lt_of_le H.hl hw.size, cell_wr hw H.r0 (by omega), cell_wr hw H.r1 (by omega), cell_wr hw H.r2 (by omega), fun o => (hw.frz _ _ (by omega)).trans (H.rf o),
    cell_wr hw H.h0 (by omega), cell_wr hw H.h1 (by omega), cell_wr hw H.h2 (by omega), fun o => (hw.frz _ _ (by omega)).trans (H.hf o), ?_, H.len⟩
  obtain ⟨lo, hi, k1, k2, k3⟩ := H.own
  exact ⟨lo, hi, k1.wr hw (fun b g1 g2 => by omega), k2, k3⟩
theorem BtAt.later {w : World} {s : Nat} {v : Value} {bs : List Nat} {t r h : Nat} {a b : Int} {xs : List Int} {ao : Option Addr} {n c N t5 : Nat} {wr w6 : World} (H : BtAt w s v bs t r h a b ao n c xs N t5 wr) (hb : Below wr.heap.size wr w6) :
    BtAt w s v bs t r h a b ao n c xs N t5 w6 := by
  have h2 := H.rh
  have h3 := H.hl
  refine ⟨H.dr.later hb, H.rw, H.rh, Nat.lt_of_lt_of_le H.hl hb.size, cell_later hb H.r0, cell_later hb H.r1, cell_later hb H.r2, fun o => ((bcell hb).2 _ _ (by omega)).trans (H.rf o),
    cell_later hb H.h0, cell_later hb H.h1, cell_later hb H.h2, fun o => ((bcell hb).2 _ _ (by omega)).trans (H.hf o), ?_, H.len⟩
  obtain ⟨lo, hi, k1, k2, k3⟩ := H.own
  exact ⟨lo, hi, k1.later hb, k2, k3⟩

/-- The end: the header is laid into the result's variable. -/
theorem BtAt.fin {w : World} {s : Nat} {v : Value} {bs : List Nat} {t r h : Nat} {a b : Int} {xs : List Int} {ao : Option Addr} {n c N t5 : Nat} {wr : World} (hS : Src s v bs w t) (H : BtAt w s v bs t r h a b ao n c xs N t5 wr) (x y z : Value) :
    OwI w.heap.size (((wr.setCell ⟨r, 0, none⟩ x).setCell ⟨r, 1, none⟩ y).setCell ⟨r, 2, none⟩ z) (.slice ao n c) xs ∧ Drawn N s v bs t t5 w (((wr.setCell ⟨r, 0, none⟩ x).setCell ⟨r, 1, none⟩ y).setCell ⟨r, 2, none⟩ z) := by
  have k1 := H.rw
  have hB : Below w.heap.size wr (((wr.setCell ⟨r, 0, none⟩ x).setCell ⟨r, 1, none⟩ y).setCell ⟨r, 2, none⟩ z) := (((Below.refl _ _).setCell k1 _).setCell k1 _).setCell k1 _
  have hW : Wr (fun y => y = r) wr (((wr.setCell ⟨r, 0, none⟩ x).setCell ⟨r, 1, none⟩ y).setCell ⟨r, 2, none⟩ z) := (((Wr.refl (fun y => y = r) _).setCell (p := ⟨r, 0, none⟩) rfl _).setCell (p := ⟨r, 1, none⟩) rfl _).setCell (p := ⟨r, 2, none⟩) rfl _
  refine ⟨?_, H.dr.onBelow hS hB⟩
  obtain ⟨lo, hi, g1, g2, g3⟩ := H.own
  obtain ⟨b', q1, q2⟩ := g1.wr hW (fun b e1 e2 => by omega)
  exact ⟨b', q1, fun hne => ⟨by have := (q2 hne).1; omega, (q2 hne).2.2.1, (q2 hne).2.2.2⟩⟩

theorem BtAt.set0 {w : World} {s : Nat} {v : Value} {bs : List Nat} {t r h : Nat} {a b : Int} {xs : List Int} {ao : Option Addr} {n c N t5 : Nat} {wr : World} (hS : Src s v bs w t) (H : BtAt w s v bs t r h a b ao n c xs N t5 wr) (x : Int) :
    BtAt w s v bs t r h x b ao n c xs N t5 (wr.setCell ⟨h, 0, none⟩ (.int .i64 x)) := by
  have k1 := H.rw
  have k2 := H.rh
  have hW : Wr (fun y => y = h) wr (wr.setCell ⟨h, 0, none⟩ (.int .i64 x)) := (Wr.refl (fun y => y = h) _).setCell (p := ⟨h, 0, none⟩) rfl _
  refine ⟨H.dr.onBelow hS ((Below.refl _ _).setCell (by simp; omega) _), H.rw, H.rh, by simpa using H.hl, cell_wr hW H.r0 (by omega), cell_wr hW H.r1 (by omega), cell_wr hW H.r2 (by omega), fun o => by rw [World.frozen?_setCell]; exact H.rf o, World.cell?_setCell_same _ _ _ H.h0, ?_, ?_, fun o => by rw [World.frozen?_setCell]; exact H.hf o, ?_, H.len⟩
  · rw [World.cell?_setCell_other _ _ _ _ (by simp)]; exact H.h1
  · rw [World.cell?_setCell_other _ _ _ _ (by simp)]; exact H.h2
  · obtain ⟨lo, hi, g1, g2, g3⟩ := H.own
    exact ⟨lo, hi, g1.wr hW (fun b e1 e2 => by omega), g2, g3⟩
theorem BtAt.set1 {w : World} {s : Nat} {v : Value} {bs : List Nat} {t r h : Nat} {a b : Int} {xs : List Int} {ao : Option Addr} {n c N t5 : Nat} {wr : World} (hS : Src s v bs w t) (H : BtAt w s v bs t r h a b ao n c xs N t5 wr) (x : Int) :
    BtAt w s v bs t r h a x ao n c xs N t5 (wr.setCell ⟨h, 1, none⟩ (.int .i64 x)) := by
  have k1 := H.rw
  have k2 := H.rh
  have hW : Wr (fun y => y = h) wr (wr.setCell ⟨h, 1, none⟩ (.int .i64 x)) := (Wr.refl (fun y => y = h) _).setCell (p := ⟨h, 1, none⟩) rfl _
  refine ⟨H.dr.onBelow hS ((Below.refl _ _).setCell (by simp; omega) _), H.rw, H.rh, by simpa using H.hl, cell_wr hW H.r0 (by omega), cell_wr hW H.r1 (by omega), cell_wr hW H.r2 (by omega), fun o => by rw [World.frozen?_setCell]; exact H.rf o, ?_, World.cell?_setCell_same _ _ _ H.h1, ?_, fun o => by rw [World.frozen?_setCell]; exact H.hf o, ?_, H.len⟩
  · rw [World.cell?_setCell_other _ _ _ _ (by simp)]; exact H.h0
  · rw [World.cell?_setCell_other _ _ _ _ (by simp)]; exact H.h2
  · obtain ⟨lo, hi, g1, g2, g3⟩ := H.own
    exact ⟨lo, hi, g1.wr hW (fun b e1 e2 => by omega), g2, g3⟩
theorem BtAt.set2 {w : World} {s : Nat} {v : Value} {bs : List Nat} {t r h : Nat} {a b : Int} {xs ys : List Int} {ao ao' : Option Addr} {n c N t5 n' c' lo hi : Nat} {wr w3 : World} (hS : Src s v bs w t) (H : BtAt w s v bs t r h a b ao n c xs N t5 wr) (hc : ∀ b o, b = r ∨ b = h → w3.cell? ⟨b, o, none⟩ = wr.cell? ⟨b, o, none⟩) (hz : ∀ b o, b = r ∨ b = h → w3.frozen? ⟨b, o, none⟩ = wr.frozen? ⟨b, o, none⟩) (hB2 : Below w.heap.size wr w3)
    (hi3 : IvI lo hi w3 (.slice ao' n' c') ys) (h1 : r < lo) (h2 : hi ≤ h ∨ h < lo) (hl : ys.length = n') :
    BtAt w s v bs t r h a b ao' n' c' ys N t5 (w3.setCell ⟨h, 2, none⟩ (.slice ao' n' c')) := by
  have k1 := H.rw
  have k2 := H.rh
  have k3 := H.hl
  have hW : Wr (fun y => y = h) w3 (w3.setCell ⟨h, 2, none⟩ (.slice ao' n' c')) := (Wr.refl (fun y => y = h) _).setCell (p := ⟨h, 2, none⟩) rfl _
  refine ⟨H.dr.onBelow hS (hB2.setCell (by simp; omega) _), H.rw, H.rh, by simp; have := hB2.size; omega, ?_, ?_, ?_, fun o => by rw [World.frozen?_setCell, hz _ _ (Or.inl rfl)]; exact H.rf o, ?_, ?_, World.cell?_setCell_same _ _ _ ((hc _ _ (Or.inr rfl)).trans H.h2), fun o => by rw [World.frozen?_setCell, hz _ _ (Or.inr rfl)]; exact H.hf o, ⟨lo, hi, hi3.wr hW (fun b e1 e2 => by omega), h1, h2⟩, hl⟩
  · exact cell_wr hW ((hc _ _ (Or.inl rfl)).trans H.r0) (by omega)
  · exact cell_wr hW ((hc _ _ (Or.inl rfl)).trans H.r1) (by omega)
  · exact cell_wr hW ((hc _ _ (Or.inl rfl)).trans H.r2) (by omega)
  · rw [World.cell?_setCell_other _ _ _ _ (by simp)]; exact (hc _ _ (Or.inr rfl)).trans H.h0
  · rw [World.cell?_setCell_other _ _ _ _ (by simp)]; exact (hc _ _ (Or.inr rfl)).trans H.h1
end Go.Proofs.YtamknomapabmfaaGreat
/- A disk that is being drawn: what is kept of it on the way. -/
namespace Go.Proofs.YtamknomapabmfaaGreat
open Go.RowKit

theorem Inner.wr {P : Nat → Prop} {w w' : World} {row : Option Nat} {k s : Nat} {V : Nat → Value} {Bk : Nat → Nat} {X : Nat → List Int} (h : Inner P w row k V Bk X) (hw : Wr (· = s) w w') (hs : ∀ b, P b → b ≠ s) : Inner P w' row k V Bk X :=
  ⟨fun i hi => (h.rd i hi).wr hw (fun hne b hb e => hs _ (h.own i hi hne).1 (hb ▸ e)), fun i hi hn => by
    obtain ⟨h1, h2, h3, h4, h5⟩ := h.own i hi hn
    exact ⟨h1, Nat.lt_of_lt_of_le h2 hw.size, fun o => (hw.frz _ _ h2).trans (h3 o), h4, h5⟩⟩
theorem BuiltP.wr {P : Nat → Prop} {w w' : World} {v : Value} {k s : Nat} {ps : List (Int × List Int)} (h : BuiltP P w v k ps) (hw : Wr (· = s) w w') (hs : ∀ b, P b → b ≠ s) : BuiltP P w' v k ps := by
  obtain ⟨V, Bk, h1, h2, h3⟩ := h
  exact ⟨V, Bk, ownsRow_wr h1 hw (fun e => hs _ (h2 _ e) rfl), h2, h3.wr hw hs⟩

theorem Inner.add {P P' : Nat → Prop} {w2 w3 : World} {row : Option Nat} {k g K : Nat} {V : Nat → Value} {Bk : Nat → Nat} {X : Nat → List Int} {z : Value}
    (h2 : Inner P w2 row k V Bk X) (hP : ∀ b, P b → P' b) (hN : ∀ b, K ≤ b → P' b) (hK : ∀ b, P b → b < K) (hrow : ∀ r, row = some r → r < K) (hz : OwI K w2 z (X k))
    (hg : w2.grownBy w3 row) (hat : row = some g ∨ g = w2.heap.size) :
    ∃ Bk', Inner P' w3 (some g) (k + 1) (fun i => if i = k then z else V i) Bk' X := by
  obtain ⟨bz, hz1, hz2⟩ := hz
  have keep : ∀ b o, b < w2.heap.size → some b ≠ row → w3.cell? ⟨b, o, none⟩ = w2.cell? ⟨b, o, none⟩ := fun b o hl hne => hg.cell_far ⟨b, o, none⟩ hl hne
  have keepf : ∀ b o, b < w2.heap.size → some b ≠ row → w3.frozen? ⟨b, o, none⟩ = w2.frozen? ⟨b, o, none⟩ := fun b o hl hne => hg.frozen_far ⟨b, o, none⟩ hl hne
  refine ⟨fun i => if i = k then bz else Bk i, fun i hi => ?_, fun i hi hn => ?_⟩
  · by_cases e : i = k
    · subst e
      simp only [if_true]
      obtain ⟨ao, c, e1, e2, e3⟩ := hz1
      refine ⟨ao, c, e1, e2, fun hne => ?_⟩
      obtain ⟨b, off, f1, f2, f3⟩ := e3 hne
      subst f2
      refine ⟨b, off, f1, rfl, fun t ht => ?_⟩
      rw [keep _ _ (World.block_lt_of_cell? _ _ (f3 t ht)) (fun e => by have := hrow b e.symm; have := (hz2 hne).1; omega)]
      exact f3 t ht
    · simp only [if_neg e]
      obtain ⟨ao, c, e1, e2, e3⟩ := h2.rd i (by omega)
      refine ⟨ao, c, e1, e2, fun hne => ?_⟩
      obtain ⟨b, off, f1, f2, f3⟩ := e3 hne
      subst f2
      refine ⟨Bk i, off, f1, rfl, fun t ht => ?_⟩
      rw [keep _ _ (World.block_lt_of_cell? _ _ (f3 t ht)) (fun e => (h2.own i (by omega) hne).2.2.2.1 e.symm)]
      exact f3 t ht
  · have hsz3 := hg.size
    by_cases e : i = k
    · subst e
      simp only [if_true]
      obtain ⟨k1, k2, k3⟩ := hz2 hn
      refine ⟨hN _ k1, by omega, fun o => ?_, ?_, fun j hj hj' ej => ?_⟩
      · rw [keepf _ _ (by omega) (fun e => by have := hrow bz e.symm; omega)]
        exact k3 o
      · intro e
        injection e with e
        rcases hat with hat | hat
        · have := hrow g hat; omega
        · omega
      · by_cases e2 : j = i
        · exact e2
        · simp only [if_neg e2] at ej
          have := hK _ (h2.own j (by omega) hj').1
          omega
    · simp only [if_neg e]
      obtain ⟨k1, q2, q3, k4, k5⟩ := h2.own i (by omega) hn
      refine ⟨hP _ k1, by omega, fun o => ?_, ?_, fun j hj hj' ej => ?_⟩
      · rw [keepf _ _ q2 (fun e => k4 e.symm)]
        exact q3 o
      · intro e
        injection e with e
        rcases hat with hat | hat
        · exact k4 (by rw [hat, e])
        · omega
      · by_cases e2 : j = k
        · subst e2
          simp only [if_true] at ej
          have := (hz2 hj').1
          have := hK _ k1
          omega
        · simp only [if_neg e2] at ej
          exact k5 j (by omega) hj' ej

theorem BuiltP.add {P P' : Nat → Prop} {w2 w3 : World} {v z : Value} {k g cap K : Nat} {V : Nat → Value} {Bk : Nat → Nat} {ps : List (Int × List Int)} (hi : Inner P w2 v.ownBlock k V Bk (fun i => (ps.getD i (0, [])).2)) (hpr : ∀ r, v.ownBlock = some r → P r)
    (hP : ∀ b, P b → P' b) (hN : ∀ b, K ≤ b → P' b) (hK : ∀ b, P b → b < K) (hK2 : K ≤ w2.heap.size) (hz : OwI K w2 z (ps.getD k (0, [])).2)
    (hown : w3.ownsRow 0 38 2 (.slice (some ⟨g, 0, none⟩) (k + 1) cap) (k + 1) (cellsP ps k V ++ [.int .i64 (ps.getD k (0, [])).1, z])) (hg : w2.grownBy w3 v.ownBlock) (hat : v.ownBlock = some g ∨ g = w2.heap.size) :
    BuiltP P' w3 (.slice (some ⟨g, 0, none⟩) (k + 1) cap) (k + 1) ps := by
  obtain ⟨Bk', h⟩ := hi.add hP hN hK (fun r hr' => hK _ (hpr r hr')) hz hg hat
  refine ⟨_, Bk', by rw [cellsP_succ]; exact hown, fun r hr' => ?_, h⟩
  injection hr' with hr'
  subst hr'
  rcases hat with hat | hat
  · exact hP _ (hpr _ hat)
  · exact hN _ (by dsimp only; omega)

/-- A disk that is being drawn: its variable in block D, its rows in block G, the result's variable in block R; the rows' words below M, the puts from M on. -/
structure DkAt (w : World) (s : Nat) (v : Value) (bs : List Nat) (t R G D M n : Nat) (vc : Value) (ps : List (Int × List Int)) (N t5 : Nat) (wr : World) : Prop where
  dr : Drawn N s v bs t t5 w wr
  rw : w.heap.size ≤ R
  rG : R < G
  gD : G < D
  dM : D + 1 ≤ M
  mW : M ≤ wr.heap.size
  r0 : wr.cell? ⟨R, 0, none⟩ = some (.slice none 0 0)
  r1 : wr.cell? ⟨R, 1, none⟩ = some (.slice none 0 0)
  rf : ∀ o, wr.frozen? ⟨R, o, none⟩ = false
  d0 : wr.cell? ⟨D, 0, none⟩ = some (.slice (some ⟨G, 0, none⟩) n n)
  d1 : wr.cell? ⟨D, 1, none⟩ = some vc
  df : ∀ o, wr.frozen? ⟨D, o, none⟩ = false
  gf : ∀ o, wr.frozen? ⟨G, o, none⟩ = false
  rows : ∀ i, i < n → ∃ z xs, wr.cell? ⟨G, i, none⟩ = some z ∧ RdI (fun b => D + 1 ≤ b ∧ b < M) wr z xs ∧ xs.length ≤ 65
  puts : BuiltP (M ≤ ·) wr vc ps.length ps
  words : ∀ i, i < ps.length → (ps.getD i (0, [])).2.length ≤ 65

theorem DkAt.on {w : World} {s : Nat} {v : Value} {bs : List Nat} {t R G D M n : Nat} {vc : Value} {ps : List (Int × List Int)} {N t5 t6 L : Nat} {wr w6 : World} (H : DkAt w s v bs t R G D M n vc ps N t5 wr) (hs : s < w.heap.size) (hd : Drawn L s v bs t5 t6 wr w6) :
    DkAt w s v bs t R G D M n vc ps (N + L) t6 w6 := by
  have hw := hd.2.1
  have h1 := H.rw
  have h2 := H.rG
  have h3 := H.gD
  have h4 := H.dM
  have h5 := H.mW
  exact ⟨H.dr.on hd, H.rw, H.rG, H.gD, H.dM, Nat.le_trans H.mW hw.size, cell_wr hw H.r0 (by omega), cell_wr hw H.r1 (by omega), fun o => (hw.frz _ _ (by omega)).trans (H.rf o), cell_wr hw H.d0 (by omega), cell_wr hw H.d1 (by omega), fun o => (hw.frz _ _ (by omega)).trans (H.df o), fun o => (hw.frz _ _ (by omega)).trans (H.gf o),
    fun i hi => by obtain ⟨z, xs, k1, k2, k3⟩ := H.rows i hi; exact ⟨z, xs, cell_wr hw k1 (by omega), k2.wr hw (fun _ b hb => by omega), k3⟩, H.puts.wr hw (fun b hb => by omega), H.words⟩
theorem DkAt.later {w : World} {s : Nat} {v : Value} {bs : List Nat} {t R G D M n : Nat} {vc : Value} {ps : List (Int × List Int)} {N t5 : Nat} {wr w6 : World} (H : DkAt w s v bs t R G D M n vc ps N t5 wr) (hb : Below wr.heap.size wr w6) :
    DkAt w s v bs t R G D M n vc ps N t5 w6 := by
  have h2 := H.rG
  have h3 := H.gD
  have h4 := H.dM
  have h5 := H.mW
  exact ⟨H.dr.later hb, H.rw, H.rG, H.gD, H.dM, Nat.le_trans H.mW hb.size, cell_later hb H.r0, cell_later hb H.r1, fun o => ((bcell hb).2 _ _ (by omega)).trans (H.rf o), cell_later hb H.d0, cell_later hb H.d1, fun o => ((bcell hb).2 _ _ (by omega)).trans (H.df o), fun o => ((bcell hb).2 _ _ (by omega)).trans (H.gf o),
    fun i hi => by obtain ⟨z, xs, k1, k2, k3⟩ := H.rows i hi; exact ⟨z, xs, cell_later hb k1, k2.later hb, k3⟩, H.puts.later hb, H.words⟩
/-- While there is no put yet the bound may rise. -/
theorem DkAt.up {w : World} {s : Nat} {v : Value} {bs : List Nat} {t R G D M M' n : Nat} {N t5 : Nat} {wr : World} (H : DkAt w s v bs t R G D M n (.slice none 0 0) [] N t5 wr) (h1 : M ≤ M') (h2 : M' ≤ wr.heap.size) :
    DkAt w s v bs t R G D M' n (.slice none 0 0) [] N t5 wr :=
  ⟨H.dr, H.rw, H.rG, H.gD, Nat.le_trans H.dM h1, h2, H.r0, H.r1, H.rf, H.d0, H.d1, H.df, H.gf, fun i hi => by obtain ⟨z, xs, k1, k2, k3⟩ := H.rows i hi; exact ⟨z, xs, k1, k2.narrow (fun _ b hb => ⟨hb.1, by omega⟩), k3⟩, BuiltP.nil _ _ _, H.words⟩
/-- A row is written. -/
theorem DkAt.row {w : World} {s : Nat} {v : Value} {bs : List Nat} {t R G D M n : Nat} {vc : Value} {ps : List (Int × List Int)} {N t5 : Nat} {wr : World} (hS : Src s v bs w t) (H : DkAt w s v bs t R G D M n vc ps N t5 wr) (a : Nat) {z : Value} {xs : List Int} (hz : RdI (fun b => D + 1 ≤ b ∧ b < M) wr z xs) (hx : xs.length ≤ 65) :
    DkAt w s v bs t R G D M n vc ps N t5 (wr.setCell ⟨G, a, none⟩ z) := by
  have h1 := H.rw
  have h2 := H.rG
  have h3 := H.gD
  have h4 := H.dM
  have h5 := H.mW
  have hB : Below w.heap.size wr (wr.setCell ⟨G, a, none⟩ z) := (Below.refl _ _).setCell (p := ⟨G, a, none⟩) (by dsimp only; omega) _
  have hW : Wr (fun y => y = G) wr (wr.setCell ⟨G, a, none⟩ z) := (Wr.refl (fun y => y = G) _).setCell (p := ⟨G, a, none⟩) rfl _
  refine ⟨H.dr.onBelow hS hB, H.rw, H.rG, H.gD, H.dM, by simpa using H.mW, cell_wr hW H.r0 (by omega), cell_wr hW H.r1 (by omega), fun o => (hW.frz _ _ (by omega)).trans (H.rf o), cell_wr hW H.d0 (by omega), cell_wr hW H.d1 (by omega), fun o => (hW.frz _ _ (by omega)).trans (H.df o), fun o => (hW.frz _ _ (by omega)).trans (H.gf o), fun i hi => ?_, H.puts.set (fun b hb => by omega), H.words⟩
  obtain ⟨y, ys, k1, k2, k3⟩ := H.rows i hi
  by_cases e : i = a
  · subst e
    exact ⟨z, xs, World.cell?_setCell_same _ _ _ k1, hz.wr hW (fun _ b hb => by omega), hx⟩
  · exact ⟨y, ys, (World.cell?_setCell_other _ _ _ _ (by intro h'; injection h' with _ h'; exact e h'.symm)).trans k1, k2.wr hW (fun _ b hb => by omega), k3⟩
/-- A put stands behind the others. -/
theorem DkAt.put {w : World} {s : Nat} {v : Value} {bs : List Nat} {t R G D M n : Nat} {vc z : Value} {ps : List (Int × List Int)} {a : Int} {xs : List Int} {N t5 K g cap : Nat} {w6 w7 : World} {V : Nat → Value} {Bk : Nat → Nat} {o : Obj} (hS : Src s v bs w t) (H : DkAt w s v bs t R G D M n vc ps N t5 w6)
    (hin : Inner (fun b => M ≤ b ∧ b < K) w6 vc.ownBlock ps.length V Bk (fun i => ((ps ++ [(a, xs)]).getD i (0, [])).2)) (hpr : ∀ r, vc.ownBlock = some r → M ≤ r ∧ r < K) (hMK : M ≤ K) (hK : K ≤ w6.heap.size) (hz : OwI K w6 z xs) (hx : xs.length ≤ 65)
    (hown : w7.ownsRow 0 38 2 (.slice (some ⟨g, 0, none⟩) (ps.length + 1) cap) (ps.length + 1) (cellsP (ps ++ [(a, xs)]) ps.length V ++ [.int .i64 a, z]))
    (hg : (w6.alloc o).grownBy w7 vc.ownBlock) (hat : vc.ownBlock = some g ∨ g = (w6.alloc o).heap.size) :
    DkAt w s v bs t R G D M n (.slice (some ⟨g, 0, none⟩) (ps.length + 1) cap) (ps ++ [(a, xs)]) N t5 (w7.setCell ⟨D, 1, none⟩ (.slice (some ⟨g, 0, none⟩) (ps.length + 1) cap)) := by
  have h1 := H.rw
  have h2 := H.rG
  have h3 := H.gD
  have h4 := H.dM
  have h5 := H.mW
  have hA := below_alloc w6 o
  have hB : Below M w6 w7 := (hA.mono h5).grown hg (by simp; omega) (fun r hr => (hpr r hr).1)
  have hBD : Below w.heap.size w6 (w7.setCell ⟨D, 1, none⟩ (.slice (some ⟨g, 0, none⟩) (ps.length + 1) cap)) := (hB.mono (by omega)).setCell (p := ⟨D, 1, none⟩) (by dsimp only; omega) _
  have hc : ∀ b o', b < M → w7.cell? ⟨b, o', none⟩ = w6.cell? ⟨b, o', none⟩ := fun b o' hb => hB.cell (p := ⟨b, o', none⟩) hb
  have hf : ∀ b o', b < M → w7.frozen? ⟨b, o', none⟩ = w6.frozen? ⟨b, o', none⟩ := fun b o' hb => hB.frozen (p := ⟨b, o', none⟩) hb
  have hsz := hB.size
  have hW : Wr (fun y => y = D) w7 (w7.setCell ⟨D, 1, none⟩ (.slice (some ⟨g, 0, none⟩) (ps.length + 1) cap)) := (Wr.refl (fun y => y = D) _).setCell (p := ⟨D, 1, none⟩) rfl _
  have hP := BuiltP.add (P' := (M ≤ ·)) (ps := ps ++ [(a, xs)]) (hin.later hA) hpr (fun b hb => hb.1) (fun b hb => by omega) (fun b hb => hb.2) (by simp; omega) (by simpa using hz.later hA) (by simpa using hown) hg hat
  refine ⟨H.dr.onBelow hS hBD, H.rw, H.rG, H.gD, H.dM, by simp; omega, cell_wr hW ((hc _ _ (by omega)).trans H.r0) (by omega), cell_wr hW ((hc _ _ (by omega)).trans H.r1) (by omega), fun o => (hW.frz _ _ (by omega)).trans ((hf _ _ (by omega)).trans (H.rf o)), ?_, World.cell?_setCell_same _ _ _ ((hc _ _ (by omega)).trans H.d1), fun o => (hW.frz _ _ (by omega)).trans ((hf _ _ (by omega)).trans (H.df o)), fun o => (hW.frz _ _ (by omega)).trans ((hf _ _ (by omega)).trans (H.gf o)), fun i hi => ?_, ?_, fun i hi => ?_⟩
  · exact (World.cell?_setCell_other _ _ _ _ (by simp)).trans ((hc _ _ (by omega)).trans H.d0)
  · obtain ⟨y, ys, k1, k2, k3⟩ := H.rows i hi
    refine ⟨y, ys, cell_wr hW ((hc _ _ (by omega)).trans k1) (by omega), ?_, k3⟩
    obtain ⟨ao, c, e1, e2, e3⟩ := k2
    refine ⟨ao, c, e1, e2, fun hne => ?_⟩
    obtain ⟨b, off, f1, f2, f3⟩ := e3 hne
    exact ⟨b, off, f1, f2, fun j hj => cell_wr hW ((hc _ _ f2.2).trans (f3 j hj)) (by omega)⟩
  · rw [List.length_append]
    exact hP.set (fun b hb => by omega)
  · rw [List.length_append] at hi
    by_cases e : i < ps.length
    · have := H.words i e
      simpa [List.getD, List.getElem?_append_left e] using this
    · have e2 : i = ps.length := by simp at hi; omega
      subst e2
      simpa using hx
/-- The rows, as lists. -/
theorem rows_lists {lo G n : Nat} {wr : World} (hG : lo < G) (H : ∀ i, i < n → ∃ z xs, wr.cell? ⟨G, i, none⟩ = some z ∧ RdI (fun b => lo < b) wr z xs ∧ xs.length ≤ 65) (hn : n ≤ 8) :
    ∃ xss : List (List Int), xss.length = n ∧ (∀ i, (xss.getD i []).length ≤ 65) ∧ RdII (fun b => lo < b) wr (.slice (some ⟨G, 0, none⟩) n n) xss := by
  let Z : Nat → Value := fun i => if h : i < n then Classical.choose (H i h) else .bool false
  let X : Nat → List Int := fun i => if h : i < n then Classical.choose (Classical.choose_spec (H i h)) else []
  have hZ : ∀ i, i < n → wr.cell? ⟨G, i, none⟩ = some (Z i) ∧ RdI (fun b => lo < b) wr (Z i) (X i) ∧ (X i).length ≤ 65 := fun i h => by
    have := Classical.choose_spec (Classical.choose_spec (H i h))
    simpa only [Z, X, dif_pos h] using this
  have hg : ∀ i, i < n → ((List.range n).map X).getD i [] = X i := fun i h => by simp [List.getD, h]
  refine ⟨(List.range n).map X, by simp, fun i => ?_, some ⟨G, 0, none⟩, n, by simp, by simp; omega, fun _ => ⟨G, 0, Z, rfl, hG, fun i hi => ?_⟩⟩
  · by_cases h : i < n
    · rw [hg i h]; exact (hZ i h).2.2
    · simp [List.getD, h]
  · have hi' : i < n := by simpa using hi
    rw [hg i hi', Nat.zero_add]
    exact ⟨(hZ i hi').1, (hZ i hi').2.1⟩
theorem DkAt.wide {w : World} {s : Nat} {v : Value} {bs : List Nat} {t R G D M n : Nat} {vc : Value} {ps : List (Int × List Int)} {N t5 : Nat} {wr : World} (H : DkAt w s v bs t R G D M n vc ps N t5 wr) :
    ∀ i, i < n → ∃ z xs, wr.cell? ⟨G, i, none⟩ = some z ∧ RdI (fun b => w.heap.size < b) wr z xs ∧ xs.length ≤ 65 := fun i hi => by
  have h1 := H.rw
  have h2 := H.rG
  have h3 := H.gD
  obtain ⟨z, xs, k1, k2, k3⟩ := H.rows i hi
  exact ⟨z, xs, k1, k2.narrow (fun _ b hb => by omega), k3⟩
theorem DkAt.rdP {w : World} {s : Nat} {v : Value} {bs : List Nat} {t R G D M n : Nat} {vc : Value} {ps : List (Int × List Int)} {N t5 : Nat} {wr : World} (H : DkAt w s v bs t R G D M n vc ps N t5 wr) (hm : ps.length ≤ 1000) :
    RdP (fun b => w.heap.size < b) wr vc ps := by
  have h1 := H.rw
  have h2 := H.rG
  have h3 := H.gD
  have h4 := H.dM
  exact ((H.puts.ow rfl (by omega)).mono (fun b hb => by have := hb.1; omega)).rd
theorem small_of {xss : List (List Int)} {ps : List (Int × List Int)} (h1 : xss.length ≤ 71) (h2 : ∀ i, (xss.getD i []).length ≤ 65) (h3 : ps.length ≤ 201) (h4 : ∀ i, i < ps.length → (ps.getD i (0, [])).2.length ≤ 65) : Small xss ps := by
  have a1 : ∀ n, n ≤ xss.length → tot xss n ≤ 65 * n := by
    intro n
    induction n with
    | zero => intro _; rw [tot_zero]; omega
    | succ n ih => intro h; rw [tot_succ xss n (by omega)]; have := ih (by omega); have := h2 n; omega
  have a2 : ∀ n, n ≤ ps.length → totW ps n ≤ 65 * n := by
    intro n
    induction n with
    | zero => intro _; rw [totW_zero]; omega
    | succ n ih => intro h; rw [totW_succ ps n (by omega)]; have := ih (by omega); have := h4 n (by omega); omega
  have b1 := a1 _ (Nat.le_refl _)
  have b2 := a2 _ (Nat.le_refl _)
  exact ⟨by omega, fun i _ => by have := h2 i; omega, by omega, fun i hi => by have := h4 i hi; omega, by omega⟩
end Go.Proofs.YtamknomapabmfaaGreat
