/- Wd Nw LawNewWorld in one text: what each says stands at its head below. -/
import Derived.Test.YtkdbkkhmaiomkaaRa2
import Derived.Test.YtkdbkkhmaiomkaaIv
import Derived.Test.YtkdbkkhmaiomkaaFmt
/- Chapter 13: a world (a disk and a store), and a code, a reply, a number and a world: compared, marked, held. Made by program (genwd.py). -/
namespace Go.Proofs.Ytkdbkkhmaiomkaa
open Go.RowKit

def Var8 (w : World) (b : Nat) (x0 x1 x2 x3 x4 x5 x6 x7 : Value) : Prop := w.cell? ⟨b, 0, none⟩ = some x0 ∧ w.cell? ⟨b, 1, none⟩ = some x1 ∧ w.cell? ⟨b, 2, none⟩ = some x2 ∧ w.cell? ⟨b, 3, none⟩ = some x3 ∧ w.cell? ⟨b, 4, none⟩ = some x4 ∧ w.cell? ⟨b, 5, none⟩ = some x5 ∧ w.cell? ⟨b, 6, none⟩ = some x6 ∧ w.cell? ⟨b, 7, none⟩ = some x7
theorem Var8.later {w w' : World} {b : Nat} {x0 x1 x2 x3 x4 x5 x6 x7 : Value} (h : Var8 w b x0 x1 x2 x3 x4 x5 x6 x7) (hb : Below w.heap.size w w') : Var8 w' b x0 x1 x2 x3 x4 x5 x6 x7 :=
  ⟨cell_later hb h.1, cell_later hb h.2.1, cell_later hb h.2.2.1, cell_later hb h.2.2.2.1, cell_later hb h.2.2.2.2.1, cell_later hb h.2.2.2.2.2.1, cell_later hb h.2.2.2.2.2.2.1, cell_later hb h.2.2.2.2.2.2.2⟩
theorem Var8.wr {S : Nat → Prop} {w w' : World} {b : Nat} {x0 x1 x2 x3 x4 x5 x6 x7 : Value} (h : Var8 w b x0 x1 x2 x3 x4 x5 x6 x7) (hb : Wr S w w') (hd : ¬ S b) : Var8 w' b x0 x1 x2 x3 x4 x5 x6 x7 :=
  ⟨cell_wr hb h.1 hd, cell_wr hb h.2.1 hd, cell_wr hb h.2.2.1 hd, cell_wr hb h.2.2.2.1 hd, cell_wr hb h.2.2.2.2.1 hd, cell_wr hb h.2.2.2.2.2.1 hd, cell_wr hb h.2.2.2.2.2.2.1 hd, cell_wr hb h.2.2.2.2.2.2.2 hd⟩
theorem Var8.lt {w : World} {b : Nat} {x0 x1 x2 x3 x4 x5 x6 x7 : Value} (h : Var8 w b x0 x1 x2 x3 x4 x5 x6 x7) : b < w.heap.size := World.block_lt_of_cell? _ _ h.1
theorem Var8_new (w : World) (x0 x1 x2 x3 x4 x5 x6 x7 : Value) (t : TypeId) : Var8 (w.alloc (.cells #[x0, x1, x2, x3, x4, x5, x6, x7] t)) w.heap.size x0 x1 x2 x3 x4 x5 x6 x7 := by
  refine ⟨?_, ?_, ?_, ?_, ?_, ?_, ?_, ?_⟩ <;> simp [go_sem]
def Var11 (w : World) (b : Nat) (x0 x1 x2 x3 x4 x5 x6 x7 x8 x9 x10 : Value) : Prop := w.cell? ⟨b, 0, none⟩ = some x0 ∧ w.cell? ⟨b, 1, none⟩ = some x1 ∧ w.cell? ⟨b, 2, none⟩ = some x2 ∧ w.cell? ⟨b, 3, none⟩ = some x3 ∧ w.cell? ⟨b, 4, none⟩ = some x4 ∧ w.cell? ⟨b, 5, none⟩ = some x5 ∧ w.cell? ⟨b, 6, none⟩ = some x6 ∧ w.cell? ⟨b, 7, none⟩ = some x7 ∧ w.cell? ⟨b, 8, none⟩ = some x8 ∧ w.cell? ⟨b, 9, none⟩ = some x9 ∧ w.cell? ⟨b, 10, none⟩ = some x10
theorem Var11.later {w w' : World} {b : Nat} {x0 x1 x2 x3 x4 x5 x6 x7 x8 x9 x10 : Value} (h : Var11 w b x0 x1 x2 x3 x4 x5 x6 x7 x8 x9 x10) (hb : Below w.heap.size w w') : Var11 w' b x0 x1 x2 x3 x4 x5 x6 x7 x8 x9 x10 :=
  ⟨cell_later hb h.1, cell_later hb h.2.1, cell_later hb h.2.2.1, cell_later hb h.2.2.2.1, cell_later hb h.2.2.2.2.1, cell_later hb h.2.2.2.2.2.1, cell_later hb h.2.2.2.2.2.2.1, cell_later hb h.2.2.2.2.2.2.2.1, cell_later hb h.2.2.2.2.2.2.2.2.1, cell_later hb h.2.2.2.2.2.2.2.2.2.1, cell_later hb h.2.2.2.2.2.2.2.2.2.2⟩
theorem Var11.wr {S : Nat → Prop} {w w' : World} {b : Nat} {x0 x1 x2 x3 x4 x5 x6 x7 x8 x9 x10 : Value} (h : Var11 w b x0 x1 x2 x3 x4 x5 x6 x7 x8 x9 x10) (hb : Wr S w w') (hd : ¬ S b) : Var11 w' b x0 x1 x2 x3 x4 x5 x6 x7 x8 x9 x10 :=
  ⟨cell_wr hb h.1 hd, cell_wr hb h.2.1 hd, cell_wr hb h.2.2.1 hd, cell_wr hb h.2.2.2.1 hd, cell_wr hb h.2.2.2.2.1 hd, cell_wr hb h.2.2.2.2.2.1 hd, cell_wr hb h.2.2.2.2.2.2.1 hd, cell_wr hb h.2.2.2.2.2.2.2.1 hd, cell_wr hb h.2.2.2.2.2.2.2.2.1 hd, cell_wr hb h.2.2.2.2.2.2.2.2.2.1 hd, cell_wr hb h.2.2.2.2.2.2.2.2.2.2 hd⟩
theorem Var11.lt {w : World} {b : Nat} {x0 x1 x2 x3 x4 x5 x6 x7 x8 x9 x10 : Value} (h : Var11 w b x0 x1 x2 x3 x4 x5 x6 x7 x8 x9 x10) : b < w.heap.size := World.block_lt_of_cell? _ _ h.1
theorem Var11_new (w : World) (x0 x1 x2 x3 x4 x5 x6 x7 x8 x9 x10 : Value) (t : TypeId) : Var11 (w.alloc (.cells #[x0, x1, x2, x3, x4, x5, x6, x7, x8, x9, x10] t)) w.heap.size x0 x1 x2 x3 x4 x5 x6 x7 x8 x9 x10 := by
  refine ⟨?_, ?_, ?_, ?_, ?_, ?_, ?_, ?_, ?_, ?_, ?_⟩ <;> simp [go_sem]

/-- A disk and a store in [lo, hi), apart from each other. -/
def IvW (lo hi : Nat) (w : World) (u v y z : Value) (xss : List (List Int)) (ps : List (Int × List Int)) (xs : List Int) (es : List Oj) : Prop :=
  ∃ a b c d, lo ≤ a ∧ b ≤ hi ∧ lo ≤ c ∧ d ≤ hi ∧ hi ≤ w.heap.size ∧ (b ≤ c ∨ d ≤ a) ∧ IvD a b w u v xss ps ∧ IvR c d w y z xs es
theorem IvW.wr {lo hi : Nat} {T : Nat → Prop} {w w' : World} {u v y z : Value} {xss : List (List Int)} {ps : List (Int × List Int)} {xs : List Int} {es : List Oj} (h : IvW lo hi w u v y z xss ps xs es) (hw : Wr T w w') (hd : ∀ b, lo ≤ b → b < hi → ¬ T b) : IvW lo hi w' u v y z xss ps xs es := by
  obtain ⟨a, b, c, d, h1, h2, h3, h4, h5, h6, h7, h8⟩ := h
  exact ⟨a, b, c, d, h1, h2, h3, h4, Nat.le_trans h5 hw.size, h6, h7.wr hw fun x k1 k2 => hd x (by omega) (by omega), h8.wr hw fun x k1 k2 => hd x (by omega) (by omega)⟩
theorem IvW.later {lo hi : Nat} {w w' : World} {u v y z : Value} {xss : List (List Int)} {ps : List (Int × List Int)} {xs : List Int} {es : List Oj} (h : IvW lo hi w u v y z xss ps xs es) (hb : Below w.heap.size w w') : IvW lo hi w' u v y z xss ps xs es :=
  h.wr (Wr.of_below hb fun _ => False) fun _ _ _ => id
theorem IvW.rdII {lo hi : Nat} {w : World} {u v y z : Value} {xss : List (List Int)} {ps : List (Int × List Int)} {xs : List Int} {es : List Oj} (h : IvW lo hi w u v y z xss ps xs es) : RdII (fun b => lo ≤ b ∧ b < hi) w u xss := by
  obtain ⟨a, b, c, d, h1, h2, h3, h4, h5, h6, ⟨S, T, k0, k1, k2, k3, k4, k5⟩, h8⟩ := h
  exact (k4.mono fun x hx => ⟨Nat.le_trans h1 (k1 x hx).1, Nat.lt_of_lt_of_le (k1 x hx).2 h2⟩).rd
theorem IvW.rdP {lo hi : Nat} {w : World} {u v y z : Value} {xss : List (List Int)} {ps : List (Int × List Int)} {xs : List Int} {es : List Oj} (h : IvW lo hi w u v y z xss ps xs es) : RdP (fun b => lo ≤ b ∧ b < hi) w v ps := by
  obtain ⟨a, b, c, d, h1, h2, h3, h4, h5, h6, ⟨S, T, k0, k1, k2, k3, k4, k5⟩, h8⟩ := h
  exact (k5.mono fun x hx => ⟨Nat.le_trans h1 (k2 x hx).1, Nat.lt_of_lt_of_le (k2 x hx).2 h2⟩).rd
theorem IvW.rdI {lo hi : Nat} {w : World} {u v y z : Value} {xss : List (List Int)} {ps : List (Int × List Int)} {xs : List Int} {es : List Oj} (h : IvW lo hi w u v y z xss ps xs es) : RdI (fun b => lo ≤ b ∧ b < hi) w y xs := by
  obtain ⟨a, b, c, d, h1, h2, h3, h4, h5, h6, h7, h8⟩ := h
  exact h8.rdI.narrow fun _ x hx => ⟨Nat.le_trans h3 hx.1, Nat.lt_of_lt_of_le hx.2 h4⟩
theorem IvW.rdJ {lo hi : Nat} {w : World} {u v y z : Value} {xss : List (List Int)} {ps : List (Int × List Int)} {xs : List Int} {es : List Oj} (h : IvW lo hi w u v y z xss ps xs es) : RdJ (fun b => lo ≤ b ∧ b < hi) w z es := by
  obtain ⟨a, b, c, d, h1, h2, h3, h4, h5, h6, h7, h8⟩ := h
  exact h8.rdJ.monoR fun x hx => ⟨Nat.le_trans h3 hx.1, Nat.lt_of_lt_of_le hx.2 h4⟩
theorem IvW.shape {lo hi : Nat} {w : World} {u v y z : Value} {xss : List (List Int)} {ps : List (Int × List Int)} {xs : List Int} {es : List Oj} (h : IvW lo hi w u v y z xss ps xs es) : ∃ ao c ao' c' bo d bo' d', u = .slice ao xss.length c ∧ v = .slice ao' ps.length c' ∧ y = .slice bo xs.length d ∧ z = .slice bo' es.length d' := by
  obtain ⟨a, b, c, d, h1, h2, h3, h4, h5, h6, h7, h8⟩ := h
  obtain ⟨e1, e2, e3⟩ := h7.rdII
  obtain ⟨f1, f2, f3⟩ := h7.rdP
  obtain ⟨g1, g2, g3, g4, g5, g6⟩ := h8.shape
  exact ⟨_, _, _, _, _, _, _, _, e3.1, f3.1, g5, g6⟩
theorem IvW.up {lo hi lo' : Nat} {w : World} {u v y z : Value} {xss : List (List Int)} {ps : List (Int × List Int)} {xs : List Int} {es : List Oj} (h : IvW lo hi w u v y z xss ps xs es) (h1 : lo' ≤ lo) (h2 : hi ≤ w.heap.size) : IvW lo' w.heap.size w u v y z xss ps xs es := by
  obtain ⟨a, b, c, d, k1, k2, k3, k4, k5, k6, k7, k8⟩ := h
  exact ⟨a, b, c, d, by omega, by omega, by omega, by omega, Nat.le_refl _, k6, k7, k8⟩
def MkW (k : Int) (lo hi : Nat) (w : World) (u v y z : Value) (xss : List (List Int)) (ps : List (Int × List Int)) (n : Nat) (es : List Oj) : Prop :=
  MkD k lo hi w u v xss ps ∧ MkR (k + (tot xss xss.length : Int) + (totP ps ps.length : Int)) lo hi w y z n es
theorem MkW.wr {k : Int} {lo hi n : Nat} {T : Nat → Prop} {w w' : World} {u v y z : Value} {xss : List (List Int)} {ps : List (Int × List Int)} {es : List Oj} (h : MkW k lo hi w u v y z xss ps n es) (hw : Wr T w w') (hd : ∀ b, lo ≤ b → b < hi → ¬ T b) : MkW k lo hi w' u v y z xss ps n es := ⟨h.1.wr hw hd, h.2.wr hw hd⟩
theorem MkW.later {k : Int} {lo hi n : Nat} {w w' : World} {u v y z : Value} {xss : List (List Int)} {ps : List (Int × List Int)} {es : List Oj} (h : MkW k lo hi w u v y z xss ps n es) (hb : Below w.heap.size w w') : MkW k lo hi w' u v y z xss ps n es := ⟨h.1.later hb, h.2.later hb⟩
/-- What a call that ends in a code, a reply, a number and a world is to leave, field by field. -/
def EndsW (x x1 x2 : Int) (xss : List (List Int)) (ps : List (Int × List Int)) (q0 q1 q2 q3 : Int) (xs : List Int) (es : List Oj) (w : World) (e : Ending) (w' : World) : Prop :=
  ∃ u v y z, e = .returned (.agg #[.int .i64 x, .int .i64 x1, .int .i64 x2, u, v, .int .i64 q0, .int .i64 q1, .int .i64 q2, .int .i64 q3, y, z]) ∧ Below w.heap.size w w' ∧ IvW w.heap.size w'.heap.size w' u v y z xss ps xs es

structure Res11 (w wr : World) (r : Nat) : Prop where
  below : Below w.heap.size w wr
  v : Var11 wr r (.int .i64 0) (.int .i64 0) (.int .i64 0) (.slice none 0 0) (.slice none 0 0) (.int .i64 0) (.int .i64 0) (.int .i64 0) (.int .i64 0) (.slice none 0 0) (.slice none 0 0)
  fr : ∀ o, wr.frozen? ⟨r, o, none⟩ = false
  ge : w.heap.size ≤ r
theorem Res11.lt {w wr : World} {r : Nat} (h : Res11 w wr r) : r < wr.heap.size := h.v.lt
theorem Res11.later {w wr w1 : World} {r : Nat} (h : Res11 w wr r) (hb : Below wr.heap.size wr w1) : Res11 w w1 r := ⟨below_on h.below hb, h.v.later hb, fun o => ((bcell hb).2 _ _ h.lt).trans (h.fr o), h.ge⟩
theorem Res11.wr {w wr w1 : World} {r : Nat} {T : Nat → Prop} (h : Res11 w wr r) (hw : Wr T wr w1) (hr : ¬ T r) (hT : ∀ b, T b → w.heap.size ≤ b) : Res11 w w1 r := ⟨h.below.trans (hw.below h.below.size hT), h.v.wr hw hr, fun o => (hw.frz _ _ h.lt).trans (h.fr o), h.ge⟩
theorem Res11.new {w w1 : World} (hb : Below w.heap.size w w1) (t : TypeId) : Res11 w (w1.alloc (.cells #[.int .i64 0, .int .i64 0, .int .i64 0, .slice none 0 0, .slice none 0 0, .int .i64 0, .int .i64 0, .int .i64 0, .int .i64 0, .slice none 0 0, .slice none 0 0] t)) w1.heap.size := ⟨below_on hb (below_alloc _ _), Var11_new _ _ _ _ _ _ _ _ _ _ _ _ _, fun o => by simp [go_sem], hb.size⟩
theorem ret_w {w w3 : World} {r lo : Nat} {x0 x1 x2 x5 x6 x7 x8 : Value} {u v y z : Value} {xss : List (List Int)} {ps : List (Int × List Int)} {xs : List Int} {es : List Oj} (hb : Below w.heap.size w w3) (hr : w.heap.size ≤ r) (ho : IvW lo w3.heap.size w3 u v y z xss ps xs es) (hlo : r < lo) :
    Below w.heap.size w (((((((((((w3.setCell ⟨r, 0, none⟩ x0).setCell ⟨r, 1, none⟩ x1).setCell ⟨r, 2, none⟩ x2).setCell ⟨r, 3, none⟩ u).setCell ⟨r, 4, none⟩ v).setCell ⟨r, 5, none⟩ x5).setCell ⟨r, 6, none⟩ x6).setCell ⟨r, 7, none⟩ x7).setCell ⟨r, 8, none⟩ x8).setCell ⟨r, 9, none⟩ y).setCell ⟨r, 10, none⟩ z) ∧ IvW w.heap.size (((((((((((w3.setCell ⟨r, 0, none⟩ x0).setCell ⟨r, 1, none⟩ x1).setCell ⟨r, 2, none⟩ x2).setCell ⟨r, 3, none⟩ u).setCell ⟨r, 4, none⟩ v).setCell ⟨r, 5, none⟩ x5).setCell ⟨r, 6, none⟩ x6).setCell ⟨r, 7, none⟩ x7).setCell ⟨r, 8, none⟩ x8).setCell ⟨r, 9, none⟩ y).setCell ⟨r, 10, none⟩ z).heap.size (((((((((((w3.setCell ⟨r, 0, none⟩ x0).setCell ⟨r, 1, none⟩ x1).setCell ⟨r, 2, none⟩ x2).setCell ⟨r, 3, none⟩ u).setCell ⟨r, 4, none⟩ v).setCell ⟨r, 5, none⟩ x5).setCell ⟨r, 6, none⟩ x6).setCell ⟨r, 7, none⟩ x7).setCell ⟨r, 8, none⟩ x8).setCell ⟨r, 9, none⟩ y).setCell ⟨r, 10, none⟩ z) u v y z xss ps xs es := by
  have hw : Wr (fun q => q = r) w3 (((((((((((w3.setCell ⟨r, 0, none⟩ x0).setCell ⟨r, 1, none⟩ x1).setCell ⟨r, 2, none⟩ x2).setCell ⟨r, 3, none⟩ u).setCell ⟨r, 4, none⟩ v).setCell ⟨r, 5, none⟩ x5).setCell ⟨r, 6, none⟩ x6).setCell ⟨r, 7, none⟩ x7).setCell ⟨r, 8, none⟩ x8).setCell ⟨r, 9, none⟩ y).setCell ⟨r, 10, none⟩ z) := ((((((((((((Wr.refl (fun q => q = r) _).setCell (p := ⟨r, 0, none⟩) rfl _).setCell (p := ⟨r, 1, none⟩) rfl _).setCell (p := ⟨r, 2, none⟩) rfl _).setCell (p := ⟨r, 3, none⟩) rfl _).setCell (p := ⟨r, 4, none⟩) rfl _).setCell (p := ⟨r, 5, none⟩) rfl _).setCell (p := ⟨r, 6, none⟩) rfl _).setCell (p := ⟨r, 7, none⟩) rfl _).setCell (p := ⟨r, 8, none⟩) rfl _).setCell (p := ⟨r, 9, none⟩) rfl _).setCell (p := ⟨r, 10, none⟩) rfl _)
  exact ⟨(((((((((((hb.setCell (p := ⟨r, 0, none⟩) hr _).setCell (p := ⟨r, 1, none⟩) hr _).setCell (p := ⟨r, 2, none⟩) hr _).setCell (p := ⟨r, 3, none⟩) hr _).setCell (p := ⟨r, 4, none⟩) hr _).setCell (p := ⟨r, 5, none⟩) hr _).setCell (p := ⟨r, 6, none⟩) hr _).setCell (p := ⟨r, 7, none⟩) hr _).setCell (p := ⟨r, 8, none⟩) hr _).setCell (p := ⟨r, 9, none⟩) hr _).setCell (p := ⟨r, 10, none⟩) hr _), IvW.up (ho.wr hw (fun b h1 _ e => by omega)) (by omega) hw.size⟩

theorem RdII.shapeW {S : Nat → Prop} {w : World} {u : Value} {xss : List (List Int)} (h : RdII S w u xss) : ∃ ao c, u = .slice ao xss.length c := by
  obtain ⟨a, c, e, _⟩ := h
  exact ⟨a, c, e⟩
theorem RdP.shapeW {S : Nat → Prop} {w : World} {u : Value} {ps : List (Int × List Int)} (h : RdP S w u ps) : ∃ ao c, u = .slice ao ps.length c := by
  obtain ⟨a, c, e, _⟩ := h
  exact ⟨a, c, e⟩
theorem RdJ.shapeW {S : Nat → Prop} {w : World} {u : Value} {ps : List Oj} (h : RdJ S w u ps) : ∃ ao c, u = .slice ao ps.length c := by
  obtain ⟨a, c, e, _⟩ := h.shape
  exact ⟨a, c, e⟩
theorem markDiskIv2 {lo hi : Nat} {w : World} {u v : Value} {xss : List (List Int)} {ps : List (Int × List Int)} {k : Int} (h : IvD lo hi w u v xss ps) (hk0 : 0 ≤ k) (hk : k + (tot xss xss.length : Int) + (totP ps ps.length : Int) ≤ 9223372036854775807) :
    Calls Try.prog 21 #[.agg #[u, v], .int .i64 k] w fun e w' =>
      e = .returned (.int .i64 (k + (tot xss xss.length : Int) + (totP ps ps.length : Int))) ∧ MkD k lo hi w' u v xss ps ∧ Wr (fun b => lo ≤ b ∧ b < hi) w w' := by
  obtain ⟨S, T, h0, h1, h2, h3, h4, h5⟩ := h
  exact (markDisk h4 h5 h3 (fun b hb => by have := h1 b hb; omega) hk0 hk).mono fun e w' ⟨he, hr, hp, hw⟩ => ⟨he, ⟨S, T, h1, h2, hr, hp⟩, hw.mono fun b hb => by rcases hb with hb | hb; exact h1 b hb; exact h2 b hb⟩
set_option maxHeartbeats 4000000 in
set_option maxRecDepth 4000 in
theorem eqWorld {S1 S2 S3 S4 T1 T2 T3 T4 : Nat → Prop} {w : World} {u v y z u' v' y' z' : Value} {xss : List (List Int)} {ps : List (Int × List Int)} {xs : List Int} {es : List Oj} (a b c d : Int) (h1 : RdII S1 w u xss) (h2 : RdP S2 w v ps) (h3 : RdI S3 w y xs) (h4 : RdJ S4 w z es) (h1' : RdII T1 w u' xss) (h2' : RdP T2 w v' ps) (h3' : RdI T3 w y' xs) (h4' : RdJ T4 w z' es) :
    Calls Try.prog 12 #[.agg #[u, v, .int .i64 a, .int .i64 b, .int .i64 c, .int .i64 d, y, z], .agg #[u', v', .int .i64 a, .int .i64 b, .int .i64 c, .int .i64 d, y', z']] w fun e w' => e = .returned (.bool true) ∧ Below w.heap.size w w' := by
  obtain ⟨au, cu, rfl⟩ := h1.shapeW
  obtain ⟨av, cv, rfl⟩ := h2.shapeW
  obtain ⟨ay, cy, rfl⟩ := h3.shape
  obtain ⟨az, cz, rfl⟩ := h4.shapeW
  obtain ⟨au', cu', rfl⟩ := h1'.shapeW
  obtain ⟨av', cv', rfl⟩ := h2'.shapeW
  obtain ⟨ay', cy', rfl⟩ := h3'.shape
  obtain ⟨az', cz', rfl⟩ := h4'.shapeW
  have HD := hide (fun (w' : World) (hb : Below w.heap.size w w') => eqDisk (h1.later hb) (h2.later hb) (h1'.later hb) (h2'.later hb))
  have HE := hide (fun (w' : World) (hb : Below w.heap.size w w') => eqRaft a b c d (h3.later hb) (h4.later hb) (h3'.later hb) (h4'.later hb))
  obtain ⟨l1, e1⟩ : ∃ l, xss.length = l := ⟨_, rfl⟩
  obtain ⟨l2, e2⟩ : ∃ l, ps.length = l := ⟨_, rfl⟩
  obtain ⟨l3, e3⟩ : ∃ l, xs.length = l := ⟨_, rfl⟩
  obtain ⟨l4, e4⟩ : ∃ l, es.length = l := ⟨_, rfl⟩
  rw [e1, e2] at HD ⊢
  rw [e3, e4] at HE ⊢
  clear h1 h2 h3 h4 h1' h2' h3' h4' e1 e2 e3 e4
  have BA := hide (below_on (below_alloc w (.cells #[.slice au l1 cu, .slice av l2 cv, .int .i64 a, .int .i64 b, .int .i64 c, .int .i64 d, .slice ay l3 cy, .slice az l4 cz] 31)) (below_alloc _ (.cells #[.slice au' l1 cu', .slice av' l2 cv', .int .i64 a, .int .i64 b, .int .i64 c, .int .i64 d, .slice ay' l3 cy', .slice az' l4 cz'] 31)))
  go_enter Try.func12, Try.ntmps12
  go_wp2_with fail
  refine (HD.out _ BA.out).mono ?_
  rintro e w2 ⟨rfl, hb2⟩
  have hs2 := hb2.size
  simp only [World.size_alloc] at hs2
  have p2 : w2.cell? ⟨w.heap.size, 2, none⟩ = some (.int .i64 a) := cell_later hb2 (by simp [go_sem])
  have q2 : w2.cell? ⟨w.heap.size + 1, 2, none⟩ = some (.int .i64 a) := cell_later hb2 (by simp [go_sem])
  have p3 : w2.cell? ⟨w.heap.size, 3, none⟩ = some (.int .i64 b) := cell_later hb2 (by simp [go_sem])
  have q3 : w2.cell? ⟨w.heap.size + 1, 3, none⟩ = some (.int .i64 b) := cell_later hb2 (by simp [go_sem])
  have p4 : w2.cell? ⟨w.heap.size, 4, none⟩ = some (.int .i64 c) := cell_later hb2 (by simp [go_sem])
  have q4 : w2.cell? ⟨w.heap.size + 1, 4, none⟩ = some (.int .i64 c) := cell_later hb2 (by simp [go_sem])
  have p5 : w2.cell? ⟨w.heap.size, 5, none⟩ = some (.int .i64 d) := cell_later hb2 (by simp [go_sem])
  have q5 : w2.cell? ⟨w.heap.size + 1, 5, none⟩ = some (.int .i64 d) := cell_later hb2 (by simp [go_sem])
  have p6 : w2.cell? ⟨w.heap.size, 6, none⟩ = some (.slice ay l3 cy) := cell_later hb2 (by simp [go_sem])
  have q6 : w2.cell? ⟨w.heap.size + 1, 6, none⟩ = some (.slice ay' l3 cy') := cell_later hb2 (by simp [go_sem])
  have p7 : w2.cell? ⟨w.heap.size, 7, none⟩ = some (.slice az l4 cz) := cell_later hb2 (by simp [go_sem])
  have q7 : w2.cell? ⟨w.heap.size + 1, 7, none⟩ = some (.slice az' l4 cz') := cell_later hb2 (by simp [go_sem])
  have BC := hide (below_on BA.out hb2)
  clear hb2
  go_wp2_with fail
  refine (HE.out _ BC.out).mono ?_
  rintro e w3 ⟨rfl, hb3⟩
  have BD := hide (below_on BC.out hb3)
  clear hb3
  go_wp2
  go_ret
  exact ⟨rfl, BD.out⟩

set_option maxHeartbeats 4000000 in
set_option maxRecDepth 4000 in
theorem eqWorldResult {S1 S2 S3 S4 T1 T2 T3 T4 : Nat → Prop} {w : World} {x x1 x2 : Int} {u v y z u' v' y' z' : Value} {xss : List (List Int)} {ps : List (Int × List Int)} {xs : List Int} {es : List Oj} (a b c d : Int) (h1 : RdII S1 w u xss) (h2 : RdP S2 w v ps) (h3 : RdI S3 w y xs) (h4 : RdJ S4 w z es) (h1' : RdII T1 w u' xss) (h2' : RdP T2 w v' ps) (h3' : RdI T3 w y' xs) (h4' : RdJ T4 w z' es) :
    Calls Try.prog 6 #[.agg #[.int .i64 x, .int .i64 x1, .int .i64 x2, u, v, .int .i64 a, .int .i64 b, .int .i64 c, .int .i64 d, y, z], .agg #[.int .i64 x, .int .i64 x1, .int .i64 x2, u', v', .int .i64 a, .int .i64 b, .int .i64 c, .int .i64 d, y', z']] w fun e w' => e = .returned (.bool true) ∧ Below w.heap.size w w' := by
  obtain ⟨au, cu, rfl⟩ := h1.shapeW
  obtain ⟨av, cv, rfl⟩ := h2.shapeW
  obtain ⟨ay, cy, rfl⟩ := h3.shape
  obtain ⟨az, cz, rfl⟩ := h4.shapeW
  obtain ⟨au', cu', rfl⟩ := h1'.shapeW
  obtain ⟨av', cv', rfl⟩ := h2'.shapeW
  obtain ⟨ay', cy', rfl⟩ := h3'.shape
  obtain ⟨az', cz', rfl⟩ := h4'.shapeW
  have HD := hide (fun (w' : World) (hb : Below w.heap.size w w') => eqWorld a b c d (h1.later hb) (h2.later hb) (h3.later hb) (h4.later hb) (h1'.later hb) (h2'.later hb) (h3'.later hb) (h4'.later hb))
  obtain ⟨l1, e1⟩ : ∃ l, xss.length = l := ⟨_, rfl⟩
  obtain ⟨l2, e2⟩ : ∃ l, ps.length = l := ⟨_, rfl⟩
  obtain ⟨l3, e3⟩ : ∃ l, xs.length = l := ⟨_, rfl⟩
  obtain ⟨l4, e4⟩ : ∃ l, es.length = l := ⟨_, rfl⟩
  rw [e1, e2] at HD ⊢
  rw [e3, e4] at HD ⊢
  clear h1 h2 h3 h4 h1' h2' h3' h4' e1 e2 e3 e4
  have BA := hide (below_on (below_alloc w (.cells #[.int .i64 x, .int .i64 x1, .int .i64 x2, .slice au l1 cu, .slice av l2 cv, .int .i64 a, .int .i64 b, .int .i64 c, .int .i64 d, .slice ay l3 cy, .slice az l4 cz] 33)) (below_alloc _ (.cells #[.int .i64 x, .int .i64 x1, .int .i64 x2, .slice au' l1 cu', .slice av' l2 cv', .int .i64 a, .int .i64 b, .int .i64 c, .int .i64 d, .slice ay' l3 cy', .slice az' l4 cz'] 33)))
  go_enter Try.func6, Try.ntmps6
  go_wp2_with fail
  refine (HD.out _ BA.out).mono ?_
  rintro e w2 ⟨rfl, hb2⟩
  have BC := hide (below_on BA.out hb2)
  clear hb2
  go_wp2
  go_ret
  exact ⟨rfl, BC.out⟩

set_option maxHeartbeats 4000000 in
set_option maxRecDepth 4000 in
theorem heldWorld {lo hi : Nat} {w : World} {u v y z : Value} {xss : List (List Int)} {ps : List (Int × List Int)} {n : Nat} {es : List Oj} {k : Int} (a b c d : Int) (h : MkW k lo hi w u v y z xss ps n es) (hk0 : 0 ≤ k) (hk : k + (tot xss xss.length : Int) + (totP ps ps.length : Int) + ((n : Int) + (totJ es es.length : Int)) ≤ 9223372036854775807) :
    Calls Try.prog 14 #[.agg #[u, v, .int .i64 a, .int .i64 b, .int .i64 c, .int .i64 d, y, z], .int .i64 k] w fun e w' => e = .returned (.int .i64 (k + (tot xss xss.length : Int) + (totP ps ps.length : Int) + ((n : Int) + (totJ es es.length : Int)))) ∧ Below w.heap.size w w' := by
  have H1 := hide h
  obtain ⟨⟨S, T, g1, g2, g3, g4⟩, g5⟩ := h
  obtain ⟨au, cu, rfl⟩ := g3.shapeW
  obtain ⟨av, cv, rfl⟩ := g4.shapeW
  obtain ⟨ay, cy, rfl⟩ := g5.1.shape
  obtain ⟨az, cz, rfl⟩ := (show RdJ _ _ _ _ from g5.2).shapeW
  have HK := hide hk
  have HD := hide (fun (w' : World) (hb : Below w.heap.size w w') => heldDisk (g3.later hb) (g4.later hb) hk0 (by omega))
  have HE := hide (fun (w' : World) (hb : Below w.heap.size w w') => heldRaft a b c d (g5.later hb) (by omega) hk)
  obtain ⟨K1, hK1⟩ : ∃ K, k + (tot xss xss.length : Int) + (totP ps ps.length : Int) = K := ⟨_, rfl⟩
  have hp1 : 0 ≤ K1 := by omega
  obtain ⟨K2, hK2⟩ : ∃ K, K1 + ((n : Int) + (totJ es es.length : Int)) = K := ⟨_, rfl⟩
  have hp2 : 0 ≤ K2 := by omega
  rw [hK1] at hk HD HE ⊢
  rw [hK2] at HE ⊢
  clear H1 HK hk g1 g2 g3 g4 g5 hK1 hK2
  have BA := hide (fun (O : Obj) => below_alloc w O)
  go_enter Try.func14, Try.ntmps14
  go_wp2_with fail
  refine (HD.out _ (BA.out _)).mono ?_
  rintro e w2 ⟨rfl, hb2⟩
  have hs2 := hb2.size
  simp only [World.size_alloc] at hs2
  have p2 : w2.cell? ⟨w.heap.size, 2, none⟩ = some (.int .i64 a) := cell_later hb2 (by simp [go_sem]; try rfl)
  have p3 : w2.cell? ⟨w.heap.size, 3, none⟩ = some (.int .i64 b) := cell_later hb2 (by simp [go_sem]; try rfl)
  have p4 : w2.cell? ⟨w.heap.size, 4, none⟩ = some (.int .i64 c) := cell_later hb2 (by simp [go_sem]; try rfl)
  have p5 : w2.cell? ⟨w.heap.size, 5, none⟩ = some (.int .i64 d) := cell_later hb2 (by simp [go_sem]; try rfl)
  have p6 : w2.cell? ⟨w.heap.size, 6, none⟩ = some (.slice ay _ cy) := cell_later hb2 (by simp [go_sem]; try rfl)
  have p7 : w2.cell? ⟨w.heap.size, 7, none⟩ = some (.slice az _ cz) := cell_later hb2 (by simp [go_sem]; try rfl)
  have BC := hide (below_on (BA.out _) hb2)
  clear hb2
  go_wp2_with fail
  refine (HE.out _ BC.out).mono ?_
  rintro e w3 ⟨rfl, hb3⟩
  have BD := hide (below_on BC.out hb3)
  clear hb3
  go_wp2
  go_ret
  exact ⟨rfl, BD.out⟩

set_option maxHeartbeats 4000000 in
set_option maxRecDepth 4000 in
theorem markWorld {lo hi : Nat} {w : World} {u v y z : Value} {xss : List (List Int)} {ps : List (Int × List Int)} {xs : List Int} {es : List Oj} {k : Int} (a b c d : Int) (h : IvW lo hi w u v y z xss ps xs es) (hk0 : 0 ≤ k) (hk : k + (tot xss xss.length : Int) + (totP ps ps.length : Int) + ((xs.length : Int) + (totJ es es.length : Int)) ≤ 9223372036854775807) :
    Calls Try.prog 13 #[.agg #[u, v, .int .i64 a, .int .i64 b, .int .i64 c, .int .i64 d, y, z], .int .i64 k] w fun e w' => e = .returned (.int .i64 (k + (tot xss xss.length : Int) + (totP ps ps.length : Int) + ((xs.length : Int) + (totJ es es.length : Int)))) ∧ MkW k lo hi w' u v y z xss ps xs.length es ∧ Wr (fun b => lo ≤ b ∧ b < hi) w w' := by
  obtain ⟨au, cu, av, cv, ay, cy, az, cz, rfl, rfl, rfl, rfl⟩ := h.shape
  have H1 := hide h
  obtain ⟨a1, b1, c1, d1, k1, k2, k3, k4, k5, k6, k7, k8⟩ := h
  have H7 := hide k7
  have H8 := hide k8
  clear k7 k8 H1
  have HD := hide (fun (w' : World) (hb : Below w.heap.size w w') => markDiskIv2 (H7.out.later hb) hk0 (by omega))
  have HE := hide (fun (w' : World) (h : IvR c1 d1 w' (.slice ay xs.length cy) (.slice az es.length cz) xs es) => markRaft (k := k + (tot xss xss.length : Int) + (totP ps ps.length : Int)) a b c d h (by omega) hk)
  obtain ⟨K1, hK1⟩ : ∃ K, k + (tot xss xss.length : Int) + (totP ps ps.length : Int) = K := ⟨_, rfl⟩
  have hp1 : 0 ≤ K1 := by omega
  obtain ⟨K2, hK2⟩ : ∃ K, K1 + ((xs.length : Int) + (totJ es es.length : Int)) = K := ⟨_, rfl⟩
  rw [hK1] at HD HE hk ⊢
  rw [hK2] at HE ⊢
  have HK1 := hide hK1
  clear hK1 hK2 hk
  obtain ⟨l1, e1⟩ : ∃ l, xss.length = l := ⟨_, rfl⟩
  obtain ⟨l2, e2⟩ : ∃ l, ps.length = l := ⟨_, rfl⟩
  obtain ⟨l3, e3⟩ : ∃ l, xs.length = l := ⟨_, rfl⟩
  obtain ⟨l4, e4⟩ : ∃ l, es.length = l := ⟨_, rfl⟩
  simp only [e1, e2, e3, e4] at HD HE H8 ⊢
  have HE3 := hide e3
  clear e1 e2 e3 e4
  have BA := hide (fun (O : Obj) => below_alloc w O)
  go_enter Try.func13, Try.ntmps13
  go_wp2_with fail
  refine (HD.out _ (BA.out _)).mono ?_
  rintro e w2 ⟨rfl, hm2, hw2⟩
  have hs2 := hw2.size
  simp only [World.size_alloc] at hs2
  have p2 : w2.cell? ⟨w.heap.size, 2, none⟩ = some (.int .i64 a) := cell_wr hw2 (by simp [go_sem]) (by (try dsimp only); omega)
  have p3 : w2.cell? ⟨w.heap.size, 3, none⟩ = some (.int .i64 b) := cell_wr hw2 (by simp [go_sem]) (by (try dsimp only); omega)
  have p4 : w2.cell? ⟨w.heap.size, 4, none⟩ = some (.int .i64 c) := cell_wr hw2 (by simp [go_sem]) (by (try dsimp only); omega)
  have p5 : w2.cell? ⟨w.heap.size, 5, none⟩ = some (.int .i64 d) := cell_wr hw2 (by simp [go_sem]) (by (try dsimp only); omega)
  have p6 : w2.cell? ⟨w.heap.size, 6, none⟩ = some (.slice ay l3 cy) := cell_wr hw2 (by simp [go_sem]) (by (try dsimp only); omega)
  have p7 : w2.cell? ⟨w.heap.size, 7, none⟩ = some (.slice az l4 cz) := cell_wr hw2 (by simp [go_sem]) (by (try dsimp only); omega)
  have HM := hide hm2
  have HW := hide (wr_on (BA.out _) hw2)
  have H8b := hide ((H8.out.later (BA.out _)).wr hw2 (fun x j1 j2 j3 => by (try dsimp only at j3); omega))
  clear hm2 hw2
  go_wp2_with fail
  refine (HE.out _ H8b.out).mono ?_
  rintro e w3 ⟨rfl, hm3, hw3⟩
  have HM3 := hide hm3
  have HM4 := hide (HM.out.wr hw3 (fun x j1 j2 j3 => by (try dsimp only at j3); omega))
  have HW3 := hide ((HW.out.mono (fun x hx => (show lo ≤ x ∧ x < hi by omega))).trans (hw3.mono (fun x hx => (show lo ≤ x ∧ x < hi by omega))))
  clear hm3 hw3 HM HW H8 H8b
  go_wp2
  go_ret
  refine ⟨rfl, ⟨?_, ?_⟩, HW3.out⟩
  · obtain ⟨S, T, j1, j2, j3, j4⟩ := HM4.out
    exact ⟨S, T, fun x hx => by have := j1 x hx; omega, fun x hx => by have := j2 x hx; omega, j3, j4⟩
  · rw [HK1.out]
    exact ⟨HM3.out.1.narrow fun _ x hx => by omega, (show RdJ _ _ _ _ from HM3.out.2).monoR fun x hx => by omega⟩

set_option maxHeartbeats 4000000 in
set_option maxRecDepth 4000 in
theorem heldWorldResult {lo hi : Nat} {w : World} {x x1 x2 : Int} {u v y z : Value} {xss : List (List Int)} {ps : List (Int × List Int)} {n : Nat} {es : List Oj} {k : Int} (a b c d : Int) (h : MkW k lo hi w u v y z xss ps n es) (hk0 : 0 ≤ k) (hk : k + (tot xss xss.length : Int) + (totP ps ps.length : Int) + ((n : Int) + (totJ es es.length : Int)) ≤ 9223372036854775807) :
    Calls Try.prog 8 #[.agg #[.int .i64 x, .int .i64 x1, .int .i64 x2, u, v, .int .i64 a, .int .i64 b, .int .i64 c, .int .i64 d, y, z], .int .i64 k] w fun e w' => e = .returned (.int .i64 (k + (tot xss xss.length : Int) + (totP ps ps.length : Int) + ((n : Int) + (totJ es es.length : Int)))) ∧ Below w.heap.size w w' := by
  have H1 := hide h
  obtain ⟨⟨S, T, g1, g2, g3, g4⟩, g5⟩ := h
  obtain ⟨au, cu, rfl⟩ := g3.shapeW
  obtain ⟨av, cv, rfl⟩ := g4.shapeW
  obtain ⟨ay, cy, rfl⟩ := g5.1.shape
  obtain ⟨az, cz, rfl⟩ := (show RdJ _ _ _ _ from g5.2).shapeW
  have HK := hide hk
  have HD := hide (fun (w' : World) (hb : Below w.heap.size w w') => heldWorld a b c d (H1.out.later hb) hk0 hk)
  obtain ⟨K1, hK1⟩ : ∃ K, k + (tot xss xss.length : Int) + (totP ps ps.length : Int) = K := ⟨_, rfl⟩
  have hp1 : 0 ≤ K1 := by omega
  obtain ⟨K2, hK2⟩ : ∃ K, K1 + ((n : Int) + (totJ es es.length : Int)) = K := ⟨_, rfl⟩
  have hp2 : 0 ≤ K2 := by omega
  rw [hK1] at hk HD ⊢
  rw [hK2] at HD ⊢
  clear H1 HK hk g1 g2 g3 g4 g5 hK1 hK2
  have BA := hide (fun (O : Obj) => below_alloc w O)
  go_enter Try.func8, Try.ntmps8
  go_wp2_with fail
  refine (HD.out _ (BA.out _)).mono ?_
  rintro e w2 ⟨rfl, hb2⟩
  have BC := hide (below_on (BA.out _) hb2)
  clear hb2
  go_wp2
  go_ret
  exact ⟨rfl, BC.out⟩

set_option maxHeartbeats 4000000 in
set_option maxRecDepth 4000 in
theorem markWorldResult {lo hi : Nat} {w : World} {x x1 x2 : Int} {u v y z : Value} {xss : List (List Int)} {ps : List (Int × List Int)} {xs : List Int} {es : List Oj} {k : Int} (a b c d : Int) (h : IvW lo hi w u v y z xss ps xs es) (hk0 : 0 ≤ k) (hk : k + (tot xss xss.length : Int) + (totP ps ps.length : Int) + ((xs.length : Int) + (totJ es es.length : Int)) ≤ 9223372036854775807) :
    Calls Try.prog 7 #[.agg #[.int .i64 x, .int .i64 x1, .int .i64 x2, u, v, .int .i64 a, .int .i64 b, .int .i64 c, .int .i64 d, y, z], .int .i64 k] w fun e w' => e = .returned (.int .i64 (k + (tot xss xss.length : Int) + (totP ps ps.length : Int) + ((xs.length : Int) + (totJ es es.length : Int)))) ∧ MkW k lo hi w' u v y z xss ps xs.length es ∧ Wr (fun b => lo ≤ b ∧ b < hi) w w' := by
  obtain ⟨au, cu, av, cv, ay, cy, az, cz, rfl, rfl, rfl, rfl⟩ := h.shape
  have H1 := hide h
  have HD := hide (fun (w' : World) (hb : Below w.heap.size w w') => markWorld a b c d (H1.out.later hb) hk0 hk)
  clear h
  obtain ⟨K1, hK1⟩ : ∃ K, k + (tot xss xss.length : Int) + (totP ps ps.length : Int) = K := ⟨_, rfl⟩
  have hp1 : 0 ≤ K1 := by omega
  obtain ⟨K2, hK2⟩ : ∃ K, K1 + ((xs.length : Int) + (totJ es es.length : Int)) = K := ⟨_, rfl⟩
  rw [hK1] at HD hk ⊢
  rw [hK2] at HD ⊢
  have HK1 := hide hK1
  clear hK1 hK2 hk
  obtain ⟨l1, e1⟩ : ∃ l, xss.length = l := ⟨_, rfl⟩
  obtain ⟨l2, e2⟩ : ∃ l, ps.length = l := ⟨_, rfl⟩
  obtain ⟨l3, e3⟩ : ∃ l, xs.length = l := ⟨_, rfl⟩
  obtain ⟨l4, e4⟩ : ∃ l, es.length = l := ⟨_, rfl⟩
  rw [e1, e2, e3, e4] at HD ⊢
  have HE3 := hide e3
  clear e1 e2 e3 e4
  have BA := hide (fun (O : Obj) => below_alloc w O)
  go_enter Try.func7, Try.ntmps7
  go_wp2_with fail
  refine (HD.out _ (BA.out _)).mono ?_
  rintro e w2 ⟨rfl, hm2, hw2⟩
  have HM := hide hm2
  have HW := hide (wr_on (BA.out _) hw2)
  clear hm2 hw2
  go_wp2
  go_ret
  exact ⟨rfl, HM.out, HW.out⟩

end Go.Proofs.Ytkdbkkhmaiomkaa
/- Chapter 13: 'impl.NewWorld' and 'spec.NewWorld', walked. -/
namespace Go.Proofs.Ytkdbkkhmaiomkaa
open Go.RowKit

theorem IvD_nil (lo hi : Nat) (w : World) (h : hi ≤ w.heap.size) : IvD lo hi w (.slice none 0 0) (.slice none 0 0) [] [] :=
  ⟨fun _ => False, fun _ => False, h, fun _ h => h.elim, fun _ h => h.elim, fun _ _ h => h, ⟨none, 0, 0, 0, fun _ => .slice none 0 0, fun _ => 0, by simp, by simp, fun h => absurd rfl h, fun i hi => absurd hi (by simp)⟩, ⟨none, 0, 0, 0, fun _ => .slice none 0 0, fun _ => 0, by simp, by simp, fun h => absurd rfl h, fun i hi => absurd hi (by simp)⟩⟩
theorem IvR_none (lo hi : Nat) (w : World) (h : hi ≤ w.heap.size) : IvR lo hi w (.slice none 0 0) (.slice none 0 0) [] [] :=
  ⟨0, fun _ => False, ⟨none, 0, by simp, by simp, fun h => absurd rfl h⟩, fun h => absurd rfl h, h, fun _ h => h.elim, ⟨none, 0, 0, 0, fun _ => .bool false, fun _ => 0, by simp, by simp, fun h => absurd rfl h, fun i hi => absurd hi (by simp)⟩⟩
theorem IvW_disk {lo hi : Nat} {w : World} {u v : Value} {xss : List (List Int)} {ps : List (Int × List Int)} (h : IvD lo hi w u v xss ps) (hl : lo ≤ w.heap.size) (hh : hi ≤ w.heap.size) : IvW lo w.heap.size w u v (.slice none 0 0) (.slice none 0 0) xss ps [] [] :=
  ⟨lo, hi, w.heap.size, w.heap.size, Nat.le_refl _, hh, hl, Nat.le_refl _, Nat.le_refl _, Or.inl hh, h, IvR_none _ _ w (Nat.le_refl _)⟩

set_option maxHeartbeats 4000000 in
set_option maxRecDepth 4000 in
theorem implNewWorld (q : Int) (w : World) : Calls Try.prog 5 #[.int .i64 q] w (EndsW (fmtF q) 0 0 (fmtXs q) [] 0 0 0 0 [] [] w) := by
  have HF := hide (fun (w : World) => implFormat q w)
  obtain ⟨c, hc⟩ : ∃ c, fmtF q = c := ⟨_, rfl⟩
  obtain ⟨xss, hx⟩ : ∃ c, fmtXs q = c := ⟨_, rfl⟩
  have hcx : c = 0 ∨ (c = 3 ∧ xss = []) := by subst hc hx; unfold fmtF fmtXs; split <;> simp
  rw [hc, hx] at HF ⊢
  clear hc hx
  have R0 := hide (Res11.new (Below.refl w.heap.size w) 33)
  go_enter Try.func5, Try.ntmps5
  go_wp2_with fail
  refine (HF.out _).mono ?_
  rintro e w1 ⟨u, v, rfl, hb, ho⟩
  have R1 := hide (R0.out.later hb)
  have hs : w.heap.size + 1 ≤ w1.heap.size := by have := hb.size; simpa using this
  have V1 := hide ho.iv
  rw [World.size_alloc] at V1
  obtain ⟨au, cu, av, cv, rfl, rfl⟩ := ho.shape
  clear hb ho R0
  go_upto_region 2 with fail
  refine forget (fun W => Res11 w W w.heap.size ∧ Var3 W w1.heap.size (.int .i64 c) (.slice au xss.length cu) (.slice av ([] : List (Int × List Int)).length cv) ∧ IvD (w.heap.size + 1) w1.heap.size W (.slice au xss.length cu) (.slice av ([] : List (Int × List Int)).length cv) xss [] ∧ W.heap.size = w1.heap.size + 1) ⟨R1.out.later (below_alloc _ _), Var3_new _ _ _ _ _, V1.out.later (below_alloc _ _), by simp⟩ ?_
  clear R1 V1
  rintro W ⟨hr, ⟨d0, d1, d2⟩, hiv, hsz⟩
  have HR := hide hr
  have HV := hide hiv
  obtain ⟨r0, r1, r2, r3, r4, r5, r6, r7, r8, r9, r10⟩ := hr.v
  have f0 := hr.fr 0
  have f1 := hr.fr 1
  have f2 := hr.fr 2
  have f3 := hr.fr 3
  have f4 := hr.fr 4
  have f5 := hr.fr 5
  have f6 := hr.fr 6
  have f7 := hr.fr 7
  have f8 := hr.fr 8
  have f9 := hr.fr 9
  have f10 := hr.fr 10
  clear hr hiv
  rcases hcx with rfl | ⟨rfl, rfl⟩
  · go_wp2
    refine bodyPost_ret (v := .agg #[.int .i64 0, .int .i64 0, .int .i64 0, .slice au xss.length cu, .slice av ([] : List (Int × List Int)).length cv, .int .i64 0, .int .i64 0, .int .i64 0, .int .i64 0, .slice none 0 0, .slice none 0 0]) (by simp [results, Try.results5, go_sem, r0, r1, r2, r3, r4, r5, r6, r7, r8, r9, r10]) rfl ⟨_, _, _, _, rfl, (ret_w HR.out.below (Nat.le_refl _) (IvW_disk HV.out (by omega) (by omega)) (by omega)).1, (ret_w HR.out.below (Nat.le_refl _) (IvW_disk HV.out (by omega) (by omega)) (by omega)).2⟩
  · go_wp2
    refine bodyPost_ret (v := .agg #[.int .i64 3, .int .i64 0, .int .i64 0, .slice none 0 0, .slice none 0 0, .int .i64 0, .int .i64 0, .int .i64 0, .int .i64 0, .slice none 0 0, .slice none 0 0]) (by simp [results, Try.results5, go_sem, r0, r1, r2, r3, r4, r5, r6, r7, r8, r9, r10]) rfl ⟨_, _, _, _, rfl, (ret_w HR.out.below (Nat.le_refl _) (IvW_disk (IvD_nil (w.heap.size + 1) (w.heap.size + 1) W (by omega)) (by omega) (by omega)) (by omega)).1, (ret_w HR.out.below (Nat.le_refl _) (IvW_disk (IvD_nil (w.heap.size + 1) (w.heap.size + 1) W (by omega)) (by omega) (by omega)) (by omega)).2⟩
set_option maxHeartbeats 4000000 in
set_option maxRecDepth 4000 in
theorem l13BadI (c : Int) (w : World) : Calls Try.prog 10 #[.int .i64 c] w fun e w' => e = .returned (.agg #[.int .i64 c, .int .i64 0, .int .i64 0, .slice none 0 0, .slice none 0 0, .int .i64 0, .int .i64 0, .int .i64 0, .int .i64 0, .slice none 0 0, .slice none 0 0]) ∧ Below w.heap.size w w' := by
  have A0 := hide (below_alloc w (.cells #[.int .i64 0, .int .i64 0, .int .i64 0, .slice none 0 0, .slice none 0 0, .int .i64 0, .int .i64 0, .int .i64 0, .int .i64 0, .slice none 0 0, .slice none 0 0] 33))
  go_enter Try.func10, Try.ntmps10
  go_wp2
  refine bodyPost_ret (v := .agg #[.int .i64 c, .int .i64 0, .int .i64 0, .slice none 0 0, .slice none 0 0, .int .i64 0, .int .i64 0, .int .i64 0, .int .i64 0, .slice none 0 0, .slice none 0 0]) (by simp [results, Try.results10, go_sem]) rfl ⟨rfl, ?_⟩
  first | exact below_alloc _ _ | (repeat (first | refine Below.setCell ?_ (by first | (simp; done) | (simp; omega) | omega) _ | exact A0.out))

set_option maxHeartbeats 4000000 in
set_option maxRecDepth 4000 in
theorem specNewWorld (q : Int) (w : World) : Calls Try.prog 4 #[.int .i64 q] w (EndsW (fmtF q) 0 0 (fmtXs q) [] 0 0 0 0 [] [] w) := by
  have HF := hide (fun (w : World) => specFormat q w)
  obtain ⟨c, hc⟩ : ∃ c, fmtF q = c := ⟨_, rfl⟩
  obtain ⟨xss, hx⟩ : ∃ c, fmtXs q = c := ⟨_, rfl⟩
  have hcx : c = 0 ∨ (c = 3 ∧ xss = []) := by subst hc hx; unfold fmtF fmtXs; split <;> simp
  rw [hc, hx] at HF ⊢
  clear hc hx
  have R0 := hide (Res11.new (Below.refl w.heap.size w) 33)
  go_enter Try.func4, Try.ntmps4
  go_wp2_with fail
  refine (HF.out _).mono ?_
  rintro e w1 ⟨u, v, rfl, hb, ho⟩
  have R1 := hide (R0.out.later hb)
  have hs : w.heap.size + 1 ≤ w1.heap.size := by have := hb.size; simpa using this
  have V1 := hide ho.iv
  rw [World.size_alloc] at V1
  obtain ⟨au, cu, av, cv, rfl, rfl⟩ := ho.shape
  clear hb ho R0
  go_upto_region 2 with fail
  refine forget (fun W => Res11 w W w.heap.size ∧ Var3 W w1.heap.size (.int .i64 c) (.slice au xss.length cu) (.slice av ([] : List (Int × List Int)).length cv) ∧ IvD (w.heap.size + 1) w1.heap.size W (.slice au xss.length cu) (.slice av ([] : List (Int × List Int)).length cv) xss [] ∧ W.heap.size = w1.heap.size + 1) ⟨R1.out.later (below_alloc _ _), Var3_new _ _ _ _ _, V1.out.later (below_alloc _ _), by simp⟩ ?_
  clear R1 V1
  rintro W ⟨hr, ⟨d0, d1, d2⟩, hiv, hsz⟩
  have HR := hide hr
  have HV := hide hiv
  obtain ⟨r0, r1, r2, r3, r4, r5, r6, r7, r8, r9, r10⟩ := hr.v
  have f0 := hr.fr 0
  have f1 := hr.fr 1
  have f2 := hr.fr 2
  have f3 := hr.fr 3
  have f4 := hr.fr 4
  have f5 := hr.fr 5
  have f6 := hr.fr 6
  have f7 := hr.fr 7
  have f8 := hr.fr 8
  have f9 := hr.fr 9
  have f10 := hr.fr 10
  clear hr hiv
  rcases hcx with rfl | ⟨rfl, rfl⟩
  · go_wp2
    refine bodyPost_ret (v := .agg #[.int .i64 0, .int .i64 0, .int .i64 0, .slice au xss.length cu, .slice av ([] : List (Int × List Int)).length cv, .int .i64 0, .int .i64 0, .int .i64 0, .int .i64 0, .slice none 0 0, .slice none 0 0]) (by simp [results, Try.results4, go_sem, r0, r1, r2, r3, r4, r5, r6, r7, r8, r9, r10]) rfl ⟨_, _, _, _, rfl, (ret_w HR.out.below (Nat.le_refl _) (IvW_disk HV.out (by omega) (by omega)) (by omega)).1, (ret_w HR.out.below (Nat.le_refl _) (IvW_disk HV.out (by omega) (by omega)) (by omega)).2⟩
  · clear r0 r1 r2 r3 r4 r5 r6 r7 r8 r9 r10 f0 f1 f2 f3 f4 f5 f6 f7 f8 f9 f10
    go_wp2_with fail
    refine (l13BadI 3 _).mono ?_
    rintro e w3 ⟨rfl, hb3⟩
    have hr := HR.out.later hb3
    have hs3 := hb3.size
    have HR3 := hide hr
    obtain ⟨r0, r1, r2, r3, r4, r5, r6, r7, r8, r9, r10⟩ := hr.v
    have f0 := hr.fr 0
    have f1 := hr.fr 1
    have f2 := hr.fr 2
    have f3 := hr.fr 3
    have f4 := hr.fr 4
    have f5 := hr.fr 5
    have f6 := hr.fr 6
    have f7 := hr.fr 7
    have f8 := hr.fr 8
    have f9 := hr.fr 9
    have f10 := hr.fr 10
    clear hr HR HV hb3 d0 d1 d2
    go_wp2
    refine bodyPost_ret (v := .agg #[.int .i64 3, .int .i64 0, .int .i64 0, .slice none 0 0, .slice none 0 0, .int .i64 0, .int .i64 0, .int .i64 0, .int .i64 0, .slice none 0 0, .slice none 0 0]) (by simp [results, Try.results4, go_sem, r0, r1, r2, r3, r4, r5, r6, r7, r8, r9, r10]) rfl ⟨_, _, _, _, rfl, (ret_w HR3.out.below (Nat.le_refl _) (IvW_disk (IvD_nil (w.heap.size + 1) (w.heap.size + 1) w3 (by omega)) (by omega) (by omega)) (by omega)).1, (ret_w HR3.out.below (Nat.le_refl _) (IvW_disk (IvD_nil (w.heap.size + 1) (w.heap.size + 1) w3 (by omega)) (by omega) (by omega)) (by omega)).2⟩
end Go.Proofs.Ytkdbkkhmaiomkaa
/- The law 'FnExactNewWorld' walked, out of what the program's function and the model's leave. Made by program (gennw.py). -/
namespace Go.Proofs.Ytkdbkkhmaiomkaa
open Go.RowKit

set_option maxHeartbeats 4000000 in
theorem lawNewWorld_small {w : World} (a0 : Int)  (code : Int) (rss : List (List Int)) (rps : List (Int × List Int)) (x1 x2 q0 q1 q2 q3 : Int) (rs : List Int) (rp : List Oj) (hres : (tot rss rss.length : Int) + (totP rps rps.length : Int) + ((rs.length : Int) + (totJ rp rp.length : Int)) ≤ 16777216)
    
    (hspec : ∀ (w : World), Calls Try.prog 4 #[.int .i64 a0] w (EndsW code x1 x2 rss rps q0 q1 q2 q3 rs rp w))
    (himpl : ∀ (w : World), Calls Try.prog 5 #[.int .i64 a0] w (EndsW code x1 x2 rss rps q0 q1 q2 q3 rs rp w)) :
    Calls Try.prog 3 #[.int .i64 a0] w fun e w' => e = .returned (.bool true) ∧ Below w.heap.size w w' := by
  have HS := hide hspec
  have HI := hide himpl
  clear hspec himpl
  have HRB := hide (show (1 : Int) + (tot rss rss.length : Int) + (totP rps rps.length : Int) + ((rs.length : Int) + (totJ rp rp.length : Int)) ≤ 9223372036854775807 by omega)
  have hM : 0 ≤ (1 : Int) + (tot rss rss.length : Int) + (totP rps rps.length : Int) + ((rs.length : Int) + (totJ rp rp.length : Int)) := by omega
  obtain ⟨M, hMe⟩ : ∃ M : Int, (1 : Int) + (tot rss rss.length : Int) + (totP rps rps.length : Int) + ((rs.length : Int) + (totJ rp rp.length : Int)) = M := ⟨_, rfl⟩
  rw [hMe] at hM
  have HMe := hide hMe
  clear hMe hres
  go_enter Try.func3, Try.ntmps3
  have BB := hide (Below.refl w.heap.size w)
  go_wp2_with fail
  refine (HS.out  _  ).mono ?_
  rintro e w1 ⟨uW, vW, yW, zW, rfl, hb, ho⟩
  obtain ⟨aoW, cW, aoW', cW', boW, dW, boW', dW', rfl, rfl, rfl, rfl⟩ := ho.shape
  have BC := hide (below_on BB.out hb)
  have z1 : w.heap.size ≤ w1.heap.size := by have := hb.size; simpa using this
  have N_W := hide (ho)
  clear hb
  clear ho
  clear BB
  have BB := BC
  clear BC
  have F_W := N_W
  clear N_W
  go_wp2_with fail
  refine (HI.out  _  ).mono ?_
  rintro e w2 ⟨uG, vG, yG, zG, rfl, hb, ho⟩
  obtain ⟨aoG, cG, aoG', cG', boG, dG, boG', dG', rfl, rfl, rfl, rfl⟩ := ho.shape
  have G_W := hide ((F_W.out.later (below_alloc _ (.cells #[.int .i64 code, .int .i64 x1, .int .i64 x2, .slice aoW rss.length cW, .slice aoW' rps.length cW', .int .i64 q0, .int .i64 q1, .int .i64 q2, .int .i64 q3, .slice boW rs.length dW, .slice boW' rp.length dW'] 33))).later hb)
  have BC := hide (below_on (below_on BB.out (below_alloc _ (.cells #[.int .i64 code, .int .i64 x1, .int .i64 x2, .slice aoW rss.length cW, .slice aoW' rps.length cW', .int .i64 q0, .int .i64 q1, .int .i64 q2, .int .i64 q3, .slice boW rs.length dW, .slice boW' rp.length dW'] 33))) hb)
  have z2 : w1.heap.size + 1 ≤ w2.heap.size := by have := hb.size; simpa using this
  have N_G := hide (ho)
  have N_vW := hide ((Var11_new w1 (.int .i64 code) (.int .i64 x1) (.int .i64 x2) (.slice aoW rss.length cW) (.slice aoW' rps.length cW') (.int .i64 q0) (.int .i64 q1) (.int .i64 q2) (.int .i64 q3) (.slice boW rs.length dW) (.slice boW' rp.length dW') 33).later hb)
  clear hb
  clear ho
  clear F_W
  have F_W := G_W
  clear G_W
  clear BB
  have BB := BC
  clear BC
  have F_G := N_G
  clear N_G
  have F_vW := N_vW
  clear N_vW
  have vWlt := F_vW.out.lt
  obtain ⟨vWc0, vWc1, vWc2, vWc3, vWc4, vWc5, vWc6, vWc7, vWc8, vWc9, vWc10⟩ := F_vW.out
  go_wp2_with fail
  refine (eqWorldResult q0 q1 q2 q3 (F_G.out.later (below_alloc _ _)).rdII (F_G.out.later (below_alloc _ _)).rdP (F_G.out.later (below_alloc _ _)).rdI (F_G.out.later (below_alloc _ _)).rdJ (F_W.out.later (below_alloc _ _)).rdII (F_W.out.later (below_alloc _ _)).rdP (F_W.out.later (below_alloc _ _)).rdI (F_W.out.later (below_alloc _ _)).rdJ).mono ?_
  rintro e w3 ⟨rfl, hb⟩
  have G_W := hide ((F_W.out.later (below_alloc _ (.cells #[.int .i64 code, .int .i64 x1, .int .i64 x2, .slice aoG rss.length cG, .slice aoG' rps.length cG', .int .i64 q0, .int .i64 q1, .int .i64 q2, .int .i64 q3, .slice boG rs.length dG, .slice boG' rp.length dG'] 33))).later hb)
  have G_G := hide ((F_G.out.later (below_alloc _ (.cells #[.int .i64 code, .int .i64 x1, .int .i64 x2, .slice aoG rss.length cG, .slice aoG' rps.length cG', .int .i64 q0, .int .i64 q1, .int .i64 q2, .int .i64 q3, .slice boG rs.length dG, .slice boG' rp.length dG'] 33))).later hb)
  have G_vW := hide ((F_vW.out.later (below_alloc _ (.cells #[.int .i64 code, .int .i64 x1, .int .i64 x2, .slice aoG rss.length cG, .slice aoG' rps.length cG', .int .i64 q0, .int .i64 q1, .int .i64 q2, .int .i64 q3, .slice boG rs.length dG, .slice boG' rp.length dG'] 33))).later hb)
  have BC := hide (below_on (below_on BB.out (below_alloc _ (.cells #[.int .i64 code, .int .i64 x1, .int .i64 x2, .slice aoG rss.length cG, .slice aoG' rps.length cG', .int .i64 q0, .int .i64 q1, .int .i64 q2, .int .i64 q3, .slice boG rs.length dG, .slice boG' rp.length dG'] 33))) hb)
  have z3 : w2.heap.size + 1 ≤ w3.heap.size := by have := hb.size; simpa using this
  have N_vG := hide ((Var11_new w2 (.int .i64 code) (.int .i64 x1) (.int .i64 x2) (.slice aoG rss.length cG) (.slice aoG' rps.length cG') (.int .i64 q0) (.int .i64 q1) (.int .i64 q2) (.int .i64 q3) (.slice boG rs.length dG) (.slice boG' rp.length dG') 33).later hb)
  clear hb
  clear vWlt vWc0 vWc1 vWc2 vWc3 vWc4 vWc5 vWc6 vWc7 vWc8 vWc9 vWc10
  clear F_W
  have F_W := G_W
  clear G_W
  clear F_G
  have F_G := G_G
  clear G_G
  clear F_vW
  have F_vW := G_vW
  clear G_vW
  clear BB
  have BB := BC
  clear BC
  have F_vG := N_vG
  clear N_vG
  have vGlt := F_vG.out.lt
  obtain ⟨vGc0, vGc1, vGc2, vGc3, vGc4, vGc5, vGc6, vGc7, vGc8, vGc9, vGc10⟩ := F_vG.out
  go_wp2_with fail
  refine (markWorldResult q0 q1 q2 q3 F_G.out (by omega) HRB.out).mono ?_
  rintro e w4 ⟨he, hr, hw⟩
  rw [HMe.out] at he
  subst he
  have N_R := hide hr
  clear vGlt vGc0 vGc1 vGc2 vGc3 vGc4 vGc5 vGc6 vGc7 vGc8 vGc9 vGc10
  clear F_G
  have z4 : w3.heap.size ≤ w4.heap.size := hw.size
  have G_W := hide (F_W.out.wr hw (by intro b; simp <;> omega))
  have G_vW := hide (F_vW.out.wr hw (by have := F_vW.out.lt; simp <;> omega))
  have G_vG := hide (F_vG.out.wr hw (by have := F_vG.out.lt; simp <;> omega))
  have BC := hide (BB.out.trans (hw.below (by omega) (by intro b hb; (try simp at hb); omega)))
  clear hw hr
  clear F_W
  have F_W := G_W
  clear G_W
  clear F_vW
  have F_vW := G_vW
  clear G_vW
  clear F_vG
  have F_vG := G_vG
  clear G_vG
  clear BB
  have BB := BC
  clear BC
  have F_R := N_R
  clear N_R
  have vGlt := F_vG.out.lt
  obtain ⟨vGc0, vGc1, vGc2, vGc3, vGc4, vGc5, vGc6, vGc7, vGc8, vGc9, vGc10⟩ := F_vG.out
  go_wp2_with fail
  refine (heldWorldResult q0 q1 q2 q3 F_R.out (by omega) HRB.out).mono ?_
  rintro e w5 ⟨he, hb⟩
  rw [HMe.out] at he
  subst he
  have G_W := hide (F_W.out.later hb)
  have G_vW := hide (F_vW.out.later hb)
  have G_vG := hide (F_vG.out.later hb)
  have G_R := hide (F_R.out.later hb)
  have BC := hide (below_on BB.out hb)
  have z5 : w4.heap.size ≤ w5.heap.size := by have := hb.size; simpa using this
  clear hb
  clear vGlt vGc0 vGc1 vGc2 vGc3 vGc4 vGc5 vGc6 vGc7 vGc8 vGc9 vGc10
  clear F_W
  have F_W := G_W
  clear G_W
  clear F_vW
  have F_vW := G_vW
  clear G_vW
  clear F_vG
  have F_vG := G_vG
  clear G_vG
  clear F_R
  have F_R := G_R
  clear G_R
  clear BB
  have BB := BC
  clear BC
  go_wp2_with fail
  refine (HI.out  _  ).mono ?_
  rintro e w6 ⟨uH, vH, yH, zH, rfl, hb, ho⟩
  obtain ⟨aoH, cH, aoH', cH', boH, dH, boH', dH', rfl, rfl, rfl, rfl⟩ := ho.shape
  have G_W := hide (F_W.out.later hb)
  have G_vW := hide (F_vW.out.later hb)
  have G_vG := hide (F_vG.out.later hb)
  have G_R := hide (F_R.out.later hb)
  have BC := hide (below_on BB.out hb)
  have z6 : w5.heap.size ≤ w6.heap.size := by have := hb.size; simpa using this
  have N_H := hide (ho)
  clear hb
  clear ho
  clear F_W
  have F_W := G_W
  clear G_W
  clear F_vW
  have F_vW := G_vW
  clear G_vW
  clear F_vG
  have F_vG := G_vG
  clear G_vG
  clear F_R
  have F_R := G_R
  clear G_R
  clear BB
  have BB := BC
  clear BC
  have F_H := N_H
  clear N_H
  have vWlt := F_vW.out.lt
  obtain ⟨vWc0, vWc1, vWc2, vWc3, vWc4, vWc5, vWc6, vWc7, vWc8, vWc9, vWc10⟩ := F_vW.out
  go_wp2_with fail
  refine (eqWorldResult q0 q1 q2 q3 (F_H.out.later (below_alloc _ _)).rdII (F_H.out.later (below_alloc _ _)).rdP (F_H.out.later (below_alloc _ _)).rdI (F_H.out.later (below_alloc _ _)).rdJ (F_W.out.later (below_alloc _ _)).rdII (F_W.out.later (below_alloc _ _)).rdP (F_W.out.later (below_alloc _ _)).rdI (F_W.out.later (below_alloc _ _)).rdJ).mono ?_
  rintro e w7 ⟨rfl, hb⟩
  have G_W := hide ((F_W.out.later (below_alloc _ (.cells #[.int .i64 code, .int .i64 x1, .int .i64 x2, .slice aoH rss.length cH, .slice aoH' rps.length cH', .int .i64 q0, .int .i64 q1, .int .i64 q2, .int .i64 q3, .slice boH rs.length dH, .slice boH' rp.length dH'] 33))).later hb)
  have G_vW := hide ((F_vW.out.later (below_alloc _ (.cells #[.int .i64 code, .int .i64 x1, .int .i64 x2, .slice aoH rss.length cH, .slice aoH' rps.length cH', .int .i64 q0, .int .i64 q1, .int .i64 q2, .int .i64 q3, .slice boH rs.length dH, .slice boH' rp.length dH'] 33))).later hb)
  have G_vG := hide ((F_vG.out.later (below_alloc _ (.cells #[.int .i64 code, .int .i64 x1, .int .i64 x2, .slice aoH rss.length cH, .slice aoH' rps.length cH', .int .i64 q0, .int .i64 q1, .int .i64 q2, .int .i64 q3, .slice boH rs.length dH, .slice boH' rp.length dH'] 33))).later hb)
  have G_R := hide ((F_R.out.later (below_alloc _ (.cells #[.int .i64 code, .int .i64 x1, .int .i64 x2, .slice aoH rss.length cH, .slice aoH' rps.length cH', .int .i64 q0, .int .i64 q1, .int .i64 q2, .int .i64 q3, .slice boH rs.length dH, .slice boH' rp.length dH'] 33))).later hb)
  have G_H := hide ((F_H.out.later (below_alloc _ (.cells #[.int .i64 code, .int .i64 x1, .int .i64 x2, .slice aoH rss.length cH, .slice aoH' rps.length cH', .int .i64 q0, .int .i64 q1, .int .i64 q2, .int .i64 q3, .slice boH rs.length dH, .slice boH' rp.length dH'] 33))).later hb)
  have BC := hide (below_on (below_on BB.out (below_alloc _ (.cells #[.int .i64 code, .int .i64 x1, .int .i64 x2, .slice aoH rss.length cH, .slice aoH' rps.length cH', .int .i64 q0, .int .i64 q1, .int .i64 q2, .int .i64 q3, .slice boH rs.length dH, .slice boH' rp.length dH'] 33))) hb)
  have z7 : w6.heap.size + 1 ≤ w7.heap.size := by have := hb.size; simpa using this
  have N_vH := hide ((Var11_new w6 (.int .i64 code) (.int .i64 x1) (.int .i64 x2) (.slice aoH rss.length cH) (.slice aoH' rps.length cH') (.int .i64 q0) (.int .i64 q1) (.int .i64 q2) (.int .i64 q3) (.slice boH rs.length dH) (.slice boH' rp.length dH') 33).later hb)
  clear hb
  clear vWlt vWc0 vWc1 vWc2 vWc3 vWc4 vWc5 vWc6 vWc7 vWc8 vWc9 vWc10
  clear F_W
  have F_W := G_W
  clear G_W
  clear F_vW
  have F_vW := G_vW
  clear G_vW
  clear F_vG
  have F_vG := G_vG
  clear G_vG
  clear F_R
  have F_R := G_R
  clear G_R
  clear F_H
  have F_H := G_H
  clear G_H
  clear BB
  have BB := BC
  clear BC
  have F_vH := N_vH
  clear N_vH
  clear F_H
  clear F_W
  clear F_vH
  clear F_vW
  have vGlt := F_vG.out.lt
  obtain ⟨vGc0, vGc1, vGc2, vGc3, vGc4, vGc5, vGc6, vGc7, vGc8, vGc9, vGc10⟩ := F_vG.out
  go_wp2_with fail
  refine (heldWorldResult q0 q1 q2 q3 F_R.out (by omega) HRB.out).mono ?_
  rintro e w8 ⟨he, hb⟩
  rw [HMe.out] at he
  subst he
  have G_vG := hide (F_vG.out.later hb)
  have G_R := hide (F_R.out.later hb)
  have BC := hide (below_on BB.out hb)
  have z8 : w7.heap.size ≤ w8.heap.size := by have := hb.size; simpa using this
  clear hb
  clear vGlt vGc0 vGc1 vGc2 vGc3 vGc4 vGc5 vGc6 vGc7 vGc8 vGc9 vGc10
  clear F_vG
  have F_vG := G_vG
  clear G_vG
  clear F_R
  have F_R := G_R
  clear G_R
  clear BB
  have BB := BC
  clear BC
  go_wp2
  go_ret
  exact ⟨rfl, BB.out⟩
end Go.Proofs.Ytkdbkkhmaiomkaa
