/- Iv Hd Ob in one text: what each says stands at its head below. -/
import Derived.Test.YtcbapclpopbjbaaDoorG02
import Derived.Test.YtcbapclpopbjbaaDoorG03
import Derived.Test.YtcbapclpopbjbaaDoorG04
/- What lies in an interval of blocks, and how it is carried from world to world; the laws' functions over a code with a list. -/
namespace Go.Proofs.YtcbapclpopbjbaaDoor
open Go.RowKit

/-- Numbers in one block of [lo, hi), not frozen. -/
def IvI (lo hi : Nat) (w : World) (v : Value) (xs : List Int) : Prop :=
  ∃ b, RdI (· = b) w v xs ∧ (xs ≠ [] → lo ≤ b ∧ b < hi ∧ b < w.heap.size ∧ ∀ o, w.frozen? ⟨b, o, none⟩ = false)
theorem OwI.iv {B : Nat} {w : World} {v : Value} {xs : List Int} (h : OwI B w v xs) : IvI B w.heap.size w v xs := by
  obtain ⟨b, h1, h2⟩ := h
  exact ⟨b, h1, fun hne => ⟨(h2 hne).1, (h2 hne).2.1, (h2 hne).2.1, (h2 hne).2.2⟩⟩
theorem IvI.wr {lo hi : Nat} {T : Nat → Prop} {w w' : World} {v : Value} {xs : List Int} (h : IvI lo hi w v xs) (hw : Wr T w w') (hd : ∀ b, lo ≤ b → b < hi → ¬ T b) : IvI lo hi w' v xs := by
  obtain ⟨b, h1, h2⟩ := h
  refine ⟨b, h1.wr hw (fun hne x hx => by subst hx; exact hd _ (h2 hne).1 (h2 hne).2.1), fun hne => ?_⟩
  obtain ⟨k1, k2, k3, k4⟩ := h2 hne
  exact ⟨k1, k2, Nat.lt_of_lt_of_le k3 hw.size, fun o => by rw [hw.frz _ _ k3]; exact k4 o⟩
theorem IvI.later {lo hi : Nat} {w w' : World} {v : Value} {xs : List Int} (h : IvI lo hi w v xs) (hb : Below w.heap.size w w') : IvI lo hi w' v xs :=
  h.wr (Wr.of_below hb fun _ => False) fun _ _ _ => id
theorem IvI.rd {lo hi : Nat} {w : World} {v : Value} {xs : List Int} (h : IvI lo hi w v xs) : RdI (fun b => lo ≤ b ∧ b < hi) w v xs := by
  obtain ⟨b, h1, h2⟩ := h
  exact h1.narrow fun hne x hx => hx ▸ ⟨(h2 hne).1, (h2 hne).2.1⟩

/-- A disk in [lo, hi). -/
def IvD (lo hi : Nat) (w : World) (u v : Value) (xss : List (List Int)) (ps : List (Int × List Int)) : Prop :=
  ∃ S T : Nat → Prop, hi ≤ w.heap.size ∧ (∀ b, S b → lo ≤ b ∧ b < hi) ∧ (∀ b, T b → lo ≤ b ∧ b < hi) ∧ (∀ b, S b → ¬ T b) ∧ OwII S w u xss ∧ OwP T w v ps
theorem OwD.iv {B : Nat} {w : World} {u v : Value} {xss : List (List Int)} {ps : List (Int × List Int)} (h : OwD B w u v xss ps) : IvD B w.heap.size w u v xss ps := by
  obtain ⟨S, T, h1, h2, h3, h4, h5⟩ := h
  exact ⟨S, T, Nat.le_refl _, h1, h2, h3, h4, h5⟩
theorem IvD.wr {lo hi : Nat} {V : Nat → Prop} {w w' : World} {u v : Value} {xss : List (List Int)} {ps : List (Int × List Int)} (h : IvD lo hi w u v xss ps) (hw : Wr V w w') (hd : ∀ b, lo ≤ b → b < hi → ¬ V b) : IvD lo hi w' u v xss ps := by
  obtain ⟨S, T, h0, h1, h2, h3, h4, h5⟩ := h
  exact ⟨S, T, Nat.le_trans h0 hw.size, h1, h2, h3, h4.wr hw fun b hb => hd b (h1 b hb).1 (h1 b hb).2, h5.wr hw fun b hb => hd b (h2 b hb).1 (h2 b hb).2⟩
theorem IvD.later {lo hi : Nat} {w w' : World} {u v : Value} {xss : List (List Int)} {ps : List (Int × List Int)} (h : IvD lo hi w u v xss ps) (hb : Below w.heap.size w w') : IvD lo hi w' u v xss ps :=
  h.wr (Wr.of_below hb fun _ => False) fun _ _ _ => id
theorem IvD.rdII {lo hi : Nat} {w : World} {u v : Value} {xss : List (List Int)} {ps : List (Int × List Int)} (h : IvD lo hi w u v xss ps) : RdII (fun b => lo ≤ b ∧ b < hi) w u xss := by
  obtain ⟨S, T, h0, h1, h2, h3, h4, h5⟩ := h
  exact (h4.mono h1).rd
theorem IvD.rdP {lo hi : Nat} {w : World} {u v : Value} {xss : List (List Int)} {ps : List (Int × List Int)} (h : IvD lo hi w u v xss ps) : RdP (fun b => lo ≤ b ∧ b < hi) w v ps := by
  obtain ⟨S, T, h0, h1, h2, h3, h4, h5⟩ := h
  exact (h5.mono h2).rd

/-- A disk in [lo, hi) whose marks stand from k on. -/
def MkD (k : Int) (lo hi : Nat) (w : World) (u v : Value) (xss : List (List Int)) (ps : List (Int × List Int)) : Prop :=
  ∃ S T : Nat → Prop, (∀ b, S b → lo ≤ b ∧ b < hi) ∧ (∀ b, T b → lo ≤ b ∧ b < hi) ∧ RdII S w u (mkII k xss) ∧ RdP T w v (mkP (k + (tot xss xss.length : Int)) ps)
theorem MkD.wr {k : Int} {lo hi : Nat} {V : Nat → Prop} {w w' : World} {u v : Value} {xss : List (List Int)} {ps : List (Int × List Int)} (h : MkD k lo hi w u v xss ps) (hw : Wr V w w') (hd : ∀ b, lo ≤ b → b < hi → ¬ V b) : MkD k lo hi w' u v xss ps := by
  obtain ⟨S, T, h1, h2, hr, hp⟩ := h
  exact ⟨S, T, h1, h2, hr.wr hw fun b hb => hd b (h1 b hb).1 (h1 b hb).2, hp.wr hw fun b hb => hd b (h2 b hb).1 (h2 b hb).2⟩
theorem MkD.later {k : Int} {lo hi : Nat} {w w' : World} {u v : Value} {xss : List (List Int)} {ps : List (Int × List Int)} (h : MkD k lo hi w u v xss ps) (hb : Below w.heap.size w w') : MkD k lo hi w' u v xss ps :=
  h.wr (Wr.of_below hb fun _ => False) fun _ _ _ => id

/-- Numbers in [lo, hi) whose marks stand from k on. -/
def MkI (k : Int) (lo hi : Nat) (w : World) (v : Value) (n : Nat) : Prop := RdI (fun b => lo ≤ b ∧ b < hi) w v (mkI k n)
theorem MkI.wr {k : Int} {lo hi : Nat} {V : Nat → Prop} {w w' : World} {v : Value} {n : Nat} (h : MkI k lo hi w v n) (hw : Wr V w w') (hd : ∀ b, lo ≤ b → b < hi → ¬ V b) : MkI k lo hi w' v n :=
  RdI.wr h hw fun _ b hb => hd b hb.1 hb.2
theorem MkI.later {k : Int} {lo hi : Nat} {w w' : World} {v : Value} {n : Nat} (h : MkI k lo hi w v n) (hb : Below w.heap.size w w') : MkI k lo hi w' v n := RdI.later h hb

/-- Two cells of a variable. -/
def Var2 (w : World) (b : Nat) (x y : Value) : Prop := w.cell? ⟨b, 0, none⟩ = some x ∧ w.cell? ⟨b, 1, none⟩ = some y
theorem Var2.later {w w' : World} {b : Nat} {x y : Value} (h : Var2 w b x y) (hb : Below w.heap.size w w') : Var2 w' b x y := ⟨cell_later hb h.1, cell_later hb h.2⟩
theorem Var2.wr {S : Nat → Prop} {w w' : World} {b : Nat} {x y : Value} (h : Var2 w b x y) (hb : Wr S w w') (hd : ¬ S b) : Var2 w' b x y := ⟨cell_wr hb h.1 hd, cell_wr hb h.2 hd⟩
theorem Var2.lt {w : World} {b : Nat} {x y : Value} (h : Var2 w b x y) : b < w.heap.size := World.block_lt_of_cell? _ _ h.1
theorem Var2_new (w : World) (x y : Value) (t : TypeId) : Var2 (w.alloc (.cells #[x, y] t)) w.heap.size x y := by
  refine ⟨?_, ?_⟩ <;> simp [go_sem]

/-- Three cells of a variable. -/
def Var3 (w : World) (b : Nat) (x y z : Value) : Prop := w.cell? ⟨b, 0, none⟩ = some x ∧ w.cell? ⟨b, 1, none⟩ = some y ∧ w.cell? ⟨b, 2, none⟩ = some z
theorem Var3.later {w w' : World} {b : Nat} {x y z : Value} (h : Var3 w b x y z) (hb : Below w.heap.size w w') : Var3 w' b x y z :=
  ⟨cell_later hb h.1, cell_later hb h.2.1, cell_later hb h.2.2⟩
theorem Var3.wr {S : Nat → Prop} {w w' : World} {b : Nat} {x y z : Value} (h : Var3 w b x y z) (hb : Wr S w w') (hd : ¬ S b) : Var3 w' b x y z :=
  ⟨cell_wr hb h.1 hd, cell_wr hb h.2.1 hd, cell_wr hb h.2.2 hd⟩
theorem Var3.lt {w : World} {b : Nat} {x y z : Value} (h : Var3 w b x y z) : b < w.heap.size := World.block_lt_of_cell? _ _ h.1
theorem Var3_new (w : World) (x y z : Value) (t : TypeId) : Var3 (w.alloc (.cells #[x, y, z] t)) w.heap.size x y z := by
  refine ⟨?_, ?_, ?_⟩ <;> simp [go_sem]

/-- 'toInt64S', 'eqInt64S', 'markInt64S', in the forms of the others. -/
theorem toI' {S : Nat → Prop} {w : World} {v : Value} {xs : List Int} (hv : RdI S w v xs) (hm : xs.length ≤ 1048576) :
    Calls Tryd.prog 33 #[v] w fun e w' => ∃ z, e = .returned z ∧ Below w.heap.size w w' ∧ OwI w.heap.size w' z xs :=
  (toI hv hm).mono fun e w' ⟨he, h⟩ => ⟨_, he, h.below, _, rd_row h.full (by omega), fun _ => ⟨Nat.le_refl _, by rw [h.size]; omega, fun o => h.row.frozen o⟩⟩
theorem eqI' {S T : Nat → Prop} {w : World} {u v : Value} {xs : List Int} (hu : RdI S w u xs) (hv : RdI T w v xs) :
    Calls Tryd.prog 37 #[u, v] w fun e w' => e = .returned (.bool true) ∧ Below w.heap.size w w' :=
  (eqI hu hv).mono (by rintro e w' ⟨he, q, rfl⟩; exact ⟨he, below_drewN _ _⟩)
/-- What a call that ends in a code and a disk is to leave. -/
def EndsD (x : Int) (xss : List (List Int)) (ps : List (Int × List Int)) (w : World) (e : Ending) (w' : World) : Prop :=
  ∃ u v, e = .returned (.agg #[.int .i64 x, u, v]) ∧ Below w.heap.size w w' ∧ OwD w.heap.size w' u v xss ps

/-- What a call that ends in a code and a list is to leave. -/
def EndsI (x : Int) (xs : List Int) (w : World) (e : Ending) (w' : World) : Prop :=
  ∃ z, e = .returned (.agg #[.int .i64 x, z]) ∧ Below w.heap.size w w' ∧ OwI w.heap.size w' z xs
end Go.Proofs.YtcbapclpopbjbaaDoor
/- The laws' helpers over Header and HeaderResult. Made by program (genflat.py). -/
namespace Go.Proofs.YtcbapclpopbjbaaDoor
open Go.RowKit
end Go.Proofs.YtcbapclpopbjbaaDoor
/- The laws' helpers over Object. Made by program (genobj.py). -/
namespace Go.Proofs.YtcbapclpopbjbaaDoor
open Go.RowKit
end Go.Proofs.YtcbapclpopbjbaaDoor
