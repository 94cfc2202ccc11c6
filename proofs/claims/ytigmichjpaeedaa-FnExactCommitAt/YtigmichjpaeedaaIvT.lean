/- The laws' helpers over a code with steps. -/
import Derived.Test.YtigmichjpaeedaaStS
namespace Go.Proofs.Ytigmichjpaeedaa
open Go.RowKit

/-- What a call that ends in a code and steps is to leave. -/
def EndsT (x : Int) (rs : List St) (w : World) (e : Ending) (w' : World) : Prop :=
  ∃ z, e = .returned (.agg #[.int .i64 x, z]) ∧ Below w.heap.size w w' ∧ OwT (fun b => w.heap.size ≤ b ∧ b < w'.heap.size) w' z rs

/-- Steps in [lo, hi). -/
def IvT (lo hi : Nat) (w : World) (v : Value) (ts : List St) : Prop :=
  ∃ S : Nat → Prop, hi ≤ w.heap.size ∧ (∀ b, S b → lo ≤ b ∧ b < hi) ∧ OwT S w v ts
theorem OwT.iv {B : Nat} {w : World} {v : Value} {ts : List St} (h : OwT (fun b => B ≤ b ∧ b < w.heap.size) w v ts) : IvT B w.heap.size w v ts :=
  ⟨_, Nat.le_refl _, fun _ hb => hb, h⟩
theorem IvT.wr {lo hi : Nat} {V : Nat → Prop} {w w' : World} {v : Value} {ts : List St} (h : IvT lo hi w v ts) (hw : Wr V w w') (hd : ∀ b, lo ≤ b → b < hi → ¬ V b) : IvT lo hi w' v ts := by
  obtain ⟨S, h0, h1, h2⟩ := h
  exact ⟨S, Nat.le_trans h0 hw.size, h1, h2.wr hw fun b hb => hd b (h1 b hb).1 (h1 b hb).2⟩
theorem IvT.later {lo hi : Nat} {w w' : World} {v : Value} {ts : List St} (h : IvT lo hi w v ts) (hb : Below w.heap.size w w') : IvT lo hi w' v ts :=
  h.wr (Wr.of_below hb fun _ => False) fun _ _ _ => id
theorem IvT.rd {lo hi : Nat} {w : World} {v : Value} {ts : List St} (h : IvT lo hi w v ts) : RdT (fun b => lo ≤ b ∧ b < hi) w v ts := by
  obtain ⟨S, h0, h1, h2⟩ := h
  exact (h2.mono h1).rd

/-- Steps in [lo, hi) whose marks stand from k on. -/
def MkTs (k : Int) (lo hi : Nat) (w : World) (v : Value) (ts : List St) : Prop := RdT (fun b => lo ≤ b ∧ b < hi) w v (mkS k ts)
theorem MkTs.wr {k : Int} {lo hi : Nat} {V : Nat → Prop} {w w' : World} {v : Value} {ts : List St} (h : MkTs k lo hi w v ts) (hw : Wr V w w') (hd : ∀ b, lo ≤ b → b < hi → ¬ V b) : MkTs k lo hi w' v ts :=
  RdT.wr h hw fun b hb => hd b hb.1 hb.2
theorem MkTs.later {k : Int} {lo hi : Nat} {w w' : World} {v : Value} {ts : List St} (h : MkTs k lo hi w v ts) (hb : Below w.heap.size w w') : MkTs k lo hi w' v ts := RdT.later h hb

end Go.Proofs.Ytigmichjpaeedaa
