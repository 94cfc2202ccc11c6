/- IvP in one text: what each says stands at its head below. -/
import Derived.Test.YtcbapclpopbjbaaDoorG05
import Derived.Test.YtcbapclpopbjbaaDoorG02
import Derived.Test.YtcbapclpopbjbaaDoorG03
import Derived.Test.YtcbapclpopbjbaaDoorG06
/- The laws' helpers over a code with puts; puts among the arguments. -/
namespace Go.Proofs.YtcbapclpopbjbaaDoor
open Go.RowKit

/-- What a call that ends in a code and puts is to leave. -/
def EndsP (x : Int) (rs : List (Int × List Int)) (w : World) (e : Ending) (w' : World) : Prop :=
  ∃ z, e = .returned (.agg #[.int .i64 x, z]) ∧ Below w.heap.size w w' ∧ OwP (fun b => w.heap.size ≤ b ∧ b < w'.heap.size) w' z rs

theorem szD_nonneg (xss : List (List Int)) (ps : List (Int × List Int)) : 0 ≤ szD xss ps := by unfold szD; omega
def szQ (qs : List (Int × List Int)) : Int := (qs.length : Int) + (totW qs qs.length : Int)
theorem szQ_nonneg (qs : List (Int × List Int)) : 0 ≤ szQ qs := by unfold szQ; omega
theorem smallQ {qs : List (Int × List Int)} (h : szQ qs ≤ 1048576) : qs.length ≤ 1048576 ∧ (∀ i, i < qs.length → (qs.getD i (0, [])).2.length ≤ 1048576) ∧ (totP qs qs.length : Int) ≤ 2097152 := by
  unfold szQ at h
  have h3 := totP_eq qs qs.length (Nat.le_refl _)
  exact ⟨by omega, fun i hi => by have := len_le_totW qs i hi; omega, by omega⟩

/-- Puts in [lo, hi). -/
def IvP (lo hi : Nat) (w : World) (v : Value) (ps : List (Int × List Int)) : Prop :=
  ∃ S : Nat → Prop, hi ≤ w.heap.size ∧ (∀ b, S b → lo ≤ b ∧ b < hi) ∧ OwP S w v ps
theorem OwP.iv {B : Nat} {w : World} {v : Value} {ps : List (Int × List Int)} (h : OwP (fun b => B ≤ b ∧ b < w.heap.size) w v ps) : IvP B w.heap.size w v ps :=
  ⟨_, Nat.le_refl _, fun _ hb => hb, h⟩
theorem IvP.wr {lo hi : Nat} {V : Nat → Prop} {w w' : World} {v : Value} {ps : List (Int × List Int)} (h : IvP lo hi w v ps) (hw : Wr V w w') (hd : ∀ b, lo ≤ b → b < hi → ¬ V b) : IvP lo hi w' v ps := by
  obtain ⟨S, h0, h1, h2⟩ := h
  exact ⟨S, Nat.le_trans h0 hw.size, h1, h2.wr hw fun b hb => hd b (h1 b hb).1 (h1 b hb).2⟩
theorem IvP.later {lo hi : Nat} {w w' : World} {v : Value} {ps : List (Int × List Int)} (h : IvP lo hi w v ps) (hb : Below w.heap.size w w') : IvP lo hi w' v ps :=
  h.wr (Wr.of_below hb fun _ => False) fun _ _ _ => id
theorem IvP.rd {lo hi : Nat} {w : World} {v : Value} {ps : List (Int × List Int)} (h : IvP lo hi w v ps) : RdP (fun b => lo ≤ b ∧ b < hi) w v ps := by
  obtain ⟨S, h0, h1, h2⟩ := h
  exact (h2.mono h1).rd

/-- Puts in [lo, hi) whose marks stand from k on. -/
def MkPs (k : Int) (lo hi : Nat) (w : World) (v : Value) (ps : List (Int × List Int)) : Prop := RdP (fun b => lo ≤ b ∧ b < hi) w v (mkP k ps)
theorem MkPs.wr {k : Int} {lo hi : Nat} {V : Nat → Prop} {w w' : World} {v : Value} {ps : List (Int × List Int)} (h : MkPs k lo hi w v ps) (hw : Wr V w w') (hd : ∀ b, lo ≤ b → b < hi → ¬ V b) : MkPs k lo hi w' v ps :=
  RdP.wr h hw fun b hb => hd b hb.1 hb.2
theorem MkPs.later {k : Int} {lo hi : Nat} {w w' : World} {v : Value} {ps : List (Int × List Int)} (h : MkPs k lo hi w v ps) (hb : Below w.heap.size w w') : MkPs k lo hi w' v ps := RdP.later h hb

end Go.Proofs.YtcbapclpopbjbaaDoor
