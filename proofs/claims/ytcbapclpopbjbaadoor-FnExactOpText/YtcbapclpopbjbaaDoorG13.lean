/- ObV EnV in one text: what each says stands at its head below. -/
import Derived.Test.YtcbapclpopbjbaaDoorG11
import Derived.Test.YtcbapclpopbjbaaDoorG07
import Derived.Test.YtcbapclpopbjbaaDoorG12
/- Chapter 5: objects among the arguments. Made by program (genlawj.py). -/
namespace Go.Proofs.YtcbapclpopbjbaaDoor
open Go.RowKit

theorem totJ_eq (ps : List Oj) : ∀ j, j ≤ ps.length → totJ ps j = totX ps j + 2 * j := by
  intro j
  induction j with
  | zero => intro _; rw [totJ_zero, totX_zero]
  | succ j ih =>
    intro h
    rw [totJ_succ ps j (by omega), totX_succ ps j (by omega), ih (by omega)]
    omega
theorem len_le_totX (ps : List Oj) (i : Nat) (h : i < ps.length) : (ps.getD i oj0).2.2.length ≤ totX ps ps.length := by
  have h1 := totX_succ ps i h
  have h2 := totX_le ps (i + 1) ps.length h
  omega
def szU (qs : List Oj) : Int := (qs.length : Int) + (totX qs qs.length : Int)
theorem szU_nonneg (qs : List Oj) : 0 ≤ szU qs := by unfold szU; omega
theorem smallU {qs : List Oj} (h : szU qs ≤ 1048576) : qs.length ≤ 1048576 ∧ (∀ i, i < qs.length → (qs.getD i oj0).2.2.length ≤ 1048576) ∧ (totJ qs qs.length : Int) ≤ 4194304 := by
  unfold szU at h
  have h3 := totJ_eq qs qs.length (Nat.le_refl _)
  exact ⟨by omega, fun i hi => by have := len_le_totX qs i hi; omega, by omega⟩

/-- Objects in [lo, hi). -/
def IvJ (lo hi : Nat) (w : World) (v : Value) (ps : List Oj) : Prop :=
  ∃ S : Nat → Prop, hi ≤ w.heap.size ∧ (∀ b, S b → lo ≤ b ∧ b < hi) ∧ OwJ S w v ps
theorem OwJ.iv {B : Nat} {w : World} {v : Value} {ps : List Oj} (h : OwJ (fun b => B ≤ b ∧ b < w.heap.size) w v ps) : IvJ B w.heap.size w v ps :=
  ⟨_, Nat.le_refl _, fun _ hb => hb, h⟩
theorem IvJ.wr {lo hi : Nat} {V : Nat → Prop} {w w' : World} {v : Value} {ps : List Oj} (h : IvJ lo hi w v ps) (hw : Wr V w w') (hd : ∀ b, lo ≤ b → b < hi → ¬ V b) : IvJ lo hi w' v ps := by
  obtain ⟨S, h0, h1, h2⟩ := h
  exact ⟨S, Nat.le_trans h0 hw.size, h1, h2.wr hw fun b hb => hd b (h1 b hb).1 (h1 b hb).2⟩
theorem IvJ.later {lo hi : Nat} {w w' : World} {v : Value} {ps : List Oj} (h : IvJ lo hi w v ps) (hb : Below w.heap.size w w') : IvJ lo hi w' v ps :=
  h.wr (Wr.of_below hb fun _ => False) fun _ _ _ => id
theorem IvJ.rd {lo hi : Nat} {w : World} {v : Value} {ps : List Oj} (h : IvJ lo hi w v ps) : RdJ (fun b => lo ≤ b ∧ b < hi) w v ps := by
  obtain ⟨S, h0, h1, h2⟩ := h
  exact (h2.mono h1).rd

/-- Objects in [lo, hi) whose marks stand from k on. -/
def MkJs (k : Int) (lo hi : Nat) (w : World) (v : Value) (ps : List Oj) : Prop := RdJ (fun b => lo ≤ b ∧ b < hi) w v (mkJ k ps)
theorem MkJs.wr {k : Int} {lo hi : Nat} {V : Nat → Prop} {w w' : World} {v : Value} {ps : List Oj} (h : MkJs k lo hi w v ps) (hw : Wr V w w') (hd : ∀ b, lo ≤ b → b < hi → ¬ V b) : MkJs k lo hi w' v ps :=
  RdJ.wr h hw fun b hb => hd b hb.1 hb.2
theorem MkJs.later {k : Int} {lo hi : Nat} {w w' : World} {v : Value} {ps : List Oj} (h : MkJs k lo hi w v ps) (hb : Below w.heap.size w w') : MkJs k lo hi w' v ps := RdJ.later h hb

end Go.Proofs.YtcbapclpopbjbaaDoor
/- Chapter 9: entries among the arguments; a code with entries. Made by program (genen.py). -/
namespace Go.Proofs.YtcbapclpopbjbaaDoor
open Go.RowKit


/-- What a call that ends in a code and entries is to leave. -/
def EndsEn (x : Int) (rs : List Oj) (w : World) (e : Ending) (w' : World) : Prop :=
  ∃ z, e = .returned (.agg #[.int .i64 x, z]) ∧ Below w.heap.size w w' ∧ OwJ (fun b => w.heap.size ≤ b ∧ b < w'.heap.size) w' z rs

theorem szEnU {S : Nat → Prop} {w : World} {v : Value} {ps : List Oj} {left : Int} (hv : RdJ S w v ps) (h0 : 0 ≤ left) (h1 : left ≤ 1048576) :
    Calls Tryd.prog 29 #[v, .int .i64 left] w fun e w' => e = .returned (.int .i64 (szv left (szU ps))) ∧ Below w.heap.size w w' := szEn hv h0 h1

theorem IvJ.monoE {lo hi lo' : Nat} {w : World} {v : Value} {ps : List Oj} (h : IvJ lo hi w v ps) (h1 : lo' ≤ lo) : IvJ lo' hi w v ps := by
  obtain ⟨S, k0, k1, k2⟩ := h
  exact ⟨S, k0, fun b hb => ⟨Nat.le_trans h1 (k1 b hb).1, (k1 b hb).2⟩, k2⟩
end Go.Proofs.YtcbapclpopbjbaaDoor
