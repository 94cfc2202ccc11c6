/- Tk0 in one text: what each says stands at its head below. -/
import Derived.Test.YtiommfabhchgdaaG08
/- A code with two lists of numbers that share no memory: compared, marked, held. -/
namespace Go.Proofs.Ytiommfabhchgdaa
open Go.RowKit

theorem RdI_nilK (S : Nat → Prop) (w : World) : RdI S w (.slice none 0 0) [] := ⟨none, 0, by simp, by simp, fun h => absurd rfl h⟩
/-- Two lists of new memory. -/
def OwK (B : Nat) (w : World) (u v : Value) (xs ys : List Int) : Prop :=
  ∃ b1 b2, RdI (· = b1) w u xs ∧ RdI (· = b2) w v ys ∧ (xs ≠ [] → B ≤ b1 ∧ b1 < w.heap.size ∧ ∀ o, w.frozen? ⟨b1, o, none⟩ = false) ∧ (ys ≠ [] → B ≤ b2 ∧ b2 < w.heap.size ∧ ∀ o, w.frozen? ⟨b2, o, none⟩ = false) ∧ (xs ≠ [] → ys ≠ [] → b1 ≠ b2)
/-- .. in [lo, hi). -/
def IvK (lo hi : Nat) (w : World) (u v : Value) (xs ys : List Int) : Prop :=
  ∃ b1 b2, RdI (· = b1) w u xs ∧ RdI (· = b2) w v ys ∧ (xs ≠ [] → lo ≤ b1 ∧ b1 < hi ∧ b1 < w.heap.size ∧ ∀ o, w.frozen? ⟨b1, o, none⟩ = false) ∧ (ys ≠ [] → lo ≤ b2 ∧ b2 < hi ∧ b2 < w.heap.size ∧ ∀ o, w.frozen? ⟨b2, o, none⟩ = false) ∧ (xs ≠ [] → ys ≠ [] → b1 ≠ b2)
/-- .. whose marks stand from k on. -/
def MkK (k : Int) (lo hi : Nat) (w : World) (u v : Value) (n m : Nat) : Prop := RdI (fun b => lo ≤ b ∧ b < hi) w u (mkI k n) ∧ RdI (fun b => lo ≤ b ∧ b < hi) w v (mkI (k + (n : Int)) m)
theorem OwK.iv {B : Nat} {w : World} {u v : Value} {xs ys : List Int} (h : OwK B w u v xs ys) : IvK B w.heap.size w u v xs ys := by
  obtain ⟨b1, b2, h1, h2, h3, h4, h5⟩ := h
  exact ⟨b1, b2, h1, h2, fun hn => ⟨(h3 hn).1, (h3 hn).2.1, (h3 hn).2.1, (h3 hn).2.2⟩, fun hn => ⟨(h4 hn).1, (h4 hn).2.1, (h4 hn).2.1, (h4 hn).2.2⟩, h5⟩
theorem OwK.shape {B : Nat} {w : World} {u v : Value} {xs ys : List Int} (h : OwK B w u v xs ys) : ∃ ao c ao' c', u = .slice ao xs.length c ∧ v = .slice ao' ys.length c' := by
  obtain ⟨b1, b2, h1, h2, _⟩ := h
  obtain ⟨a, c, e1⟩ := h1.shape
  obtain ⟨a', c', e2⟩ := h2.shape
  exact ⟨a, c, a', c', e1, e2⟩
theorem OwK_nil (B : Nat) (w : World) : OwK B w (.slice none 0 0) (.slice none 0 0) [] [] :=
  ⟨0, 0, RdI_nilK _ _, RdI_nilK _ _, fun h => absurd rfl h, fun h => absurd rfl h, fun h => absurd rfl h⟩
theorem OwK.wr {B : Nat} {T : Nat → Prop} {w w' : World} {u v : Value} {xs ys : List Int} (h : OwK B w u v xs ys) (hw : Wr T w w') (hd : ∀ b, B ≤ b → b < w.heap.size → ¬ T b) : OwK B w' u v xs ys := by
  obtain ⟨b1, b2, h1, h2, h3, h4, h5⟩ := h
  exact ⟨b1, b2, h1.wr hw (fun hn b hb => hb ▸ hd _ (h3 hn).1 (h3 hn).2.1), h2.wr hw (fun hn b hb => hb ▸ hd _ (h4 hn).1 (h4 hn).2.1),
    fun hn => ⟨(h3 hn).1, Nat.lt_of_lt_of_le (h3 hn).2.1 hw.size, fun o => (hw.frz _ _ (h3 hn).2.1).trans ((h3 hn).2.2 o)⟩,
    fun hn => ⟨(h4 hn).1, Nat.lt_of_lt_of_le (h4 hn).2.1 hw.size, fun o => (hw.frz _ _ (h4 hn).2.1).trans ((h4 hn).2.2 o)⟩, h5⟩
theorem OwK.mono {B B' : Nat} {w : World} {u v : Value} {xs ys : List Int} (h : OwK B w u v xs ys) (hB : B' ≤ B) : OwK B' w u v xs ys := by
  obtain ⟨b1, b2, h1, h2, h3, h4, h5⟩ := h
  exact ⟨b1, b2, h1, h2, fun hn => ⟨Nat.le_trans hB (h3 hn).1, (h3 hn).2⟩, fun hn => ⟨Nat.le_trans hB (h4 hn).1, (h4 hn).2⟩, h5⟩
theorem IvK.wr {lo hi : Nat} {T : Nat → Prop} {w w' : World} {u v : Value} {xs ys : List Int} (h : IvK lo hi w u v xs ys) (hw : Wr T w w') (hd : ∀ b, lo ≤ b → b < hi → ¬ T b) : IvK lo hi w' u v xs ys := by
  obtain ⟨b1, b2, h1, h2, h3, h4, h5⟩ := h
  exact ⟨b1, b2, h1.wr hw (fun hn b hb => hb ▸ hd _ (h3 hn).1 (h3 hn).2.1), h2.wr hw (fun hn b hb => hb ▸ hd _ (h4 hn).1 (h4 hn).2.1),
    fun hn => ⟨(h3 hn).1, (h3 hn).2.1, Nat.lt_of_lt_of_le (h3 hn).2.2.1 hw.size, fun o => (hw.frz _ _ (h3 hn).2.2.1).trans ((h3 hn).2.2.2 o)⟩,
    fun hn => ⟨(h4 hn).1, (h4 hn).2.1, Nat.lt_of_lt_of_le (h4 hn).2.2.1 hw.size, fun o => (hw.frz _ _ (h4 hn).2.2.1).trans ((h4 hn).2.2.2 o)⟩, h5⟩
theorem IvK.later {lo hi : Nat} {w w' : World} {u v : Value} {xs ys : List Int} (h : IvK lo hi w u v xs ys) (hb : Below w.heap.size w w') : IvK lo hi w' u v xs ys :=
  h.wr (Wr.of_below hb fun _ => False) fun _ _ _ => id
theorem MkK.wr {k : Int} {lo hi : Nat} {T : Nat → Prop} {w w' : World} {u v : Value} {n m : Nat} (h : MkK k lo hi w u v n m) (hw : Wr T w w') (hd : ∀ b, lo ≤ b → b < hi → ¬ T b) : MkK k lo hi w' u v n m :=
  ⟨h.1.wr hw fun _ b hb => hd b hb.1 hb.2, h.2.wr hw fun _ b hb => hd b hb.1 hb.2⟩
theorem MkK.later {k : Int} {lo hi : Nat} {w w' : World} {u v : Value} {n m : Nat} (h : MkK k lo hi w u v n m) (hb : Below w.heap.size w w') : MkK k lo hi w' u v n m :=
  ⟨h.1.later hb, h.2.later hb⟩

/-- What a function leaves that answers a code with two lists. -/
def EndsK (code : Int) (xs ys : List Int) (w : World) : Ending → World → Prop := fun e w' => ∃ u v, e = .returned (.agg #[.int .i64 code, u, v]) ∧ Below w.heap.size w w' ∧ OwK w.heap.size w' u v xs ys
end Go.Proofs.Ytiommfabhchgdaa
