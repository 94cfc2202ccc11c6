/- Mp7a Tk0 in one text: what each says stands at its head below. -/
import Derived.Test.YtgpealbpmgjdjaaG36
import Derived.Test.YtgpealbpmgjdjaaG08
/- Chapter 7: 'FreeBlocks' of the program, walked. -/
namespace Go.Proofs.Ytgpealbpmgjdjaa
open Go.RowKit

/-- The code of 'FreeBlocks'. -/
def fbC (xs ys : List Int) : Int := if mapF xs ≠ 0 then mapF xs else if mapF ys ≠ 0 then mapF ys else if ∀ y, y ∈ ys → y ∈ xs then 0 else 4
/-- .. and the map. -/
def fbR (xs ys : List Int) : List Int := if fbC xs ys = 0 then xs.filter (fun x => !decide (x ∈ ys)) else []
theorem isMap_len {xs : List Int} (h : IsMap xs) : xs.length ≤ 20 := by rw [← blk_of h]; exact blk_len _
theorem fbR_len (xs ys : List Int) : (fbR xs ys).length ≤ 1048576 := by
  unfold fbR
  by_cases h : fbC xs ys = 0
  · rw [if_pos h]
    have hx : mapF xs = 0 := by
      by_cases h1 : mapF xs = 0
      · exact h1
      · unfold fbC at h; rw [if_pos h1] at h; exact absurd h h1
    have := isMap_len (mapF_iff.1 hx)
    have := List.length_filter_le (fun x => !decide (x ∈ ys)) xs
    omega
  · rw [if_neg h]; simp
theorem blk_free {xs ys : List Int} (h : IsMap xs) : blk (fun x => decide (x ∈ xs) && !decide (x ∈ ys)) = xs.filter (fun x => !decide (x ∈ ys)) :=
  pair_ext (blk_up _) (h.2.filter _) fun a => by
    rw [mem_blk, List.mem_filter]
    simp only [Bool.and_eq_true, decide_eq_true_eq]
    exact ⟨fun h' => h'.2, fun h' => ⟨h.1 a h'.1, h'⟩⟩
theorem TkIn.shape {w : World} {f : Value} {xs : List Int} (h : TkIn w f xs) : ∃ b, f = .func (.func 105) #[] #[.pointer (some ⟨b, 0, none⟩)] := by
  obtain ⟨b, _, _, e, _⟩ := h
  exact ⟨b, e⟩
/-- Two closures in two variables. -/
structure Two (w : World) (p q : Nat) (xs ys : List Int) : Prop where
  f : ∃ f, w.cell? ⟨p, 0, none⟩ = some f ∧ TkIn w f xs
  g : ∃ g, w.cell? ⟨q, 0, none⟩ = some g ∧ TkIn w g ys
theorem Two.later {w w' : World} {p q : Nat} {xs ys : List Int} (h : Two w p q xs ys) (hb : Below w.heap.size w w') : Two w' p q xs ys := by
  obtain ⟨⟨f, h1, h2⟩, g, h3, h4⟩ := h
  exact ⟨⟨f, cell_later hb h1, h2.later hb⟩, g, cell_later hb h3, h4.later hb⟩
theorem two_cells (w4 : World) : ((w4.alloc (.cells #[.nilFunc] 119)).alloc (.cells #[.nilFunc] 119)).cell? ⟨w4.heap.size, 0, none⟩ = some .nilFunc ∧ ((w4.alloc (.cells #[.nilFunc] 119)).alloc (.cells #[.nilFunc] 119)).frozen? ⟨w4.heap.size, 0, none⟩ = false ∧
    ((w4.alloc (.cells #[.nilFunc] 119)).alloc (.cells #[.nilFunc] 119)).cell? ⟨w4.heap.size + 1, 0, none⟩ = some .nilFunc ∧ ((w4.alloc (.cells #[.nilFunc] 119)).alloc (.cells #[.nilFunc] 119)).frozen? ⟨w4.heap.size + 1, 0, none⟩ = false := by
  refine ⟨by simp [go_sem], by simp [go_sem], by simp [go_sem], by simp [go_sem]⟩
theorem two_made {w w4 : World} {f g : Value} {xs ys : List Int} (hr : ResI w w4) (hf : TkIn w4 f xs) (hg : TkIn w4 g ys) :
    ResI w ((w4.alloc (.cells #[f] 119)).alloc (.cells #[g] 119)) ∧ Two ((w4.alloc (.cells #[f] 119)).alloc (.cells #[g] 119)) w4.heap.size (w4.heap.size + 1) xs ys := by
  have hb : Below w4.heap.size w4 ((w4.alloc (.cells #[f] 119)).alloc (.cells #[g] 119)) := below_on (below_alloc w4 _) (below_alloc _ _)
  exact ⟨hr.later hb, ⟨f, by simp [go_sem], hf.later hb⟩, g, by simp [go_sem], hg.later hb⟩

end Go.Proofs.Ytgpealbpmgjdjaa
/- A code with two lists of numbers that share no memory: compared, marked, held. -/
namespace Go.Proofs.Ytgpealbpmgjdjaa
open Go.RowKit

theorem RdI_nilK (S : Nat → Prop) (w : World) : RdI S w (.slice none 0 0) [] := ⟨none, 0, by simp, by simp, fun h => absurd rfl h⟩
/-- Two lists of new memory. -/
def OwK (B : Nat) (w : World) (u v : Value) (xs ys : List Int) : Prop :=
  ∃ b1 b2, RdI (· = b1) w u xs ∧ RdI (· = b2) w v ys ∧ (xs ≠ [] → B ≤ b1 ∧ b1 < w.heap.size ∧ ∀ o, w.frozen? ⟨b1, o, none⟩ = false) ∧ (ys ≠ [] → B ≤ b2 ∧ b2 < w.heap.size ∧ ∀ o, w.frozen? ⟨b2, o, none⟩ = false) ∧ (xs ≠ [] → ys ≠ [] → b1 ≠ b2)
/-- .. in [lo, hi). -/
def IvK (lo hi : Nat) (w : World) (u v : Value) (xs ys : List Int) : Prop :=
  ∃ b1 b2, RdI (· = b1) w u xs ∧ RdI (· = b2) w v ys ∧ (xs ≠ [] → lo ≤ b1 ∧ b1 < hi ∧ b1 < w.heap.size ∧ ∀ o, w.frozen? ⟨b1, o, none⟩ = false) ∧ (ys ≠ [] → lo ≤ b2 ∧ b2 < hi ∧ b2 < w.heap.size ∧ ∀ o, w.frozen? ⟨b2, o, none⟩ = false) ∧ (xs ≠ [] → ys ≠ [] → b1 ≠ b2)
/-- .. whose marks stand from k on. -/
def MkK (k : Int) (lo hi : Nat) (w : World) (u v : Value) (n m : Nat) : Prop := RdI (fun b => lo ≤ b ∧ b < hi) w u (mkI k n) ∧ RdI (fun b => lo ≤ b ∧ b < hi) w v (mkI (k + (n : Int)) m)
theorem OwK.iv {B : Nat} {w : World} {u v : Value} {xs ys : List Int} (h : OwK B w u v xs ys) : IvK B w.heap.size w u v xs ys := by
  obtain ⟨b1, b2, h1, h2, h3, h4, h5⟩ := h
  exact ⟨b1, b2, h1, h2, fun hn => ⟨(h3 hn).1, (h3 hn).2.1, (h3 hn).2.1, (h3 hn).2.2⟩, fun hn => ⟨(h4 hn).1, (h4 hn).2.1, (h4 hn).2.1, (h4 hn).2.2⟩, h5⟩
theorem OwK.shape {B : Nat} {w : World} {u v : Value} {xs ys : List Int} (h : OwK B w u v xs ys) : ∃ ao c ao' c', u = .slice ao xs.length c ∧ v = .slice ao' ys.length c' := by
  obtain ⟨b1, b2, h1, h2, _⟩ := h
  obtain ⟨a, c, e1⟩ := h1.shape
  obtain ⟨a', c', e2⟩ := h2.shape
  exact ⟨a, c, a', c', e1, e2⟩
theorem OwK_nil (B : Nat) (w : World) : OwK B w (.slice none 0 0) (.slice none 0 0) [] [] :=
  ⟨0, 0, RdI_nilK _ _, RdI_nilK _ _, fun h => absurd rfl h, fun h => absurd rfl h, fun h => absurd rfl h⟩
theorem OwK.wr {B : Nat} {T : Nat → Prop} {w w' : World} {u v : Value} {xs ys : List Int} (h : OwK B w u v xs ys) (hw : Wr T w w') (hd : ∀ b, B ≤ b → b < w.heap.size → ¬ T b) : OwK B w' u v xs ys := by
  obtain ⟨b1, b2, h1, h2, h3, h4, h5⟩ := h
  exact ⟨b1, b2, h1.wr hw (fun hn b hb => hb ▸ hd _ (h3 hn).1 (h3 hn).2.1), h2.wr hw (fun hn b hb => hb ▸ hd _ (h4 hn).1 (h4 hn).2.1),
    fun hn => ⟨(h3 hn).1, Nat.lt_of_lt_of_le (h3 hn).2.1 hw.size, fun o => (hw.frz _ _ (h3 hn).2.1).trans ((h3 hn).2.2 o)⟩,
    fun hn => ⟨(h4 hn).1, Nat.lt_of_lt_of_le (h4 hn).2.1 hw.size, fun o => (hw.frz _ _ (h4 hn).2.1).trans ((h4 hn).2.2 o)⟩, h5⟩
theorem OwK.mono {B B' : Nat} {w : World} {u v : Value} {xs ys : List Int} (h : OwK B w u v xs ys) (hB : B' ≤ B) : OwK B' w u v xs ys := by
  obtain ⟨b1, b2, h1, h2, h3, h4, h5⟩ := h
  exact ⟨b1, b2, h1, h2, fun hn => ⟨Nat.le_trans hB (h3 hn).1, (h3 hn).2⟩, fun hn => ⟨Nat.le_trans hB (h4 hn).1, (h4 hn).2⟩, h5⟩
theorem IvK.wr {lo hi : Nat} {T : Nat → Prop} {w w' : World} {u v : Value} {xs ys : List Int} (h : IvK lo hi w u v xs ys) (hw : Wr T w w') (hd : ∀ b, lo ≤ b → b < hi → ¬ T b) : IvK lo hi w' u v xs ys := by
  obtain ⟨b1, b2, h1, h2, h3, h4, h5⟩ := h
  exact ⟨b1, b2, h1.wr hw (fun hn b hb => hb ▸ hd _ (h3 hn).1 (h3 hn).2.1), h2.wr hw (fun hn b hb => hb ▸ hd _ (h4 hn).1 (h4 hn).2.1),
    fun hn => ⟨(h3 hn).1, (h3 hn).2.1, Nat.lt_of_lt_of_le (h3 hn).2.2.1 hw.size, fun o => (hw.frz _ _ (h3 hn).2.2.1).trans ((h3 hn).2.2.2 o)⟩,
    fun hn => ⟨(h4 hn).1, (h4 hn).2.1, Nat.lt_of_lt_of_le (h4 hn).2.2.1 hw.size, fun o => (hw.frz _ _ (h4 hn).2.2.1).trans ((h4 hn).2.2.2 o)⟩, h5⟩
theorem IvK.later {lo hi : Nat} {w w' : World} {u v : Value} {xs ys : List Int} (h : IvK lo hi w u v xs ys) (hb : Below w.heap.size w w') : IvK lo hi w' u v xs ys :=
  h.wr (Wr.of_below hb fun _ => False) fun _ _ _ => id
theorem MkK.wr {k : Int} {lo hi : Nat} {T : Nat → Prop} {w w' : World} {u v : Value} {n m : Nat} (h : MkK k lo hi w u v n m) (hw : Wr T w w') (hd : ∀ b, lo ≤ b → b < hi → ¬ T b) : MkK k lo hi w' u v n m :=
  ⟨h.1.wr hw fun _ b hb => hd b hb.1 hb.2, h.2.wr hw fun _ b hb => hd b hb.1 hb.2⟩
theorem MkK.later {k : Int} {lo hi : Nat} {w w' : World} {u v : Value} {n m : Nat} (h : MkK k lo hi w u v n m) (hb : Below w.heap.size w w') : MkK k lo hi w' u v n m :=
  ⟨h.1.later hb, h.2.later hb⟩

/-- What a function leaves that answers a code with two lists. -/
def EndsK (code : Int) (xs ys : List Int) (w : World) : Ending → World → Prop := fun e w' => ∃ u v, e = .returned (.agg #[.int .i64 code, u, v]) ∧ Below w.heap.size w w' ∧ OwK w.heap.size w' u v xs ys
end Go.Proofs.Ytgpealbpmgjdjaa
