/- Mark Held in one text: what each says stands at its head below. -/
import Derived.Test.YtcbapclpopbjbaaDoorG01
/- The walks of the laws' marking functions: what is marked holds one number behind the other, and nothing else is written. -/
namespace Go.Proofs.YtcbapclpopbjbaaDoor
open Go.RowKit

/-- What a loop that marks n cells of block b knows behind j rounds. -/
structure MarkAt (b off n : Nat) (k : Int) (w : World) (j : Nat) (wr : World) : Prop where
  done : ∀ i, i < j → wr.cell? ⟨b, off + i, none⟩ = some (.int .i64 (k + (i : Int)))
  there : ∀ i, i < n → ∃ x, wr.cell? ⟨b, off + i, none⟩ = some x
  free : ∀ o, wr.frozen? ⟨b, o, none⟩ = false
  wr : Wr (· = b) w wr

theorem MarkAt.step {b off n : Nat} {k : Int} {w wr : World} {j : Nat} (h : MarkAt b off n k w j wr) (hj : j < n) :
    MarkAt b off n k w (j + 1) (wr.setCell ⟨b, off + j, none⟩ (.int .i64 (k + (j : Int)))) := by
  obtain ⟨x, hx⟩ := h.there j hj
  refine ⟨fun i hi => ?_, fun i hi => ?_, fun o => by rw [World.frozen?_setCell]; exact h.free o, h.wr.setCell rfl _⟩
  · by_cases e : i = j
    · subst e; exact World.cell?_setCell_same _ _ _ hx
    · rw [World.cell?_setCell_other _ _ _ _ (by simp <;> omega)]; exact h.done i (by omega)
  · by_cases e : i = j
    · subst e; exact ⟨_, World.cell?_setCell_same _ _ _ hx⟩
    · rw [World.cell?_setCell_other _ _ _ _ (by simp <;> omega)]; exact h.there i hi

/-- What the loop that marks n rows knows behind j of them. -/
structure MarkAt2 (xss : List (List Int)) (b off : Nat) (V : Nat → Value) (B : Nat → Nat) (k : Int) (w : World) (j : Nat) (wr : World) : Prop where
  cell : ∀ i, i < xss.length → wr.cell? ⟨b, off + i, none⟩ = some (V i)
  done : ∀ i, i < j → i < xss.length → RdI (· = B i) wr (V i) (mkI (k + (tot xss i : Int)) (xss.getD i []).length)
  todo : ∀ i, j ≤ i → i < xss.length → RdI (· = B i) wr (V i) (xss.getD i [])
  free : ∀ i, i < xss.length → xss.getD i [] ≠ [] → B i ≠ b ∧ (∀ o, wr.frozen? ⟨B i, o, none⟩ = false) ∧ ∀ j, j < xss.length → xss.getD j [] ≠ [] → B j = B i → j = i
  wr : Wr (fun x => ∃ i, i < xss.length ∧ xss.getD i [] ≠ [] ∧ x = B i) w wr

theorem mkI_ne {k : Int} {n : Nat} : mkI k n ≠ [] ↔ n ≠ 0 := by
  rw [← List.length_pos_iff, mkI_len]; omega

theorem MarkAt2.step {xss : List (List Int)} {b off : Nat} {V : Nat → Value} {B : Nat → Nat} {k : Int} {w : World} {j : Nat} {wr w' : World}
    (h : MarkAt2 xss b off V B k w j wr) (hj : j < xss.length) (h1 : RdI (· = B j) w' (V j) (mkI (k + (tot xss j : Int)) (xss.getD j []).length)) (h2 : Wr (fun x => x = B j ∧ xss.getD j [] ≠ []) wr w') :
    MarkAt2 xss b off V B k w (j + 1) w' := by
  have other : ∀ i, i < xss.length → i ≠ j → ∀ {xs : List Int}, (xs ≠ [] → xss.getD i [] ≠ []) → RdI (· = B i) wr (V i) xs → RdI (· = B i) w' (V i) xs := by
    intro i hi hij xs hxs hr
    obtain ⟨ao, c, e1, e2, e3⟩ := hr
    refine ⟨ao, c, e1, e2, fun hne => ?_⟩
    obtain ⟨b', off', f1, f2, f3⟩ := e3 hne
    refine ⟨b', off', f1, f2, fun t ht => ?_⟩
    rw [h2.cell (World.block_lt_of_cell? _ _ (f3 t ht)) (by rintro ⟨e, hne'⟩; exact hij ((h.free j hj hne').2.2 i hi (hxs hne) (f2.symm.trans e)))]
    exact f3 t ht
  refine ⟨fun i hi => ?_, fun i hi hi' => ?_, fun i hi hi' => other i hi' (by omega) id (h.todo i (by omega) hi'), fun i hi hne => ?_, h.wr.trans (h2.mono ?_)⟩
  · rw [h2.cell (World.block_lt_of_cell? _ _ (h.cell i hi)) (by rintro ⟨e, hne'⟩; exact (h.free j hj hne').1 e.symm)]
    exact h.cell i hi
  · by_cases e : i = j
    · subst e; exact h1
    · exact other i hi' e (fun hne => by rw [mkI_ne] at hne; intro e0; rw [e0] at hne; exact hne rfl) (h.done i (by omega) hi')
  · obtain ⟨f1, f2, f3⟩ := h.free i hi hne
    refine ⟨f1, fun o => ?_, f3⟩
    have hlt : B i < wr.heap.size := by
      by_cases e : i < j
      · obtain ⟨b', hb, hl⟩ := (h.done i e hi).lt (mkI_ne.2 (fun e0 => hne (List.eq_nil_of_length_eq_zero e0)))
        exact hb ▸ hl
      · obtain ⟨b', hb, hl⟩ := (h.todo i (by omega) hi).lt hne
        exact hb ▸ hl
    rw [h2.frz _ _ hlt]; exact f2 o
  · rintro x ⟨rfl, hne⟩; exact ⟨j, hj, hne, rfl⟩

/-- What the loop that marks n puts knows behind j of them. -/
structure MarkAt3 (ps : List (Int × List Int)) (b off : Nat) (V : Nat → Value) (B : Nat → Nat) (k : Int) (w : World) (j : Nat) (wr : World) : Prop where
  cell : ∀ i, i < ps.length → wr.cell? ⟨b, off + i * 2 + 1, none⟩ = some (V i)
  there : ∀ i, i < ps.length → ∃ x, wr.cell? ⟨b, off + i * 2, none⟩ = some x
  num : ∀ i, i < j → i < ps.length → wr.cell? ⟨b, off + i * 2, none⟩ = some (.int .i64 (k + (totP ps i : Int)))
  done : ∀ i, i < j → i < ps.length → RdI (· = B i) wr (V i) (mkI (k + (totP ps i : Int) + 1) (ps.getD i (0, [])).2.length)
  todo : ∀ i, j ≤ i → i < ps.length → RdI (· = B i) wr (V i) (ps.getD i (0, [])).2
  own : ∀ o, wr.frozen? ⟨b, o, none⟩ = false
  free : ∀ i, i < ps.length → (ps.getD i (0, [])).2 ≠ [] → B i ≠ b ∧ (∀ o, wr.frozen? ⟨B i, o, none⟩ = false) ∧ ∀ j, j < ps.length → (ps.getD j (0, [])).2 ≠ [] → B j = B i → j = i
  wr : Wr (fun x => x = b ∨ ∃ i, i < ps.length ∧ (ps.getD i (0, [])).2 ≠ [] ∧ x = B i) w wr

theorem RdI.setOther {b b' o : Nat} {w : World} {v u : Value} {xs : List Int} (h : RdI (· = b) w v xs) (hne : xs ≠ [] → b ≠ b') : RdI (· = b) (w.setCell ⟨b', o, none⟩ u) v xs := by
  obtain ⟨ao, c, e1, e2, e3⟩ := h
  refine ⟨ao, c, e1, e2, fun hn => ?_⟩
  obtain ⟨b1, off', f1, f2, f3⟩ := e3 hn
  refine ⟨b1, off', f1, f2, fun t ht => ?_⟩
  rw [World.cell?_setCell_other _ _ _ _ (by intro e; exact hne hn (f2.symm.trans (congrArg Addr.block e).symm))]
  exact f3 t ht

theorem MarkAt3.mid {ps : List (Int × List Int)} {b off : Nat} {V : Nat → Value} {B : Nat → Nat} {k : Int} {w : World} {j : Nat} {wr : World} (h : MarkAt3 ps b off V B k w j wr) (hj : j < ps.length) (u : Value) :
    RdI (· = B j) (wr.setCell ⟨b, off + j * 2, none⟩ u) (V j) (ps.getD j (0, [])).2 ∧ ((ps.getD j (0, [])).2 ≠ [] → ∀ o, (wr.setCell ⟨b, off + j * 2, none⟩ u).frozen? ⟨B j, o, none⟩ = false) :=
  ⟨(h.todo j (Nat.le_refl _) hj).setOther fun hn => (h.free j hj hn).1, fun hn o => by rw [World.frozen?_setCell]; exact (h.free j hj hn).2.1 o⟩

theorem MarkAt3.step {ps : List (Int × List Int)} {b off : Nat} {V : Nat → Value} {B : Nat → Nat} {k : Int} {w : World} {j : Nat} {wr w' : World}
    (h : MarkAt3 ps b off V B k w j wr) (hj : j < ps.length) (h1 : RdI (· = B j) w' (V j) (mkI (k + (totP ps j : Int) + 1) (ps.getD j (0, [])).2.length))
    (h2 : Wr (fun x => x = B j ∧ (ps.getD j (0, [])).2 ≠ []) (wr.setCell ⟨b, off + j * 2, none⟩ (.int .i64 (k + (totP ps j : Int)))) w') :
    MarkAt3 ps b off V B k w (j + 1) w' := by
  have keepb : ∀ o v, (wr.setCell ⟨b, off + j * 2, none⟩ (.int .i64 (k + (totP ps j : Int)))).cell? ⟨b, o, none⟩ = some v → w'.cell? ⟨b, o, none⟩ = some v := by
    intro o v hv
    rw [h2.cell (World.block_lt_of_cell? _ _ hv) (by rintro ⟨e, hne'⟩; exact (h.free j hj hne').1 e.symm)]
    exact hv
  have setb : ∀ o v, o ≠ off + j * 2 → wr.cell? ⟨b, o, none⟩ = some v → w'.cell? ⟨b, o, none⟩ = some v := by
    intro o v ho hv
    exact keepb o v (by rw [World.cell?_setCell_other _ _ _ _ (by intro e; exact ho (congrArg Addr.off e).symm)]; exact hv)
  have seta : w'.cell? ⟨b, off + j * 2, none⟩ = some (.int .i64 (k + (totP ps j : Int))) := by
    obtain ⟨x, hx⟩ := h.there j hj
    exact keepb _ _ (World.cell?_setCell_same _ _ _ hx)
  have other : ∀ i, i < ps.length → i ≠ j → ∀ {xs : List Int}, (xs ≠ [] → (ps.getD i (0, [])).2 ≠ []) → RdI (· = B i) wr (V i) xs → RdI (· = B i) w' (V i) xs := by
    intro i hi hij xs hxs hr
    obtain ⟨ao, c, e1, e2, e3⟩ := hr.setOther (o := off + j * 2) (u := .int .i64 (k + (totP ps j : Int))) (fun hn => (h.free i hi (hxs hn)).1)
    refine ⟨ao, c, e1, e2, fun hne => ?_⟩
    obtain ⟨b', off', f1, f2, f3⟩ := e3 hne
    refine ⟨b', off', f1, f2, fun t ht => ?_⟩
    rw [h2.cell (World.block_lt_of_cell? _ _ (f3 t ht)) (by rintro ⟨e, hne'⟩; exact hij ((h.free j hj hne').2.2 i hi (hxs hne) (f2.symm.trans e)))]
    exact f3 t ht
  have hsz : (wr.setCell ⟨b, off + j * 2, none⟩ (.int .i64 (k + (totP ps j : Int)))).heap.size = wr.heap.size := by simp
  refine ⟨fun i hi => setb _ _ (by omega) (h.cell i hi), fun i hi => ?_, fun i hi hi' => ?_, fun i hi hi' => ?_, fun i hi hi' => other i hi' (by omega) id (h.todo i (by omega) hi'), fun o => ?_, fun i hi hne => ?_, ?_⟩
  · by_cases e : i = j
    · subst e; exact ⟨_, seta⟩
    · obtain ⟨x, hx⟩ := h.there i hi
      exact ⟨x, setb _ _ (by omega) hx⟩
  · by_cases e : i = j
    · subst e; exact seta
    · exact setb _ _ (by omega) (h.num i (by omega) hi')
  · by_cases e : i = j
    · subst e; exact h1
    · exact other i hi' e (fun hne => by rw [mkI_ne] at hne; intro e0; rw [e0] at hne; exact hne rfl) (h.done i (by omega) hi')
  · obtain ⟨x, hx⟩ := h.there j hj
    rw [h2.frz _ _ (by rw [hsz]; exact World.block_lt_of_cell? _ _ hx), World.frozen?_setCell]; exact h.own o
  · obtain ⟨f1, f2, f3⟩ := h.free i hi hne
    refine ⟨f1, fun o => ?_, f3⟩
    have hlt : B i < wr.heap.size := by
      by_cases e : i < j
      · obtain ⟨b', hb, hl⟩ := (h.done i e hi).lt (mkI_ne.2 (fun e0 => hne (List.eq_nil_of_length_eq_zero e0)))
        exact hb ▸ hl
      · obtain ⟨b', hb, hl⟩ := (h.todo i (by omega) hi).lt hne
        exact hb ▸ hl
    rw [h2.frz _ _ (by rw [hsz]; exact hlt), World.frozen?_setCell]; exact f2 o
  · exact (h.wr.setCell (p := ⟨b, off + j * 2, none⟩) (Or.inl rfl) _).trans (h2.mono fun x ⟨e, hne⟩ => Or.inr ⟨j, hj, hne, e⟩)

end Go.Proofs.YtcbapclpopbjbaaDoor
/- The walks of the laws' functions that ask whether marks still stand. -/
namespace Go.Proofs.YtcbapclpopbjbaaDoor
open Go.RowKit
end Go.Proofs.YtcbapclpopbjbaaDoor
