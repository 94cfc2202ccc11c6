/- Chapter 4, the program's side: what is seen, as a map from home blocks to words: '(seen).put', walked. -/
import Derived.Test.YtebgonaiodblhaaFault2
import Derived.Maps.OwnIn
import Derived.Maps.OwnOps
import Derived.Maps.Views
namespace Go.Proofs.Ytebgonaiodblhaa
open Go.RowKit Go.Maps

theorem lawI64 : Keyed Try.prog 2 := int_keyed Try.underlying2
theorem zeroWords (w : World) : (zeroValue 29).run Try.prog w = .ok (.slice none 0 0) w := by kernel_rfl

/-- An element of the map, as it stands. -/
def asIs (v : Value) : Option (DataW Value × List MemPlace) := some (.held v, [])
def putM (M : Int → List Int) (p : Int × List Int) : Int → List Int := fun x => if x = p.1 then p.2 else M x

/-- Block B is a map of at most n entries; at each home block it has the words of M (none, where M has none). -/
def SeenAt (w : World) (B n : Nat) (M : Int → List Int) : Prop :=
  ∃ D : DataW Value, w.ownsMap Try.prog 2 asIs B n D ∧ (∀ a : Int, 0 ≤ a → a < 40 → ∃ v, D.atKey (.int .i64 a) (.held (.slice none 0 0)) = .held v ∧ RdI (· ≠ B) w v (M a)) ∧
    ∀ a : Int, has D (.int .i64 a) = true ↔ 0 ≤ a ∧ a < 40 ∧ M a ≠ []

theorem RdI.far {S : Nat → Prop} {w w' : World} {v : Value} {xs : List Int} {B : Nat} (h : RdI S w v xs) (hS : ∀ b, S b → b ≠ B) (hg : w.grownBy w' (some B)) : RdI S w' v xs := by
  obtain ⟨ao, c, e1, e2, e3⟩ := h
  refine ⟨ao, c, e1, e2, fun hne => ?_⟩
  obtain ⟨b, off, f1, f2, f3⟩ := e3 hne
  exact ⟨b, off, f1, f2, fun j hj => (World.cell?_of_block (hg.block b (World.block_lt_of_cell? _ _ (f3 j hj)) (fun e => hS b f2 (Option.some.inj e)))).trans (f3 j hj)⟩
theorem RdP_blk {S : Nat → Prop} {w : World} {b off n c : Nat} {ps : List (Int × List Int)} (h : RdP S w (.slice (some ⟨b, off, none⟩) n c) ps) (hn : 0 < ps.length) : S b := by
  obtain ⟨ao', c', e, _, h3⟩ := h
  injection e with e1 e2 e3
  subst e1
  obtain ⟨b', off', V, e, hb, _⟩ := h3 (by rintro rfl; exact absurd hn (Nat.lt_irrefl _))
  injection e with e
  injection e with e1 e2
  subst e1
  exact hb
theorem grown_below {w w' : World} {row : Option Nat} (hb : Below w.heap.size w w') : w.grownBy w' row := ⟨hb.os, hb.tape, hb.output, hb.size, fun b h _ => hb.block b h⟩
theorem grown_on {w w' w'' : World} {row : Option Nat} (h : w.grownBy w' row) (h' : w'.grownBy w'' row) : w.grownBy w'' row :=
  ⟨h'.os.trans h.os, h'.tape.trans h.tape, h'.output.trans h.output, Nat.le_trans h.size h'.size, fun b hb hne => (h'.block b (Nat.lt_of_lt_of_le hb h.size) hne).trans (h.block b hb hne)⟩

theorem SeenAt.lt {w : World} {B n : Nat} {M : Int → List Int} (h : SeenAt w B n M) : B < w.heap.size := by
  obtain ⟨D, h1, _⟩ := h
  exact h1.lt
theorem SeenAt.later {w w' : World} {B n : Nat} {M : Int → List Int} (h : SeenAt w B n M) (hb : Below w.heap.size w w') : SeenAt w' B n M := by
  obtain ⟨D, h1, h2, hk⟩ := h
  refine ⟨D, h1.kept (grown_below (row := none) hb) (by simp), fun a h3 h4 => ?_, hk⟩
  obtain ⟨v, e, r⟩ := h2 a h3 h4
  exact ⟨v, e, r.later hb⟩
theorem SeenAt.mono {w : World} {B n n' : Nat} {M : Int → List Int} (h : SeenAt w B n M) (hn : n ≤ n') : SeenAt w B n' M := by
  obtain ⟨D, h1, h2, hk⟩ := h
  exact ⟨D, h1.mono hn, h2, hk⟩
theorem SeenAt.put {w w' : World} {B n : Nat} {M : Int → List Int} {D : DataW Value} {x : Int} {v : Value} {ws : List Int} (h1 : w.ownsMap Try.prog 2 asIs B n D)
    (h2 : ∀ a : Int, 0 ≤ a → a < 40 → ∃ v, D.atKey (.int .i64 a) (.held (.slice none 0 0)) = .held v ∧ RdI (· ≠ B) w v (M a)) (hk : ∀ a : Int, has D (.int .i64 a) = true ↔ 0 ≤ a ∧ a < 40 ∧ M a ≠ []) (hx : 0 ≤ x ∧ x < 40) (hne : ws ≠ []) (hr : RdI (· ≠ B) w v ws)
    (hown : w'.ownsMap Try.prog 2 asIs B (n + 1) (D.put (.int .i64 x) (.held v))) (hg : w.grownBy w' (some B)) : SeenAt w' B (n + 1) (putM M (x, ws)) := by
  refine ⟨_, hown, fun a h3 h4 => ?_, fun a => ?_⟩
  rotate_left
  · unfold putM
    by_cases e : a = x
    · subst e
      simp only [if_true]
      exact ⟨fun _ => ⟨hx.1, hx.2, hne⟩, fun _ => has_put_same h1.isMap (by trivial) _⟩
    · simp only [if_neg e]
      rw [has_put_other (by intro h; injection h with _ h; exact e h)]
      exact hk a
  unfold putM
  by_cases e : a = x
  · subst e
    refine ⟨v, atKey_put_same h1.isMap (by trivial) _ _, ?_⟩
    simp only [if_true]
    exact hr.far (fun b hb => hb) hg
  · obtain ⟨v', e', r⟩ := h2 a h3 h4
    refine ⟨v', (atKey_put_other (by intro h; injection h with _ h; exact e h) _ _).trans e', ?_⟩
    simp only [if_neg e]
    exact r.far (fun b hb => hb) hg
theorem SeenAt.del {w w' : World} {B n : Nat} {M : Int → List Int} {D : DataW Value} {x : Int}
    (h2 : ∀ a : Int, 0 ≤ a → a < 40 → ∃ v, D.atKey (.int .i64 a) (.held (.slice none 0 0)) = .held v ∧ RdI (· ≠ B) w v (M a)) (hk : ∀ a : Int, has D (.int .i64 a) = true ↔ 0 ≤ a ∧ a < 40 ∧ M a ≠ [])
    (hown : w'.ownsMap Try.prog 2 asIs B n (D.del (.int .i64 x))) (hg : w.grownBy w' (some B)) : SeenAt w' B n (putM M (x, [])) := by
  refine ⟨_, hown, fun a h3 h4 => ?_, fun a => ?_⟩
  rotate_left
  · unfold putM
    by_cases e : a = x
    · subst e
      simp only [if_true]
      rw [has_del_same]
      exact ⟨fun h => absurd h (by decide), fun h => absurd rfl h.2.2⟩
    · simp only [if_neg e]
      rw [has_del_other (by intro h; injection h with _ h; exact e h)]
      exact hk a
  unfold putM
  by_cases e : a = x
  · subst e
    refine ⟨.slice none 0 0, atKey_del_same _, ?_⟩
    simp only [if_true]
    exact ⟨none, 0, rfl, Nat.zero_le _, fun h => absurd rfl h⟩
  · obtain ⟨v', e', r⟩ := h2 a h3 h4
    refine ⟨v', (atKey_del_other (by intro h; injection h with _ h; exact e h) _).trans e', ?_⟩
    simp only [if_neg e]
    exact r.far (fun b hb => hb) hg
theorem foldl_take {α β : Type} [Inhabited β] (f : α → β → α) (d : β) (M : α) (qs : List β) (k : Nat) (h : k < qs.length) : (qs.take (k + 1)).foldl f M = f ((qs.take k).foldl f M) (qs.getD k d) := by
  rw [List.take_succ_eq_append_getElem h, List.foldl_append]
  simp [List.getD, h]

theorem foldl_len {qs : List (Int × List Int)} {M : Int → List Int} {a : Int} {C : Nat} (hM : (M a).length ≤ C) (hq : ∀ i, i < qs.length → (qs.getD i (0, [])).2.length ≤ C) : (qs.foldl putM M a).length ≤ C := by
  have h : ∀ k, k ≤ qs.length → ((qs.take k).foldl putM M a).length ≤ C := by
    intro k
    induction k with
    | zero => intro _; simpa using hM
    | succ k ih =>
      intro hk
      rw [foldl_take putM (0, []) M qs k (by omega)]
      unfold putM
      split
      · exact hq k (by omega)
      · exact ih (by omega)
  have := h qs.length (Nat.le_refl _)
  simpa using this
theorem foldl_none {qs : List (Int × List Int)} {M : Int → List Int} {a : Int} (hq : ∀ i, i < qs.length → (qs.getD i (0, [])).1 ≠ a) : qs.foldl putM M a = M a := by
  have h : ∀ k, k ≤ qs.length → (qs.take k).foldl putM M a = M a := by
    intro k
    induction k with
    | zero => intro _; rfl
    | succ k ih =>
      intro hk
      rw [foldl_take putM (0, []) M qs k (by omega)]
      unfold putM
      rw [if_neg (fun e => hq k (by omega) e.symm)]
      exact ih (by omega)
  have := h qs.length (Nat.le_refl _)
  simpa using this
theorem foldl_last {qs : List (Int × List Int)} {M : Int → List Int} {a : Int} {i : Nat} (hi : i < qs.length) (ha : (qs.getD i (0, [])).1 = a) (hq : ∀ j, i < j → j < qs.length → (qs.getD j (0, [])).1 ≠ a) : qs.foldl putM M a = (qs.getD i (0, [])).2 := by
  have h : ∀ k, i < k → k ≤ qs.length → (qs.take k).foldl putM M a = (qs.getD i (0, [])).2 := by
    intro k
    induction k with
    | zero => intro h; omega
    | succ k ih =>
      intro h hk
      rw [foldl_take putM (0, []) M qs k (by omega)]
      unfold putM
      by_cases e : i = k
      · subst e; rw [if_pos ha.symm]
      · rw [if_neg (fun e' => hq k (by omega) (by omega) e'.symm)]
        exact ih (by omega) (by omega)
  have := h qs.length hi (Nat.le_refl _)
  simpa using this
end Go.Proofs.Ytebgonaiodblhaa
