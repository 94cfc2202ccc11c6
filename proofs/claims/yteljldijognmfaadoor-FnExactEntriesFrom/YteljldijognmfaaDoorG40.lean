/- Sh1 in one text: what each says stands at its head below. -/
import Derived.Test.YteljldijognmfaaDoorG37
import Derived.Test.YteljldijognmfaaDoorG25
import Derived.Test.YteljldijognmfaaDoorG39
/- Chapter 10: the variable of a code with a store, 'l10Bad', and what is over of a term. Made by program (gensh.py). -/
namespace Go.Proofs.YteljldijognmfaaDoor
open Go.RowKit

/-- The variable of a result (a code, a store) as it was made. -/
structure Res7 (w wr : World) (r : Nat) : Prop where
  below : Below w.heap.size w wr
  v : Var7 wr r (.int .i64 0) (.int .i64 0) (.int .i64 0) (.int .i64 0) (.int .i64 0) (.slice none 0 0) (.slice none 0 0)
  fr : ∀ o, wr.frozen? ⟨r, o, none⟩ = false
  ge : w.heap.size ≤ r
theorem Res7.lt {w wr : World} {r : Nat} (h : Res7 w wr r) : r < wr.heap.size := h.v.lt
theorem Res7.later {w wr w1 : World} {r : Nat} (h : Res7 w wr r) (hb : Below wr.heap.size wr w1) : Res7 w w1 r :=
  ⟨below_on h.below hb, h.v.later hb, fun o => ((bcell hb).2 _ _ h.lt).trans (h.fr o), h.ge⟩
theorem Res7.start (w : World) (o : Obj) (t : TypeId) : Res7 w ((w.alloc o).alloc (.cells #[.int .i64 0, .int .i64 0, .int .i64 0, .int .i64 0, .int .i64 0, .slice none 0 0, .slice none 0 0] t)) (w.heap.size + 1) :=
  ⟨below_on (below_alloc _ _) (below_alloc _ _), by have h := Var7_new (w.alloc o) (.int .i64 0) (.int .i64 0) (.int .i64 0) (.int .i64 0) (.int .i64 0) (.slice none 0 0) (.slice none 0 0) t; simpa using h, fun o => by simp [go_sem], Nat.le_succ _⟩
theorem ret_raft {w w3 : World} {r lo : Nat} {x0 x1 x2 x3 x4 y z : Value} {xs : List Int} {ps : List Oj} (hb : Below w.heap.size w w3) (hr : w.heap.size ≤ r) (ho : IvR lo w3.heap.size w3 y z xs ps) (hlo : r < lo) :
    Below w.heap.size w (((((((w3.setCell ⟨r, 0, none⟩ x0).setCell ⟨r, 1, none⟩ x1).setCell ⟨r, 2, none⟩ x2).setCell ⟨r, 3, none⟩ x3).setCell ⟨r, 4, none⟩ x4).setCell ⟨r, 5, none⟩ y).setCell ⟨r, 6, none⟩ z) ∧ IvR w.heap.size (((((((w3.setCell ⟨r, 0, none⟩ x0).setCell ⟨r, 1, none⟩ x1).setCell ⟨r, 2, none⟩ x2).setCell ⟨r, 3, none⟩ x3).setCell ⟨r, 4, none⟩ x4).setCell ⟨r, 5, none⟩ y).setCell ⟨r, 6, none⟩ z).heap.size (((((((w3.setCell ⟨r, 0, none⟩ x0).setCell ⟨r, 1, none⟩ x1).setCell ⟨r, 2, none⟩ x2).setCell ⟨r, 3, none⟩ x3).setCell ⟨r, 4, none⟩ x4).setCell ⟨r, 5, none⟩ y).setCell ⟨r, 6, none⟩ z) y z xs ps := by
  have hw : Wr (fun q => q = r) w3 (((((((w3.setCell ⟨r, 0, none⟩ x0).setCell ⟨r, 1, none⟩ x1).setCell ⟨r, 2, none⟩ x2).setCell ⟨r, 3, none⟩ x3).setCell ⟨r, 4, none⟩ x4).setCell ⟨r, 5, none⟩ y).setCell ⟨r, 6, none⟩ z) := ((((((((Wr.refl (fun q => q = r) _).setCell (p := ⟨r, 0, none⟩) rfl _).setCell (p := ⟨r, 1, none⟩) rfl _).setCell (p := ⟨r, 2, none⟩) rfl _).setCell (p := ⟨r, 3, none⟩) rfl _).setCell (p := ⟨r, 4, none⟩) rfl _).setCell (p := ⟨r, 5, none⟩) rfl _).setCell (p := ⟨r, 6, none⟩) rfl _)
  exact ⟨(((((((hb.setCell (p := ⟨r, 0, none⟩) hr _).setCell (p := ⟨r, 1, none⟩) hr _).setCell (p := ⟨r, 2, none⟩) hr _).setCell (p := ⟨r, 3, none⟩) hr _).setCell (p := ⟨r, 4, none⟩) hr _).setCell (p := ⟨r, 5, none⟩) hr _).setCell (p := ⟨r, 6, none⟩) hr _), IvR.up (ho.wr hw (fun b h1 _ e => by omega)) (by omega) hw.size⟩
theorem ret_none {w w3 : World} {r : Nat} {x0 x1 x2 x3 x4 : Value} (hb : Below w.heap.size w w3) (hr : w.heap.size ≤ r) :
    Below w.heap.size w (((((((w3.setCell ⟨r, 0, none⟩ x0).setCell ⟨r, 1, none⟩ x1).setCell ⟨r, 2, none⟩ x2).setCell ⟨r, 3, none⟩ x3).setCell ⟨r, 4, none⟩ x4).setCell ⟨r, 5, none⟩ (.slice none 0 0)).setCell ⟨r, 6, none⟩ (.slice none 0 0)) ∧ IvR w.heap.size (((((((w3.setCell ⟨r, 0, none⟩ x0).setCell ⟨r, 1, none⟩ x1).setCell ⟨r, 2, none⟩ x2).setCell ⟨r, 3, none⟩ x3).setCell ⟨r, 4, none⟩ x4).setCell ⟨r, 5, none⟩ (.slice none 0 0)).setCell ⟨r, 6, none⟩ (.slice none 0 0)).heap.size (((((((w3.setCell ⟨r, 0, none⟩ x0).setCell ⟨r, 1, none⟩ x1).setCell ⟨r, 2, none⟩ x2).setCell ⟨r, 3, none⟩ x3).setCell ⟨r, 4, none⟩ x4).setCell ⟨r, 5, none⟩ (.slice none 0 0)).setCell ⟨r, 6, none⟩ (.slice none 0 0)) (.slice none 0 0) (.slice none 0 0) [] [] :=
  ⟨(((((((hb.setCell (p := ⟨r, 0, none⟩) hr _).setCell (p := ⟨r, 1, none⟩) hr _).setCell (p := ⟨r, 2, none⟩) hr _).setCell (p := ⟨r, 3, none⟩) hr _).setCell (p := ⟨r, 4, none⟩) hr _).setCell (p := ⟨r, 5, none⟩) hr _).setCell (p := ⟨r, 6, none⟩) hr _), IvR_nil _ _⟩

/-- A term of which it is over. -/
def OverH (a b t v : Int) : Prop := t < a ∨ (t = a ∧ b ≠ 0 ∧ v ≠ b)
theorem l10BadI (x : Int) (w : World) : Calls Tryd.prog 37 #[.int .i64 x] w fun e w' => e = .returned (.agg #[.int .i64 x, .int .i64 0, .int .i64 0, .int .i64 0, .int .i64 0, .slice none 0 0, .slice none 0 0]) ∧ Below w.heap.size w w' := by
  go_enter Tryd.func37, Tryd.ntmps37
  go_wp2
  refine bodyPost_ret (v := .agg #[.int .i64 x, .int .i64 0, .int .i64 0, .int .i64 0, .int .i64 0, .slice none 0 0, .slice none 0 0]) (by simp [results, Tryd.results37, go_sem]) rfl ⟨rfl, ?_⟩
  repeat (first | refine Below.setCell ?_ (by simp) _ | exact below_alloc _ _)

set_option maxHeartbeats 2000000 in
theorem hardOverI (a b c d t v : Int) (ay az : Option Addr) (l cy m cz : Nat) (h0 : 0 ≤ a) (h1 : a ≤ 999) (w : World) : Calls Tryd.prog 43 #[.agg #[.int .i64 a, .int .i64 b, .int .i64 c, .int .i64 d, .slice ay l cy, .slice az m cz], .int .i64 t, .int .i64 v] w fun e w' => (OverH a b t v → ∃ x, e = .returned (.iface 96 (.agg #[.int .i64 x]))) ∧ (¬ OverH a b t v → e = .returned .nilIface) ∧ Below w.heap.size w w' := by
  have BA := hide (below_alloc w (.cells #[.int .i64 a, .int .i64 b, .int .i64 c, .int .i64 d, .slice ay l cy, .slice az m cz] 29))
  have e1 : IntKind.i64.wrap (a + 1) = a + 1 := by simp [IntKind.wrap, IntKind.bits, IntKind.signed]; omega
  by_cases hb : b = 0
  · subst hb
    by_cases ht : t < a
    · have HP : Hid (OverH a 0 t v) := Or.inl ht
      skip
      go_enter Tryd.func43, Tryd.ntmps43
      go_wp2
      go_ret
      exact ⟨fun _ => ⟨_, rfl⟩, fun h => absurd HP.out h, BA.out⟩
    · have HP : Hid (¬ (OverH a 0 t v)) := by rintro (h | ⟨_, h, _⟩); exact ht h; exact h rfl
      skip
      go_enter Tryd.func43, Tryd.ntmps43
      go_wp2
      go_ret
      exact ⟨fun h => absurd h HP.out, fun _ => rfl, BA.out⟩
  · have hb1 : (b != 0) = true := by simp [hb]
    have hb2 : (b == 0) = false := by simp [hb]
    by_cases hv : b = v
    · subst hv
      by_cases ht : t < a
      · have HP : Hid (OverH a b t b) := Or.inl ht
        clear hb
        go_enter Tryd.func43, Tryd.ntmps43
        go_wp2
        go_ret
        exact ⟨fun _ => ⟨_, rfl⟩, fun h => absurd HP.out h, BA.out⟩
      · have HP : Hid (¬ (OverH a b t b)) := by rintro (h | ⟨_, _, h⟩); exact ht h; exact h rfl
        clear hb
        go_enter Tryd.func43, Tryd.ntmps43
        go_wp2
        go_ret
        exact ⟨fun h => absurd h HP.out, fun _ => rfl, BA.out⟩
    · have hv1 : (b != v) = true := by simp [hv]
      have hv2 : (b == v) = false := by simp [hv]
      by_cases ht : t < a + 1
      · have HP : Hid (OverH a b t v) := by rcases Int.lt_or_le t a with h | h; exact Or.inl h; exact Or.inr ⟨by omega, hb, fun e => hv e.symm⟩
        clear hb hv
        go_enter Tryd.func43, Tryd.ntmps43
        go_wp2
        go_ret
        exact ⟨fun _ => ⟨_, rfl⟩, fun h => absurd HP.out h, BA.out⟩
      · have HP : Hid (¬ (OverH a b t v)) := by rintro (h | ⟨h, _, _⟩) <;> omega
        clear hb hv
        go_enter Tryd.func43, Tryd.ntmps43
        go_wp2
        go_ret
        exact ⟨fun h => absurd h HP.out, fun _ => rfl, BA.out⟩
end Go.Proofs.YteljldijognmfaaDoor
