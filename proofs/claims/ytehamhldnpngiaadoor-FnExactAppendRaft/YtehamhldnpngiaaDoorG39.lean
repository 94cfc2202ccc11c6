/- Sh1 Sh2 in one text: what each says stands at its head below. -/
import Derived.Test.YtehamhldnpngiaaDoorG38
import Derived.Test.YtehamhldnpngiaaDoorG22
import Derived.Test.YtehamhldnpngiaaDoorG29
import Derived.Test.YtehamhldnpngiaaDoorG28
import Derived.Test.YtehamhldnpngiaaDoorG24
import Derived.Test.YtehamhldnpngiaaDoorG25
/- Chapter 10: the variable of a code with a store, 'l10Bad', and what is over of a term. Made by program (gensh.py). -/
namespace Go.Proofs.YtehamhldnpngiaaDoor
open Go.RowKit

/-- The variable of a result (a code, a store) as it was made. -/
structure Res7 (w wr : World) (r : Nat) : Prop where
  below : Below w.heap.size w wr
  v : Var7 wr r (.int .i64 0) (.int .i64 0) (.int .i64 0) (.int .i64 0) (.int .i64 0) (.slice none 0 0) (.slice none 0 0)
  fr : ∀ o, wr.frozen? ⟨r, o, none⟩ = false
  ge : w.heap.size ≤ r
theorem Res7.lt {w wr : World} {r : Nat} (h : Res7 w wr r) : r < wr.heap.size := h.v.lt
theorem Res7.later {w wr w1 : World} {r : Nat} (h : Res7 w wr r) (hb : Below wr.heap.size wr w1) : Res7 w w1 r :=
  ⟨below_on h.below hb, h.v.later hb, fun o => ((bcell hb).2 _ _ h.lt).trans (h.fr o), h.ge⟩
theorem Res7.start (w : World) (o : Obj) (t : TypeId) : Res7 w ((w.alloc o).alloc (.cells #[.int .i64 0, .int .i64 0, .int .i64 0, .int .i64 0, .int .i64 0, .slice none 0 0, .slice none 0 0] t)) (w.heap.size + 1) :=
  ⟨below_on (below_alloc _ _) (below_alloc _ _), by have h := Var7_new (w.alloc o) (.int .i64 0) (.int .i64 0) (.int .i64 0) (.int .i64 0) (.int .i64 0) (.slice none 0 0) (.slice none 0 0) t; simpa using h, fun o => by simp [go_sem], Nat.le_succ _⟩
theorem ret_raft {w w3 : World} {r lo : Nat} {x0 x1 x2 x3 x4 y z : Value} {xs : List Int} {ps : List Oj} (hb : Below w.heap.size w w3) (hr : w.heap.size ≤ r) (ho : IvR lo w3.heap.size w3 y z xs ps) (hlo : r < lo) :
    Below w.heap.size w (((((((w3.setCell ⟨r, 0, none⟩ x0).setCell ⟨r, 1, none⟩ x1).setCell ⟨r, 2, none⟩ x2).setCell ⟨r, 3, none⟩ x3).setCell ⟨r, 4, none⟩ x4).setCell ⟨r, 5, none⟩ y).setCell ⟨r, 6, none⟩ z) ∧ IvR w.heap.size (((((((w3.setCell ⟨r, 0, none⟩ x0).setCell ⟨r, 1, none⟩ x1).setCell ⟨r, 2, none⟩ x2).setCell ⟨r, 3, none⟩ x3).setCell ⟨r, 4, none⟩ x4).setCell ⟨r, 5, none⟩ y).setCell ⟨r, 6, none⟩ z).heap.size (((((((w3.setCell ⟨r, 0, none⟩ x0).setCell ⟨r, 1, none⟩ x1).setCell ⟨r, 2, none⟩ x2).setCell ⟨r, 3, none⟩ x3).setCell ⟨r, 4, none⟩ x4).setCell ⟨r, 5, none⟩ y).setCell ⟨r, 6, none⟩ z) y z xs ps := by
  have hw : Wr (fun q => q = r) w3 (((((((w3.setCell ⟨r, 0, none⟩ x0).setCell ⟨r, 1, none⟩ x1).setCell ⟨r, 2, none⟩ x2).setCell ⟨r, 3, none⟩ x3).setCell ⟨r, 4, none⟩ x4).setCell ⟨r, 5, none⟩ y).setCell ⟨r, 6, none⟩ z) := ((((((((Wr.refl (fun q => q = r) _).setCell (p := ⟨r, 0, none⟩) rfl _).setCell (p := ⟨r, 1, none⟩) rfl _).setCell (p := ⟨r, 2, none⟩) rfl _).setCell (p := ⟨r, 3, none⟩) rfl _).setCell (p := ⟨r, 4, none⟩) rfl _).setCell (p := ⟨r, 5, none⟩) rfl _).setCell (p := ⟨r, 6, none⟩) rfl _)
  exact ⟨(((((((hb.setCell (p := ⟨r, 0, none⟩) hr _).setCell (p := ⟨r, 1, none⟩) hr _).setCell (p := ⟨r, 2, none⟩) hr _).setCell (p := ⟨r, 3, none⟩) hr _).setCell (p := ⟨r, 4, none⟩) hr _).setCell (p := ⟨r, 5, none⟩) hr _).setCell (p := ⟨r, 6, none⟩) hr _), IvR.up (ho.wr hw (fun b h1 _ e => by omega)) (by omega) hw.size⟩
theorem ret_none {w w3 : World} {r : Nat} {x0 x1 x2 x3 x4 : Value} (hb : Below w.heap.size w w3) (hr : w.heap.size ≤ r) :
    Below w.heap.size w (((((((w3.setCell ⟨r, 0, none⟩ x0).setCell ⟨r, 1, none⟩ x1).setCell ⟨r, 2, none⟩ x2).setCell ⟨r, 3, none⟩ x3).setCell ⟨r, 4, none⟩ x4).setCell ⟨r, 5, none⟩ (.slice none 0 0)).setCell ⟨r, 6, none⟩ (.slice none 0 0)) ∧ IvR w.heap.size (((((((w3.setCell ⟨r, 0, none⟩ x0).setCell ⟨r, 1, none⟩ x1).setCell ⟨r, 2, none⟩ x2).setCell ⟨r, 3, none⟩ x3).setCell ⟨r, 4, none⟩ x4).setCell ⟨r, 5, none⟩ (.slice none 0 0)).setCell ⟨r, 6, none⟩ (.slice none 0 0)).heap.size (((((((w3.setCell ⟨r, 0, none⟩ x0).setCell ⟨r, 1, none⟩ x1).setCell ⟨r, 2, none⟩ x2).setCell ⟨r, 3, none⟩ x3).setCell ⟨r, 4, none⟩ x4).setCell ⟨r, 5, none⟩ (.slice none 0 0)).setCell ⟨r, 6, none⟩ (.slice none 0 0)) (.slice none 0 0) (.slice none 0 0) [] [] :=
  ⟨(((((((hb.setCell (p := ⟨r, 0, none⟩) hr _).setCell (p := ⟨r, 1, none⟩) hr _).setCell (p := ⟨r, 2, none⟩) hr _).setCell (p := ⟨r, 3, none⟩) hr _).setCell (p := ⟨r, 4, none⟩) hr _).setCell (p := ⟨r, 5, none⟩) hr _).setCell (p := ⟨r, 6, none⟩) hr _), IvR_nil _ _⟩

/-- A term of which it is over. -/
def OverH (a b t v : Int) : Prop := t < a ∨ (t = a ∧ b ≠ 0 ∧ v ≠ b)
theorem l10BadI (x : Int) (w : World) : Calls Tryd.prog 20 #[.int .i64 x] w fun e w' => e = .returned (.agg #[.int .i64 x, .int .i64 0, .int .i64 0, .int .i64 0, .int .i64 0, .slice none 0 0, .slice none 0 0]) ∧ Below w.heap.size w w' := by
  go_enter Tryd.func20, Tryd.ntmps20
  go_wp2
  refine bodyPost_ret (v := .agg #[.int .i64 x, .int .i64 0, .int .i64 0, .int .i64 0, .int .i64 0, .slice none 0 0, .slice none 0 0]) (by simp [results, Tryd.results20, go_sem]) rfl ⟨rfl, ?_⟩
  repeat (first | refine Below.setCell ?_ (by simp) _ | exact below_alloc _ _)

end Go.Proofs.YtehamhldnpngiaaDoor
/- Chapter 10: 'SetHard' of both sides, walked. Made by program (gensh2.py). -/
namespace Go.Proofs.YtehamhldnpngiaaDoor
open Go.RowKit

theorem rf_room {r : Rf} (h : rfF r = 0) : r.sn.length ≤ 40 ∧ r.lg.length ≤ 14 ∧ (∀ i, i < r.lg.length → (r.lg.getD i oj0).2.2.length ≤ 1048576) := by
  have hi := rfF_iff.1 h
  obtain ⟨h1, h2, _⟩ := logF_iff.1 hi.lo
  exact ⟨daF_len hi.da, h1, fun i hi => by have := (entF_zero (h2 i hi)).2.1; omega⟩
theorem sh_bad {r : Rf} {t v : Int} (h : rfF r ≠ 0) : shC r t v = rfF r ∧ shR r t v = rf0 := by
  have hc : shC r t v = rfF r := by unfold shC; rw [if_neg h]
  exact ⟨hc, by unfold shR; rw [if_neg (by rw [hc]; exact h)]⟩
theorem sh_rng {r : Rf} {t v : Int} (h : rfF r = 0) (h1 : ¬ ((0 ≤ t ∧ t ≤ 999) ∧ (0 ≤ v ∧ v ≤ 9))) : shC r t v = 3 ∧ shR r t v = rf0 := by
  have hc : shC r t v = 3 := by unfold shC; rw [if_pos h, if_neg h1]
  exact ⟨hc, by unfold shR; rw [if_neg (by rw [hc]; decide)]⟩
theorem sh_old {r : Rf} {t v : Int} (h : rfF r = 0) (h1 : (0 ≤ t ∧ t ≤ 999) ∧ (0 ≤ v ∧ v ≤ 9)) (h2 : OverH r.tm r.vt t v) : shC r t v = 6 ∧ shR r t v = rf0 := by
  have hc : shC r t v = 6 := by unfold shC; rw [if_pos h, if_pos h1, if_pos (show t < r.tm ∨ (t = r.tm ∧ r.vt ≠ 0 ∧ v ≠ r.vt) from h2)]
  exact ⟨hc, by unfold shR; rw [if_neg (by rw [hc]; decide)]⟩
theorem sh_ok {r : Rf} {t v : Int} (h : rfF r = 0) (h1 : (0 ≤ t ∧ t ≤ 999) ∧ (0 ≤ v ∧ v ≤ 9)) (h2 : ¬ OverH r.tm r.vt t v) : shC r t v = 0 ∧ shR r t v = ⟨t, v, r.si, r.st, r.sn, r.lg⟩ := by
  have hc : shC r t v = 0 := by unfold shC; rw [if_pos h, if_pos h1, if_neg (show ¬ (t < r.tm ∨ (t = r.tm ∧ r.vt ≠ 0 ∧ v ≠ r.vt)) from h2)]
  exact ⟨hc, by unfold shR; rw [if_pos hc]⟩

end Go.Proofs.YtehamhldnpngiaaDoor
