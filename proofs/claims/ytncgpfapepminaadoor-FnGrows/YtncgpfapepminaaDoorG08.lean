/- ObZ EnZ ObV EnV Ra Ra2 in one text: what each says stands at its head below. -/
import Derived.Test.YtncgpfapepminaaDoorG06
import Derived.Test.YtncgpfapepminaaDoorG03
import Derived.Test.YtncgpfapepminaaDoorG04
import Derived.Test.YtncgpfapepminaaDoorG07
import Derived.Test.YtncgpfapepminaaDoorG05
import Derived.Test.YtncgpfapepminaaDoorG01
/- Chapter 5: lists of objects: how much they hold, and copies of them. Made by program (genobz.py). -/
namespace Go.Proofs.YtncgpfapepminaaDoor
open Go.RowKit

def totX (ps : List Oj) (i : Nat) : Nat := ((ps.take i).map fun p => p.2.2.length).sum
theorem totX_zero (ps : List Oj) : totX ps 0 = 0 := by simp [totX]
theorem totX_succ (ps : List Oj) (i : Nat) (h : i < ps.length) : totX ps (i + 1) = totX ps i + (ps.getD i oj0).2.2.length := by
  unfold totX
  rw [List.take_succ_eq_append_getElem h]
  simp only [List.map_append, List.sum_append, List.map_cons, List.map_nil, List.sum_cons, List.sum_nil]
  simp [List.getD, h]
theorem totX_le (ps : List Oj) : ∀ (i j : Nat), i ≤ j → totX ps i ≤ totX ps j := by
  intro i j h
  unfold totX
  have : ps.take j = ps.take i ++ (ps.drop i).take (j - i) := by
    rw [← List.take_add]; congr 1; omega
  rw [this]; simp
/-- What the loop that copies objects knows behind j of them. -/
def ToJ (os : List Oj) (w : World) (j : Nat) (wr : World) : Prop :=
  Below w.heap.size w wr ∧ w.heap.size < wr.heap.size ∧ (∀ o, wr.frozen? ⟨w.heap.size, o, none⟩ = false) ∧ (∀ o, o < os.length * 3 → ∃ x, wr.cell? ⟨w.heap.size, o, none⟩ = some x) ∧
    ∃ (V : Nat → Value) (Bk : Nat → Nat), Inner (w.heap.size ≤ ·) wr (some w.heap.size) j V Bk (fun i => (os.getD i oj0).2.2) ∧
      ∀ i, i < j → wr.cell? ⟨w.heap.size, i * 3, none⟩ = some (.int .i64 (os.getD i oj0).1) ∧ wr.cell? ⟨w.heap.size, i * 3 + 1, none⟩ = some (.int .i64 (os.getD i oj0).2.1) ∧ wr.cell? ⟨w.heap.size, i * 3 + 2, none⟩ = some (V i)
def setJ (w : World) (B j : Nat) (a f : Int) (z : Value) : World := ((w.setCell ⟨B, j * 3, none⟩ (.int .i64 a)).setCell ⟨B, j * 3 + 1, none⟩ (.int .i64 f)).setCell ⟨B, j * 3 + 2, none⟩ z
theorem setJ_other (w : World) (B j : Nat) (a f : Int) (z : Value) (p : Addr) (h : p.block ≠ B ∨ (p.off ≠ j * 3 ∧ p.off ≠ j * 3 + 1 ∧ p.off ≠ j * 3 + 2)) : (setJ w B j a f z).cell? p = w.cell? p := by
  unfold setJ
  rw [World.cell?_setCell_other _ _ _ _ (by rintro rfl; simp at h), World.cell?_setCell_other _ _ _ _ (by rintro rfl; simp at h), World.cell?_setCell_other _ _ _ _ (by rintro rfl; simp at h)]
theorem grown_onJ {w w' w'' : World} {row : Option Nat} (h : w.grownBy w' row) (h' : w'.grownBy w'' row) : w.grownBy w'' row :=
  ⟨h'.os.trans h.os, h'.tape.trans h.tape, h'.output.trans h.output, Nat.le_trans h.size h'.size, fun b hb hne => (h'.block b (Nat.lt_of_lt_of_le hb h.size) hne).trans (h.block b hb hne)⟩
theorem setJ_grown (w : World) (B j : Nat) (a f : Int) (z : Value) : w.grownBy (setJ w B j a f z) (some B) := by
  have g : ∀ (w : World) (o : Nat) (x : Value), w.grownBy (w.setCell ⟨B, o, none⟩ x) (some B) := fun w o x => by
    have hw : Wr (· = B) w (w.setCell ⟨B, o, none⟩ x) := (Wr.refl (· = B) w).setCell (p := ⟨B, o, none⟩) rfl _
    exact ⟨hw.os, hw.tape, hw.output, hw.size, fun b hb hne => hw.block b hb (fun e => hne (by rw [e]))⟩
  exact grown_onJ (grown_onJ (g _ _ _) (g _ _ _)) (g _ _ _)
theorem ToJ.step {os : List Oj} {w : World} {j : Nat} {wr w1 : World} {z : Value} (h : ToJ os w j wr) (hj : j < os.length) (hb : Below wr.heap.size wr w1) (hz : OwI wr.heap.size w1 z (os.getD j oj0).2.2) :
    ToJ os w (j + 1) (setJ w1 w.heap.size j (os.getD j oj0).1 (os.getD j oj0).2.1 z) := by
  obtain ⟨h1, h2, h3, h4, V, Bk, h5, h6⟩ := h
  have hs := hb.size
  have hc : ∀ o, w1.cell? ⟨w.heap.size, o, none⟩ = wr.cell? ⟨w.heap.size, o, none⟩ := fun o => (bcell hb).1 _ _ h2
  have hf : ∀ o, w1.frozen? ⟨w.heap.size, o, none⟩ = false := fun o => ((bcell hb).2 _ _ h2).trans (h3 o)
  obtain ⟨x0, e0⟩ := h4 (j * 3) (by omega)
  obtain ⟨x1, e1⟩ := h4 (j * 3 + 1) (by omega)
  obtain ⟨x2, e2⟩ := h4 (j * 3 + 2) (by omega)
  have s2 : (setJ w1 w.heap.size j (os.getD j oj0).1 (os.getD j oj0).2.1 z).cell? ⟨w.heap.size, j * 3 + 2, none⟩ = some z := by
    unfold setJ
    refine World.cell?_setCell_same (u := x2) _ _ _ ?_
    rw [World.cell?_setCell_other _ _ _ _ (by simp), World.cell?_setCell_other _ _ _ _ (by simp), hc]; exact e2
  have s1 : (setJ w1 w.heap.size j (os.getD j oj0).1 (os.getD j oj0).2.1 z).cell? ⟨w.heap.size, j * 3 + 1, none⟩ = some (.int .i64 (os.getD j oj0).2.1) := by
    unfold setJ
    rw [World.cell?_setCell_other _ _ _ _ (by simp)]
    refine World.cell?_setCell_same (u := x1) _ _ _ ?_
    rw [World.cell?_setCell_other _ _ _ _ (by simp), hc]; exact e1
  have s0 : (setJ w1 w.heap.size j (os.getD j oj0).1 (os.getD j oj0).2.1 z).cell? ⟨w.heap.size, j * 3, none⟩ = some (.int .i64 (os.getD j oj0).1) := by
    unfold setJ
    rw [World.cell?_setCell_other _ _ _ _ (by simp), World.cell?_setCell_other _ _ _ _ (by simp)]
    refine World.cell?_setCell_same (u := x0) _ _ _ ?_
    rw [hc]; exact e0
  obtain ⟨Bk', hI⟩ := h5.step (P' := (w.heap.size ≤ ·)) (fun _ h => h) (fun b hb' => by have := h1.size; omega) (fun r hr => by injection hr with hr; omega) hb hz (Below.refl _ _) (setJ_grown w1 w.heap.size j (os.getD j oj0).1 (os.getD j oj0).2.1 z) (Or.inl rfl)
  refine ⟨?_, ?_, fun o => ?_, fun o ho => ?_, _, Bk', hI, fun i hi => ?_⟩
  · unfold setJ
    exact (((below_on h1 hb).setCell (Nat.le_refl _) _).setCell (Nat.le_refl _) _).setCell (Nat.le_refl _) _
  · unfold setJ; simp; omega
  · unfold setJ; rw [World.frozen?_setCell, World.frozen?_setCell, World.frozen?_setCell]; exact hf o
  · by_cases a0 : o = j * 3
    · subst a0; exact ⟨_, s0⟩
    · by_cases a1 : o = j * 3 + 1
      · subst a1; exact ⟨_, s1⟩
      · by_cases a2 : o = j * 3 + 2
        · subst a2; exact ⟨_, s2⟩
        · obtain ⟨x, hx⟩ := h4 o ho
          exact ⟨x, by rw [setJ_other _ _ _ _ _ _ _ (Or.inr ⟨a0, a1, a2⟩), hc]; exact hx⟩
  · by_cases e : i = j
    · subst e
      simp only [if_true]
      exact ⟨s0, s1, s2⟩
    · simp only [if_neg e]
      obtain ⟨k0, k1, k2⟩ := h6 i (by omega)
      exact ⟨by rw [setJ_other _ _ _ _ _ _ _ (Or.inr ⟨by dsimp only; omega, by dsimp only; omega, by dsimp only; omega⟩), hc]; exact k0, by rw [setJ_other _ _ _ _ _ _ _ (Or.inr ⟨by dsimp only; omega, by dsimp only; omega, by dsimp only; omega⟩), hc]; exact k1, by rw [setJ_other _ _ _ _ _ _ _ (Or.inr ⟨by dsimp only; omega, by dsimp only; omega, by dsimp only; omega⟩), hc]; exact k2⟩
theorem ToJ.start (os : List Oj) (w : World) (n : Nat) (hn : os.length = n) (t : TypeId) : ToJ os w 0 (w.alloc (.cells (madeCells #[.int .i64 0, .int .i64 0, .slice none 0 0] (n * 3)) t)) := by
  refine ⟨below_alloc _ _, by simp, fun o => by simp [go_sem], fun o ho => ?_, fun _ => .bool false, fun _ => 0, Inner.zero _ _ _ _ _ _, fun i hi => absurd hi (Nat.not_lt_zero _)⟩
  subst hn
  have h : o < (madeCells #[Value.int .i64 0, .int .i64 0, .slice none 0 0] (os.length * 3)).size := by rw [size_madeCells]; exact ho
  exact ⟨_, by simp [go_sem, h]; rfl⟩

end Go.Proofs.YtncgpfapepminaaDoor
/- Chapter 9: lists of entries: how much they hold, and copies of them. Made by program (genen.py). -/
namespace Go.Proofs.YtncgpfapepminaaDoor
open Go.RowKit
theorem Tryd.infoEntry : (Tryd.prog.info? 43).map (fun i => (i.zero, i.size, i.bytes)) = some (some (.agg #[.int .i64 0, .int .i64 0, .slice none 0 0]), 3, 40) := by kernel_rfl

theorem run_make_entry (n : Nat) (hn : n ≤ 1048576) (w : World) :
    (Instr.makeSlice 25 (.int .i64 (n : Int)) (.int .i64 (n : Int))).run Tryd.prog w = .ok (.slice (some ⟨w.heap.size, 0, none⟩) n n) (w.alloc (.cells (madeCells #[.int .i64 0, .int .i64 0, .slice none 0 0] (n * 3)) 43)) := by
  obtain ⟨i, hi, hz, hs, hb⟩ := info_parts Tryd.infoEntry
  have hr := run_make (P := Tryd.prog) w 25 43 i (.agg #[.int .i64 0, .int .i64 0, .slice none 0 0]) Tryd.underlying25 hi hz .i64 .i64 n n (by omega) (Int.le_refl _) (by rw [hb]; omega) (by omega)
  simp only [Int.toNat_natCast, hs] at hr
  exact hr

end Go.Proofs.YtncgpfapepminaaDoor
/- Chapter 5: objects among the arguments. Made by program (genlawj.py). -/
namespace Go.Proofs.YtncgpfapepminaaDoor
open Go.RowKit

theorem totJ_eq (ps : List Oj) : ∀ j, j ≤ ps.length → totJ ps j = totX ps j + 2 * j := by
  intro j
  induction j with
  | zero => intro _; rw [totJ_zero, totX_zero]
  | succ j ih =>
    intro h
    rw [totJ_succ ps j (by omega), totX_succ ps j (by omega), ih (by omega)]
    omega
theorem len_le_totX (ps : List Oj) (i : Nat) (h : i < ps.length) : (ps.getD i oj0).2.2.length ≤ totX ps ps.length := by
  have h1 := totX_succ ps i h
  have h2 := totX_le ps (i + 1) ps.length h
  omega
def szU (qs : List Oj) : Int := (qs.length : Int) + (totX qs qs.length : Int)
theorem szU_nonneg (qs : List Oj) : 0 ≤ szU qs := by unfold szU; omega
theorem smallU {qs : List Oj} (h : szU qs ≤ 1048576) : qs.length ≤ 1048576 ∧ (∀ i, i < qs.length → (qs.getD i oj0).2.2.length ≤ 1048576) ∧ (totJ qs qs.length : Int) ≤ 4194304 := by
  unfold szU at h
  have h3 := totJ_eq qs qs.length (Nat.le_refl _)
  exact ⟨by omega, fun i hi => by have := len_le_totX qs i hi; omega, by omega⟩

/-- Objects in [lo, hi). -/
def IvJ (lo hi : Nat) (w : World) (v : Value) (ps : List Oj) : Prop :=
  ∃ S : Nat → Prop, hi ≤ w.heap.size ∧ (∀ b, S b → lo ≤ b ∧ b < hi) ∧ OwJ S w v ps
theorem OwJ.iv {B : Nat} {w : World} {v : Value} {ps : List Oj} (h : OwJ (fun b => B ≤ b ∧ b < w.heap.size) w v ps) : IvJ B w.heap.size w v ps :=
  ⟨_, Nat.le_refl _, fun _ hb => hb, h⟩
theorem IvJ.wr {lo hi : Nat} {V : Nat → Prop} {w w' : World} {v : Value} {ps : List Oj} (h : IvJ lo hi w v ps) (hw : Wr V w w') (hd : ∀ b, lo ≤ b → b < hi → ¬ V b) : IvJ lo hi w' v ps := by
  obtain ⟨S, h0, h1, h2⟩ := h
  exact ⟨S, Nat.le_trans h0 hw.size, h1, h2.wr hw fun b hb => hd b (h1 b hb).1 (h1 b hb).2⟩
theorem IvJ.later {lo hi : Nat} {w w' : World} {v : Value} {ps : List Oj} (h : IvJ lo hi w v ps) (hb : Below w.heap.size w w') : IvJ lo hi w' v ps :=
  h.wr (Wr.of_below hb fun _ => False) fun _ _ _ => id
theorem IvJ.rd {lo hi : Nat} {w : World} {v : Value} {ps : List Oj} (h : IvJ lo hi w v ps) : RdJ (fun b => lo ≤ b ∧ b < hi) w v ps := by
  obtain ⟨S, h0, h1, h2⟩ := h
  exact (h2.mono h1).rd

/-- Objects in [lo, hi) whose marks stand from k on. -/
def MkJs (k : Int) (lo hi : Nat) (w : World) (v : Value) (ps : List Oj) : Prop := RdJ (fun b => lo ≤ b ∧ b < hi) w v (mkJ k ps)
theorem MkJs.wr {k : Int} {lo hi : Nat} {V : Nat → Prop} {w w' : World} {v : Value} {ps : List Oj} (h : MkJs k lo hi w v ps) (hw : Wr V w w') (hd : ∀ b, lo ≤ b → b < hi → ¬ V b) : MkJs k lo hi w' v ps :=
  RdJ.wr h hw fun b hb => hd b hb.1 hb.2
theorem MkJs.later {k : Int} {lo hi : Nat} {w w' : World} {v : Value} {ps : List Oj} (h : MkJs k lo hi w v ps) (hb : Below w.heap.size w w') : MkJs k lo hi w' v ps := RdJ.later h hb

end Go.Proofs.YtncgpfapepminaaDoor
/- Chapter 9: entries among the arguments; a code with entries. Made by program (genen.py). -/
namespace Go.Proofs.YtncgpfapepminaaDoor
open Go.RowKit


/-- What a call that ends in a code and entries is to leave. -/
def EndsEn (x : Int) (rs : List Oj) (w : World) (e : Ending) (w' : World) : Prop :=
  ∃ z, e = .returned (.agg #[.int .i64 x, z]) ∧ Below w.heap.size w w' ∧ OwJ (fun b => w.heap.size ≤ b ∧ b < w'.heap.size) w' z rs

theorem IvJ.monoE {lo hi lo' : Nat} {w : World} {v : Value} {ps : List Oj} (h : IvJ lo hi w v ps) (h1 : lo' ≤ lo) : IvJ lo' hi w v ps := by
  obtain ⟨S, k0, k1, k2⟩ := h
  exact ⟨S, k0, fun b hb => ⟨Nat.le_trans h1 (k1 b hb).1, (k1 b hb).2⟩, k2⟩
end Go.Proofs.YtncgpfapepminaaDoor
/- Chapter 10: the store of a node among the arguments: its size, copied, compared, marked, held; a code with a store. -/
namespace Go.Proofs.YtncgpfapepminaaDoor
open Go.RowKit

theorem RdI.maxR {S : Nat → Prop} {w : World} {v : Value} {xs : List Int} (h : RdI S w v xs) : xs.length ≤ 9223372036854775807 := by obtain ⟨_, _, _, h, _⟩ := h; exact h
/-- A store: four numbers, the words of its snapshot, its entries. -/
structure Rf where
  (tm vt si st : Int)
  sn : List Int
  lg : List Oj
def rfv (r : Rf) (y z : Value) : Value := .agg #[.int .i64 r.tm, .int .i64 r.vt, .int .i64 r.si, .int .i64 r.st, y, z]
def szR (r : Rf) : Int := (r.sn.length : Int) + szU r.lg
def totR (r : Rf) : Int := (r.sn.length : Int) + (totJ r.lg r.lg.length : Int)
/-- The words and the entries of a store in [lo, hi), apart from each other. -/
def IvR (lo hi : Nat) (w : World) (y z : Value) (xs : List Int) (ps : List Oj) : Prop :=
  ∃ (b : Nat) (S : Nat → Prop), RdI (· = b) w y xs ∧ (xs ≠ [] → lo ≤ b ∧ b < hi ∧ ¬ S b ∧ ∀ o, w.frozen? ⟨b, o, none⟩ = false) ∧ hi ≤ w.heap.size ∧ (∀ x, S x → lo ≤ x ∧ x < hi) ∧ OwJ S w z ps
def MkR (k : Int) (lo hi : Nat) (w : World) (y z : Value) (n : Nat) (ps : List Oj) : Prop := RdI (fun b => lo ≤ b ∧ b < hi) w y (mkI k n) ∧ MkJs (k + (n : Int)) lo hi w z ps
theorem IvR.wr {lo hi : Nat} {T : Nat → Prop} {w w' : World} {y z : Value} {xs : List Int} {ps : List Oj} (h : IvR lo hi w y z xs ps) (hw : Wr T w w') (hd : ∀ b, lo ≤ b → b < hi → ¬ T b) : IvR lo hi w' y z xs ps := by
  obtain ⟨b, S, h1, h2, h3, h4, h5⟩ := h
  exact ⟨b, S, h1.wr hw (fun hn x hx => hx ▸ hd _ (h2 hn).1 (h2 hn).2.1), fun hn => ⟨(h2 hn).1, (h2 hn).2.1, (h2 hn).2.2.1, fun o => (hw.frz _ _ (Nat.lt_of_lt_of_le (h2 hn).2.1 h3)).trans ((h2 hn).2.2.2 o)⟩, Nat.le_trans h3 hw.size, h4, h5.wr hw fun x hx => hd x (h4 x hx).1 (h4 x hx).2⟩
theorem IvR.later {lo hi : Nat} {w w' : World} {y z : Value} {xs : List Int} {ps : List Oj} (h : IvR lo hi w y z xs ps) (hb : Below w.heap.size w w') : IvR lo hi w' y z xs ps :=
  h.wr (Wr.of_below hb fun _ => False) fun _ _ _ => id
theorem IvR.rdI {lo hi : Nat} {w : World} {y z : Value} {xs : List Int} {ps : List Oj} (h : IvR lo hi w y z xs ps) : RdI (fun b => lo ≤ b ∧ b < hi) w y xs := by
  obtain ⟨b, S, h1, h2, _⟩ := h
  exact h1.narrow fun hn x hx => hx ▸ ⟨(h2 hn).1, (h2 hn).2.1⟩
theorem IvR.rdJ {lo hi : Nat} {w : World} {y z : Value} {xs : List Int} {ps : List Oj} (h : IvR lo hi w y z xs ps) : RdJ (fun b => lo ≤ b ∧ b < hi) w z ps := by
  obtain ⟨b, S, _, _, _, h4, h5⟩ := h
  exact (h5.mono h4).rd
theorem IvR.shape {lo hi : Nat} {w : World} {y z : Value} {xs : List Int} {ps : List Oj} (h : IvR lo hi w y z xs ps) : ∃ ao c ao' c', y = .slice ao xs.length c ∧ z = .slice ao' ps.length c' := by
  obtain ⟨a, c, e1⟩ := h.rdI.shape
  obtain ⟨a', c', e2, _⟩ := h.rdJ.shape
  exact ⟨a, c, a', c', e1, e2⟩
theorem IvR.up {lo hi lo' : Nat} {w : World} {y z : Value} {xs : List Int} {ps : List Oj} (h : IvR lo hi w y z xs ps) (h1 : lo' ≤ lo) (h2 : hi ≤ w.heap.size) : IvR lo' w.heap.size w y z xs ps := by
  obtain ⟨b, S, k1, k2, k3, k4, k5⟩ := h
  exact ⟨b, S, k1, fun hn => ⟨Nat.le_trans h1 (k2 hn).1, Nat.lt_of_lt_of_le (k2 hn).2.1 h2, (k2 hn).2.2⟩, Nat.le_refl _, fun x hx => ⟨Nat.le_trans h1 (k4 x hx).1, Nat.lt_of_lt_of_le (k4 x hx).2 h2⟩, k5⟩
theorem IvR_nil (lo : Nat) (w : World) : IvR lo w.heap.size w (.slice none 0 0) (.slice none 0 0) [] [] :=
  ⟨0, fun _ => False, ⟨none, 0, by simp, by simp, fun h => absurd rfl h⟩, fun h => absurd rfl h, Nat.le_refl _, fun _ h => h.elim, OwJ_nil _ _⟩
theorem MkR.wr {k : Int} {lo hi : Nat} {T : Nat → Prop} {w w' : World} {y z : Value} {n : Nat} {ps : List Oj} (h : MkR k lo hi w y z n ps) (hw : Wr T w w') (hd : ∀ b, lo ≤ b → b < hi → ¬ T b) : MkR k lo hi w' y z n ps :=
  ⟨h.1.wr hw fun _ b hb => hd b hb.1 hb.2, h.2.wr hw hd⟩
theorem MkR.later {k : Int} {lo hi : Nat} {w w' : World} {y z : Value} {n : Nat} {ps : List Oj} (h : MkR k lo hi w y z n ps) (hb : Below w.heap.size w w') : MkR k lo hi w' y z n ps :=
  ⟨h.1.later hb, h.2.later hb⟩
theorem RdJ.monoR {S T : Nat → Prop} {w : World} {v : Value} {fs : List Oj} (h : RdJ S w v fs) (hT : ∀ b, S b → T b) : RdJ T w v fs := by
  obtain ⟨ao, c, e1, e2, e3⟩ := h
  refine ⟨ao, c, e1, e2, fun hne => ?_⟩
  obtain ⟨b, off, V, f1, f2, f3⟩ := e3 hne
  exact ⟨b, off, V, f1, hT b f2, fun i hi => ⟨(f3 i hi).1, (f3 i hi).2.1, (f3 i hi).2.2.1, (f3 i hi).2.2.2.narrow (fun _ b hb => hT b hb)⟩⟩
theorem OwJ.laterR {S : Nat → Prop} {w w' : World} {v : Value} {ps : List Oj} (h : OwJ S w v ps) (hb : Below w.heap.size w w') : OwJ S w' v ps := h.wr (Wr.of_below hb fun _ => False) fun _ _ => id
/-- What a call that ends in a code and a store is to leave. -/
def EndsRf (x : Int) (r : Rf) (w : World) (e : Ending) (w' : World) : Prop :=
  ∃ y z, e = .returned (.agg #[.int .i64 x, .int .i64 r.tm, .int .i64 r.vt, .int .i64 r.si, .int .i64 r.st, y, z]) ∧ Below w.heap.size w w' ∧ IvR w.heap.size w'.heap.size w' y z r.sn r.lg

end Go.Proofs.YtncgpfapepminaaDoor
/- Chapter 10: a store copied; held; a code with a store marked and held. -/
namespace Go.Proofs.YtncgpfapepminaaDoor
open Go.RowKit
theorem IvR_made {lo1 C lo : Nat} {w w' : World} {y z : Value} {xs : List Int} {ps : List Oj} (ho : IvI lo1 C w y xs) (hj : OwJ (fun b => C ≤ b ∧ b < w.heap.size) w z ps) (h1 : lo ≤ lo1) (h2 : lo1 ≤ C) (hw : Wr (fun b => b < lo1) w w') : IvR lo w'.heap.size w' y z xs ps := by
  obtain ⟨b, k1, k2⟩ := ho
  refine ⟨b, fun b => C ≤ b ∧ b < w.heap.size, k1.wr hw (fun hn x hx e => by subst hx; have := (k2 hn).1; omega), fun hn => ?_, Nat.le_refl _, fun x hx => ⟨by omega, Nat.lt_of_lt_of_le hx.2 hw.size⟩, hj.wr hw fun x hx e => by omega⟩
  obtain ⟨g1, g2, g3, g4⟩ := k2 hn
  exact ⟨by omega, Nat.lt_of_lt_of_le g3 hw.size, fun h => by omega, fun o => (hw.frz _ _ g3).trans (g4 o)⟩


end Go.Proofs.YtncgpfapepminaaDoor
