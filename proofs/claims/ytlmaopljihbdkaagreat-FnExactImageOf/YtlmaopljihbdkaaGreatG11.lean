/- Built ObZ in one text: what each says stands at its head below. -/
import Derived.Test.YtlmaopljihbdkaaGreatG07
import Derived.Test.YtlmaopljihbdkaaGreatG10
import Derived.Deep.AppendLies
import Derived.Test.YtlmaopljihbdkaaGreatG09
import Derived.Test.YtlmaopljihbdkaaGreatG03
/- Slices of slices and of puts that are built by append, one element a round. -/
namespace Go.Proofs.YtlmaopljihbdkaaGreat
open Go.RowKit

/-- The inner lists of what has been built so far: each in a block of its own, none of them the row's. -/
structure Inner (P : Nat → Prop) (w : World) (row : Option Nat) (k : Nat) (V : Nat → Value) (Bk : Nat → Nat) (X : Nat → List Int) : Prop where
  rd : ∀ i, i < k → RdI (· = Bk i) w (V i) (X i)
  own : ∀ i, i < k → X i ≠ [] → P (Bk i) ∧ Bk i < w.heap.size ∧ (∀ o, w.frozen? ⟨Bk i, o, none⟩ = false) ∧ row ≠ some (Bk i) ∧ ∀ j, j < k → X j ≠ [] → Bk j = Bk i → j = i

theorem Inner.zero (P : Nat → Prop) (w : World) (row : Option Nat) (V : Nat → Value) (Bk : Nat → Nat) (X : Nat → List Int) : Inner P w row 0 V Bk X :=
  ⟨fun _ h => absurd h (Nat.not_lt_zero _), fun _ h => absurd h (Nat.not_lt_zero _)⟩

theorem Inner.later {P : Nat → Prop} {w w' : World} {row : Option Nat} {k : Nat} {V : Nat → Value} {Bk : Nat → Nat} {X : Nat → List Int} (h : Inner P w row k V Bk X) (hb : Below w.heap.size w w') : Inner P w' row k V Bk X :=
  ⟨fun i hi => (h.rd i hi).later hb, fun i hi hn => by
    obtain ⟨h1, h2, h3, h4, h5⟩ := h.own i hi hn
    exact ⟨h1, Nat.lt_of_lt_of_le h2 hb.size, fun o => ((bcell hb).2 _ _ h2).trans (h3 o), h4, h5⟩⟩

theorem Inner.step {P P' : Nat → Prop} {w w1 w2 w3 : World} {row : Option Nat} {k g : Nat} {V : Nat → Value} {Bk : Nat → Nat} {X : Nat → List Int} {z : Value}
    (h : Inner P w row k V Bk X) (hP : ∀ b, P b → P' b) (hN : ∀ b, w.heap.size ≤ b → P' b) (hrow : ∀ r, row = some r → r < w.heap.size) (hb1 : Below w.heap.size w w1) (hz : OwI w.heap.size w1 z (X k)) (hb2 : Below w1.heap.size w1 w2)
    (hg : w2.grownBy w3 row) (hat : row = some g ∨ g = w2.heap.size) :
    ∃ Bk', Inner P' w3 (some g) (k + 1) (fun i => if i = k then z else V i) Bk' X := by
  obtain ⟨bz, hz1, hz2⟩ := hz
  have hs1 := hb1.size
  have hs2 := hb2.size
  have keep : ∀ b o, b < w2.heap.size → some b ≠ row → w3.cell? ⟨b, o, none⟩ = w2.cell? ⟨b, o, none⟩ := fun b o hl hne => hg.cell_far ⟨b, o, none⟩ hl hne
  have keepf : ∀ b o, b < w2.heap.size → some b ≠ row → w3.frozen? ⟨b, o, none⟩ = w2.frozen? ⟨b, o, none⟩ := fun b o hl hne => hg.frozen_far ⟨b, o, none⟩ hl hne
  have h2 := (h.later hb1).later hb2
  have hz1' := hz1.later hb2
  refine ⟨fun i => if i = k then bz else Bk i, fun i hi => ?_, fun i hi hn => ?_⟩
  · by_cases e : i = k
    · subst e
      simp only [if_true]
      obtain ⟨ao, c, e1, e2, e3⟩ := hz1'
      refine ⟨ao, c, e1, e2, fun hne => ?_⟩
      obtain ⟨b, off, f1, f2, f3⟩ := e3 hne
      subst f2
      refine ⟨b, off, f1, rfl, fun t ht => ?_⟩
      rw [keep _ _ (World.block_lt_of_cell? _ _ (f3 t ht)) (fun e => by have := hrow b e.symm; have := (hz2 hne).1; omega)]
      exact f3 t ht
    · simp only [if_neg e]
      obtain ⟨ao, c, e1, e2, e3⟩ := h2.rd i (by omega)
      refine ⟨ao, c, e1, e2, fun hne => ?_⟩
      obtain ⟨b, off, f1, f2, f3⟩ := e3 hne
      subst f2
      refine ⟨Bk i, off, f1, rfl, fun t ht => ?_⟩
      rw [keep _ _ (World.block_lt_of_cell? _ _ (f3 t ht)) (fun e => (h2.own i (by omega) hne).2.2.2.1 e.symm)]
      exact f3 t ht
  · have hsz3 := hg.size
    by_cases e : i = k
    · subst e
      simp only [if_true]
      obtain ⟨k1, k2, k3⟩ := hz2 hn
      refine ⟨hN _ k1, by omega, fun o => ?_, ?_, fun j hj hj' ej => ?_⟩
      · rw [keepf _ _ (by omega) (fun e => by have := hrow bz e.symm; omega)]
        exact ((bcell hb2).2 _ _ k2).trans (k3 o)
      · intro e
        injection e with e
        rcases hat with hat | hat
        · have := hrow g hat; omega
        · omega
      · by_cases e2 : j = i
        · exact e2
        · simp only [if_neg e2] at ej
          have := (h.own j (by omega) hj').2.1
          omega
    · simp only [if_neg e]
      obtain ⟨k1, k2, k3, k4, k5⟩ := h.own i (by omega) hn
      obtain ⟨_, q2, q3, _, _⟩ := h2.own i (by omega) hn
      refine ⟨hP _ k1, by omega, fun o => ?_, ?_, fun j hj hj' ej => ?_⟩
      · rw [keepf _ _ q2 (fun e => k4 e.symm)]
        exact q3 o
      · intro e
        injection e with e
        rcases hat with hat | hat
        · exact k4 (by rw [hat, e])
        · omega
      · by_cases e2 : j = k
        · subst e2
          simp only [if_true] at ej
          have := (hz2 hj').1
          omega
        · simp only [if_neg e2] at ej
          exact k5 j (by omega) hj' ej

theorem ownsRow_later {w w' : World} {B e s : Nat} {v : Value} {n : Nat} {xs : List Value} (h : w.ownsRow B e s v n xs) (hb : Below w.heap.size w w') : w'.ownsRow B e s v n xs := by
  obtain ⟨h1, h2⟩ := h
  refine ⟨h1, ?_⟩
  rcases h2 with h2 | ⟨g, cap, cur, hv, hg, hh, r⟩
  · exact Or.inl h2
  · exact Or.inr ⟨g, cap, cur, hv, hg, by rw [hb.block g (Array.getElem?_eq_some_iff.1 hh).1]; exact hh, r⟩

/-- k rows have been built. -/
def BuiltII (P : Nat → Prop) (w : World) (v : Value) (k : Nat) (xss : List (List Int)) : Prop :=
  ∃ V Bk, w.ownsRow 0 22 1 v k ((List.range k).map V) ∧ (∀ r, v.ownBlock = some r → P r) ∧ Inner P w v.ownBlock k V Bk (fun i => xss.getD i [])

theorem BuiltII.nil (P : Nat → Prop) (w : World) (xss : List (List Int)) : BuiltII P w (.slice none 0 0) 0 xss :=
  ⟨fun _ => .bool false, fun _ => 0, World.ownsRow_nil _ _ _ _, fun _ h => (by cases h), Inner.zero _ _ _ _ _ _⟩
theorem BuiltII.later {P : Nat → Prop} {w w' : World} {v : Value} {k : Nat} {xss : List (List Int)} (h : BuiltII P w v k xss) (hb : Below w.heap.size w w') : BuiltII P w' v k xss := by
  obtain ⟨V, Bk, h1, h2, h3⟩ := h
  exact ⟨V, Bk, ownsRow_later h1 hb, h2, h3.later hb⟩
theorem Inner.mono {P P' : Nat → Prop} {w : World} {row : Option Nat} {k : Nat} {V : Nat → Value} {Bk : Nat → Nat} {X : Nat → List Int} (h : Inner P w row k V Bk X) (hP : ∀ b, P b → b < w.heap.size → P' b) : Inner P' w row k V Bk X :=
  ⟨h.rd, fun i hi hn => ⟨hP _ (h.own i hi hn).1 (h.own i hi hn).2.1, (h.own i hi hn).2⟩⟩
theorem BuiltII.mono {P P' : Nat → Prop} {w : World} {v : Value} {k : Nat} {xss : List (List Int)} (h : BuiltII P w v k xss) (hP : ∀ b, P b → b < w.heap.size → P' b) : BuiltII P' w v k xss := by
  obtain ⟨V, Bk, h1, h2, h3⟩ := h
  exact ⟨V, Bk, h1, fun r hr => hP r (h2 r hr) (h1.lt r hr).2, h3.mono hP⟩

theorem range_map_succ (k : Nat) (V : Nat → Value) (z : Value) : (List.range (k + 1)).map (fun i => if i = k then z else V i) = (List.range k).map V ++ [z] := by
  rw [List.range_succ, List.map_append]
  congr 1
  · refine List.map_congr_left fun i hi => ?_
    rw [if_neg (by have := List.mem_range.1 hi; omega)]
  · simp

theorem BuiltII.step {P P' : Nat → Prop} {w w1 w2 w3 : World} {v z : Value} {k g cap : Nat} {V : Nat → Value} {Bk : Nat → Nat} {xss : List (List Int)} (hi : Inner P w v.ownBlock k V Bk (fun i => xss.getD i [])) (hr : w.ownsRow 0 22 1 v k ((List.range k).map V)) (hpr : ∀ r, v.ownBlock = some r → P r)
    (hP : ∀ b, P b → P' b) (hN : ∀ b, w.heap.size ≤ b → P' b) (hb1 : Below w.heap.size w w1) (hz : OwI w.heap.size w1 z (xss.getD k [])) (hb2 : Below w1.heap.size w1 w2)
    (hown : w3.ownsRow 0 22 1 (.slice (some ⟨g, 0, none⟩) (k + 1) cap) (k + 1) ((List.range k).map V ++ [z])) (hg : w2.grownBy w3 v.ownBlock) (hat : v.ownBlock = some g ∨ g = w2.heap.size) :
    BuiltII P' w3 (.slice (some ⟨g, 0, none⟩) (k + 1) cap) (k + 1) xss := by
  obtain ⟨Bk', h⟩ := hi.step hP hN (fun r hr' => (hr.lt r hr').2) hb1 hz hb2 hg hat
  refine ⟨_, Bk', by rw [range_map_succ]; exact hown, fun r hr' => ?_, h⟩
  injection hr' with hr'
  subst hr'
  rcases hat with hat | hat
  · exact hP _ (hpr _ hat)
  · have h1 := hb1.size
    have h2 := hb2.size
    exact hN _ (by dsimp only; omega)

theorem BuiltII.ow {P : Nat → Prop} {w : World} {v : Value} {k : Nat} {xss : List (List Int)} (h : BuiltII P w v k xss) (hk : xss.length = k) (hm : k ≤ 9223372036854775807) : OwII (fun b => P b ∧ b < w.heap.size) w v xss := by
  obtain ⟨V, Bk, h1, hpr, h2⟩ := h
  subst hk
  rcases h1.2 with ⟨rfl, e⟩ | ⟨g, cap, cur, rfl, hg, hh, _⟩
  · have : xss = [] := List.eq_nil_of_length_eq_zero e
    subst this
    exact OwII_nil _ _
  · refine ⟨_, cap, g, 0, V, Bk, rfl, hm, fun _ => ⟨rfl, hpr g rfl, (Array.getElem?_eq_some_iff.1 hh).1⟩, fun i hi => ⟨?_, h2.rd i hi, fun hn => ?_⟩⟩
    · rw [Nat.zero_add, h1.cellAt i (by omega)]
      simp [hi]
    · obtain ⟨k1, k2, k3, k4, k5⟩ := h2.own i hi hn
      exact ⟨⟨k1, k2⟩, fun e => k4 (by rw [e]; rfl), k3, k5⟩

theorem BuiltII.shape {P : Nat → Prop} {w : World} {v : Value} {k : Nat} {xss : List (List Int)} (h : BuiltII P w v k xss) : ∃ ao c, v = .slice ao k c := by
  obtain ⟨V, Bk, h1, _⟩ := h
  rcases h1.2 with ⟨rfl, e⟩ | ⟨g, cap, cur, rfl, _⟩
  · exact ⟨none, 0, by rw [e]⟩
  · exact ⟨_, _, rfl⟩

end Go.Proofs.YtlmaopljihbdkaaGreat
/- Chapter 5: lists of objects: how much they hold, and copies of them. Made by program (genobz.py). -/
namespace Go.Proofs.YtlmaopljihbdkaaGreat
open Go.RowKit

def totX (ps : List Oj) (i : Nat) : Nat := ((ps.take i).map fun p => p.2.2.length).sum
theorem totX_zero (ps : List Oj) : totX ps 0 = 0 := by simp [totX]
theorem totX_succ (ps : List Oj) (i : Nat) (h : i < ps.length) : totX ps (i + 1) = totX ps i + (ps.getD i oj0).2.2.length := by
  unfold totX
  rw [List.take_succ_eq_append_getElem h]
  simp only [List.map_append, List.sum_append, List.map_cons, List.map_nil, List.sum_cons, List.sum_nil]
  simp [List.getD, h]
theorem totX_le (ps : List Oj) : ∀ (i j : Nat), i ≤ j → totX ps i ≤ totX ps j := by
  intro i j h
  unfold totX
  have : ps.take j = ps.take i ++ (ps.drop i).take (j - i) := by
    rw [← List.take_add]; congr 1; omega
  rw [this]; simp
/-- What the loop that copies objects knows behind j of them. -/
def ToJ (os : List Oj) (w : World) (j : Nat) (wr : World) : Prop :=
  Below w.heap.size w wr ∧ w.heap.size < wr.heap.size ∧ (∀ o, wr.frozen? ⟨w.heap.size, o, none⟩ = false) ∧ (∀ o, o < os.length * 3 → ∃ x, wr.cell? ⟨w.heap.size, o, none⟩ = some x) ∧
    ∃ (V : Nat → Value) (Bk : Nat → Nat), Inner (w.heap.size ≤ ·) wr (some w.heap.size) j V Bk (fun i => (os.getD i oj0).2.2) ∧
      ∀ i, i < j → wr.cell? ⟨w.heap.size, i * 3, none⟩ = some (.int .i64 (os.getD i oj0).1) ∧ wr.cell? ⟨w.heap.size, i * 3 + 1, none⟩ = some (.int .i64 (os.getD i oj0).2.1) ∧ wr.cell? ⟨w.heap.size, i * 3 + 2, none⟩ = some (V i)
def setJ (w : World) (B j : Nat) (a f : Int) (z : Value) : World := ((w.setCell ⟨B, j * 3, none⟩ (.int .i64 a)).setCell ⟨B, j * 3 + 1, none⟩ (.int .i64 f)).setCell ⟨B, j * 3 + 2, none⟩ z
theorem setJ_other (w : World) (B j : Nat) (a f : Int) (z : Value) (p : Addr) (h : p.block ≠ B ∨ (p.off ≠ j * 3 ∧ p.off ≠ j * 3 + 1 ∧ p.off ≠ j * 3 + 2)) : (setJ w B j a f z).cell? p = w.cell? p := by
  unfold setJ
  rw [World.cell?_setCell_other _ _ _ _ (by rintro rfl; simp at h), World.cell?_setCell_other _ _ _ _ (by rintro rfl; simp at h), World.cell?_setCell_other _ _ _ _ (by rintro rfl; simp at h)]
theorem grown_onJ {w w' w'' : World} {row : Option Nat} (h : w.grownBy w' row) (h' : w'.grownBy w'' row) : w.grownBy w'' row :=
  ⟨h'.os.trans h.os, h'.tape.trans h.tape, h'.output.trans h.output, Nat.le_trans h.size h'.size, fun b hb hne => (h'.block b (Nat.lt_of_lt_of_le hb h.size) hne).trans (h.block b hb hne)⟩
theorem setJ_grown (w : World) (B j : Nat) (a f : Int) (z : Value) : w.grownBy (setJ w B j a f z) (some B) := by
  have g : ∀ (w : World) (o : Nat) (x : Value), w.grownBy (w.setCell ⟨B, o, none⟩ x) (some B) := fun w o x => by
    have hw : Wr (· = B) w (w.setCell ⟨B, o, none⟩ x) := (Wr.refl (· = B) w).setCell (p := ⟨B, o, none⟩) rfl _
    exact ⟨hw.os, hw.tape, hw.output, hw.size, fun b hb hne => hw.block b hb (fun e => hne (by rw [e]))⟩
  exact grown_onJ (grown_onJ (g _ _ _) (g _ _ _)) (g _ _ _)
theorem ToJ.step {os : List Oj} {w : World} {j : Nat} {wr w1 : World} {z : Value} (h : ToJ os w j wr) (hj : j < os.length) (hb : Below wr.heap.size wr w1) (hz : OwI wr.heap.size w1 z (os.getD j oj0).2.2) :
    ToJ os w (j + 1) (setJ w1 w.heap.size j (os.getD j oj0).1 (os.getD j oj0).2.1 z) := by
  obtain ⟨h1, h2, h3, h4, V, Bk, h5, h6⟩ := h
  have hs := hb.size
  have hc : ∀ o, w1.cell? ⟨w.heap.size, o, none⟩ = wr.cell? ⟨w.heap.size, o, none⟩ := fun o => (bcell hb).1 _ _ h2
  have hf : ∀ o, w1.frozen? ⟨w.heap.size, o, none⟩ = false := fun o => ((bcell hb).2 _ _ h2).trans (h3 o)
  obtain ⟨x0, e0⟩ := h4 (j * 3) (by omega)
  obtain ⟨x1, e1⟩ := h4 (j * 3 + 1) (by omega)
  obtain ⟨x2, e2⟩ := h4 (j * 3 + 2) (by omega)
  have s2 : (setJ w1 w.heap.size j (os.getD j oj0).1 (os.getD j oj0).2.1 z).cell? ⟨w.heap.size, j * 3 + 2, none⟩ = some z := by
    unfold setJ
    refine World.cell?_setCell_same (u := x2) _ _ _ ?_
    rw [World.cell?_setCell_other _ _ _ _ (by simp), World.cell?_setCell_other _ _ _ _ (by simp), hc]; exact e2
  have s1 : (setJ w1 w.heap.size j (os.getD j oj0).1 (os.getD j oj0).2.1 z).cell? ⟨w.heap.size, j * 3 + 1, none⟩ = some (.int .i64 (os.getD j oj0).2.1) := by
    unfold setJ
    rw [World.cell?_setCell_other _ _ _ _ (by simp)]
    refine World.cell?_setCell_same (u := x1) _ _ _ ?_
    rw [World.cell?_setCell_other _ _ _ _ (by simp), hc]; exact e1
  have s0 : (setJ w1 w.heap.size j (os.getD j oj0).1 (os.getD j oj0).2.1 z).cell? ⟨w.heap.size, j * 3, none⟩ = some (.int .i64 (os.getD j oj0).1) := by
    unfold setJ
    rw [World.cell?_setCell_other _ _ _ _ (by simp), World.cell?_setCell_other _ _ _ _ (by simp)]
    refine World.cell?_setCell_same (u := x0) _ _ _ ?_
    rw [hc]; exact e0
  obtain ⟨Bk', hI⟩ := h5.step (P' := (w.heap.size ≤ ·)) (fun _ h => h) (fun b hb' => by have := h1.size; omega) (fun r hr => by injection hr with hr; omega) hb hz (Below.refl _ _) (setJ_grown w1 w.heap.size j (os.getD j oj0).1 (os.getD j oj0).2.1 z) (Or.inl rfl)
  refine ⟨?_, ?_, fun o => ?_, fun o ho => ?_, _, Bk', hI, fun i hi => ?_⟩
  · unfold setJ
    exact (((below_on h1 hb).setCell (Nat.le_refl _) _).setCell (Nat.le_refl _) _).setCell (Nat.le_refl _) _
  · unfold setJ; simp; omega
  · unfold setJ; rw [World.frozen?_setCell, World.frozen?_setCell, World.frozen?_setCell]; exact hf o
  · by_cases a0 : o = j * 3
    · subst a0; exact ⟨_, s0⟩
    · by_cases a1 : o = j * 3 + 1
      · subst a1; exact ⟨_, s1⟩
      · by_cases a2 : o = j * 3 + 2
        · subst a2; exact ⟨_, s2⟩
        · obtain ⟨x, hx⟩ := h4 o ho
          exact ⟨x, by rw [setJ_other _ _ _ _ _ _ _ (Or.inr ⟨a0, a1, a2⟩), hc]; exact hx⟩
  · by_cases e : i = j
    · subst e
      simp only [if_true]
      exact ⟨s0, s1, s2⟩
    · simp only [if_neg e]
      obtain ⟨k0, k1, k2⟩ := h6 i (by omega)
      exact ⟨by rw [setJ_other _ _ _ _ _ _ _ (Or.inr ⟨by dsimp only; omega, by dsimp only; omega, by dsimp only; omega⟩), hc]; exact k0, by rw [setJ_other _ _ _ _ _ _ _ (Or.inr ⟨by dsimp only; omega, by dsimp only; omega, by dsimp only; omega⟩), hc]; exact k1, by rw [setJ_other _ _ _ _ _ _ _ (Or.inr ⟨by dsimp only; omega, by dsimp only; omega, by dsimp only; omega⟩), hc]; exact k2⟩
theorem ToJ.start (os : List Oj) (w : World) (n : Nat) (hn : os.length = n) (t : TypeId) : ToJ os w 0 (w.alloc (.cells (madeCells #[.int .i64 0, .int .i64 0, .slice none 0 0] (n * 3)) t)) := by
  refine ⟨below_alloc _ _, by simp, fun o => by simp [go_sem], fun o ho => ?_, fun _ => .bool false, fun _ => 0, Inner.zero _ _ _ _ _ _, fun i hi => absurd hi (Nat.not_lt_zero _)⟩
  subst hn
  have h : o < (madeCells #[Value.int .i64 0, .int .i64 0, .slice none 0 0] (os.length * 3)).size := by rw [size_madeCells]; exact ho
  exact ⟨_, by simp [go_sem, h]; rfl⟩

end Go.Proofs.YtlmaopljihbdkaaGreat
