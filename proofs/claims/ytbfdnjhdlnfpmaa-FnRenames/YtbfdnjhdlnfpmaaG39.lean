/- DrawF4 in one text: what each says stands at its head below. -/
import Derived.Test.YtbfdnjhdlnfpmaaG38
/- Chapter 8, draws: files in rows that may be appended to: what is read of them, one more file, one more block. -/
namespace Go.Proofs.Ytbfdnjhdlnfpmaa
open Go.RowKit

theorem rd_of_owns {P : Nat → Prop} {w : World} {e : Nat} {v : Value} {xs : List Int} (h : w.ownsRow 0 e 1 v xs.length (xs.map (Value.int .i64))) (hm : xs.length ≤ 1048576) (hP : ∀ r, v.ownBlock = some r → P r) : RdI P w v xs := by
  rcases h.2 with ⟨rfl, e⟩ | ⟨g, cap, cur, rfl, hg, hh, hnc, _⟩
  · have : xs = [] := List.eq_nil_of_length_eq_zero e
    subst this
    exact ⟨none, 0, rfl, by simp, fun h => absurd rfl h⟩
  · refine ⟨_, cap - xs.length, by rw [Nat.add_sub_cancel' hnc], by omega, fun _ => ⟨g, 0, rfl, hP g rfl, fun i hi => ?_⟩⟩
    rw [Nat.zero_add, h.cellAt i (by simpa using hi)]
    simp [List.getD, hi]
theorem FoRow.rdP {P : Nat → Prop} {w : World} {v : Value} {k : Nat} {gs : List Oj} (h : FoRow P w v k gs) (hk : gs.length = k) (hm : k ≤ 1048576) (hl : ∀ i, i < gs.length → (gs.getD i oj0).2.2.length ≤ 1048576) : RdJ P w v gs := by
  obtain ⟨V, h1, h2, h3⟩ := h
  subst hk
  rcases h1.2 with ⟨rfl, e⟩ | ⟨g, cap, cur, rfl, hg, hh, _⟩
  · have : gs = [] := List.eq_nil_of_length_eq_zero e
    subst this
    exact ⟨none, 0, rfl, by simp, fun h => absurd rfl h⟩
  · refine ⟨_, cap, rfl, by omega, fun _ => ⟨g, 0, V, rfl, h2 g rfl, fun i hi => ⟨?_, ?_, ?_, rd_of_owns (h3.1 i hi).1 (hl i hi) (fun r hr => ((h3.1 i hi).2 r hr).1)⟩⟩⟩
    · rw [Nat.zero_add, h1.cellAt (i * 3) (by omega)]
      exact cellsFi_flg _ _ _ _ hi
    · rw [Nat.zero_add, h1.cellAt (i * 3 + 1) (by omega)]
      exact cellsFi_num _ _ _ _ hi
    · rw [Nat.zero_add, h1.cellAt (i * 3 + 2) (by omega)]
      exact cellsFi_words _ _ _ _ hi
theorem FoRow.snoc {P : Nat → Prop} {w : World} {v : Value} {ps : List Oj} (h : FoRow P w v ps.length ps) (p : Oj) : FoRow P w v ps.length (ps ++ [p]) := by
  obtain ⟨V, h1, h2, h3⟩ := h
  have e : ∀ i, i < ps.length → (ps ++ [p]).getD i oj0 = ps.getD i oj0 := fun i hi => by simp [List.getD, List.getElem?_append_left hi]
  refine ⟨V, by rw [cellsFi_ext (ps ++ [p]) ps ps.length V e]; exact h1, h2, fun i hi => ?_, h3.2⟩
  have := h3.1 i hi
  dsimp only at this ⊢
  rw [e i hi]
  exact this
/-- One more block for the first file: the row of its blocks has grown, and its slice is stored anew. -/
theorem FoRow.first {P : Nat → Prop} {w w2 w3 : World} {g n cap g' cap' : Nat} {fs : List Oj} {V : Nat → Value} {x : Int} (hpr : P g) (h3 : RowsI P w (some g) n V (fun i => (fs.getD i oj0).2.2)) (hn : fs.length = n) (h0 : 0 < n) (hm : n ≤ 1048576) (hl : ∀ i, i < fs.length → (fs.getD i oj0).2.2.length ≤ 1000)
    (hb : ∀ i, i < n → w2.ownsRow 0 2 1 (V i) (fs.getD i oj0).2.2.length ((fs.getD i oj0).2.2.map (Value.int .i64))) (hb2 : w2.ownsRow 0 35 3 (.slice (some ⟨g, 0, none⟩) n cap) n (cellsFi fs n V)) (hN : ∀ b, w2.heap.size ≤ b + 1 → P b)
    (hown : w3.ownsRow 0 2 1 (.slice (some ⟨g', 0, none⟩) ((fs.getD 0 oj0).2.2.length + 1) cap') ((fs.getD 0 oj0).2.2.length + 1) ((fs.getD 0 oj0).2.2.map (Value.int .i64) ++ [.int .i64 x])) (hg : w2.grownBy w3 (V 0).ownBlock) (hat : (V 0).ownBlock = some g' ∨ g' = w2.heap.size) :
    RdJ P (w3.setCell ⟨g, 2, none⟩ (.slice (some ⟨g', 0, none⟩) ((fs.getD 0 oj0).2.2.length + 1) cap')) (.slice (some ⟨g, 0, none⟩) n cap) ((List.range n).map fun i => if i = 0 then ((fs.getD 0 oj0).1, (fs.getD 0 oj0).2.1, (fs.getD 0 oj0).2.2 ++ [x]) else fs.getD i oj0) := by
  have hgg : (V 0).ownBlock ≠ some g := fun e => ((h3.1 0 h0).2 g e).2 rfl
  have hrow3 : w3.ownsRow 0 35 3 (.slice (some ⟨g, 0, none⟩) n cap) n (cellsFi fs n V) := hb2.kept hg (Or.inr fun e => hgg e.symm)
  have hlt3 : g < w2.heap.size := (hb2.lt g rfl).2
  have hg'g : g' ≠ g := by
    rcases hat with h | h
    · intro e; rw [e] at h; exact hgg h
    · omega
  have hlen : ((List.range n).map fun i => if i = 0 then ((fs.getD 0 oj0).1, (fs.getD 0 oj0).2.1, (fs.getD 0 oj0).2.2 ++ [x]) else fs.getD i oj0).length = n := by simp
  have hgd : ∀ i, i < n → ((List.range n).map fun i => if i = 0 then ((fs.getD 0 oj0).1, (fs.getD 0 oj0).2.1, (fs.getD 0 oj0).2.2 ++ [x]) else fs.getD i oj0).getD i oj0 = if i = 0 then ((fs.getD 0 oj0).1, (fs.getD 0 oj0).2.1, (fs.getD 0 oj0).2.2 ++ [x]) else fs.getD i oj0 := fun i hi => by simp [List.getD, hi]
  have hwr : Wr (· = g) w3 (w3.setCell ⟨g, 2, none⟩ (.slice (some ⟨g', 0, none⟩) ((fs.getD 0 oj0).2.2.length + 1) cap')) := (Wr.refl (· = g) _).setCell (p := ⟨g, 2, none⟩) rfl _
  have cell : ∀ o u, (cellsFi fs n V)[o]? = some u → o ≠ 2 → (w3.setCell ⟨g, 2, none⟩ (.slice (some ⟨g', 0, none⟩) ((fs.getD 0 oj0).2.2.length + 1) cap')).cell? ⟨g, o, none⟩ = some u := fun o u hu ho => by
    rw [World.cell?_setCell_other _ _ _ _ (by intro e; injection e with _ e2; exact ho e2.symm)]
    have ho3 : o < n * 3 := by have := (List.getElem?_eq_some_iff.1 hu).1; rw [cellsFi_len] at this; exact this
    rw [hrow3.cellAt o ho3, hu]
  refine ⟨_, cap, by rw [hlen], by rw [hlen]; omega, fun _ => ⟨g, 0, fun i => if i = 0 then .slice (some ⟨g', 0, none⟩) ((fs.getD 0 oj0).2.2.length + 1) cap' else V i, rfl, hpr, fun i hi => ?_⟩⟩
  rw [hlen] at hi
  rw [hgd i hi]
  by_cases e : i = 0
  · subst e
    simp only [if_true]
    refine ⟨?_, ?_, ?_, ?_⟩
    · have := cell 0 _ (by simpa using cellsFi_flg fs n V 0 hi) (by omega); simpa using this
    · have := cell 1 _ (by simpa using cellsFi_num fs n V 0 hi) (by omega); simpa using this
    · have h2 : w3.cell? ⟨g, 2, none⟩ = some (V 0) := by rw [hrow3.cellAt 2 (by omega)]; simpa using cellsFi_words fs n V 0 hi
      have := World.cell?_setCell_same w3 ⟨g, 2, none⟩ (.slice (some ⟨g', 0, none⟩) ((fs.getD 0 oj0).2.2.length + 1) cap') h2
      simpa using this
    · have hR : RdI P w3 (.slice (some ⟨g', 0, none⟩) ((fs.getD 0 oj0).2.2.length + 1) cap') ((fs.getD 0 oj0).2.2 ++ [x]) := by
        refine rd_of_owns (by simpa using hown) (by have := hl 0 (by omega); rw [List.length_append]; simp only [List.length_cons, List.length_nil]; omega) (fun r hr => ?_)
        injection hr with hr
        subst hr
        rcases hat with h | h
        · exact ((h3.1 0 h0).2 _ h).1
        · exact hN _ (by dsimp only; omega)
      obtain ⟨ao, c, q1, q2, q3⟩ := hR
      refine ⟨ao, c, q1, q2, fun hne => ?_⟩
      obtain ⟨b, off, p1, p2, p3⟩ := q3 hne
      have hbg : b ≠ g := by
        injection q1 with q1 _ _
        rw [← q1] at p1
        injection p1 with p1
        injection p1 with p1 _ _
        omega
      exact ⟨b, off, p1, p2, fun j hj => by rw [World.cell?_setCell_other _ _ _ _ (by intro e; injection e with e1 _; exact hbg e1.symm)]; exact p3 j hj⟩
  · simp only [if_neg e]
    refine ⟨?_, ?_, ?_, ?_⟩
    · have := cell (i * 3) _ (cellsFi_flg fs n V i hi) (by omega); simpa using this
    · have := cell (i * 3 + 1) _ (cellsFi_num fs n V i hi) (by omega); simpa [Nat.add_assoc] using this
    · have := cell (i * 3 + 2) _ (cellsFi_words fs n V i hi) (by omega); simpa [Nat.add_assoc] using this
    · have hk : w3.ownsRow 0 2 1 (V i) (fs.getD i oj0).2.2.length ((fs.getD i oj0).2.2.map (Value.int .i64)) := by
        refine (hb i hi).kept hg ?_
        cases hv : (V i).ownBlock with
        | none => exact Or.inl rfl
        | some r => exact Or.inr (fun e2 => h3.2 i 0 hi h0 e r hv e2.symm)
      have hR : RdI (fun b => P b ∧ b ≠ g) w3 (V i) (fs.getD i oj0).2.2 := rd_of_owns hk (by have := hl i (by omega); omega) (fun r hr => ⟨((h3.1 i hi).2 r hr).1, fun e2 => ((h3.1 i hi).2 r hr).2 (by rw [e2])⟩)
      exact (hR.wr hwr (fun _ b hb e => hb.2 e)).narrow (fun _ b hb => hb.1)
end Go.Proofs.Ytbfdnjhdlnfpmaa
