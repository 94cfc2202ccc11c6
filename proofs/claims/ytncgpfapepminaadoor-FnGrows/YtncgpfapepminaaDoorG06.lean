/- ObS BuiltEn Fp3 in one text: what each says stands at its head below. -/
import Derived.Test.YtncgpfapepminaaDoorG05
import Derived.Test.YtncgpfapepminaaDoorG04
/- Chapter 5: lists of objects: readings of them, and the laws' helpers over them. Made by program (genobs.py). -/
namespace Go.Proofs.YtncgpfapepminaaDoor
open Go.RowKit

/-- An object: its block, its first word, its words. -/
abbrev Oj := Int × Int × List Int
def oj0 : Oj := (0, 0, [])

/-- The slice value v reads as the steps (three cells each), all of them in blocks of S. -/
def RdJ (S : Nat → Prop) (w : World) (v : Value) (ts : List Oj) : Prop :=
  ∃ (ao : Option Addr) (c : Nat), v = .slice ao ts.length c ∧ ts.length ≤ 9223372036854775807 ∧
    (ts ≠ [] → ∃ (b off : Nat) (V : Nat → Value), ao = some ⟨b, off, none⟩ ∧ S b ∧
      ∀ i, i < ts.length → w.cell? ⟨b, off + i * 3, none⟩ = some (.int .i64 (ts.getD i oj0).1) ∧ w.cell? ⟨b, off + i * 3 + 1, none⟩ = some (.int .i64 (ts.getD i oj0).2.1) ∧ w.cell? ⟨b, off + i * 3 + 2, none⟩ = some (V i) ∧ RdI S w (V i) (ts.getD i oj0).2.2)
theorem RdJ.shape {S : Nat → Prop} {w : World} {v : Value} {ts : List Oj} (h : RdJ S w v ts) : ∃ ao c, v = .slice ao ts.length c ∧ ts.length ≤ 9223372036854775807 := by
  obtain ⟨ao, c, h1, h2, _⟩ := h
  exact ⟨ao, c, h1, h2⟩
theorem RdJ.later {S : Nat → Prop} {w w' : World} {v : Value} {ts : List Oj} (h : RdJ S w v ts) (hb : Below w.heap.size w w') : RdJ S w' v ts := by
  obtain ⟨ao, c, h1, h2, h3⟩ := h
  refine ⟨ao, c, h1, h2, fun hne => ?_⟩
  obtain ⟨b, off, V, e, hs, hc⟩ := h3 hne
  exact ⟨b, off, V, e, hs, fun i hi => ⟨cell_later hb (hc i hi).1, cell_later hb (hc i hi).2.1, cell_later hb (hc i hi).2.2.1, (hc i hi).2.2.2.later hb⟩⟩
theorem RdJ.wr {S T : Nat → Prop} {w w' : World} {v : Value} {ts : List Oj} (h : RdJ S w v ts) (hw : Wr T w w') (hd : ∀ b, S b → ¬ T b) : RdJ S w' v ts := by
  obtain ⟨ao, c, h1, h2, h3⟩ := h
  refine ⟨ao, c, h1, h2, fun hne => ?_⟩
  obtain ⟨b, off, V, e, hs, hc⟩ := h3 hne
  exact ⟨b, off, V, e, hs, fun i hi => ⟨cell_wr hw (hc i hi).1 (hd b hs), cell_wr hw (hc i hi).2.1 (hd b hs), cell_wr hw (hc i hi).2.2.1 (hd b hs), (hc i hi).2.2.2.wr hw (fun _ => hd)⟩⟩

/-- What the cap reaches is there, and may be written. -/
def RoomJ (S : Nat → Prop) (w : World) (ao : Option Addr) (b off c : Nat) : Prop :=
  ∀ o, o < c * 3 → ao = some ⟨b, off, none⟩ ∧ S b ∧ (∀ q, w.frozen? ⟨b, q, none⟩ = false) ∧ ∃ x, w.cell? ⟨b, off + o, none⟩ = some x
theorem RoomJ.wr {S T : Nat → Prop} {w w' : World} {ao : Option Addr} {b off c : Nat} (h : RoomJ S w ao b off c) (hw : Wr T w w') (hd : ∀ b, S b → ¬ T b) : RoomJ S w' ao b off c := fun o ho => by
  obtain ⟨h1, h2, h3, x, h4⟩ := h o ho
  exact ⟨h1, h2, fun q => (hw.frz _ _ (World.block_lt_of_cell? _ _ h4)).trans (h3 q), x, cell_wr hw h4 (hd _ h2)⟩
theorem RoomJ.mono {S T : Nat → Prop} {w : World} {ao : Option Addr} {b off c : Nat} (h : RoomJ S w ao b off c) (hT : ∀ b, S b → T b) : RoomJ T w ao b off c := fun o ho => by
  obtain ⟨h1, h2, h3⟩ := h o ho
  exact ⟨h1, hT _ h2, h3⟩
theorem RoomJ_row {S : Nat → Prop} {w : World} {g c : Nat} {cur : Array Value} {t : TypeId} (hS : S g) (hh : w.heap[g]? = some (.cells cur t (0, 0))) (hc : cur.size = c * 3) : RoomJ S w (some ⟨g, 0, none⟩) g 0 c := fun o ho =>
  ⟨rfl, hS, fun q => by simp [World.frozen?, hh], cur[o]'(by omega), by
    have hlt : o < cur.size := by omega
    rw [Nat.zero_add]
    simp [World.cell?, hh, hlt]⟩
theorem RoomJ_cells {S : Nat → Prop} {w : World} {g : Nat} {os : List Oj} {V : Nat → Value} (hS : S g) (hf : ∀ q, w.frozen? ⟨g, q, none⟩ = false) (h : ∀ i, i < os.length → w.cell? ⟨g, i * 3, none⟩ = some (.int .i64 (os.getD i oj0).1) ∧ w.cell? ⟨g, i * 3 + 1, none⟩ = some (.int .i64 (os.getD i oj0).2.1) ∧ w.cell? ⟨g, i * 3 + 2, none⟩ = some (V i)) : RoomJ S w (some ⟨g, 0, none⟩) g 0 os.length := fun o ho => by
  refine ⟨rfl, hS, hf, ?_⟩
  rw [Nat.zero_add]
  obtain ⟨k0, k1, k2⟩ := h (o / 3) (by omega)
  rcases (show o = o / 3 * 3 ∨ o = o / 3 * 3 + 1 ∨ o = o / 3 * 3 + 2 by omega) with e | e | e
  · rw [e]; exact ⟨_, k0⟩
  · rw [e]; exact ⟨_, k1⟩
  · rw [e]; exact ⟨_, k2⟩
/-- .. its words lie in blocks of their own, each another one; nothing of it is frozen; all in S. -/
def OwJ (S : Nat → Prop) (w : World) (v : Value) (ts : List Oj) : Prop :=
  ∃ (ao : Option Addr) (c b off : Nat) (V : Nat → Value) (B : Nat → Nat), v = .slice ao ts.length c ∧ (ts.length ≤ 9223372036854775807 ∧ ts.length ≤ c ∧ RoomJ S w ao b off c) ∧
    (ts ≠ [] → ao = some ⟨b, off, none⟩ ∧ S b ∧ ∀ o, w.frozen? ⟨b, o, none⟩ = false) ∧
    ∀ i, i < ts.length → w.cell? ⟨b, off + i * 3, none⟩ = some (.int .i64 (ts.getD i oj0).1) ∧ w.cell? ⟨b, off + i * 3 + 1, none⟩ = some (.int .i64 (ts.getD i oj0).2.1) ∧ w.cell? ⟨b, off + i * 3 + 2, none⟩ = some (V i) ∧ RdI (· = B i) w (V i) (ts.getD i oj0).2.2 ∧
      ((ts.getD i oj0).2.2 ≠ [] → S (B i) ∧ B i ≠ b ∧ (∀ o, w.frozen? ⟨B i, o, none⟩ = false) ∧ ∀ j, j < ts.length → (ts.getD j oj0).2.2 ≠ [] → B j = B i → j = i)
theorem OwJ.rd {S : Nat → Prop} {w : World} {v : Value} {ts : List Oj} (h : OwJ S w v ts) : RdJ S w v ts := by
  obtain ⟨ao, c, b, off, V, B, h1, h2, h3, h4⟩ := h
  refine ⟨ao, c, h1, h2.1, fun hne => ?_⟩
  obtain ⟨e, hb, _⟩ := h3 hne
  exact ⟨b, off, V, e, hb, fun i hi => ⟨(h4 i hi).1, (h4 i hi).2.1, (h4 i hi).2.2.1, (h4 i hi).2.2.2.1.narrow fun hn x hx => hx ▸ ((h4 i hi).2.2.2.2 hn).1⟩⟩
theorem OwJ.wr {S T : Nat → Prop} {w w' : World} {v : Value} {ts : List Oj} (h : OwJ S w v ts) (hw : Wr T w w') (hd : ∀ b, S b → ¬ T b) : OwJ S w' v ts := by
  obtain ⟨ao, c, b, off, V, B, h1, h2, h3, h4⟩ := h
  refine ⟨ao, c, b, off, V, B, h1, ⟨h2.1, h2.2.1, h2.2.2.wr hw hd⟩, fun hne => ?_, fun i hi => ?_⟩
  · obtain ⟨q1, q2, q3⟩ := h3 hne
    have hl := World.block_lt_of_cell? _ _ (h4 0 (List.length_pos_iff.2 hne)).1
    exact ⟨q1, q2, fun o => by rw [hw.frz _ _ hl]; exact q3 o⟩
  · obtain ⟨f0, f1, f2, f2', f3⟩ := h4 i hi
    have hne : ts ≠ [] := by rintro rfl; exact absurd hi (Nat.not_lt_zero _)
    refine ⟨cell_wr hw f0 (hd b (h3 hne).2.1), cell_wr hw f1 (hd b (h3 hne).2.1), cell_wr hw f2 (hd b (h3 hne).2.1), f2'.wr hw (fun hn x hx => hx ▸ hd _ (f3 hn).1), fun hn => ?_⟩
    obtain ⟨q1, q2, q3, q4⟩ := f3 hn
    obtain ⟨x, rfl, hl⟩ := f2'.lt hn
    exact ⟨q1, q2, fun o => by rw [hw.frz _ _ hl]; exact q3 o, q4⟩
theorem OwJ.mono {S T : Nat → Prop} {w : World} {v : Value} {ts : List Oj} (h : OwJ S w v ts) (hT : ∀ b, S b → T b) : OwJ T w v ts := by
  obtain ⟨ao, c, b, off, V, B, h1, h2, h3, h4⟩ := h
  exact ⟨ao, c, b, off, V, B, h1, ⟨h2.1, h2.2.1, h2.2.2.mono hT⟩, fun hne => ⟨(h3 hne).1, hT _ (h3 hne).2.1, (h3 hne).2.2⟩, fun i hi => ⟨(h4 i hi).1, (h4 i hi).2.1, (h4 i hi).2.2.1, (h4 i hi).2.2.2.1, fun hn => ⟨hT _ ((h4 i hi).2.2.2.2 hn).1, ((h4 i hi).2.2.2.2 hn).2⟩⟩⟩
theorem OwJ.shape {S : Nat → Prop} {w : World} {v : Value} {ts : List Oj} (h : OwJ S w v ts) : ∃ ao c, v = .slice ao ts.length c := by
  obtain ⟨ao, c, _, _, _, _, h1, _⟩ := h
  exact ⟨ao, c, h1⟩
/-- .. and its cap is no smaller than its length. -/
theorem OwJ.caps {S : Nat → Prop} {w : World} {v : Value} {ts : List Oj} (h : OwJ S w v ts) : ∃ ao c, v = .slice ao ts.length c ∧ ts.length ≤ c := by
  obtain ⟨ao, c, _, _, _, _, h1, h2, _⟩ := h
  exact ⟨ao, c, h1, h2.2.1⟩
theorem OwJ_nil (S : Nat → Prop) (w : World) : OwJ S w (.slice none 0 0) [] :=
  ⟨none, 0, 0, 0, fun _ => .bool false, fun _ => 0, rfl, ⟨by simp, by simp, fun o ho => absurd ho (Nat.not_lt_zero _)⟩, fun h => absurd rfl h, fun i hi => absurd hi (Nat.not_lt_zero _)⟩

/-- How many marks the first i steps hold. -/
def totJ (ts : List Oj) (i : Nat) : Nat := ((ts.take i).map fun p => p.2.2.length + 2).sum
theorem totJ_zero (ts : List Oj) : totJ ts 0 = 0 := by simp [totJ]
theorem totJ_succ (ts : List Oj) (i : Nat) (h : i < ts.length) : totJ ts (i + 1) = totJ ts i + ((ts.getD i oj0).2.2.length + 2) := by
  unfold totJ
  rw [List.take_succ_eq_append_getElem h]
  simp only [List.map_append, List.sum_append, List.map_cons, List.map_nil, List.sum_cons, List.sum_nil]
  simp [List.getD, h]
theorem totJ_le (ts : List Oj) : ∀ (i j : Nat), i ≤ j → totJ ts i ≤ totJ ts j := by
  intro i j h
  unfold totJ
  have : ts.take j = ts.take i ++ (ts.drop i).take (j - i) := by
    rw [← List.take_add]; congr 1; omega
  rw [this]; simp
def mJ (k : Int) : Int := k
def mkJ (k : Int) (ts : List Oj) : List Oj :=
  (List.range ts.length).map fun i => (mJ (k + (totJ ts i : Int)), k + (totJ ts i : Int) + 1, mkI (k + (totJ ts i : Int) + 1 + 1) (ts.getD i oj0).2.2.length)
theorem mkJ_len (k : Int) (ts : List Oj) : (mkJ k ts).length = ts.length := by simp [mkJ]
theorem mkJ_at (k : Int) (ts : List Oj) (i : Nat) (h : i < ts.length) : (mkJ k ts).getD i oj0 = (mJ (k + (totJ ts i : Int)), k + (totJ ts i : Int) + 1, mkI (k + (totJ ts i : Int) + 1 + 1) (ts.getD i oj0).2.2.length) := by simp [mkJ, List.getD, h]

/-- What marking has done behind j steps. -/
structure MarkAtJ (ts : List Oj) (b off : Nat) (V : Nat → Value) (B : Nat → Nat) (k : Int) (w : World) (j : Nat) (wr : World) : Prop where
  cell : ∀ i, i < ts.length → wr.cell? ⟨b, off + i * 3 + 2, none⟩ = some (V i)
  th0 : ∀ i, i < ts.length → ∃ x, wr.cell? ⟨b, off + i * 3, none⟩ = some (.int .i64 x)
  th1 : ∀ i, i < ts.length → ∃ x, wr.cell? ⟨b, off + i * 3 + 1, none⟩ = some (.int .i64 x)
  flg : ∀ i, i < j → i < ts.length → wr.cell? ⟨b, off + i * 3, none⟩ = some (.int .i64 (mJ (k + (totJ ts i : Int))))
  num : ∀ i, i < j → i < ts.length → wr.cell? ⟨b, off + i * 3 + 1, none⟩ = some (.int .i64 (k + (totJ ts i : Int) + 1))
  done : ∀ i, i < j → i < ts.length → RdI (· = B i) wr (V i) (mkI (k + (totJ ts i : Int) + 1 + 1) (ts.getD i oj0).2.2.length)
  todo : ∀ i, j ≤ i → i < ts.length → RdI (· = B i) wr (V i) (ts.getD i oj0).2.2
  own : ∀ o, wr.frozen? ⟨b, o, none⟩ = false
  free : ∀ i, i < ts.length → (ts.getD i oj0).2.2 ≠ [] → B i ≠ b ∧ (∀ o, wr.frozen? ⟨B i, o, none⟩ = false) ∧ ∀ j, j < ts.length → (ts.getD j oj0).2.2 ≠ [] → B j = B i → j = i
  wr : Wr (fun x => x = b ∨ ∃ i, i < ts.length ∧ (ts.getD i oj0).2.2 ≠ [] ∧ x = B i) w wr

/-- The two cells of the j-th step are marked. -/
def markCellsJ (b off j : Nat) (k : Int) (wr : World) : World := (wr.setCell ⟨b, off + j * 3, none⟩ (.int .i64 (mJ k))).setCell ⟨b, off + j * 3 + 1, none⟩ (.int .i64 (k + 1))
theorem markCellsJ_wr (b off j : Nat) (k : Int) (wr : World) : Wr (· = b) wr (markCellsJ b off j k wr) :=
  ((Wr.refl (· = b) wr).setCell (p := ⟨b, off + j * 3, none⟩) rfl _).setCell (p := ⟨b, off + j * 3 + 1, none⟩) rfl _
theorem MarkAtJ.mid {ts : List Oj} {b off : Nat} {V : Nat → Value} {B : Nat → Nat} {k m : Int} {w : World} {j : Nat} {wr : World} (h : MarkAtJ ts b off V B k w j wr) (hj : j < ts.length) :
    RdI (· = B j) (markCellsJ b off j m wr) (V j) (ts.getD j oj0).2.2 ∧ ((ts.getD j oj0).2.2 ≠ [] → ∀ o, (markCellsJ b off j m wr).frozen? ⟨B j, o, none⟩ = false) :=
  ⟨(h.todo j (Nat.le_refl _) hj).wr (markCellsJ_wr b off j m wr) (fun hn x hx e => (h.free j hj hn).1 (hx ▸ e)), fun hn o => by unfold markCellsJ; rw [World.frozen?_setCell, World.frozen?_setCell]; exact (h.free j hj hn).2.1 o⟩

theorem MarkAtJ.step {ts : List Oj} {b off : Nat} {V : Nat → Value} {B : Nat → Nat} {k : Int} {w : World} {j : Nat} {wr w' : World}
    (h : MarkAtJ ts b off V B k w j wr) (hj : j < ts.length) (h1 : RdI (· = B j) w' (V j) (mkI (k + (totJ ts j : Int) + 1 + 1) (ts.getD j oj0).2.2.length))
    (h2 : Wr (fun x => x = B j ∧ (ts.getD j oj0).2.2 ≠ []) (markCellsJ b off j (k + (totJ ts j : Int)) wr) w') :
    MarkAtJ ts b off V B k w (j + 1) w' := by
  have hmc := markCellsJ_wr b off j (k + (totJ ts j : Int)) wr
  obtain ⟨x0, hx0⟩ := h.th0 j hj
  obtain ⟨x1, hx1⟩ := h.th1 j hj
  have hbl : b < wr.heap.size := World.block_lt_of_cell? _ _ hx0
  have hsz : (markCellsJ b off j (k + (totJ ts j : Int)) wr).heap.size = wr.heap.size := by simp [markCellsJ]
  have keepb : ∀ o v, (markCellsJ b off j (k + (totJ ts j : Int)) wr).cell? ⟨b, o, none⟩ = some v → w'.cell? ⟨b, o, none⟩ = some v := by
    intro o v hv
    rw [h2.cell (World.block_lt_of_cell? _ _ hv) (by rintro ⟨e, hne'⟩; exact (h.free j hj hne').1 e.symm)]
    exact hv
  have setb : ∀ o v, o ≠ off + j * 3 → o ≠ off + j * 3 + 1 → wr.cell? ⟨b, o, none⟩ = some v → w'.cell? ⟨b, o, none⟩ = some v := by
    intro o v ho ho1 hv
    refine keepb o v ?_
    unfold markCellsJ
    rw [World.cell?_setCell_other _ _ _ _ (by intro e; exact ho1 (congrArg Addr.off e).symm), World.cell?_setCell_other _ _ _ _ (by intro e; exact ho (congrArg Addr.off e).symm)]
    exact hv
  have seta : w'.cell? ⟨b, off + j * 3, none⟩ = some (.int .i64 (mJ (k + (totJ ts j : Int)))) := by
    refine keepb _ _ ?_
    unfold markCellsJ
    rw [World.cell?_setCell_other _ _ _ _ (by intro e; have := congrArg Addr.off e; simp at this)]
    exact World.cell?_setCell_same _ _ _ hx0
  have setn : w'.cell? ⟨b, off + j * 3 + 1, none⟩ = some (.int .i64 (k + (totJ ts j : Int) + 1)) := by
    refine keepb _ _ ?_
    unfold markCellsJ
    exact World.cell?_setCell_same _ _ _ ((World.cell?_setCell_other _ _ _ _ (by intro e; have := congrArg Addr.off e; simp at this)).trans hx1)
  have other : ∀ i, i < ts.length → i ≠ j → ∀ {xs : List Int}, (xs ≠ [] → (ts.getD i oj0).2.2 ≠ []) → RdI (· = B i) wr (V i) xs → RdI (· = B i) w' (V i) xs := by
    intro i hi hij xs hxs hr
    have hr' := hr.wr hmc (fun hn x hx e => (h.free i hi (hxs hn)).1 (hx ▸ e))
    exact hr'.wr h2 (fun hn x hx => by rintro ⟨e, hne'⟩; exact hij ((h.free j hj hne').2.2 i hi (hxs hn) (hx.symm.trans e)))
  refine ⟨fun i hi => setb _ _ (by omega) (by omega) (h.cell i hi), fun i hi => ?_, fun i hi => ?_, fun i hi hi' => ?_, fun i hi hi' => ?_, fun i hi hi' => ?_, fun i hi hi' => other i hi' (by omega) id (h.todo i (by omega) hi'), fun o => ?_, fun i hi hne => ?_, ?_⟩
  · by_cases e : i = j
    · subst e; exact ⟨_, seta⟩
    · obtain ⟨x, hx⟩ := h.th0 i hi
      exact ⟨x, setb _ _ (by omega) (by omega) hx⟩
  · by_cases e : i = j
    · subst e; exact ⟨_, setn⟩
    · obtain ⟨x, hx⟩ := h.th1 i hi
      exact ⟨x, setb _ _ (by omega) (by omega) hx⟩
  · by_cases e : i = j
    · subst e; exact seta
    · exact setb _ _ (by omega) (by omega) (h.flg i (by omega) hi')
  · by_cases e : i = j
    · subst e; exact setn
    · exact setb _ _ (by omega) (by omega) (h.num i (by omega) hi')
  · by_cases e : i = j
    · subst e; exact h1
    · exact other i hi' e (fun hne => by rw [mkI_ne] at hne; intro e0; rw [e0] at hne; exact hne rfl) (h.done i (by omega) hi')
  · rw [h2.frz _ _ (by rw [hsz]; exact hbl), hmc.frz _ _ hbl]; exact h.own o
  · obtain ⟨f1, f2, f3⟩ := h.free i hi hne
    refine ⟨f1, fun o => ?_, f3⟩
    have hlt : B i < wr.heap.size := by
      by_cases e : i < j
      · obtain ⟨b', hb, hl⟩ := (h.done i e hi).lt (mkI_ne.2 (fun e0 => hne (List.eq_nil_of_length_eq_zero e0)))
        exact hb ▸ hl
      · obtain ⟨b', hb, hl⟩ := (h.todo i (by omega) hi).lt hne
        exact hb ▸ hl
    rw [h2.frz _ _ (by rw [hsz]; exact hlt), hmc.frz _ _ hlt]; exact f2 o
  · exact (h.wr.trans (hmc.mono fun x e => Or.inl e)).trans (h2.mono fun x ⟨e, hne⟩ => Or.inr ⟨j, hj, hne, e⟩)

end Go.Proofs.YtncgpfapepminaaDoor
/- Chapter 9: entries that are built by append. Made by program (genen.py). -/
namespace Go.Proofs.YtncgpfapepminaaDoor
open Go.RowKit


/-- The cells of k entries. -/
def cellsEn (ts : List Oj) (k : Nat) (V : Nat → Value) : List Value :=
  (List.range (k * 3)).map fun t => if t % 3 = 0 then .int .i64 (ts.getD (t / 3) oj0).1 else if t % 3 = 1 then .int .i64 (ts.getD (t / 3) oj0).2.1 else V (t / 3)
theorem cellsEn_len (ts : List Oj) (k : Nat) (V : Nat → Value) : (cellsEn ts k V).length = k * 3 := by simp [cellsEn]
theorem cellsEn_flg (ts : List Oj) (k : Nat) (V : Nat → Value) (i : Nat) (h : i < k) : (cellsEn ts k V)[i * 3]? = some (.int .i64 (ts.getD i oj0).1) := by
  unfold cellsEn
  rw [List.getElem?_map, List.getElem?_range (by omega)]
  simp only [Option.map_some]
  rw [if_pos (by omega), show i * 3 / 3 = i by omega]
theorem cellsEn_num (ts : List Oj) (k : Nat) (V : Nat → Value) (i : Nat) (h : i < k) : (cellsEn ts k V)[i * 3 + 1]? = some (.int .i64 (ts.getD i oj0).2.1) := by
  unfold cellsEn
  rw [List.getElem?_map, List.getElem?_range (by omega)]
  simp only [Option.map_some]
  rw [if_neg (by omega), if_pos (by omega), show (i * 3 + 1) / 3 = i by omega]
theorem cellsEn_words (ts : List Oj) (k : Nat) (V : Nat → Value) (i : Nat) (h : i < k) : (cellsEn ts k V)[i * 3 + 2]? = some (V i) := by
  unfold cellsEn
  rw [List.getElem?_map, List.getElem?_range (by omega)]
  simp only [Option.map_some]
  rw [if_neg (by omega), if_neg (by omega), show (i * 3 + 2) / 3 = i by omega]
theorem cellsEn_next (ts : List Oj) (k : Nat) (V : Nat → Value) : cellsEn ts (k + 1) V = cellsEn ts k V ++ [.int .i64 (ts.getD k oj0).1, .int .i64 (ts.getD k oj0).2.1, V k] := by
  unfold cellsEn
  rw [show (k + 1) * 3 = k * 3 + 1 + 1 + 1 by omega, List.range_succ, List.range_succ, List.range_succ]
  simp only [List.map_append, List.append_assoc, List.map_cons, List.map_nil, List.singleton_append]
  congr 1
  rw [if_pos (by omega), if_neg (by omega), if_pos (by omega), if_neg (by omega), if_neg (by omega), show k * 3 / 3 = k by omega, show (k * 3 + 1) / 3 = k by omega, show (k * 3 + 1 + 1) / 3 = k by omega]
  rfl
theorem cellsEn_congr (ts : List Oj) (k : Nat) (V V' : Nat → Value) (h : ∀ i, i < k → V i = V' i) : cellsEn ts k V = cellsEn ts k V' := by
  unfold cellsEn
  refine List.map_congr_left fun t ht => ?_
  have := List.mem_range.1 ht
  rw [h (t / 3) (by omega)]
theorem cellsEn_ext (ts ts' : List Oj) (k : Nat) (V : Nat → Value) (h : ∀ i, i < k → ts.getD i oj0 = ts'.getD i oj0) : cellsEn ts k V = cellsEn ts' k V := by
  unfold cellsEn
  refine List.map_congr_left fun t ht => ?_
  have := List.mem_range.1 ht
  rw [h (t / 3) (by omega)]
/-- k entries have been built. -/
def BuiltEn (P : Nat → Prop) (w : World) (v : Value) (k : Nat) (ts : List Oj) : Prop :=
  ∃ V Bk, w.ownsRow 0 43 3 v k (cellsEn ts k V) ∧ (∀ r, v.ownBlock = some r → P r) ∧ Inner P w v.ownBlock k V Bk (fun i => (ts.getD i oj0).2.2)
theorem BuiltEn.nil (P : Nat → Prop) (w : World) (ts : List Oj) : BuiltEn P w (.slice none 0 0) 0 ts :=
  ⟨fun _ => .bool false, fun _ => 0, World.ownsRow_nil _ _ _ _, fun _ h => (by cases h), Inner.zero _ _ _ _ _ _⟩
theorem BuiltEn.empty (w : World) (P : Nat → Prop) (hP : P w.heap.size) (ts : List Oj) : BuiltEn P (w.alloc (.cells #[] 43)) (.slice (some ⟨w.heap.size, 0, none⟩) 0 0) 0 ts :=
  ⟨fun _ => .bool false, fun _ => 0, World.ownsRow_made w #[] 0 (Nat.zero_le _) (by unfold maxLen; omega) (by simp), fun r h => by injection h with h; subst h; exact hP, Inner.zero _ _ _ _ _ _⟩
theorem BuiltEn.later {P : Nat → Prop} {w w' : World} {v : Value} {k : Nat} {ts : List Oj} (h : BuiltEn P w v k ts) (hb : Below w.heap.size w w') : BuiltEn P w' v k ts := by
  obtain ⟨V, Bk, h1, h2, h3⟩ := h
  exact ⟨V, Bk, ownsRow_later h1 hb, h2, h3.later hb⟩
theorem BuiltEn.mono {P P' : Nat → Prop} {w : World} {v : Value} {k : Nat} {ts : List Oj} (h : BuiltEn P w v k ts) (hP : ∀ b, P b → b < w.heap.size → P' b) : BuiltEn P' w v k ts := by
  obtain ⟨V, Bk, h1, h2, h3⟩ := h
  exact ⟨V, Bk, h1, fun r hr => hP r (h2 r hr) (h1.lt r hr).2, h3.mono hP⟩
theorem BuiltEn.shape {P : Nat → Prop} {w : World} {v : Value} {k : Nat} {ts : List Oj} (h : BuiltEn P w v k ts) : ∃ ao c, v = .slice ao k c := by
  obtain ⟨V, Bk, h1, _⟩ := h
  rcases h1.2 with ⟨rfl, e⟩ | ⟨g, cap, cur, rfl, _⟩
  · exact ⟨none, 0, by rw [e]⟩
  · exact ⟨_, _, rfl⟩
theorem BuiltEn.step {P P' : Nat → Prop} {w w1 w2 w3 : World} {v z : Value} {k g cap : Nat} {V : Nat → Value} {Bk : Nat → Nat} {ts : List Oj} (hi : Inner P w v.ownBlock k V Bk (fun i => (ts.getD i oj0).2.2)) (hr : w.ownsRow 0 43 3 v k (cellsEn ts k V)) (hpr : ∀ r, v.ownBlock = some r → P r)
    (hP : ∀ b, P b → P' b) (hN : ∀ b, w.heap.size ≤ b → P' b) (hb1 : Below w.heap.size w w1) (hz : OwI w.heap.size w1 z (ts.getD k oj0).2.2) (hb2 : Below w1.heap.size w1 w2)
    (hown : w3.ownsRow 0 43 3 (.slice (some ⟨g, 0, none⟩) (k + 1) cap) (k + 1) (cellsEn ts k V ++ [.int .i64 (ts.getD k oj0).1, .int .i64 (ts.getD k oj0).2.1, z])) (hg : w2.grownBy w3 v.ownBlock) (hat : v.ownBlock = some g ∨ g = w2.heap.size) :
    BuiltEn P' w3 (.slice (some ⟨g, 0, none⟩) (k + 1) cap) (k + 1) ts := by
  obtain ⟨Bk', h⟩ := hi.step hP hN (fun r hr' => (hr.lt r hr').2) hb1 hz hb2 hg hat
  refine ⟨_, Bk', ?_, fun r hr' => ?_, h⟩
  · rw [cellsEn_next, cellsEn_congr ts k _ V (fun i hi => by rw [if_neg (by omega)]), if_pos rfl]
    exact hown
  · injection hr' with hr'
    subst hr'
    rcases hat with hat | hat
    · exact hP _ (hpr _ hat)
    · have h1 := hb1.size
      have h2 := hb2.size
      exact hN _ (by dsimp only; omega)
theorem BuiltEn.ow {P : Nat → Prop} {w : World} {v : Value} {k : Nat} {ts : List Oj} (h : BuiltEn P w v k ts) (hk : ts.length = k) (hm : k ≤ 9223372036854775807) : OwJ (fun b => P b ∧ b < w.heap.size) w v ts := by
  obtain ⟨V, Bk, h1, hpr, h2⟩ := h
  subst hk
  rcases h1.2 with ⟨rfl, e⟩ | ⟨g, cap, cur, rfl, hg, hh, hnc, _, hcs, _⟩
  · have : ts = [] := List.eq_nil_of_length_eq_zero e
    subst this
    exact OwJ_nil _ _
  · refine ⟨_, cap, g, 0, V, Bk, rfl, ⟨hm, hnc, RoomJ_row ⟨hpr g rfl, (Array.getElem?_eq_some_iff.1 hh).1⟩ hh hcs⟩, fun _ => ⟨rfl, ⟨hpr g rfl, (Array.getElem?_eq_some_iff.1 hh).1⟩, fun o => h1.frozenAt o⟩, fun i hi => ⟨?_, ?_, ?_, h2.rd i hi, fun hn => ?_⟩⟩
    · rw [Nat.zero_add, h1.cellAt (i * 3) (by omega)]
      exact cellsEn_flg _ _ _ _ hi
    · rw [Nat.zero_add, h1.cellAt (i * 3 + 1) (by omega)]
      exact cellsEn_num _ _ _ _ hi
    · rw [Nat.zero_add, h1.cellAt (i * 3 + 2) (by omega)]
      exact cellsEn_words _ _ _ _ hi
    · obtain ⟨k1, k2, k3, k4, k5⟩ := h2.own i hi hn
      exact ⟨⟨k1, k2⟩, fun e => k4 (by rw [e]; rfl), k3, k5⟩
theorem cellsEn_one {x y : Int} {ao : Option Addr} {n c : Nat} : ∀ u ∈ ([.int .i64 x, .int .i64 y, .slice ao n c] : List Value), u.oneCell' = true := by
  intro u hu
  simp at hu
  rcases hu with rfl | rfl | rfl <;> rfl
/-- The end of a function that stores a code and entries into its result's variable. -/
theorem ret_entries {w w3 : World} {P : Nat → Prop} {r : Nat} {z x : Value} {ts : List Oj} (hb : Below w.heap.size w w3) (hr : w.heap.size ≤ r) (ho : OwJ P w3 z ts) (hP : ∀ b, P b → r < b ∧ b < w3.heap.size) :
    Below w.heap.size w ((w3.setCell ⟨r, 0, none⟩ x).setCell ⟨r, 1, none⟩ z) ∧ OwJ (fun b => w.heap.size ≤ b ∧ b < ((w3.setCell ⟨r, 0, none⟩ x).setCell ⟨r, 1, none⟩ z).heap.size) ((w3.setCell ⟨r, 0, none⟩ x).setCell ⟨r, 1, none⟩ z) z ts := by
  have hw : Wr (fun y => y = r) w3 ((w3.setCell ⟨r, 0, none⟩ x).setCell ⟨r, 1, none⟩ z) := ((Wr.refl (fun y => y = r) _).setCell (p := ⟨r, 0, none⟩) rfl _).setCell (p := ⟨r, 1, none⟩) rfl _
  exact ⟨(hb.setCell (p := ⟨r, 0, none⟩) hr _).setCell (p := ⟨r, 1, none⟩) hr _, (ho.wr hw (fun b h1 e => by have := (hP b h1).1; omega)).mono fun b h1 => by have := hP b h1; simp; omega⟩
theorem Tryd.infoEn : (Tryd.prog.info? 43).map (fun i => (i.zero, i.size, i.bytes)) = some (some (.agg #[.int .i64 0, .int .i64 0, .slice none 0 0]), 3, 40) := by kernel_rfl
end Go.Proofs.YtncgpfapepminaaDoor
/- A struct of two numbers and a list (a file, an entry) that lies somewhere in memory. -/
namespace Go.Proofs.YtncgpfapepminaaDoor
open Go.RowKit

/-- A file lies at the cell off of block b. -/
def RdFp (S : Nat → Prop) (w : World) (b off : Nat) (p : Oj) : Prop :=
  ∃ y, w.cell? ⟨b, off, none⟩ = some (.int .i64 p.1) ∧ w.cell? ⟨b, off + 1, none⟩ = some (.int .i64 p.2.1) ∧ w.cell? ⟨b, off + 2, none⟩ = some y ∧ RdI S w y p.2.2
theorem RdFp.later {S : Nat → Prop} {w w' : World} {b off : Nat} {p : Oj} (h : RdFp S w b off p) (hb : Below w.heap.size w w') : RdFp S w' b off p := by
  obtain ⟨y, h0, h1, h2, h3⟩ := h
  exact ⟨y, cell_later hb h0, cell_later hb h1, cell_later hb h2, h3.later hb⟩
theorem RdJ.file {S : Nat → Prop} {w : World} {ao : Option Addr} {n c : Nat} {fs : List Oj} (h : RdJ S w (.slice ao n c) fs) {k : Nat} (hk : k < fs.length) : ∃ b off, ao = some ⟨b, off, none⟩ ∧ RdFp S w b (off + k * 3) (fs.getD k oj0) := by
  obtain ⟨ao', c', e, hm, h⟩ := h
  injection e with e1 e2 e3
  obtain ⟨b, off, V, e4, _, hc⟩ := h (by rintro rfl; exact absurd hk (Nat.not_lt_zero _))
  obtain ⟨q0, q1, q2, q3⟩ := hc k hk
  exact ⟨b, off, e1.trans e4, V k, q0, q1, q2, q3⟩
theorem ret_intF {a b : Int} (h : a = b) : Ending.returned (.int .i64 a) = .returned (.int .i64 b) := by rw [h]
end Go.Proofs.YtncgpfapepminaaDoor
