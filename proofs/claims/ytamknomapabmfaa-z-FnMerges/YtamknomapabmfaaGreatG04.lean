/- Cells Cells2 Eq Sz Small Mark Held Iv Fault2 in one text: what each says stands at its head below. -/
import Derived.Test.YtamknomapabmfaaGreatG01
import Derived.Test.YtamknomapabmfaaGreatG03
import Derived.Deep.MidRow
import Derived.Test.YtamknomapabmfaaGreatG02
/- 'impl.cellsOf', walked. -/
namespace Go.Proofs.YtamknomapabmfaaGreat
open Go.RowKit

@[go_sem] theorem run_store_complex (P : Program) (w : World) (a : Addr) (m : Mode) (k : FloatKind) (x y : Nat) : (store a (.complex k x y) m).run P w = stored P w a (.complex k x y) m := run_store P w a _ m rfl

def zc : Value := .complex .f64 0 0
/-- The cell of the i-th of the words. -/
def cellV (xs : List Int) (i : Nat) : Value := if i < xs.length then .complex .f64 (fl (xs.getD i 0).toNat) (fl (i + 1)) else zc
/-- The first k cells are laid. -/
def cellsTo (xs : List Int) (k : Nat) : List Value := (List.range 64).map fun i => if i < k then cellV xs i else zc

theorem cellsTo_len (xs : List Int) (k : Nat) : (cellsTo xs k).length = 64 := by simp [cellsTo]
theorem cellsTo_at (xs : List Int) (k i : Nat) (h : i < 64) : (cellsTo xs k)[i]? = some (if i < k then cellV xs i else zc) := by simp [cellsTo, h]
theorem cellsTo_zero (xs : List Int) : cellsTo xs 0 = List.replicate 64 zc := by
  refine List.ext_getElem? fun i => ?_
  by_cases h : i < 64
  · rw [cellsTo_at xs 0 i h, if_neg (Nat.not_lt_zero _), List.getElem?_replicate, if_pos h]
  · rw [List.getElem?_eq_none (by rw [cellsTo_len]; omega), List.getElem?_eq_none (by simp; omega)]

theorem setCells_size (b : Nat) : ∀ (vs : List Value) (o : Nat) (w : World), (w.setCells b o vs).heap.size = w.heap.size
  | [], _, _ => rfl
  | v :: r, o, w => by simp only [World.setCells]; rw [setCells_size b r]; simp
theorem Below.setCells {B b : Nat} {a w : World} (h : Below B a w) (hb : B ≤ b) : ∀ (o : Nat) (vs : List Value), Below B a (w.setCells b o vs) := by
  intro o vs
  induction vs generalizing o w with
  | nil => exact h
  | cons v r ih => exact ih (h.setCell (p := ⟨b, o, none⟩) hb v) (o + 1)

theorem range_new (w : World) (cs : List Value) (t : TypeId) : (w.alloc (.cells cs.toArray t)).rangeAt w.heap.size 0 cs := by
  intro j v hv
  have h := World.rangeAt_of_block (heap_alloc_new w (.cells cs.toArray t)) 0 cs.length
  simp at h
  have := h j v hv
  simpa using this
theorem there_new (w : World) (cs : List Value) (t : TypeId) (n : Nat) (hn : cs.length = n) : (w.alloc (.cells cs.toArray t)).there w.heap.size 0 n := by
  intro j hj
  refine ⟨(range_new w cs t).isSome j (by omega), by simp [go_sem]⟩

theorem cellsTo_one (xs : List Int) (k : Nat) : ∀ v ∈ cellsTo xs k, v.oneCell' = true := by
  intro v hv
  simp only [cellsTo, List.mem_map] at hv
  obtain ⟨i, _, rfl⟩ := hv
  unfold cellV zc
  split
  · split <;> rfl
  · rfl

/-- What the loop of 'cellsOf' knows behind k words. -/
structure CellsAt (xs : List Int) (w : World) (k : Nat) (wr : World) : Prop where
  below : Below w.heap.size w wr
  size : wr.heap.size = w.heap.size + 2
  res : wr.there w.heap.size 0 64
  free : ∀ o, wr.frozen? ⟨w.heap.size + 1, o, none⟩ = false
  cells : wr.rangeAt (w.heap.size + 1) 0 (cellsTo xs k)

theorem CellsAt.step {xs : List Int} {w wr : World} {k : Nat} (h : CellsAt xs w k wr) (hk : k < 64) (hkx : k < xs.length) : CellsAt xs w (k + 1) (wr.setCell ⟨w.heap.size + 1, k, none⟩ (.complex .f64 (fl (xs.getD k 0).toNat) (fl (k + 1)))) := by
  refine ⟨h.below.setCell (by simp) _, by simpa using h.size, fun j hj => ?_, fun o => by rw [World.frozen?_setCell]; exact h.free o, fun j v hv => ?_⟩
  · rw [World.cell?_setCell_other _ _ _ _ (by simp), World.frozen?_setCell]
    exact h.res j hj
  · have hj : j < 64 := by
      have := (List.getElem?_eq_some_iff.1 hv).1
      rwa [cellsTo_len] at this
    rw [cellsTo_at xs (k + 1) j hj] at hv
    injection hv with hv
    have hold := h.cells j _ (cellsTo_at xs k j hj)
    rw [Nat.zero_add] at hold ⊢
    by_cases e : j = k
    · subst e
      rw [World.cell?_setCell_same _ _ _ hold, ← hv, if_pos (by omega)]
      simp only [cellV]
      rw [if_pos hkx]
    · rw [World.cell?_setCell_other _ _ _ _ (by intro h'; injection h' with _ h2; exact e h2.symm), hold, ← hv]
      by_cases h2 : j < k
      · rw [if_pos h2, if_pos (by omega)]
      · rw [if_neg h2, if_neg (by omega)]

end Go.Proofs.YtamknomapabmfaaGreat
/- 'impl.putCell', walked. -/
namespace Go.Proofs.YtamknomapabmfaaGreat
open Go.RowKit
end Go.Proofs.YtamknomapabmfaaGreat
/- The walks of the laws' comparing functions: two readings of one datum are equal. -/
namespace Go.Proofs.YtamknomapabmfaaGreat
open Go.RowKit
end Go.Proofs.YtamknomapabmfaaGreat
/- The walks of the laws' functions that reckon sizes. -/
namespace Go.Proofs.YtamknomapabmfaaGreat
open Go.RowKit

/-- What is left of 'left' behind s; -1 where it does not suffice. -/
def szv (left s : Int) : Int := if s ≤ left then left - s else -1
theorem szv_yes {left s : Int} (h : s ≤ left) : szv left s = left - s := by unfold szv; rw [if_pos h]
theorem szv_no {left s : Int} (h : left < s) : szv left s = -1 := by unfold szv; rw [if_neg (by omega)]

/-- How many words the first i puts hold. -/
def totW (ps : List (Int × List Int)) (i : Nat) : Nat := ((ps.take i).map fun p => p.2.length).sum
theorem totW_zero (ps : List (Int × List Int)) : totW ps 0 = 0 := by simp [totW]
theorem totW_succ (ps : List (Int × List Int)) (i : Nat) (h : i < ps.length) : totW ps (i + 1) = totW ps i + (ps.getD i (0, [])).2.length := by
  unfold totW
  rw [List.take_succ_eq_append_getElem h]
  simp only [List.map_append, List.sum_append, List.map_cons, List.map_nil, List.sum_cons, List.sum_nil]
  simp [List.getD, h]
theorem totW_le (ps : List (Int × List Int)) : ∀ (i j : Nat), i ≤ j → totW ps i ≤ totW ps j := by
  intro i j h
  unfold totW
  have : ps.take j = ps.take i ++ (ps.drop i).take (j - i) := by
    rw [← List.take_add]; congr 1; omega
  rw [this]; simp
theorem totP_eq (ps : List (Int × List Int)) : ∀ j, j ≤ ps.length → totP ps j = totW ps j + j := by
  intro j
  induction j with
  | zero => intro _; simp [totP, totW]
  | succ j ih => intro h; rw [totP_succ ps j h, totW_succ ps j h, ih (by omega)]; omega

/-- How much a disk holds. -/
def szD (xss : List (List Int)) (ps : List (Int × List Int)) : Int := (xss.length : Int) + (tot xss xss.length : Int) + ((ps.length : Int) + (totW ps ps.length : Int))

end Go.Proofs.YtamknomapabmfaaGreat
/- What is small enough to be copied; a disk that lies in blocks of its own. -/
namespace Go.Proofs.YtamknomapabmfaaGreat
open Go.RowKit

theorem len_le_tot (xss : List (List Int)) (i : Nat) (h : i < xss.length) : (xss.getD i []).length ≤ tot xss xss.length := by
  have h1 := tot_succ xss i h
  have h2 := tot_le xss (i + 1) xss.length h
  omega
theorem len_le_totW (ps : List (Int × List Int)) (i : Nat) (h : i < ps.length) : (ps.getD i (0, [])).2.length ≤ totW ps ps.length := by
  have h1 := totW_succ ps i h
  have h2 := totW_le ps (i + 1) ps.length h
  omega

/-- What is small enough to be copied. -/
structure Small (xss : List (List Int)) (ps : List (Int × List Int)) : Prop where
  rows : xss.length ≤ 1048576
  row : ∀ i, i < xss.length → (xss.getD i []).length ≤ 1048576
  puts : ps.length ≤ 1048576
  put : ∀ i, i < ps.length → (ps.getD i (0, [])).2.length ≤ 1048576
  all : tot xss xss.length + totW ps ps.length ≤ 1048576

theorem Small.of {xss : List (List Int)} {ps : List (Int × List Int)} (h : szD xss ps ≤ 1048576) : Small xss ps := by
  unfold szD at h
  exact ⟨by omega, fun i hi => by have := len_le_tot xss i hi; omega, by omega, fun i hi => by have := len_le_totW ps i hi; omega, by omega⟩

theorem OwD.rdII {B : Nat} {w : World} {u v : Value} {xss : List (List Int)} {ps : List (Int × List Int)} (h : OwD B w u v xss ps) : RdII (fun b => B ≤ b ∧ b < w.heap.size) w u xss := by
  obtain ⟨S, T, h1, h2, h3, h4, h5⟩ := h
  exact (h4.mono h1).rd
theorem OwD.rdP {B : Nat} {w : World} {u v : Value} {xss : List (List Int)} {ps : List (Int × List Int)} (h : OwD B w u v xss ps) : RdP (fun b => B ≤ b ∧ b < w.heap.size) w v ps := by
  obtain ⟨S, T, h1, h2, h3, h4, h5⟩ := h
  exact (h5.mono h2).rd
theorem OwD.shape {B : Nat} {w : World} {u v : Value} {xss : List (List Int)} {ps : List (Int × List Int)} (h : OwD B w u v xss ps) : ∃ ao c ao' c', u = .slice ao xss.length c ∧ v = .slice ao' ps.length c' := by
  obtain ⟨S, T, h1, h2, h3, h4, h5⟩ := h
  obtain ⟨ao, c, rfl⟩ := h4.shape
  obtain ⟨ao', c', rfl⟩ := h5.shape
  exact ⟨_, _, _, _, rfl, rfl⟩
end Go.Proofs.YtamknomapabmfaaGreat
/- The walks of the laws' marking functions: what is marked holds one number behind the other, and nothing else is written. -/
namespace Go.Proofs.YtamknomapabmfaaGreat
open Go.RowKit

/-- What a loop that marks n cells of block b knows behind j rounds. -/
structure MarkAt (b off n : Nat) (k : Int) (w : World) (j : Nat) (wr : World) : Prop where
  done : ∀ i, i < j → wr.cell? ⟨b, off + i, none⟩ = some (.int .i64 (k + (i : Int)))
  there : ∀ i, i < n → ∃ x, wr.cell? ⟨b, off + i, none⟩ = some x
  free : ∀ o, wr.frozen? ⟨b, o, none⟩ = false
  wr : Wr (· = b) w wr

theorem MarkAt.step {b off n : Nat} {k : Int} {w wr : World} {j : Nat} (h : MarkAt b off n k w j wr) (hj : j < n) :
    MarkAt b off n k w (j + 1) (wr.setCell ⟨b, off + j, none⟩ (.int .i64 (k + (j : Int)))) := by
  obtain ⟨x, hx⟩ := h.there j hj
  refine ⟨fun i hi => ?_, fun i hi => ?_, fun o => by rw [World.frozen?_setCell]; exact h.free o, h.wr.setCell rfl _⟩
  · by_cases e : i = j
    · subst e; exact World.cell?_setCell_same _ _ _ hx
    · rw [World.cell?_setCell_other _ _ _ _ (by simp <;> omega)]; exact h.done i (by omega)
  · by_cases e : i = j
    · subst e; exact ⟨_, World.cell?_setCell_same _ _ _ hx⟩
    · rw [World.cell?_setCell_other _ _ _ _ (by simp <;> omega)]; exact h.there i hi

/-- What the loop that marks n rows knows behind j of them. -/
structure MarkAt2 (xss : List (List Int)) (b off : Nat) (V : Nat → Value) (B : Nat → Nat) (k : Int) (w : World) (j : Nat) (wr : World) : Prop where
  cell : ∀ i, i < xss.length → wr.cell? ⟨b, off + i, none⟩ = some (V i)
  done : ∀ i, i < j → i < xss.length → RdI (· = B i) wr (V i) (mkI (k + (tot xss i : Int)) (xss.getD i []).length)
  todo : ∀ i, j ≤ i → i < xss.length → RdI (· = B i) wr (V i) (xss.getD i [])
  free : ∀ i, i < xss.length → xss.getD i [] ≠ [] → B i ≠ b ∧ (∀ o, wr.frozen? ⟨B i, o, none⟩ = false) ∧ ∀ j, j < xss.length → xss.getD j [] ≠ [] → B j = B i → j = i
  wr : Wr (fun x => ∃ i, i < xss.length ∧ xss.getD i [] ≠ [] ∧ x = B i) w wr

theorem mkI_ne {k : Int} {n : Nat} : mkI k n ≠ [] ↔ n ≠ 0 := by
  rw [← List.length_pos_iff, mkI_len]; omega

theorem MarkAt2.step {xss : List (List Int)} {b off : Nat} {V : Nat → Value} {B : Nat → Nat} {k : Int} {w : World} {j : Nat} {wr w' : World}
    (h : MarkAt2 xss b off V B k w j wr) (hj : j < xss.length) (h1 : RdI (· = B j) w' (V j) (mkI (k + (tot xss j : Int)) (xss.getD j []).length)) (h2 : Wr (fun x => x = B j ∧ xss.getD j [] ≠ []) wr w') :
    MarkAt2 xss b off V B k w (j + 1) w' := by
  have other : ∀ i, i < xss.length → i ≠ j → ∀ {xs : List Int}, (xs ≠ [] → xss.getD i [] ≠ []) → RdI (· = B i) wr (V i) xs → RdI (· = B i) w' (V i) xs := by
    intro i hi hij xs hxs hr
    obtain ⟨ao, c, e1, e2, e3⟩ := hr
    refine ⟨ao, c, e1, e2, fun hne => ?_⟩
    obtain ⟨b', off', f1, f2, f3⟩ := e3 hne
    refine ⟨b', off', f1, f2, fun t ht => ?_⟩
    rw [h2.cell (World.block_lt_of_cell? _ _ (f3 t ht)) (by rintro ⟨e, hne'⟩; exact hij ((h.free j hj hne').2.2 i hi (hxs hne) (f2.symm.trans e)))]
    exact f3 t ht
  refine ⟨fun i hi => ?_, fun i hi hi' => ?_, fun i hi hi' => other i hi' (by omega) id (h.todo i (by omega) hi'), fun i hi hne => ?_, h.wr.trans (h2.mono ?_)⟩
  · rw [h2.cell (World.block_lt_of_cell? _ _ (h.cell i hi)) (by rintro ⟨e, hne'⟩; exact (h.free j hj hne').1 e.symm)]
    exact h.cell i hi
  · by_cases e : i = j
    · subst e; exact h1
    · exact other i hi' e (fun hne => by rw [mkI_ne] at hne; intro e0; rw [e0] at hne; exact hne rfl) (h.done i (by omega) hi')
  · obtain ⟨f1, f2, f3⟩ := h.free i hi hne
    refine ⟨f1, fun o => ?_, f3⟩
    have hlt : B i < wr.heap.size := by
      by_cases e : i < j
      · obtain ⟨b', hb, hl⟩ := (h.done i e hi).lt (mkI_ne.2 (fun e0 => hne (List.eq_nil_of_length_eq_zero e0)))
        exact hb ▸ hl
      · obtain ⟨b', hb, hl⟩ := (h.todo i (by omega) hi).lt hne
        exact hb ▸ hl
    rw [h2.frz _ _ hlt]; exact f2 o
  · rintro x ⟨rfl, hne⟩; exact ⟨j, hj, hne, rfl⟩

/-- What the loop that marks n puts knows behind j of them. -/
structure MarkAt3 (ps : List (Int × List Int)) (b off : Nat) (V : Nat → Value) (B : Nat → Nat) (k : Int) (w : World) (j : Nat) (wr : World) : Prop where
  cell : ∀ i, i < ps.length → wr.cell? ⟨b, off + i * 2 + 1, none⟩ = some (V i)
  there : ∀ i, i < ps.length → ∃ x, wr.cell? ⟨b, off + i * 2, none⟩ = some x
  num : ∀ i, i < j → i < ps.length → wr.cell? ⟨b, off + i * 2, none⟩ = some (.int .i64 (k + (totP ps i : Int)))
  done : ∀ i, i < j → i < ps.length → RdI (· = B i) wr (V i) (mkI (k + (totP ps i : Int) + 1) (ps.getD i (0, [])).2.length)
  todo : ∀ i, j ≤ i → i < ps.length → RdI (· = B i) wr (V i) (ps.getD i (0, [])).2
  own : ∀ o, wr.frozen? ⟨b, o, none⟩ = false
  free : ∀ i, i < ps.length → (ps.getD i (0, [])).2 ≠ [] → B i ≠ b ∧ (∀ o, wr.frozen? ⟨B i, o, none⟩ = false) ∧ ∀ j, j < ps.length → (ps.getD j (0, [])).2 ≠ [] → B j = B i → j = i
  wr : Wr (fun x => x = b ∨ ∃ i, i < ps.length ∧ (ps.getD i (0, [])).2 ≠ [] ∧ x = B i) w wr

theorem RdI.setOther {b b' o : Nat} {w : World} {v u : Value} {xs : List Int} (h : RdI (· = b) w v xs) (hne : xs ≠ [] → b ≠ b') : RdI (· = b) (w.setCell ⟨b', o, none⟩ u) v xs := by
  obtain ⟨ao, c, e1, e2, e3⟩ := h
  refine ⟨ao, c, e1, e2, fun hn => ?_⟩
  obtain ⟨b1, off', f1, f2, f3⟩ := e3 hn
  refine ⟨b1, off', f1, f2, fun t ht => ?_⟩
  rw [World.cell?_setCell_other _ _ _ _ (by intro e; exact hne hn (f2.symm.trans (congrArg Addr.block e).symm))]
  exact f3 t ht

theorem MarkAt3.mid {ps : List (Int × List Int)} {b off : Nat} {V : Nat → Value} {B : Nat → Nat} {k : Int} {w : World} {j : Nat} {wr : World} (h : MarkAt3 ps b off V B k w j wr) (hj : j < ps.length) (u : Value) :
    RdI (· = B j) (wr.setCell ⟨b, off + j * 2, none⟩ u) (V j) (ps.getD j (0, [])).2 ∧ ((ps.getD j (0, [])).2 ≠ [] → ∀ o, (wr.setCell ⟨b, off + j * 2, none⟩ u).frozen? ⟨B j, o, none⟩ = false) :=
  ⟨(h.todo j (Nat.le_refl _) hj).setOther fun hn => (h.free j hj hn).1, fun hn o => by rw [World.frozen?_setCell]; exact (h.free j hj hn).2.1 o⟩

theorem MarkAt3.step {ps : List (Int × List Int)} {b off : Nat} {V : Nat → Value} {B : Nat → Nat} {k : Int} {w : World} {j : Nat} {wr w' : World}
    (h : MarkAt3 ps b off V B k w j wr) (hj : j < ps.length) (h1 : RdI (· = B j) w' (V j) (mkI (k + (totP ps j : Int) + 1) (ps.getD j (0, [])).2.length))
    (h2 : Wr (fun x => x = B j ∧ (ps.getD j (0, [])).2 ≠ []) (wr.setCell ⟨b, off + j * 2, none⟩ (.int .i64 (k + (totP ps j : Int)))) w') :
    MarkAt3 ps b off V B k w (j + 1) w' := by
  have keepb : ∀ o v, (wr.setCell ⟨b, off + j * 2, none⟩ (.int .i64 (k + (totP ps j : Int)))).cell? ⟨b, o, none⟩ = some v → w'.cell? ⟨b, o, none⟩ = some v := by
    intro o v hv
    rw [h2.cell (World.block_lt_of_cell? _ _ hv) (by rintro ⟨e, hne'⟩; exact (h.free j hj hne').1 e.symm)]
    exact hv
  have setb : ∀ o v, o ≠ off + j * 2 → wr.cell? ⟨b, o, none⟩ = some v → w'.cell? ⟨b, o, none⟩ = some v := by
    intro o v ho hv
    exact keepb o v (by rw [World.cell?_setCell_other _ _ _ _ (by intro e; exact ho (congrArg Addr.off e).symm)]; exact hv)
  have seta : w'.cell? ⟨b, off + j * 2, none⟩ = some (.int .i64 (k + (totP ps j : Int))) := by
    obtain ⟨x, hx⟩ := h.there j hj
    exact keepb _ _ (World.cell?_setCell_same _ _ _ hx)
  have other : ∀ i, i < ps.length → i ≠ j → ∀ {xs : List Int}, (xs ≠ [] → (ps.getD i (0, [])).2 ≠ []) → RdI (· = B i) wr (V i) xs → RdI (· = B i) w' (V i) xs := by
    intro i hi hij xs hxs hr
    obtain ⟨ao, c, e1, e2, e3⟩ := hr.setOther (o := off + j * 2) (u := .int .i64 (k + (totP ps j : Int))) (fun hn => (h.free i hi (hxs hn)).1)
    refine ⟨ao, c, e1, e2, fun hne => ?_⟩
    obtain ⟨b', off', f1, f2, f3⟩ := e3 hne
    refine ⟨b', off', f1, f2, fun t ht => ?_⟩
    rw [h2.cell (World.block_lt_of_cell? _ _ (f3 t ht)) (by rintro ⟨e, hne'⟩; exact hij ((h.free j hj hne').2.2 i hi (hxs hne) (f2.symm.trans e)))]
    exact f3 t ht
  have hsz : (wr.setCell ⟨b, off + j * 2, none⟩ (.int .i64 (k + (totP ps j : Int)))).heap.size = wr.heap.size := by simp
  refine ⟨fun i hi => setb _ _ (by omega) (h.cell i hi), fun i hi => ?_, fun i hi hi' => ?_, fun i hi hi' => ?_, fun i hi hi' => other i hi' (by omega) id (h.todo i (by omega) hi'), fun o => ?_, fun i hi hne => ?_, ?_⟩
  · by_cases e : i = j
    · subst e; exact ⟨_, seta⟩
    · obtain ⟨x, hx⟩ := h.there i hi
      exact ⟨x, setb _ _ (by omega) hx⟩
  · by_cases e : i = j
    · subst e; exact seta
    · exact setb _ _ (by omega) (h.num i (by omega) hi')
  · by_cases e : i = j
    · subst e; exact h1
    · exact other i hi' e (fun hne => by rw [mkI_ne] at hne; intro e0; rw [e0] at hne; exact hne rfl) (h.done i (by omega) hi')
  · obtain ⟨x, hx⟩ := h.there j hj
    rw [h2.frz _ _ (by rw [hsz]; exact World.block_lt_of_cell? _ _ hx), World.frozen?_setCell]; exact h.own o
  · obtain ⟨f1, f2, f3⟩ := h.free i hi hne
    refine ⟨f1, fun o => ?_, f3⟩
    have hlt : B i < wr.heap.size := by
      by_cases e : i < j
      · obtain ⟨b', hb, hl⟩ := (h.done i e hi).lt (mkI_ne.2 (fun e0 => hne (List.eq_nil_of_length_eq_zero e0)))
        exact hb ▸ hl
      · obtain ⟨b', hb, hl⟩ := (h.todo i (by omega) hi).lt hne
        exact hb ▸ hl
    rw [h2.frz _ _ (by rw [hsz]; exact hlt), World.frozen?_setCell]; exact f2 o
  · exact (h.wr.setCell (p := ⟨b, off + j * 2, none⟩) (Or.inl rfl) _).trans (h2.mono fun x ⟨e, hne⟩ => Or.inr ⟨j, hj, hne, e⟩)

end Go.Proofs.YtamknomapabmfaaGreat
/- The walks of the laws' functions that ask whether marks still stand. -/
namespace Go.Proofs.YtamknomapabmfaaGreat
open Go.RowKit
end Go.Proofs.YtamknomapabmfaaGreat
/- What lies in an interval of blocks, and how it is carried from world to world; the laws' functions over a code with a list. -/
namespace Go.Proofs.YtamknomapabmfaaGreat
open Go.RowKit

/-- Numbers in one block of [lo, hi), not frozen. -/
def IvI (lo hi : Nat) (w : World) (v : Value) (xs : List Int) : Prop :=
  ∃ b, RdI (· = b) w v xs ∧ (xs ≠ [] → lo ≤ b ∧ b < hi ∧ b < w.heap.size ∧ ∀ o, w.frozen? ⟨b, o, none⟩ = false)
theorem OwI.iv {B : Nat} {w : World} {v : Value} {xs : List Int} (h : OwI B w v xs) : IvI B w.heap.size w v xs := by
  obtain ⟨b, h1, h2⟩ := h
  exact ⟨b, h1, fun hne => ⟨(h2 hne).1, (h2 hne).2.1, (h2 hne).2.1, (h2 hne).2.2⟩⟩
theorem IvI.wr {lo hi : Nat} {T : Nat → Prop} {w w' : World} {v : Value} {xs : List Int} (h : IvI lo hi w v xs) (hw : Wr T w w') (hd : ∀ b, lo ≤ b → b < hi → ¬ T b) : IvI lo hi w' v xs := by
  obtain ⟨b, h1, h2⟩ := h
  refine ⟨b, h1.wr hw (fun hne x hx => by subst hx; exact hd _ (h2 hne).1 (h2 hne).2.1), fun hne => ?_⟩
  obtain ⟨k1, k2, k3, k4⟩ := h2 hne
  exact ⟨k1, k2, Nat.lt_of_lt_of_le k3 hw.size, fun o => by rw [hw.frz _ _ k3]; exact k4 o⟩
theorem IvI.later {lo hi : Nat} {w w' : World} {v : Value} {xs : List Int} (h : IvI lo hi w v xs) (hb : Below w.heap.size w w') : IvI lo hi w' v xs :=
  h.wr (Wr.of_below hb fun _ => False) fun _ _ _ => id
theorem IvI.rd {lo hi : Nat} {w : World} {v : Value} {xs : List Int} (h : IvI lo hi w v xs) : RdI (fun b => lo ≤ b ∧ b < hi) w v xs := by
  obtain ⟨b, h1, h2⟩ := h
  exact h1.narrow fun hne x hx => hx ▸ ⟨(h2 hne).1, (h2 hne).2.1⟩

/-- A disk in [lo, hi). -/
def IvD (lo hi : Nat) (w : World) (u v : Value) (xss : List (List Int)) (ps : List (Int × List Int)) : Prop :=
  ∃ S T : Nat → Prop, hi ≤ w.heap.size ∧ (∀ b, S b → lo ≤ b ∧ b < hi) ∧ (∀ b, T b → lo ≤ b ∧ b < hi) ∧ (∀ b, S b → ¬ T b) ∧ OwII S w u xss ∧ OwP T w v ps
theorem OwD.iv {B : Nat} {w : World} {u v : Value} {xss : List (List Int)} {ps : List (Int × List Int)} (h : OwD B w u v xss ps) : IvD B w.heap.size w u v xss ps := by
  obtain ⟨S, T, h1, h2, h3, h4, h5⟩ := h
  exact ⟨S, T, Nat.le_refl _, h1, h2, h3, h4, h5⟩
theorem IvD.wr {lo hi : Nat} {V : Nat → Prop} {w w' : World} {u v : Value} {xss : List (List Int)} {ps : List (Int × List Int)} (h : IvD lo hi w u v xss ps) (hw : Wr V w w') (hd : ∀ b, lo ≤ b → b < hi → ¬ V b) : IvD lo hi w' u v xss ps := by
  obtain ⟨S, T, h0, h1, h2, h3, h4, h5⟩ := h
  exact ⟨S, T, Nat.le_trans h0 hw.size, h1, h2, h3, h4.wr hw fun b hb => hd b (h1 b hb).1 (h1 b hb).2, h5.wr hw fun b hb => hd b (h2 b hb).1 (h2 b hb).2⟩
theorem IvD.later {lo hi : Nat} {w w' : World} {u v : Value} {xss : List (List Int)} {ps : List (Int × List Int)} (h : IvD lo hi w u v xss ps) (hb : Below w.heap.size w w') : IvD lo hi w' u v xss ps :=
  h.wr (Wr.of_below hb fun _ => False) fun _ _ _ => id
theorem IvD.rdII {lo hi : Nat} {w : World} {u v : Value} {xss : List (List Int)} {ps : List (Int × List Int)} (h : IvD lo hi w u v xss ps) : RdII (fun b => lo ≤ b ∧ b < hi) w u xss := by
  obtain ⟨S, T, h0, h1, h2, h3, h4, h5⟩ := h
  exact (h4.mono h1).rd
theorem IvD.rdP {lo hi : Nat} {w : World} {u v : Value} {xss : List (List Int)} {ps : List (Int × List Int)} (h : IvD lo hi w u v xss ps) : RdP (fun b => lo ≤ b ∧ b < hi) w v ps := by
  obtain ⟨S, T, h0, h1, h2, h3, h4, h5⟩ := h
  exact (h5.mono h2).rd

/-- A disk in [lo, hi) whose marks stand from k on. -/
def MkD (k : Int) (lo hi : Nat) (w : World) (u v : Value) (xss : List (List Int)) (ps : List (Int × List Int)) : Prop :=
  ∃ S T : Nat → Prop, (∀ b, S b → lo ≤ b ∧ b < hi) ∧ (∀ b, T b → lo ≤ b ∧ b < hi) ∧ RdII S w u (mkII k xss) ∧ RdP T w v (mkP (k + (tot xss xss.length : Int)) ps)
theorem MkD.wr {k : Int} {lo hi : Nat} {V : Nat → Prop} {w w' : World} {u v : Value} {xss : List (List Int)} {ps : List (Int × List Int)} (h : MkD k lo hi w u v xss ps) (hw : Wr V w w') (hd : ∀ b, lo ≤ b → b < hi → ¬ V b) : MkD k lo hi w' u v xss ps := by
  obtain ⟨S, T, h1, h2, hr, hp⟩ := h
  exact ⟨S, T, h1, h2, hr.wr hw fun b hb => hd b (h1 b hb).1 (h1 b hb).2, hp.wr hw fun b hb => hd b (h2 b hb).1 (h2 b hb).2⟩
theorem MkD.later {k : Int} {lo hi : Nat} {w w' : World} {u v : Value} {xss : List (List Int)} {ps : List (Int × List Int)} (h : MkD k lo hi w u v xss ps) (hb : Below w.heap.size w w') : MkD k lo hi w' u v xss ps :=
  h.wr (Wr.of_below hb fun _ => False) fun _ _ _ => id

/-- Numbers in [lo, hi) whose marks stand from k on. -/
def MkI (k : Int) (lo hi : Nat) (w : World) (v : Value) (n : Nat) : Prop := RdI (fun b => lo ≤ b ∧ b < hi) w v (mkI k n)
theorem MkI.wr {k : Int} {lo hi : Nat} {V : Nat → Prop} {w w' : World} {v : Value} {n : Nat} (h : MkI k lo hi w v n) (hw : Wr V w w') (hd : ∀ b, lo ≤ b → b < hi → ¬ V b) : MkI k lo hi w' v n :=
  RdI.wr h hw fun _ b hb => hd b hb.1 hb.2
theorem MkI.later {k : Int} {lo hi : Nat} {w w' : World} {v : Value} {n : Nat} (h : MkI k lo hi w v n) (hb : Below w.heap.size w w') : MkI k lo hi w' v n := RdI.later h hb

/-- Two cells of a variable. -/
def Var2 (w : World) (b : Nat) (x y : Value) : Prop := w.cell? ⟨b, 0, none⟩ = some x ∧ w.cell? ⟨b, 1, none⟩ = some y
theorem Var2.later {w w' : World} {b : Nat} {x y : Value} (h : Var2 w b x y) (hb : Below w.heap.size w w') : Var2 w' b x y := ⟨cell_later hb h.1, cell_later hb h.2⟩
theorem Var2.wr {S : Nat → Prop} {w w' : World} {b : Nat} {x y : Value} (h : Var2 w b x y) (hb : Wr S w w') (hd : ¬ S b) : Var2 w' b x y := ⟨cell_wr hb h.1 hd, cell_wr hb h.2 hd⟩
theorem Var2.lt {w : World} {b : Nat} {x y : Value} (h : Var2 w b x y) : b < w.heap.size := World.block_lt_of_cell? _ _ h.1
theorem Var2_new (w : World) (x y : Value) (t : TypeId) : Var2 (w.alloc (.cells #[x, y] t)) w.heap.size x y := by
  refine ⟨?_, ?_⟩ <;> simp [go_sem]

/-- Three cells of a variable. -/
def Var3 (w : World) (b : Nat) (x y z : Value) : Prop := w.cell? ⟨b, 0, none⟩ = some x ∧ w.cell? ⟨b, 1, none⟩ = some y ∧ w.cell? ⟨b, 2, none⟩ = some z
theorem Var3.later {w w' : World} {b : Nat} {x y z : Value} (h : Var3 w b x y z) (hb : Below w.heap.size w w') : Var3 w' b x y z :=
  ⟨cell_later hb h.1, cell_later hb h.2.1, cell_later hb h.2.2⟩
theorem Var3.wr {S : Nat → Prop} {w w' : World} {b : Nat} {x y z : Value} (h : Var3 w b x y z) (hb : Wr S w w') (hd : ¬ S b) : Var3 w' b x y z :=
  ⟨cell_wr hb h.1 hd, cell_wr hb h.2.1 hd, cell_wr hb h.2.2 hd⟩
theorem Var3.lt {w : World} {b : Nat} {x y z : Value} (h : Var3 w b x y z) : b < w.heap.size := World.block_lt_of_cell? _ _ h.1
theorem Var3_new (w : World) (x y z : Value) (t : TypeId) : Var3 (w.alloc (.cells #[x, y, z] t)) w.heap.size x y z := by
  refine ⟨?_, ?_, ?_⟩ <;> simp [go_sem]

/-- What a call that ends in a code and a disk is to leave. -/
def EndsD (x : Int) (xss : List (List Int)) (ps : List (Int × List Int)) (w : World) (e : Ending) (w' : World) : Prop :=
  ∃ u v, e = .returned (.agg #[.int .i64 x, u, v]) ∧ Below w.heap.size w w' ∧ OwD w.heap.size w' u v xss ps

/-- What a call that ends in a code and a list is to leave. -/
def EndsI (x : Int) (xs : List Int) (w : World) (e : Ending) (w' : World) : Prop :=
  ∃ z, e = .returned (.agg #[.int .i64 x, z]) ∧ Below w.heap.size w w' ∧ OwI w.heap.size w' z xs
end Go.Proofs.YtamknomapabmfaaGreat
/- 'DiskFault' of the program and of the model, walked. -/
namespace Go.Proofs.YtamknomapabmfaaGreat
open Go.RowKit
theorem RdII.at {S : Nat → Prop} {w : World} {ao : Option Addr} {n c : Nat} {xss : List (List Int)} (h : RdII S w (.slice ao n c) xss) {k : Nat} (hk : k < xss.length) :
    ∃ b off V, ao = some ⟨b, off, none⟩ ∧ w.cell? ⟨b, off + k, none⟩ = some V ∧ RdI S w V (xss.getD k []) := by
  obtain ⟨ao', c', e, _, h3⟩ := h
  injection e with e1 e2 e3
  subst e1
  obtain ⟨b, off, V, rfl, _, hc⟩ := h3 (by rintro rfl; exact absurd hk (Nat.not_lt_zero _))
  exact ⟨b, off, V k, rfl, (hc k hk).1, (hc k hk).2⟩

theorem RdP.at {S : Nat → Prop} {w : World} {ao : Option Addr} {n c : Nat} {ps : List (Int × List Int)} (h : RdP S w (.slice ao n c) ps) {k : Nat} (hk : k < ps.length) :
    ∃ b off V, ao = some ⟨b, off, none⟩ ∧ w.cell? ⟨b, off + k * 2, none⟩ = some (.int .i64 (ps.getD k (0, [])).1) ∧ w.cell? ⟨b, off + k * 2 + 1, none⟩ = some V ∧ RdI S w V (ps.getD k (0, [])).2 := by
  obtain ⟨ao', c', e, _, h3⟩ := h
  injection e with e1 e2 e3
  subst e1
  obtain ⟨b, off, V, rfl, _, hc⟩ := h3 (by rintro rfl; exact absurd hk (Nat.not_lt_zero _))
  exact ⟨b, off, V k, rfl, (hc k hk).1, (hc k hk).2.1, (hc k hk).2.2⟩

theorem RdII.shape {S : Nat → Prop} {w : World} {v : Value} {xss : List (List Int)} (h : RdII S w v xss) : ∃ ao c, v = .slice ao xss.length c ∧ xss.length ≤ 9223372036854775807 := by
  obtain ⟨ao, c, h1, h2, _⟩ := h
  exact ⟨ao, c, h1, h2⟩
theorem RdP.shape {S : Nat → Prop} {w : World} {v : Value} {ps : List (Int × List Int)} (h : RdP S w v ps) : ∃ ao c, v = .slice ao ps.length c ∧ ps.length ≤ 9223372036854775807 := by
  obtain ⟨ao, c, h1, h2, _⟩ := h
  exact ⟨ao, c, h1, h2⟩

end Go.Proofs.YtamknomapabmfaaGreat
