/- Eq Sz To in one text: what each says stands at its head below. -/
import Derived.Test.YtcbapclpopbjbaaDoorG01
import Derived.Deep.OwnRows
/- The walks of the laws' comparing functions: two readings of one datum are equal. -/
namespace Go.Proofs.YtcbapclpopbjbaaDoor
open Go.RowKit

theorem eqI_cells (X : Nat → Int) (n b off c b' off' c' : Nat) (w : World) (hm : n ≤ 9223372036854775807)
    (hx : ∀ i, i < n → w.cell? ⟨b, off + i, none⟩ = some (.int .i64 (X i)))
    (hy : ∀ i, i < n → w.cell? ⟨b', off' + i, none⟩ = some (.int .i64 (X i))) :
    Calls Tryd.prog 37 #[.slice (some ⟨b, off, none⟩) n c, .slice (some ⟨b', off', none⟩) n c'] w fun e w' =>
      e = .returned (.bool true) ∧ ∃ q, w' = w.drewN q := by
  go_enter Tryd.func37, Tryd.ntmps37
  go_wp2
  go_loopw [5] (fun i wr => ∃ k q : Nat, k ≤ n ∧ i = .int .i64 k ∧ wr = w.drewN q) (fun i _ => n - (intOf i).toNat)
  case atStart => exact ⟨0, 0, Nat.zero_le _, rfl, rfl⟩
  case round =>
    obtain ⟨k, q, hk, rfl, rfl⟩ := hrel
    by_cases hlt : k < n
    · have g1 := hx k hlt
      have g2 := hy k hlt
      go_wp2
      go_quiet (fail)
      go_wp2
      go_roundw
      case rel => exact ⟨k + 1, _, by omega, by go_num, rfl⟩
      case measure => simp [intOf]; omega
    · go_wp2
      go_ret
      exact ⟨rfl, _, rfl⟩

theorem eqI_none (ao ao' : Option Addr) (c c' : Nat) (w : World) :
    Calls Tryd.prog 37 #[.slice ao 0 c, .slice ao' 0 c'] w fun e w' => e = .returned (.bool true) ∧ ∃ q, w' = w.drewN q := by
  go_enter Tryd.func37, Tryd.ntmps37
  go_wp2
  go_loopw [5] (fun i wr => i = .int .i64 0 ∧ wr = w) (fun _ _ => 0)
  case atStart => exact ⟨rfl, rfl⟩
  case round =>
    obtain ⟨rfl, rfl⟩ := hrel
    go_wp2
    go_ret
    exact ⟨rfl, 0, rfl⟩

/-- 'eqInt64S' of two readings of one list. -/
theorem eqI {S T : Nat → Prop} {w : World} {u v : Value} {xs : List Int} (hu : RdI S w u xs) (hv : RdI T w v xs) :
    Calls Tryd.prog 37 #[u, v] w fun e w' => e = .returned (.bool true) ∧ ∃ q, w' = w.drewN q := by
  obtain ⟨ao, c, rfl, hm, h⟩ := hu
  obtain ⟨ao', c', rfl, _, h'⟩ := hv
  cases xs with
  | nil => exact eqI_none _ _ _ _ _
  | cons x xs =>
    obtain ⟨b, off, rfl, _, hc⟩ := h (by simp)
    obtain ⟨b', off', rfl, _, hc'⟩ := h' (by simp)
    exact eqI_cells (fun i => (x :: xs).getD i 0) _ _ _ _ _ _ _ _ hm hc hc'

end Go.Proofs.YtcbapclpopbjbaaDoor
/- The walks of the laws' functions that reckon sizes. -/
namespace Go.Proofs.YtcbapclpopbjbaaDoor
open Go.RowKit

/-- What is left of 'left' behind s; -1 where it does not suffice. -/
def szv (left s : Int) : Int := if s ≤ left then left - s else -1
theorem szv_yes {left s : Int} (h : s ≤ left) : szv left s = left - s := by unfold szv; rw [if_pos h]
theorem szv_no {left s : Int} (h : left < s) : szv left s = -1 := by unfold szv; rw [if_neg (by omega)]

/-- How many words the first i puts hold. -/
def totW (ps : List (Int × List Int)) (i : Nat) : Nat := ((ps.take i).map fun p => p.2.length).sum
theorem totW_zero (ps : List (Int × List Int)) : totW ps 0 = 0 := by simp [totW]
theorem totW_succ (ps : List (Int × List Int)) (i : Nat) (h : i < ps.length) : totW ps (i + 1) = totW ps i + (ps.getD i (0, [])).2.length := by
  unfold totW
  rw [List.take_succ_eq_append_getElem h]
  simp only [List.map_append, List.sum_append, List.map_cons, List.map_nil, List.sum_cons, List.sum_nil]
  simp [List.getD, h]
theorem totW_le (ps : List (Int × List Int)) : ∀ (i j : Nat), i ≤ j → totW ps i ≤ totW ps j := by
  intro i j h
  unfold totW
  have : ps.take j = ps.take i ++ (ps.drop i).take (j - i) := by
    rw [← List.take_add]; congr 1; omega
  rw [this]; simp
theorem totP_eq (ps : List (Int × List Int)) : ∀ j, j ≤ ps.length → totP ps j = totW ps j + j := by
  intro j
  induction j with
  | zero => intro _; simp [totP, totW]
  | succ j ih => intro h; rw [totP_succ ps j h, totW_succ ps j h, ih (by omega)]; omega

theorem szI (n c : Nat) (ao : Option Addr) (left : Int) (w : World) (hn : n ≤ 9223372036854775807) (h0 : 0 ≤ left) (h1 : left ≤ 1048576) :
    Calls Tryd.prog 28 #[.slice ao n c, .int .i64 left] w fun e w' => e = .returned (.int .i64 (szv left n)) ∧ w' = w := by
  by_cases h : (n : Int) ≤ left
  · rw [szv_yes h]
    go_enter Tryd.func28, Tryd.ntmps28
    go_wp2
    go_ret
    exact ⟨rfl, rfl⟩
  · rw [szv_no (by omega)]
    go_enter Tryd.func28, Tryd.ntmps28
    go_wp2
    go_ret
    exact ⟨rfl, rfl⟩

theorem szI' {S : Nat → Prop} {w : World} {v : Value} {xs : List Int} {left : Int} {m : Nat} (hv : RdI S w v xs) (hl : xs.length = m) (h0 : 0 ≤ left) (h1 : left ≤ 1048576) :
    Calls Tryd.prog 28 #[v, .int .i64 left] w fun e w' => e = .returned (.int .i64 (szv left (m : Int))) ∧ Below w.heap.size w w' := by
  obtain ⟨ao, c, rfl, hm, _⟩ := hv
  subst hl
  exact (szI _ _ _ _ _ hm h0 h1).mono fun e w' ⟨he, hw⟩ => ⟨he, hw ▸ Below.refl _ _⟩

/-- How much a disk holds. -/
def szD (xss : List (List Int)) (ps : List (Int × List Int)) : Int := (xss.length : Int) + (tot xss xss.length : Int) + ((ps.length : Int) + (totW ps ps.length : Int))

end Go.Proofs.YtcbapclpopbjbaaDoor
/- The walks of the laws' copying functions: a copy reads as what was copied, in new blocks of its own. -/
namespace Go.Proofs.YtcbapclpopbjbaaDoor
open Go.RowKit

theorem Tryd.infoInt : (Tryd.prog.info? 2).map (fun i => (i.zero, i.size, i.bytes)) = some (some (.int .i64 0), 1, 8) := by kernel_rfl
theorem Tryd.infoInts : (Tryd.prog.info? 29).map (fun i => (i.zero, i.size, i.bytes)) = some (some (.slice none 0 0), 1, 24) := by kernel_rfl
theorem OwP_nil (S : Nat → Prop) (w : World) : OwP S w (.slice none 0 0) [] :=
  ⟨none, 0, 0, 0, fun _ => .bool false, fun _ => 0, by simp, by simp, fun h => absurd rfl h, fun i hi => absurd hi (Nat.not_lt_zero _)⟩
theorem OwII_nil (S : Nat → Prop) (w : World) : OwII S w (.slice none 0 0) [] :=
  ⟨none, 0, 0, 0, fun _ => .bool false, fun _ => 0, by simp, by simp, fun h => absurd rfl h, fun i hi => absurd hi (Nat.not_lt_zero _)⟩

/-- What the copying loop knows behind j numbers. -/
structure ToAt (X : Nat → Int) (n : Nat) (w : World) (j : Nat) (wr : World) : Prop where
  below : Below w.heap.size w wr
  size : wr.heap.size = w.heap.size + 1
  row : wr.rowIs w.heap.size 2 n (fun i => if i < j then .int .i64 (X i) else .int .i64 0)

theorem ToAt.step {X : Nat → Int} {n : Nat} {w : World} {j : Nat} {wr : World} (h : ToAt X n w j wr) :
    ToAt X n w (j + 1) (wr.setCell ⟨w.heap.size, j, none⟩ (.int .i64 (X j))) := by
  refine ⟨h.below.setCell (Nat.le_refl _) _, by simp [h.size], (h.row.set j (.int .i64 (X j))).congr fun i hi => ?_⟩
  by_cases e : i = j
  · subst e; simp
  · rw [if_neg e]
    by_cases e2 : i < j
    · rw [if_pos e2, if_pos (by omega)]
    · rw [if_neg e2, if_neg (by omega)]

theorem toI_cells (X : Nat → Int) (n b off c : Nat) (w : World) (hm : n ≤ 1048576)
    (hx : ∀ i, i < n → w.cell? ⟨b, off + i, none⟩ = some (.int .i64 (X i))) :
    Calls Tryd.prog 33 #[.slice (some ⟨b, off, none⟩) n c] w fun e w' =>
      e = .returned (.slice (some ⟨w.heap.size, 0, none⟩) n n) ∧ ToAt X n w n w' := by
  have hmk := run_make_row' (P := Tryd.prog) 29 2 (.int .i64 0) 8 Tryd.underlying29 Tryd.infoInt rfl .i64 .i64 n (by omega) (by omega)
  have HX := hide hx
  clear hx
  go_enter Tryd.func33, Tryd.ntmps33
  go_wp2
  go_loopw [4] (fun i wr => ∃ j : Nat, j ≤ n ∧ i = .int .i64 j ∧ Hid (ToAt X n w j wr)) (fun i _ => n - (intOf i).toNat)
  case atStart => exact ⟨0, Nat.zero_le _, rfl, below_alloc _ _, by simp, (World.rowIs_made w (.int .i64 0) n _).congr fun i _ => by simp⟩
  case round =>
    clear hmk
    obtain ⟨j, hj, rfl, HM⟩ := hrel
    by_cases hlt : j < n
    · have g1 := cell_later HM.out.below (HX.out j hlt)
      have g2 := HM.out.row.cell hlt
      have g3 := HM.out.row.frozen j
      simp only [Nat.lt_irrefl, if_false] at g2
      have HS := hide HM.out.step
      go_wp2
      go_roundw
      case rel => exact ⟨j + 1, by omega, by go_num, HS.out⟩
      case measure => simp [intOf]; omega
    · have : j = n := by omega
      subst this
      go_wp2
      go_ret
      exact ⟨rfl, HM.out⟩

theorem toI_none (X : Nat → Int) (ao : Option Addr) (c : Nat) (w : World) :
    Calls Tryd.prog 33 #[.slice ao 0 c] w fun e w' => e = .returned (.slice (some ⟨w.heap.size, 0, none⟩) 0 0) ∧ ToAt X 0 w 0 w' := by
  have hmk := run_make_row' (P := Tryd.prog) 29 2 (.int .i64 0) 8 Tryd.underlying29 Tryd.infoInt rfl .i64 .i64 0 (by omega) (by omega)
  simp only [Int.natCast_zero] at hmk
  go_enter Tryd.func33, Tryd.ntmps33
  go_wp2
  go_loopw [4] (fun i wr => i = .int .i64 0 ∧ wr = w.alloc (.cells (madeCells #[.int .i64 0] 0) 2)) (fun _ _ => 0)
  case atStart => exact ⟨rfl, rfl⟩
  case round =>
    obtain ⟨rfl, rfl⟩ := hrel
    go_wp2
    go_ret
    exact ⟨rfl, below_alloc _ _, by simp, (World.rowIs_made w (.int .i64 0) 0 _).congr fun i _ => by simp⟩

/-- 'toInt64S' of a reading. -/
theorem toI {S : Nat → Prop} {w : World} {v : Value} {xs : List Int} (hv : RdI S w v xs) (hm : xs.length ≤ 1048576) :
    Calls Tryd.prog 33 #[v] w fun e w' =>
      e = .returned (.slice (some ⟨w.heap.size, 0, none⟩) xs.length xs.length) ∧ ToAt (fun i => xs.getD i 0) xs.length w xs.length w' := by
  obtain ⟨ao, c, rfl, _, h⟩ := hv
  by_cases hne : xs = []
  · subst hne; exact toI_none _ _ _ _
  · obtain ⟨b, off, rfl, _, hc⟩ := h hne
    exact toI_cells _ _ _ _ _ _ hm hc

/-- A row of numbers reads as them. -/
theorem rd_row {w : World} {b t : Nat} {xs : List Int} (h : w.rowIs b t xs.length (fun i => .int .i64 (xs.getD i 0))) (hm : xs.length ≤ 9223372036854775807) : RdI (· = b) w (.slice (some ⟨b, 0, none⟩) xs.length xs.length) xs :=
  ⟨_, 0, rfl, hm, fun _ => ⟨b, 0, rfl, rfl, fun i hi => by rw [Nat.zero_add]; exact h.cell hi⟩⟩

theorem ToAt.full {xs : List Int} {w w' : World} (h : ToAt (fun i => xs.getD i 0) xs.length w xs.length w') : w'.rowIs w.heap.size 2 xs.length (fun i => .int .i64 (xs.getD i 0)) :=
  h.row.congr fun i hi => by rw [if_pos hi]

/-- What the loop that copies rows knows behind j of them. -/
structure ToAt2 (xss : List (List Int)) (w : World) (j : Nat) (wr : World) : Prop where
  below : Below w.heap.size w wr
  size : wr.heap.size = w.heap.size + 1 + j
  row : wr.rowIs w.heap.size 29 xss.length (fun i => if i < j then .slice (some ⟨w.heap.size + 1 + i, 0, none⟩) (xss.getD i []).length (xss.getD i []).length else .slice none 0 0)
  rows : ∀ i, i < j → wr.rowIs (w.heap.size + 1 + i) 2 (xss.getD i []).length (fun t => .int .i64 ((xss.getD i []).getD t 0))

theorem ToAt2.step {xss : List (List Int)} {w : World} {j : Nat} {wr w1 : World} (h : ToAt2 xss w j wr) (h1 : ToAt (fun i => (xss.getD j []).getD i 0) (xss.getD j []).length wr (xss.getD j []).length w1) :
    ToAt2 xss w (j + 1) (w1.setCell ⟨w.heap.size, j, none⟩ (.slice (some ⟨wr.heap.size, 0, none⟩) (xss.getD j []).length (xss.getD j []).length)) := by
  have hsz := h.size
  refine ⟨(below_on h.below h1.below).setCell (Nat.le_refl _) _, by simp [h1.size, h.size]; omega, ?_, fun i hi => ?_⟩
  · refine ((h.row.of_block (h1.below.block _ (by omega))).set j _).congr fun i hi => ?_
    by_cases e : i = j
    · subst e; simp [hsz]
    · rw [if_neg e]
      by_cases e2 : i < j
      · rw [if_pos e2, if_pos (by omega)]
      · rw [if_neg e2, if_neg (by omega)]
  · by_cases e : i = j
    · subst e
      have := h1.full.setOther (a := ⟨w.heap.size, i, none⟩) (by simp; omega) (.slice (some ⟨wr.heap.size, 0, none⟩) (xss.getD i []).length (xss.getD i []).length)
      rwa [hsz] at this ⊢
    · exact ((h.rows i (by omega)).of_block (h1.below.block _ (by omega))).setOther (by simp; omega) _

/-- Cell t of the row of puts, j of which are copied; B: the row's block. -/
def putCellAt (ps : List (Int × List Int)) (B j t : Nat) : Value :=
  if t / 2 < j then (if t % 2 = 0 then .int .i64 (ps.getD (t / 2) (0, [])).1 else .slice (some ⟨B + 4 + 4 * (t / 2), 0, none⟩) (ps.getD (t / 2) (0, [])).2.length (ps.getD (t / 2) (0, [])).2.length)
  else (if t % 2 = 0 then .int .i64 0 else .slice none 0 0)

theorem putCellAt_num (ps : List (Int × List Int)) (B j i : Nat) (h : i < j) : putCellAt ps B j (i * 2) = .int .i64 (ps.getD i (0, [])).1 := by
  unfold putCellAt
  rw [show i * 2 / 2 = i by omega, if_pos h, if_pos (by omega)]
theorem putCellAt_words (ps : List (Int × List Int)) (B j i : Nat) (h : i < j) : putCellAt ps B j (i * 2 + 1) = .slice (some ⟨B + 4 + 4 * i, 0, none⟩) (ps.getD i (0, [])).2.length (ps.getD i (0, [])).2.length := by
  unfold putCellAt
  rw [show (i * 2 + 1) / 2 = i by omega, if_pos h, if_neg (by omega)]

theorem made_puts (w : World) (ps : List (Int × List Int)) (n : Nat) (hn : ps.length = n) (t : TypeId) : (w.alloc (.cells (madeCells #[.int .i64 0, .slice none 0 0] (n * 2)) t)).rowIs w.heap.size t (ps.length * 2) (putCellAt ps w.heap.size 0) := by
  subst hn
  refine ⟨_, Deep.blk_alloc_new _ _, size_madeCells _ _, fun i hi => ?_⟩
  unfold putCellAt
  rw [if_neg (Nat.not_lt_zero _)]
  rcases Nat.mod_two_eq_zero_or_one i with e | e <;> simp [madeCells, hi, e]

/-- A disk that lies in blocks of its own, from B on. -/
def OwD (B : Nat) (w : World) (u v : Value) (xss : List (List Int)) (ps : List (Int × List Int)) : Prop :=
  ∃ S T : Nat → Prop, (∀ b, S b → B ≤ b ∧ b < w.heap.size) ∧ (∀ b, T b → B ≤ b ∧ b < w.heap.size) ∧ (∀ b, S b → ¬ T b) ∧ OwII S w u xss ∧ OwP T w v ps

end Go.Proofs.YtcbapclpopbjbaaDoor
