/- To Small in one text: what each says stands at its head below. -/
import Derived.Test.YtlmaopljihbdkaaGreatG01
import Derived.Deep.OwnRows
import Derived.Test.YtlmaopljihbdkaaGreatG02
namespace Go.Proofs.YtlmaopljihbdkaaGreat
open Go.RowKit
theorem Tryz.infoInt : (Tryz.prog.info? 2).map (fun i => (i.zero, i.size, i.bytes)) = some (some (.int .i64 0), 1, 8) := by kernel_rfl
theorem Tryz.infoInts : (Tryz.prog.info? 22).map (fun i => (i.zero, i.size, i.bytes)) = some (some (.slice none 0 0), 1, 24) := by kernel_rfl
theorem Tryz.infoPut : (Tryz.prog.info? 74).map (fun i => (i.zero, i.size, i.bytes)) = some (some (.agg #[.int .i64 0, .slice none 0 0]), 2, 32) := by kernel_rfl
theorem OwP_nil (S : Nat → Prop) (w : World) : OwP S w (.slice none 0 0) [] :=
  ⟨none, 0, 0, 0, fun _ => .bool false, fun _ => 0, by simp, by simp, fun h => absurd rfl h, fun i hi => absurd hi (Nat.not_lt_zero _)⟩
structure ToAt (X : Nat → Int) (n : Nat) (w : World) (j : Nat) (wr : World) : Prop where
  below : Below w.heap.size w wr
  size : wr.heap.size = w.heap.size + 1
  row : wr.rowIs w.heap.size 2 n (fun i => if i < j then .int .i64 (X i) else .int .i64 0)
theorem ToAt.step {X : Nat → Int} {n : Nat} {w : World} {j : Nat} {wr : World} (h : ToAt X n w j wr) :
    ToAt X n w (j + 1) (wr.setCell ⟨w.heap.size, j, none⟩ (.int .i64 (X j))) := by
  refine ⟨h.below.setCell (Nat.le_refl _) _, by simp [h.size], (h.row.set j (.int .i64 (X j))).congr fun i hi => ?_⟩
  by_cases e : i = j
  · subst e; simp
  · rw [if_neg e]
    by_cases e2 : i < j
    · rw [if_pos e2, if_pos (by omega)]
    · rw [if_neg e2, if_neg (by omega)]
theorem toI_cells (X : Nat → Int) (n b off c : Nat) (w : World) (hm : n ≤ 1048576)
    (hx : ∀ i, i < n → w.cell? ⟨b, off + i, none⟩ = some (.int .i64 (X i))) :
    Calls Tryz.prog 33 #[.slice (some ⟨b, off, none⟩) n c] w fun e w' =>
      e = .returned (.slice (some ⟨w.heap.size, 0, none⟩) n n) ∧ ToAt X n w n w' := by
  have hmk := run_make_row' (P := Tryz.prog) 22 2 (.int .i64 0) 8 Tryz.underlying22 Tryz.infoInt rfl .i64 .i64 n (by omega) (by omega)
  have HX := hide hx
  clear hx
  go_enter Tryz.func33, Tryz.ntmps33
  go_wp2
  go_loopw [4] (fun i wr => ∃ j : Nat, j ≤ n ∧ i = .int .i64 j ∧ Hid (ToAt X n w j wr)) (fun i _ => n - (intOf i).toNat)
  case atStart => exact ⟨0, Nat.zero_le _, rfl, below_alloc _ _, by simp, (World.rowIs_made w (.int .i64 0) n _).congr fun i _ => by simp⟩
  case round =>
    clear hmk
    obtain ⟨j, hj, rfl, HM⟩ := hrel
    by_cases hlt : j < n
    · have g1 := cell_later HM.out.below (HX.out j hlt)
      have g2 := HM.out.row.cell hlt
      have g3 := HM.out.row.frozen j
      simp only [Nat.lt_irrefl, if_false] at g2
      have HS := hide HM.out.step
      go_wp2
      go_roundw
      case rel => exact ⟨j + 1, by omega, by go_num, HS.out⟩
      case measure => simp [intOf]; omega
    · have : j = n := by omega
      subst this
      go_wp2
      go_ret
      exact ⟨rfl, HM.out⟩
theorem toI_none (X : Nat → Int) (ao : Option Addr) (c : Nat) (w : World) :
    Calls Tryz.prog 33 #[.slice ao 0 c] w fun e w' => e = .returned (.slice (some ⟨w.heap.size, 0, none⟩) 0 0) ∧ ToAt X 0 w 0 w' := by
  have hmk := run_make_row' (P := Tryz.prog) 22 2 (.int .i64 0) 8 Tryz.underlying22 Tryz.infoInt rfl .i64 .i64 0 (by omega) (by omega)
  simp only [Int.natCast_zero] at hmk
  go_enter Tryz.func33, Tryz.ntmps33
  go_wp2
  go_loopw [4] (fun i wr => i = .int .i64 0 ∧ wr = w.alloc (.cells (madeCells #[.int .i64 0] 0) 2)) (fun _ _ => 0)
  case atStart => exact ⟨rfl, rfl⟩
  case round =>
    obtain ⟨rfl, rfl⟩ := hrel
    go_wp2
    go_ret
    exact ⟨rfl, below_alloc _ _, by simp, (World.rowIs_made w (.int .i64 0) 0 _).congr fun i _ => by simp⟩
theorem toI {S : Nat → Prop} {w : World} {v : Value} {xs : List Int} (hv : RdI S w v xs) (hm : xs.length ≤ 1048576) :
    Calls Tryz.prog 33 #[v] w fun e w' =>
      e = .returned (.slice (some ⟨w.heap.size, 0, none⟩) xs.length xs.length) ∧ ToAt (fun i => xs.getD i 0) xs.length w xs.length w' := by
  obtain ⟨ao, c, rfl, _, h⟩ := hv
  by_cases hne : xs = []
  · subst hne; exact toI_none _ _ _ _
  · obtain ⟨b, off, rfl, _, hc⟩ := h hne
    exact toI_cells _ _ _ _ _ _ hm hc
theorem rd_row {w : World} {b t : Nat} {xs : List Int} (h : w.rowIs b t xs.length (fun i => .int .i64 (xs.getD i 0))) (hm : xs.length ≤ 9223372036854775807) : RdI (· = b) w (.slice (some ⟨b, 0, none⟩) xs.length xs.length) xs :=
  ⟨_, 0, rfl, hm, fun _ => ⟨b, 0, rfl, rfl, fun i hi => by rw [Nat.zero_add]; exact h.cell hi⟩⟩
theorem ToAt.full {xs : List Int} {w w' : World} (h : ToAt (fun i => xs.getD i 0) xs.length w xs.length w') : w'.rowIs w.heap.size 2 xs.length (fun i => .int .i64 (xs.getD i 0)) :=
  h.row.congr fun i hi => by rw [if_pos hi]
structure ToAt2 (xss : List (List Int)) (w : World) (j : Nat) (wr : World) : Prop where
  below : Below w.heap.size w wr
  size : wr.heap.size = w.heap.size + 1 + j
  row : wr.rowIs w.heap.size 22 xss.length (fun i => if i < j then .slice (some ⟨w.heap.size + 1 + i, 0, none⟩) (xss.getD i []).length (xss.getD i []).length else .slice none 0 0)
  rows : ∀ i, i < j → wr.rowIs (w.heap.size + 1 + i) 2 (xss.getD i []).length (fun t => .int .i64 ((xss.getD i []).getD t 0))
theorem ToAt2.step {xss : List (List Int)} {w : World} {j : Nat} {wr w1 : World} (h : ToAt2 xss w j wr) (h1 : ToAt (fun i => (xss.getD j []).getD i 0) (xss.getD j []).length wr (xss.getD j []).length w1) :
    ToAt2 xss w (j + 1) (w1.setCell ⟨w.heap.size, j, none⟩ (.slice (some ⟨wr.heap.size, 0, none⟩) (xss.getD j []).length (xss.getD j []).length)) := by
  have hsz := h.size
  refine ⟨(below_on h.below h1.below).setCell (Nat.le_refl _) _, by simp [h1.size, h.size]; omega, ?_, fun i hi => ?_⟩
  · refine ((h.row.of_block (h1.below.block _ (by omega))).set j _).congr fun i hi => ?_
    by_cases e : i = j
    · subst e; simp [hsz]
    · rw [if_neg e]
      by_cases e2 : i < j
      · rw [if_pos e2, if_pos (by omega)]
      · rw [if_neg e2, if_neg (by omega)]
  · by_cases e : i = j
    · subst e
      have := h1.full.setOther (a := ⟨w.heap.size, i, none⟩) (by simp; omega) (.slice (some ⟨wr.heap.size, 0, none⟩) (xss.getD i []).length (xss.getD i []).length)
      rwa [hsz] at this ⊢
    · exact ((h.rows i (by omega)).of_block (h1.below.block _ (by omega))).setOther (by simp; omega) _
theorem toII_cells (xss : List (List Int)) (n b off c : Nat) (V : Nat → Value) (w : World) (hn : xss.length = n) (hm : n ≤ 1048576)
    (hx : ∀ i, i < n → w.cell? ⟨b, off + i, none⟩ = some (V i) ∧ (xss.getD i []).length ≤ 1048576 ∧ ∃ S, RdI S w (V i) (xss.getD i [])) :
    Calls Tryz.prog 108 #[.slice (some ⟨b, off, none⟩) n c] w fun e w' =>
      e = .returned (.slice (some ⟨w.heap.size, 0, none⟩) n n) ∧ ToAt2 xss w n w' := by
  have hmk := run_make_row' (P := Tryz.prog) 51 22 (.slice none 0 0) 24 Tryz.underlying51 Tryz.infoInts rfl .i64 .i64 n (by omega) (by omega)
  have HX := hide hx
  have HN := hide hn
  clear hx hn
  go_enter Tryz.func108, Tryz.ntmps108
  go_wp2
  go_loopw [4] (fun i wr => ∃ j : Nat, j ≤ n ∧ i = .int .i64 j ∧ Hid (ToAt2 xss w j wr)) (fun i _ => n - (intOf i).toNat)
  case atStart => exact ⟨0, Nat.zero_le _, rfl, below_alloc _ _, by simp, by rw [HN.out]; exact (World.rowIs_made w (.slice none 0 0) n _).congr fun i _ => by simp, fun i hi => absurd hi (Nat.not_lt_zero _)⟩
  case round =>
    clear hmk
    obtain ⟨j, hj, rfl, HM⟩ := hrel
    by_cases hlt : j < n
    · obtain ⟨q1, ql, S, hR⟩ := HX.out j hlt
      have g1 := cell_later HM.out.below q1
      have HR := hide (hR.later HM.out.below)
      clear q1 hR
      go_wp2_with fail
      refine (toI HR.out ql).mono ?_
      rintro e w1 ⟨rfl, h1⟩
      have hsz := HM.out.size
      have g2 := (HM.out.row.of_block (h1.below.block _ (by omega))).cell (i := j) (by rw [HN.out]; exact hlt)
      have g3 := (HM.out.row.of_block (h1.below.block _ (by omega))).frozen j
      simp only [Nat.lt_irrefl, if_false] at g2
      have HS := hide (HM.out.step h1)
      clear h1 hsz g1 ql
      go_wp2
      go_roundw
      case rel => exact ⟨j + 1, by omega, by go_num, HS.out⟩
      case measure => simp [intOf]; omega
    · have : j = n := by omega
      subst this
      go_wp2
      go_ret
      exact ⟨rfl, HM.out⟩
theorem toII_none (ao : Option Addr) (c : Nat) (w : World) :
    Calls Tryz.prog 108 #[.slice ao 0 c] w fun e w' => e = .returned (.slice (some ⟨w.heap.size, 0, none⟩) 0 0) ∧ ToAt2 [] w 0 w' := by
  have hmk := run_make_row' (P := Tryz.prog) 51 22 (.slice none 0 0) 24 Tryz.underlying51 Tryz.infoInts rfl .i64 .i64 0 (by omega) (by omega)
  simp only [Int.natCast_zero] at hmk
  go_enter Tryz.func108, Tryz.ntmps108
  go_wp2
  go_loopw [4] (fun i wr => i = .int .i64 0 ∧ wr = w.alloc (.cells (madeCells #[.slice none 0 0] 0) 22)) (fun _ _ => 0)
  case atStart => exact ⟨rfl, rfl⟩
  case round =>
    obtain ⟨rfl, rfl⟩ := hrel
    go_wp2
    go_ret
    exact ⟨rfl, below_alloc _ _, by simp, (World.rowIs_made w (.slice none 0 0) 0 _).congr fun i _ => by simp, fun i hi => absurd hi (Nat.not_lt_zero _)⟩
theorem toII {S : Nat → Prop} {w : World} {v : Value} {xss : List (List Int)} (hv : RdII S w v xss) (hm : xss.length ≤ 1048576) (hl : ∀ i, i < xss.length → (xss.getD i []).length ≤ 1048576) :
    Calls Tryz.prog 108 #[v] w fun e w' =>
      ∃ u, e = .returned u ∧ Below w.heap.size w w' ∧ OwII (fun b => w.heap.size ≤ b ∧ b < w'.heap.size) w' u xss := by
  have fin : ∀ w', ToAt2 xss w xss.length w' → Below w.heap.size w w' ∧ OwII (fun b => w.heap.size ≤ b ∧ b < w'.heap.size) w' (.slice (some ⟨w.heap.size, 0, none⟩) xss.length xss.length) xss := by
    intro w' h
    have hsz := h.size
    refine ⟨h.below, _, xss.length, w.heap.size, 0, fun i => .slice (some ⟨w.heap.size + 1 + i, 0, none⟩) (xss.getD i []).length (xss.getD i []).length, fun i => w.heap.size + 1 + i, rfl, by omega, fun _ => ⟨rfl, by omega⟩, fun i hi => ?_⟩
    refine ⟨by have := h.row.cell hi; rw [if_pos hi] at this; rw [Nat.zero_add]; exact this, rd_row (h.rows i hi) (by have := hl i hi; omega), fun _ => ⟨by dsimp only; omega, by dsimp only; omega, fun o => (h.rows i hi).frozen o, fun j hj _ e => by dsimp only at e; omega⟩⟩
  obtain ⟨ao, c, rfl, _, h⟩ := hv
  by_cases hne : xss = []
  · subst hne
    exact (toII_none _ _ _).mono fun e w' ⟨he, hT⟩ => ⟨_, he, fin w' hT⟩
  · obtain ⟨b, off, V, rfl, _, hc⟩ := h hne
    exact (toII_cells xss _ b off c V w rfl hm fun i hi => ⟨(hc i hi).1, hl i hi, S, (hc i hi).2⟩).mono fun e w' ⟨he, hT⟩ => ⟨_, he, fin w' hT⟩
theorem toPut {S : Nat → Prop} {w : World} {v : Value} {x : Int} {xs : List Int} (hv : RdI S w v xs) (hm : xs.length ≤ 1048576) :
    Calls Tryz.prog 49 #[.agg #[.int .i64 x, v]] w fun e w' =>
      e = .returned (.agg #[.int .i64 x, .slice (some ⟨w.heap.size + 1 + 1 + 1, 0, none⟩) xs.length xs.length]) ∧ Below w.heap.size w w' ∧ w'.heap.size = w.heap.size + 1 + 1 + 1 + 1 ∧
        w'.rowIs (w.heap.size + 1 + 1 + 1) 2 xs.length (fun i => .int .i64 (xs.getD i 0)) := by
  have HV := hide hv
  clear hv
  go_enter Tryz.func49, Tryz.ntmps49
  go_wp2_with fail
  refine (toI (((HV.out.later (below_alloc _ _)).later (below_alloc _ _)).later (below_alloc _ _)) hm).mono ?_
  rintro e w1 ⟨rfl, h1⟩
  have hs := h1.size
  obtain ⟨hc, hf⟩ := bcell h1.below
  have H1 := hide h1
  simp only [World.size_alloc] at hs
  clear h1
  go_wp2
  refine bodyPost_ret (v := .agg #[.int .i64 x, .slice (some ⟨w.heap.size + 1 + 1 + 1, 0, none⟩) xs.length xs.length]) (by simp [results, Tryz.results49, go_sem, hc]) rfl ⟨rfl, ?_, ?_, ?_⟩
  · exact (((below_on (below_on (below_on (below_alloc _ _) (below_alloc _ _)) (below_alloc _ _)) H1.out.below).setCell (by simp; omega) _).setCell (by simp) _).setCell (by simp) _
  · simp [hs]
  · have := H1.out.full
    simp only [World.size_alloc] at this
    exact ((this.setOther (by simp) _).setOther (by simp; omega) _).setOther (by simp; omega) _
def putCellAt (ps : List (Int × List Int)) (B j t : Nat) : Value :=
  if t / 2 < j then (if t % 2 = 0 then .int .i64 (ps.getD (t / 2) (0, [])).1 else .slice (some ⟨B + 4 + 4 * (t / 2), 0, none⟩) (ps.getD (t / 2) (0, [])).2.length (ps.getD (t / 2) (0, [])).2.length)
  else (if t % 2 = 0 then .int .i64 0 else .slice none 0 0)
theorem putCellAt_num (ps : List (Int × List Int)) (B j i : Nat) (h : i < j) : putCellAt ps B j (i * 2) = .int .i64 (ps.getD i (0, [])).1 := by
  unfold putCellAt
  rw [show i * 2 / 2 = i by omega, if_pos h, if_pos (by omega)]
theorem putCellAt_words (ps : List (Int × List Int)) (B j i : Nat) (h : i < j) : putCellAt ps B j (i * 2 + 1) = .slice (some ⟨B + 4 + 4 * i, 0, none⟩) (ps.getD i (0, [])).2.length (ps.getD i (0, [])).2.length := by
  unfold putCellAt
  rw [show (i * 2 + 1) / 2 = i by omega, if_pos h, if_neg (by omega)]
structure ToAt3 (ps : List (Int × List Int)) (w : World) (j : Nat) (wr : World) : Prop where
  below : Below w.heap.size w wr
  size : wr.heap.size = w.heap.size + 1 + 4 * j
  row : wr.rowIs w.heap.size 74 (ps.length * 2) (putCellAt ps w.heap.size j)
  rows : ∀ i, i < j → wr.rowIs (w.heap.size + 4 + 4 * i) 2 (ps.getD i (0, [])).2.length (fun t => .int .i64 ((ps.getD i (0, [])).2.getD t 0))
theorem ToAt3.step {ps : List (Int × List Int)} {w : World} {j : Nat} {wr w1 : World} (h : ToAt3 ps w j wr) (hb : Below wr.heap.size wr w1) (hz : w1.heap.size = wr.heap.size + 1 + 1 + 1 + 1)
    (h1 : w1.rowIs (wr.heap.size + 1 + 1 + 1) 2 (ps.getD j (0, [])).2.length (fun i => .int .i64 ((ps.getD j (0, [])).2.getD i 0))) :
    ToAt3 ps w (j + 1) ((w1.setCell ⟨w.heap.size, j * 2, none⟩ (.int .i64 (ps.getD j (0, [])).1)).setCell ⟨w.heap.size, j * 2 + 1, none⟩ (.slice (some ⟨wr.heap.size + 1 + 1 + 1, 0, none⟩) (ps.getD j (0, [])).2.length (ps.getD j (0, [])).2.length)) := by
  have hsz := h.size
  refine ⟨((below_on h.below hb).setCell (Nat.le_refl _) _).setCell (Nat.le_refl _) _, by simp [hz, h.size]; omega, ?_, fun i hi => ?_⟩
  · refine (((h.row.of_block (hb.block _ (by omega))).set (j * 2) _).set (j * 2 + 1) _).congr fun i hi => ?_
    by_cases e : i = j * 2 + 1
    · subst e
      rw [if_pos rfl, putCellAt_words _ _ _ _ (by omega), hsz]
      congr 3
      omega
    · rw [if_neg e]
      by_cases e1 : i = j * 2
      · subst e1
        rw [if_pos rfl, putCellAt_num _ _ _ _ (by omega)]
      · rw [if_neg e1]
        unfold putCellAt
        by_cases e2 : i / 2 < j
        · rw [if_pos e2, if_pos (show i / 2 < j + 1 by omega)]
        · rw [if_neg e2, if_neg (show ¬ i / 2 < j + 1 by omega)]
  · by_cases e : i = j
    · subst e
      have := (h1.setOther (a := ⟨w.heap.size, i * 2, none⟩) (by simp; omega) (.int .i64 (ps.getD i (0, [])).1)).setOther (a := ⟨w.heap.size, i * 2 + 1, none⟩) (by simp; omega) (.slice (some ⟨wr.heap.size + 1 + 1 + 1, 0, none⟩) (ps.getD i (0, [])).2.length (ps.getD i (0, [])).2.length)
      rw [show w.heap.size + 4 + 4 * i = wr.heap.size + 1 + 1 + 1 by omega]
      exact this
    · exact (((h.rows i (by omega)).of_block (hb.block _ (by omega))).setOther (by simp; omega) _).setOther (by simp; omega) _
theorem run_make_put (n : Nat) (hn : n ≤ 1048576) (w : World) :
    (Instr.makeSlice 27 (.int .i64 (n : Int)) (.int .i64 (n : Int))).run Tryz.prog w = .ok (.slice (some ⟨w.heap.size, 0, none⟩) n n) (w.alloc (.cells (madeCells #[.int .i64 0, .slice none 0 0] (n * 2)) 74)) := by
  obtain ⟨i, hi, hz, hs, hb⟩ := info_parts Tryz.infoPut
  have hr := run_make (P := Tryz.prog) w 27 74 i (.agg #[.int .i64 0, .slice none 0 0]) Tryz.underlying27 hi hz .i64 .i64 n n (by omega) (Int.le_refl _) (by rw [hb]; omega) (by omega)
  simp only [Int.toNat_natCast, hs] at hr
  exact hr
theorem made_puts (w : World) (ps : List (Int × List Int)) (n : Nat) (hn : ps.length = n) (t : TypeId) : (w.alloc (.cells (madeCells #[.int .i64 0, .slice none 0 0] (n * 2)) t)).rowIs w.heap.size t (ps.length * 2) (putCellAt ps w.heap.size 0) := by
  subst hn
  refine ⟨_, Deep.blk_alloc_new _ _, size_madeCells _ _, fun i hi => ?_⟩
  unfold putCellAt
  rw [if_neg (Nat.not_lt_zero _)]
  rcases Nat.mod_two_eq_zero_or_one i with e | e <;> simp [madeCells, hi, e]
theorem toP_cells (ps : List (Int × List Int)) (n b off c : Nat) (V : Nat → Value) (w : World) (hn : ps.length = n) (hm : n ≤ 1048576)
    (hx : ∀ i, i < n → w.cell? ⟨b, off + i * 2, none⟩ = some (.int .i64 (ps.getD i (0, [])).1) ∧ w.cell? ⟨b, off + i * 2 + 1, none⟩ = some (V i) ∧ (ps.getD i (0, [])).2.length ≤ 1048576 ∧ ∃ S, RdI S w (V i) (ps.getD i (0, [])).2) :
    Calls Tryz.prog 17 #[.slice (some ⟨b, off, none⟩) n c] w fun e w' =>
      e = .returned (.slice (some ⟨w.heap.size, 0, none⟩) n n) ∧ ToAt3 ps w n w' := by
  have hmk := run_make_put n hm
  have HX := hide hx
  have HN := hide hn
  clear hx hn
  go_enter Tryz.func17, Tryz.ntmps17
  go_wp2
  go_loopw [4] (fun i wr => ∃ j : Nat, j ≤ n ∧ i = .int .i64 j ∧ Hid (ToAt3 ps w j wr)) (fun i _ => n - (intOf i).toNat)
  case atStart => exact ⟨0, Nat.zero_le _, rfl, below_alloc _ _, by simp, made_puts w ps n HN.out _, fun i hi => absurd hi (Nat.not_lt_zero _)⟩
  case round =>
    clear hmk
    obtain ⟨j, hj, rfl, HM⟩ := hrel
    by_cases hlt : j < n
    · obtain ⟨q1, q2, ql, S, hR⟩ := HX.out j hlt
      have g1 := cell_later HM.out.below q1
      have g1' := cell_later HM.out.below q2
      have HR := hide (hR.later HM.out.below)
      clear q1 q2 hR
      go_wp2_with fail
      refine (toPut HR.out ql).mono ?_
      rintro e w1 ⟨rfl, hb, hz, h1⟩
      have hsz := HM.out.size
      have hrow := HM.out.row.of_block (hb.block _ (by omega))
      have g2 := hrow.cell (i := j * 2) (by rw [HN.out]; omega)
      have g2' := hrow.cell (i := j * 2 + 1) (by rw [HN.out]; omega)
      have g3 := hrow.frozen (j * 2)
      have g3' := hrow.frozen (j * 2 + 1)
      have HS := hide (HM.out.step hb hz h1)
      clear h1 hsz g1 g1' ql hb hz hrow
      go_wp2
      go_roundw
      case rel => exact ⟨j + 1, by omega, by go_num, HS.out⟩
      case measure => simp [intOf]; omega
    · have : j = n := by omega
      subst this
      go_wp2
      go_ret
      exact ⟨rfl, HM.out⟩
theorem toP_none (ao : Option Addr) (c : Nat) (w : World) :
    Calls Tryz.prog 17 #[.slice ao 0 c] w fun e w' => e = .returned (.slice (some ⟨w.heap.size, 0, none⟩) 0 0) ∧ ToAt3 [] w 0 w' := by
  have hmk := run_make_put 0 (by omega)
  simp only [Int.natCast_zero] at hmk
  go_enter Tryz.func17, Tryz.ntmps17
  go_wp2
  go_loopw [4] (fun i wr => i = .int .i64 0 ∧ wr = w.alloc (.cells (madeCells #[.int .i64 0, .slice none 0 0] (0 * 2)) 74)) (fun _ _ => 0)
  case atStart => exact ⟨rfl, rfl⟩
  case round =>
    obtain ⟨rfl, rfl⟩ := hrel
    go_wp2
    go_ret
    exact ⟨rfl, below_alloc _ _, by simp, made_puts w [] 0 rfl _, fun i hi => absurd hi (Nat.not_lt_zero _)⟩
theorem toP {S : Nat → Prop} {w : World} {v : Value} {ps : List (Int × List Int)} (hv : RdP S w v ps) (hm : ps.length ≤ 1048576) (hl : ∀ i, i < ps.length → (ps.getD i (0, [])).2.length ≤ 1048576) :
    Calls Tryz.prog 17 #[v] w fun e w' =>
      ∃ u, e = .returned u ∧ Below w.heap.size w w' ∧ OwP (fun b => w.heap.size ≤ b ∧ b < w'.heap.size) w' u ps := by
  have fin : ∀ w', ToAt3 ps w ps.length w' → Below w.heap.size w w' ∧ OwP (fun b => w.heap.size ≤ b ∧ b < w'.heap.size) w' (.slice (some ⟨w.heap.size, 0, none⟩) ps.length ps.length) ps := by
    intro w' h
    have hsz := h.size
    refine ⟨h.below, _, ps.length, w.heap.size, 0, fun i => .slice (some ⟨w.heap.size + 4 + 4 * i, 0, none⟩) (ps.getD i (0, [])).2.length (ps.getD i (0, [])).2.length, fun i => w.heap.size + 4 + 4 * i, rfl, by omega, fun _ => ⟨rfl, by omega, fun o => h.row.frozen o⟩, fun i hi => ?_⟩
    refine ⟨?_, ?_, rd_row (h.rows i hi) (by have := hl i hi; omega), fun _ => ⟨by dsimp only; omega, by dsimp only; omega, fun o => (h.rows i hi).frozen o, fun j hj _ e => by dsimp only at e; omega⟩⟩
    · have := h.row.cell (i := i * 2) (by omega); rw [putCellAt_num _ _ _ _ hi] at this; rw [Nat.zero_add]; exact this
    · have := h.row.cell (i := i * 2 + 1) (by omega); rw [putCellAt_words _ _ _ _ hi] at this; rw [Nat.zero_add]; exact this
  obtain ⟨ao, c, rfl, _, h⟩ := hv
  by_cases hne : ps = []
  · subst hne
    exact (toP_none _ _ _).mono fun e w' ⟨he, hT⟩ => ⟨_, he, fin w' hT⟩
  · obtain ⟨b, off, V, rfl, _, hc⟩ := h hne
    exact (toP_cells ps _ b off c V w rfl hm fun i hi => ⟨(hc i hi).1, (hc i hi).2.1, hl i hi, S, (hc i hi).2.2⟩).mono fun e w' ⟨he, hT⟩ => ⟨_, he, fin w' hT⟩
def OwD (B : Nat) (w : World) (u v : Value) (xss : List (List Int)) (ps : List (Int × List Int)) : Prop :=
  ∃ S T : Nat → Prop, (∀ b, S b → B ≤ b ∧ b < w.heap.size) ∧ (∀ b, T b → B ≤ b ∧ b < w.heap.size) ∧ (∀ b, S b → ¬ T b) ∧ OwII S w u xss ∧ OwP T w v ps
theorem toDisk {S T : Nat → Prop} {w : World} {u v : Value} {xss : List (List Int)} {ps : List (Int × List Int)} (hu : RdII S w u xss) (hv : RdP T w v ps) (hm : xss.length ≤ 1048576) (hl : ∀ i, i < xss.length → (xss.getD i []).length ≤ 1048576)
    (hm' : ps.length ≤ 1048576) (hl' : ∀ i, i < ps.length → (ps.getD i (0, [])).2.length ≤ 1048576) :
    Calls Tryz.prog 58 #[.agg #[u, v]] w fun e w' =>
      ∃ u' v', e = .returned (.agg #[u', v']) ∧ Below w.heap.size w w' ∧ OwD w.heap.size w' u' v' xss ps := by
  have HU := hide hu
  have HV := hide hv
  have HL := hide hl
  have HL' := hide hl'
  clear hu hv hl hl'
  go_enter Tryz.func58, Tryz.ntmps58
  go_wp2_with fail
  refine (toII (((HU.out.later (below_alloc _ _)).later (below_alloc _ _)).later (below_alloc _ _)) hm HL.out).mono ?_
  rintro e w1 ⟨u', rfl, hb1, ho1⟩
  obtain ⟨ao1, c1, rfl⟩ := ho1.shape
  have hs1 := hb1.size
  simp only [World.size_alloc] at hs1
  have hbw := below_on (below_on (below_on (below_alloc _ _) (below_alloc _ _)) (below_alloc _ _)) hb1
  have q0 : w1.cell? ⟨w.heap.size + 1 + 1, 0, none⟩ = some (.slice none 0 0) := cell_later hb1 (by simp [go_sem])
  have q1 : w1.cell? ⟨w.heap.size + 1 + 1, 1, none⟩ = some (.slice none 0 0) := cell_later hb1 (by simp [go_sem])
  have q2 : w1.cell? ⟨w.heap.size + 1, 0, none⟩ = some (.slice none 0 0) := cell_later hb1 (by simp [go_sem])
  have q3 : w1.cell? ⟨w.heap.size + 1, 1, none⟩ = some (.slice none 0 0) := cell_later hb1 (by simp [go_sem])
  have q4 : w1.cell? ⟨w.heap.size, 1, none⟩ = some v := cell_later hb1 (by simp [go_sem])
  have r0 : ∀ o, w1.frozen? ⟨w.heap.size + 1 + 1, o, none⟩ = false := fun o => ((bcell hb1).2 _ _ (by simp)).trans (by simp [go_sem])
  have r1 : ∀ o, w1.frozen? ⟨w.heap.size + 1, o, none⟩ = false := fun o => ((bcell hb1).2 _ _ (by simp)).trans (by simp [go_sem])
  have B1 := hide hbw
  have O1 := hide ho1
  have HR0 := hide r0
  have HR1 := hide r1
  have r00 := r0 0
  clear hb1 ho1 hbw r0 r1
  go_wp2_with fail
  refine (toP (HV.out.later (B1.out.setCell (by simp; omega) _)) hm' HL'.out).mono ?_
  rintro e w2 ⟨v', rfl, hb2, ho2⟩
  obtain ⟨ao2, c2, rfl⟩ := ho2.shape
  have k0 : w2.cell? ⟨w.heap.size + 1 + 1, 0, none⟩ = some (.slice ao1 xss.length c1) := cell_later hb2 (World.cell?_setCell_same _ _ _ q0)
  have k1 : w2.cell? ⟨w.heap.size + 1 + 1, 1, none⟩ = some (.slice none 0 0) := cell_later hb2 ((World.cell?_setCell_other _ _ _ _ (by simp)).trans q1)
  have k2 : w2.cell? ⟨w.heap.size + 1, 0, none⟩ = some (.slice none 0 0) := cell_later hb2 ((World.cell?_setCell_other _ _ _ _ (by simp)).trans q2)
  have k3 : w2.cell? ⟨w.heap.size + 1, 1, none⟩ = some (.slice none 0 0) := cell_later hb2 ((World.cell?_setCell_other _ _ _ _ (by simp)).trans q3)
  have f0 : w2.frozen? ⟨w.heap.size + 1 + 1, 1, none⟩ = false := ((bcell hb2).2 _ _ (by simp; omega)).trans (by rw [World.frozen?_setCell]; exact HR0.out 1)
  have f1 : w2.frozen? ⟨w.heap.size + 1, 0, none⟩ = false := ((bcell hb2).2 _ _ (by simp; omega)).trans (by rw [World.frozen?_setCell]; exact HR1.out 0)
  have f2 : w2.frozen? ⟨w.heap.size + 1, 1, none⟩ = false := ((bcell hb2).2 _ _ (by simp; omega)).trans (by rw [World.frozen?_setCell]; exact HR1.out 1)
  have hs2 := hb2.size
  simp only [World.size_setCell] at hs2
  have B2 := hide (below_on (B1.out.setCell (p := ⟨w.heap.size + 1 + 1, 0, none⟩) (by simp; omega) _) hb2)
  have O1b := hide ((O1.out.wr (T := fun x => x = w.heap.size + 1 + 1) (Wr.setCell (p := ⟨w.heap.size + 1 + 1, 0, none⟩) (Wr.refl (fun x => x = w.heap.size + 1 + 1) _) rfl (.slice ao1 xss.length c1)) (fun b hb e => by simp at hb; omega)).later hb2)
  have O2 := hide ho2
  clear hb2 ho2 q0 q1 q2 q3 q4 r00 O1 B1
  go_wp2
  refine bodyPost_ret (v := .agg #[.slice ao1 xss.length c1, .slice ao2 ps.length c2]) (by simp [results, Tryz.results58, go_sem, k2, k3]) rfl ⟨_, _, rfl, ?_, ?_⟩
  · exact ((B2.out.setCell (by simp; omega) _).setCell (by simp) _).setCell (by simp) _
  · have hw : Wr (fun x => x = w.heap.size + 1 + 1 ∨ x = w.heap.size + 1) w2 (((w2.setCell ⟨w.heap.size + 1 + 1, 1, none⟩ (.slice ao2 ps.length c2)).setCell ⟨w.heap.size + 1, 0, none⟩ (.slice ao1 xss.length c1)).setCell ⟨w.heap.size + 1, 1, none⟩ (.slice ao2 ps.length c2)) :=
      (((Wr.refl _ _).setCell (p := ⟨w.heap.size + 1 + 1, 1, none⟩) (Or.inl rfl) _).setCell (p := ⟨w.heap.size + 1, 0, none⟩) (Or.inr rfl) _).setCell (p := ⟨w.heap.size + 1, 1, none⟩) (Or.inr rfl) _
    refine ⟨_, _, ?_, ?_, ?_, O1b.out.wr hw (fun b hb e => by simp at hb; omega), O2.out.wr hw (fun b hb e => by simp at hb; omega)⟩
    · intro b hb; simp at hb ⊢; omega
    · intro b hb; simp at hb ⊢; omega
    · intro b hb hb'; simp at hb hb'; omega
end Go.Proofs.YtlmaopljihbdkaaGreat
namespace Go.Proofs.YtlmaopljihbdkaaGreat
open Go.RowKit
theorem len_le_tot (xss : List (List Int)) (i : Nat) (h : i < xss.length) : (xss.getD i []).length ≤ tot xss xss.length := by
  have h1 := tot_succ xss i h
  have h2 := tot_le xss (i + 1) xss.length h
  omega
theorem len_le_totW (ps : List (Int × List Int)) (i : Nat) (h : i < ps.length) : (ps.getD i (0, [])).2.length ≤ totW ps ps.length := by
  have h1 := totW_succ ps i h
  have h2 := totW_le ps (i + 1) ps.length h
  omega
structure Small (xss : List (List Int)) (ps : List (Int × List Int)) : Prop where
  rows : xss.length ≤ 1048576
  row : ∀ i, i < xss.length → (xss.getD i []).length ≤ 1048576
  puts : ps.length ≤ 1048576
  put : ∀ i, i < ps.length → (ps.getD i (0, [])).2.length ≤ 1048576
  all : tot xss xss.length + totW ps ps.length ≤ 1048576
theorem Small.of {xss : List (List Int)} {ps : List (Int × List Int)} (h : szD xss ps ≤ 1048576) : Small xss ps := by
  unfold szD at h
  exact ⟨by omega, fun i hi => by have := len_le_tot xss i hi; omega, by omega, fun i hi => by have := len_le_totW ps i hi; omega, by omega⟩
theorem OwD.rdII {B : Nat} {w : World} {u v : Value} {xss : List (List Int)} {ps : List (Int × List Int)} (h : OwD B w u v xss ps) : RdII (fun b => B ≤ b ∧ b < w.heap.size) w u xss := by
  obtain ⟨S, T, h1, h2, h3, h4, h5⟩ := h
  exact (h4.mono h1).rd
theorem OwD.rdP {B : Nat} {w : World} {u v : Value} {xss : List (List Int)} {ps : List (Int × List Int)} (h : OwD B w u v xss ps) : RdP (fun b => B ≤ b ∧ b < w.heap.size) w v ps := by
  obtain ⟨S, T, h1, h2, h3, h4, h5⟩ := h
  exact (h5.mono h2).rd
theorem OwD.shape {B : Nat} {w : World} {u v : Value} {xss : List (List Int)} {ps : List (Int × List Int)} (h : OwD B w u v xss ps) : ∃ ao c ao' c', u = .slice ao xss.length c ∧ v = .slice ao' ps.length c' := by
  obtain ⟨S, T, h1, h2, h3, h4, h5⟩ := h
  obtain ⟨ao, c, rfl⟩ := h4.shape
  obtain ⟨ao', c', rfl⟩ := h5.shape
  exact ⟨_, _, _, _, rfl, rfl⟩
end Go.Proofs.YtlmaopljihbdkaaGreat
