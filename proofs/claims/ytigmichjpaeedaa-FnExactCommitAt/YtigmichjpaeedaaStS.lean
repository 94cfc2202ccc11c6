/- Chapter 3: lists of steps: readings of them, and the laws' helpers over them. -/
import Derived.Test.YtigmichjpaeedaaStep
import Derived.Test.YtigmichjpaeedaaIvP
namespace Go.Proofs.Ytigmichjpaeedaa
open Go.RowKit

/-- A step: whether it is a flush, its place, its words. -/
abbrev St := Bool × Int × List Int
def st0 : St := (false, 0, [])

/-- The slice value v reads as the steps (three cells each), all of them in blocks of S. -/
def RdT (S : Nat → Prop) (w : World) (v : Value) (ts : List St) : Prop :=
  ∃ (ao : Option Addr) (c : Nat), v = .slice ao ts.length c ∧ ts.length ≤ 9223372036854775807 ∧
    (ts ≠ [] → ∃ (b off : Nat) (V : Nat → Value), ao = some ⟨b, off, none⟩ ∧ S b ∧
      ∀ i, i < ts.length → w.cell? ⟨b, off + i * 3, none⟩ = some (.bool (ts.getD i st0).1) ∧ w.cell? ⟨b, off + i * 3 + 1, none⟩ = some (.int .i64 (ts.getD i st0).2.1) ∧ w.cell? ⟨b, off + i * 3 + 2, none⟩ = some (V i) ∧ RdI S w (V i) (ts.getD i st0).2.2)
theorem RdT.shape {S : Nat → Prop} {w : World} {v : Value} {ts : List St} (h : RdT S w v ts) : ∃ ao c, v = .slice ao ts.length c ∧ ts.length ≤ 9223372036854775807 := by
  obtain ⟨ao, c, h1, h2, _⟩ := h
  exact ⟨ao, c, h1, h2⟩
theorem RdT.later {S : Nat → Prop} {w w' : World} {v : Value} {ts : List St} (h : RdT S w v ts) (hb : Below w.heap.size w w') : RdT S w' v ts := by
  obtain ⟨ao, c, h1, h2, h3⟩ := h
  refine ⟨ao, c, h1, h2, fun hne => ?_⟩
  obtain ⟨b, off, V, e, hs, hc⟩ := h3 hne
  exact ⟨b, off, V, e, hs, fun i hi => ⟨cell_later hb (hc i hi).1, cell_later hb (hc i hi).2.1, cell_later hb (hc i hi).2.2.1, (hc i hi).2.2.2.later hb⟩⟩
theorem RdT.wr {S T : Nat → Prop} {w w' : World} {v : Value} {ts : List St} (h : RdT S w v ts) (hw : Wr T w w') (hd : ∀ b, S b → ¬ T b) : RdT S w' v ts := by
  obtain ⟨ao, c, h1, h2, h3⟩ := h
  refine ⟨ao, c, h1, h2, fun hne => ?_⟩
  obtain ⟨b, off, V, e, hs, hc⟩ := h3 hne
  exact ⟨b, off, V, e, hs, fun i hi => ⟨cell_wr hw (hc i hi).1 (hd b hs), cell_wr hw (hc i hi).2.1 (hd b hs), cell_wr hw (hc i hi).2.2.1 (hd b hs), (hc i hi).2.2.2.wr hw (fun _ => hd)⟩⟩

/-- .. its words lie in blocks of their own, each another one; nothing of it is frozen; all in S. -/
def OwT (S : Nat → Prop) (w : World) (v : Value) (ts : List St) : Prop :=
  ∃ (ao : Option Addr) (c b off : Nat) (V : Nat → Value) (B : Nat → Nat), v = .slice ao ts.length c ∧ ts.length ≤ 9223372036854775807 ∧
    (ts ≠ [] → ao = some ⟨b, off, none⟩ ∧ S b ∧ ∀ o, w.frozen? ⟨b, o, none⟩ = false) ∧
    ∀ i, i < ts.length → w.cell? ⟨b, off + i * 3, none⟩ = some (.bool (ts.getD i st0).1) ∧ w.cell? ⟨b, off + i * 3 + 1, none⟩ = some (.int .i64 (ts.getD i st0).2.1) ∧ w.cell? ⟨b, off + i * 3 + 2, none⟩ = some (V i) ∧ RdI (· = B i) w (V i) (ts.getD i st0).2.2 ∧
      ((ts.getD i st0).2.2 ≠ [] → S (B i) ∧ B i ≠ b ∧ (∀ o, w.frozen? ⟨B i, o, none⟩ = false) ∧ ∀ j, j < ts.length → (ts.getD j st0).2.2 ≠ [] → B j = B i → j = i)
theorem OwT.rd {S : Nat → Prop} {w : World} {v : Value} {ts : List St} (h : OwT S w v ts) : RdT S w v ts := by
  obtain ⟨ao, c, b, off, V, B, h1, h2, h3, h4⟩ := h
  refine ⟨ao, c, h1, h2, fun hne => ?_⟩
  obtain ⟨e, hb, _⟩ := h3 hne
  exact ⟨b, off, V, e, hb, fun i hi => ⟨(h4 i hi).1, (h4 i hi).2.1, (h4 i hi).2.2.1, (h4 i hi).2.2.2.1.narrow fun hn x hx => hx ▸ ((h4 i hi).2.2.2.2 hn).1⟩⟩
theorem OwT.wr {S T : Nat → Prop} {w w' : World} {v : Value} {ts : List St} (h : OwT S w v ts) (hw : Wr T w w') (hd : ∀ b, S b → ¬ T b) : OwT S w' v ts := by
  obtain ⟨ao, c, b, off, V, B, h1, h2, h3, h4⟩ := h
  refine ⟨ao, c, b, off, V, B, h1, h2, fun hne => ?_, fun i hi => ?_⟩
  · obtain ⟨q1, q2, q3⟩ := h3 hne
    have hl := World.block_lt_of_cell? _ _ (h4 0 (List.length_pos_iff.2 hne)).1
    exact ⟨q1, q2, fun o => by rw [hw.frz _ _ hl]; exact q3 o⟩
  · obtain ⟨f0, f1, f2, f2', f3⟩ := h4 i hi
    have hne : ts ≠ [] := by rintro rfl; exact absurd hi (Nat.not_lt_zero _)
    refine ⟨cell_wr hw f0 (hd b (h3 hne).2.1), cell_wr hw f1 (hd b (h3 hne).2.1), cell_wr hw f2 (hd b (h3 hne).2.1), f2'.wr hw (fun hn x hx => hx ▸ hd _ (f3 hn).1), fun hn => ?_⟩
    obtain ⟨q1, q2, q3, q4⟩ := f3 hn
    obtain ⟨x, rfl, hl⟩ := f2'.lt hn
    exact ⟨q1, q2, fun o => by rw [hw.frz _ _ hl]; exact q3 o, q4⟩
theorem OwT.mono {S T : Nat → Prop} {w : World} {v : Value} {ts : List St} (h : OwT S w v ts) (hT : ∀ b, S b → T b) : OwT T w v ts := by
  obtain ⟨ao, c, b, off, V, B, h1, h2, h3, h4⟩ := h
  exact ⟨ao, c, b, off, V, B, h1, h2, fun hne => ⟨(h3 hne).1, hT _ (h3 hne).2.1, (h3 hne).2.2⟩, fun i hi => ⟨(h4 i hi).1, (h4 i hi).2.1, (h4 i hi).2.2.1, (h4 i hi).2.2.2.1, fun hn => ⟨hT _ ((h4 i hi).2.2.2.2 hn).1, ((h4 i hi).2.2.2.2 hn).2⟩⟩⟩
theorem OwT.shape {S : Nat → Prop} {w : World} {v : Value} {ts : List St} (h : OwT S w v ts) : ∃ ao c, v = .slice ao ts.length c := by
  obtain ⟨ao, c, _, _, _, _, h1, _⟩ := h
  exact ⟨ao, c, h1⟩
theorem OwT_nil (S : Nat → Prop) (w : World) : OwT S w (.slice none 0 0) [] :=
  ⟨none, 0, 0, 0, fun _ => .bool false, fun _ => 0, rfl, by simp, fun h => absurd rfl h, fun i hi => absurd hi (Nat.not_lt_zero _)⟩

/-- How many marks the first i steps hold. -/
def totS (ts : List St) (i : Nat) : Nat := ((ts.take i).map fun p => p.2.2.length + 2).sum
theorem totS_zero (ts : List St) : totS ts 0 = 0 := by simp [totS]
theorem totS_succ (ts : List St) (i : Nat) (h : i < ts.length) : totS ts (i + 1) = totS ts i + ((ts.getD i st0).2.2.length + 2) := by
  unfold totS
  rw [List.take_succ_eq_append_getElem h]
  simp only [List.map_append, List.sum_append, List.map_cons, List.map_nil, List.sum_cons, List.sum_nil]
  simp [List.getD, h]
theorem totS_le (ts : List St) : ∀ (i j : Nat), i ≤ j → totS ts i ≤ totS ts j := by
  intro i j h
  unfold totS
  have : ts.take j = ts.take i ++ (ts.drop i).take (j - i) := by
    rw [← List.take_add]; congr 1; omega
  rw [this]; simp
def mB (k : Int) : Bool := (k % 3 == 0)
def mkS (k : Int) (ts : List St) : List St :=
  (List.range ts.length).map fun i => (mB (k + (totS ts i : Int)), k + (totS ts i : Int) + 1, mkI (k + (totS ts i : Int) + 1 + 1) (ts.getD i st0).2.2.length)
theorem mkS_len (k : Int) (ts : List St) : (mkS k ts).length = ts.length := by simp [mkS]
theorem mkS_at (k : Int) (ts : List St) (i : Nat) (h : i < ts.length) : (mkS k ts).getD i st0 = (mB (k + (totS ts i : Int)), k + (totS ts i : Int) + 1, mkI (k + (totS ts i : Int) + 1 + 1) (ts.getD i st0).2.2.length) := by simp [mkS, List.getD, h]

theorem eqT_cells (X : Nat → Bool) (Y : Nat → Int) (V V' : Nat → Value) (n b off c b' off' c' : Nat) (w : World) (hm : n ≤ 9223372036854775807)
    (hx : ∀ i, i < n → w.cell? ⟨b, off + i * 3, none⟩ = some (.bool (X i)) ∧ w.cell? ⟨b, off + i * 3 + 1, none⟩ = some (.int .i64 (Y i)) ∧ w.cell? ⟨b, off + i * 3 + 2, none⟩ = some (V i))
    (hy : ∀ i, i < n → w.cell? ⟨b', off' + i * 3, none⟩ = some (.bool (X i)) ∧ w.cell? ⟨b', off' + i * 3 + 1, none⟩ = some (.int .i64 (Y i)) ∧ w.cell? ⟨b', off' + i * 3 + 2, none⟩ = some (V' i))
    (hs : ∀ i, i < n → ∃ xs S T, RdI S w (V i) xs ∧ RdI T w (V' i) xs) :
    Calls Try.prog 16 #[.slice (some ⟨b, off, none⟩) n c, .slice (some ⟨b', off', none⟩) n c'] w fun e w' =>
      e = .returned (.bool true) ∧ Below w.heap.size w w' := by
  have HX := hide hx
  have HY := hide hy
  have HS := hide hs
  clear hx hy hs
  go_enter Try.func16, Try.ntmps16
  go_wp2
  go_loopw [5] (fun i wr => ∃ k : Nat, k ≤ n ∧ i = .int .i64 k ∧ Hid (Below w.heap.size w wr)) (fun i _ => n - (intOf i).toNat)
  case atStart => exact ⟨0, Nat.zero_le _, rfl, Below.refl _ _⟩
  case round =>
    obtain ⟨k, hk, rfl, HB⟩ := hrel
    by_cases hlt : k < n
    · have g0 := cell_later HB.out (HX.out k hlt).1
      have g1 := cell_later HB.out (HX.out k hlt).2.1
      have g2 := cell_later HB.out (HX.out k hlt).2.2
      have g3 := cell_later HB.out (HY.out k hlt).1
      have g4 := cell_later HB.out (HY.out k hlt).2.1
      have g5 := cell_later HB.out (HY.out k hlt).2.2
      obtain ⟨xs, S, T, r1, r2⟩ := HS.out k hlt
      obtain ⟨a1, k1, e1⟩ := r1.shape
      obtain ⟨a2, k2, e2⟩ := r2.shape
      rw [e1] at g2 r1
      rw [e2] at g5 r2
      have R1 := hide (r1.later HB.out)
      have R2 := hide (r2.later HB.out)
      have hk0 : (0 : Int) ≤ (k : Int) := Int.natCast_nonneg _
      have hk1 : (k : Int) < (n : Int) := by omega
      clear r1 r2
      go_wp2_with fail
      go_region_held3 (fun w' => w'.cell? ⟨b, off + k * 3, none⟩ = some (.bool (X k)) ∧ w'.cell? ⟨b, off + k * 3 + 1, none⟩ = some (.int .i64 (Y k)) ∧ w'.cell? ⟨b, off + k * 3 + 2, none⟩ = some (.slice a1 xs.length k1) ∧ w'.cell? ⟨b', off' + k * 3, none⟩ = some (.bool (X k)) ∧ w'.cell? ⟨b', off' + k * 3 + 1, none⟩ = some (.int .i64 (Y k)) ∧ w'.cell? ⟨b', off' + k * 3 + 2, none⟩ = some (.slice a2 xs.length k2)) (first | exact ⟨g0, g1, g2, g3, g4, g5⟩ | exact ⟨c0, c1, c2, c3, c4, c5⟩)
        (first
          | (go_at_call 38; refine (eqStep (X k) (Y k) (R1.out.drewN 1) (R2.out.drewN 1)).mono ?_; rintro e w' ⟨rfl, hb⟩; have c0 := cell_later hb g0; have c1 := cell_later hb g1; have c2 := cell_later hb g2; have c3 := cell_later hb g3; have c4 := cell_later hb g4; have c5 := cell_later hb g5; have HB' := hide hb; clear hb))
      go_wp2
      go_roundw
      case rel => exact ⟨k + 1, by omega, by go_num, below_on HB.out (below_on (below_drewN wr 1) HB'.out)⟩
      case measure => simp [intOf]; omega
    · go_wp2
      go_ret
      exact ⟨rfl, HB.out⟩
theorem eqT_none (ao ao' : Option Addr) (c c' : Nat) (w : World) :
    Calls Try.prog 16 #[.slice ao 0 c, .slice ao' 0 c'] w fun e w' => e = .returned (.bool true) ∧ Below w.heap.size w w' := by
  go_enter Try.func16, Try.ntmps16
  go_wp2
  go_loopw [5] (fun i wr => i = .int .i64 0 ∧ wr = w) (fun _ _ => 0)
  case atStart => exact ⟨rfl, rfl⟩
  case round =>
    obtain ⟨rfl, rfl⟩ := hrel
    go_wp2
    go_ret
    exact ⟨rfl, Below.refl _ _⟩
theorem eqT {S T : Nat → Prop} {w : World} {u v : Value} {ts : List St} (hu : RdT S w u ts) (hv : RdT T w v ts) :
    Calls Try.prog 16 #[u, v] w fun e w' => e = .returned (.bool true) ∧ Below w.heap.size w w' := by
  obtain ⟨ao, c, rfl, hm, h⟩ := hu
  obtain ⟨ao', c', rfl, _, h'⟩ := hv
  by_cases hne : ts = []
  · subst hne; exact eqT_none _ _ _ _ _
  · obtain ⟨b, off, V, rfl, _, hc⟩ := h hne
    obtain ⟨b', off', V', rfl, _, hc'⟩ := h' hne
    exact eqT_cells (fun i => (ts.getD i st0).1) (fun i => (ts.getD i st0).2.1) V V' _ _ _ _ _ _ _ _ hm (fun i hi => ⟨(hc i hi).1, (hc i hi).2.1, (hc i hi).2.2.1⟩) (fun i hi => ⟨(hc' i hi).1, (hc' i hi).2.1, (hc' i hi).2.2.1⟩) (fun i hi => ⟨_, S, T, (hc i hi).2.2.2, (hc' i hi).2.2.2⟩)

/-- What marking has done behind j steps. -/
structure MarkAtS (ts : List St) (b off : Nat) (V : Nat → Value) (B : Nat → Nat) (k : Int) (w : World) (j : Nat) (wr : World) : Prop where
  cell : ∀ i, i < ts.length → wr.cell? ⟨b, off + i * 3 + 2, none⟩ = some (V i)
  th0 : ∀ i, i < ts.length → ∃ x, wr.cell? ⟨b, off + i * 3, none⟩ = some (.bool x)
  th1 : ∀ i, i < ts.length → ∃ x, wr.cell? ⟨b, off + i * 3 + 1, none⟩ = some (.int .i64 x)
  flg : ∀ i, i < j → i < ts.length → wr.cell? ⟨b, off + i * 3, none⟩ = some (.bool (mB (k + (totS ts i : Int))))
  num : ∀ i, i < j → i < ts.length → wr.cell? ⟨b, off + i * 3 + 1, none⟩ = some (.int .i64 (k + (totS ts i : Int) + 1))
  done : ∀ i, i < j → i < ts.length → RdI (· = B i) wr (V i) (mkI (k + (totS ts i : Int) + 1 + 1) (ts.getD i st0).2.2.length)
  todo : ∀ i, j ≤ i → i < ts.length → RdI (· = B i) wr (V i) (ts.getD i st0).2.2
  own : ∀ o, wr.frozen? ⟨b, o, none⟩ = false
  free : ∀ i, i < ts.length → (ts.getD i st0).2.2 ≠ [] → B i ≠ b ∧ (∀ o, wr.frozen? ⟨B i, o, none⟩ = false) ∧ ∀ j, j < ts.length → (ts.getD j st0).2.2 ≠ [] → B j = B i → j = i
  wr : Wr (fun x => x = b ∨ ∃ i, i < ts.length ∧ (ts.getD i st0).2.2 ≠ [] ∧ x = B i) w wr

/-- The two cells of the j-th step are marked. -/
def markCells (b off j : Nat) (k : Int) (wr : World) : World := (wr.setCell ⟨b, off + j * 3, none⟩ (.bool (mB k))).setCell ⟨b, off + j * 3 + 1, none⟩ (.int .i64 (k + 1))
theorem markCells_wr (b off j : Nat) (k : Int) (wr : World) : Wr (· = b) wr (markCells b off j k wr) :=
  ((Wr.refl (· = b) wr).setCell (p := ⟨b, off + j * 3, none⟩) rfl _).setCell (p := ⟨b, off + j * 3 + 1, none⟩) rfl _
theorem MarkAtS.mid {ts : List St} {b off : Nat} {V : Nat → Value} {B : Nat → Nat} {k m : Int} {w : World} {j : Nat} {wr : World} (h : MarkAtS ts b off V B k w j wr) (hj : j < ts.length) :
    RdI (· = B j) (markCells b off j m wr) (V j) (ts.getD j st0).2.2 ∧ ((ts.getD j st0).2.2 ≠ [] → ∀ o, (markCells b off j m wr).frozen? ⟨B j, o, none⟩ = false) :=
  ⟨(h.todo j (Nat.le_refl _) hj).wr (markCells_wr b off j m wr) (fun hn x hx e => (h.free j hj hn).1 (hx ▸ e)), fun hn o => by unfold markCells; rw [World.frozen?_setCell, World.frozen?_setCell]; exact (h.free j hj hn).2.1 o⟩

theorem MarkAtS.step {ts : List St} {b off : Nat} {V : Nat → Value} {B : Nat → Nat} {k : Int} {w : World} {j : Nat} {wr w' : World}
    (h : MarkAtS ts b off V B k w j wr) (hj : j < ts.length) (h1 : RdI (· = B j) w' (V j) (mkI (k + (totS ts j : Int) + 1 + 1) (ts.getD j st0).2.2.length))
    (h2 : Wr (fun x => x = B j ∧ (ts.getD j st0).2.2 ≠ []) (markCells b off j (k + (totS ts j : Int)) wr) w') :
    MarkAtS ts b off V B k w (j + 1) w' := by
  have hmc := markCells_wr b off j (k + (totS ts j : Int)) wr
  obtain ⟨x0, hx0⟩ := h.th0 j hj
  obtain ⟨x1, hx1⟩ := h.th1 j hj
  have hbl : b < wr.heap.size := World.block_lt_of_cell? _ _ hx0
  have hsz : (markCells b off j (k + (totS ts j : Int)) wr).heap.size = wr.heap.size := by simp [markCells]
  have keepb : ∀ o v, (markCells b off j (k + (totS ts j : Int)) wr).cell? ⟨b, o, none⟩ = some v → w'.cell? ⟨b, o, none⟩ = some v := by
    intro o v hv
    rw [h2.cell (World.block_lt_of_cell? _ _ hv) (by rintro ⟨e, hne'⟩; exact (h.free j hj hne').1 e.symm)]
    exact hv
  have setb : ∀ o v, o ≠ off + j * 3 → o ≠ off + j * 3 + 1 → wr.cell? ⟨b, o, none⟩ = some v → w'.cell? ⟨b, o, none⟩ = some v := by
    intro o v ho ho1 hv
    refine keepb o v ?_
    unfold markCells
    rw [World.cell?_setCell_other _ _ _ _ (by intro e; exact ho1 (congrArg Addr.off e).symm), World.cell?_setCell_other _ _ _ _ (by intro e; exact ho (congrArg Addr.off e).symm)]
    exact hv
  have seta : w'.cell? ⟨b, off + j * 3, none⟩ = some (.bool (mB (k + (totS ts j : Int)))) := by
    refine keepb _ _ ?_
    unfold markCells
    rw [World.cell?_setCell_other _ _ _ _ (by intro e; have := congrArg Addr.off e; simp at this)]
    exact World.cell?_setCell_same _ _ _ hx0
  have setn : w'.cell? ⟨b, off + j * 3 + 1, none⟩ = some (.int .i64 (k + (totS ts j : Int) + 1)) := by
    refine keepb _ _ ?_
    unfold markCells
    exact World.cell?_setCell_same _ _ _ ((World.cell?_setCell_other _ _ _ _ (by intro e; have := congrArg Addr.off e; simp at this)).trans hx1)
  have other : ∀ i, i < ts.length → i ≠ j → ∀ {xs : List Int}, (xs ≠ [] → (ts.getD i st0).2.2 ≠ []) → RdI (· = B i) wr (V i) xs → RdI (· = B i) w' (V i) xs := by
    intro i hi hij xs hxs hr
    have hr' := hr.wr hmc (fun hn x hx e => (h.free i hi (hxs hn)).1 (hx ▸ e))
    exact hr'.wr h2 (fun hn x hx => by rintro ⟨e, hne'⟩; exact hij ((h.free j hj hne').2.2 i hi (hxs hn) (hx.symm.trans e)))
  refine ⟨fun i hi => setb _ _ (by omega) (by omega) (h.cell i hi), fun i hi => ?_, fun i hi => ?_, fun i hi hi' => ?_, fun i hi hi' => ?_, fun i hi hi' => ?_, fun i hi hi' => other i hi' (by omega) id (h.todo i (by omega) hi'), fun o => ?_, fun i hi hne => ?_, ?_⟩
  · by_cases e : i = j
    · subst e; exact ⟨_, seta⟩
    · obtain ⟨x, hx⟩ := h.th0 i hi
      exact ⟨x, setb _ _ (by omega) (by omega) hx⟩
  · by_cases e : i = j
    · subst e; exact ⟨_, setn⟩
    · obtain ⟨x, hx⟩ := h.th1 i hi
      exact ⟨x, setb _ _ (by omega) (by omega) hx⟩
  · by_cases e : i = j
    · subst e; exact seta
    · exact setb _ _ (by omega) (by omega) (h.flg i (by omega) hi')
  · by_cases e : i = j
    · subst e; exact setn
    · exact setb _ _ (by omega) (by omega) (h.num i (by omega) hi')
  · by_cases e : i = j
    · subst e; exact h1
    · exact other i hi' e (fun hne => by rw [mkI_ne] at hne; intro e0; rw [e0] at hne; exact hne rfl) (h.done i (by omega) hi')
  · rw [h2.frz _ _ (by rw [hsz]; exact hbl), hmc.frz _ _ hbl]; exact h.own o
  · obtain ⟨f1, f2, f3⟩ := h.free i hi hne
    refine ⟨f1, fun o => ?_, f3⟩
    have hlt : B i < wr.heap.size := by
      by_cases e : i < j
      · obtain ⟨b', hb, hl⟩ := (h.done i e hi).lt (mkI_ne.2 (fun e0 => hne (List.eq_nil_of_length_eq_zero e0)))
        exact hb ▸ hl
      · obtain ⟨b', hb, hl⟩ := (h.todo i (by omega) hi).lt hne
        exact hb ▸ hl
    rw [h2.frz _ _ (by rw [hsz]; exact hlt), hmc.frz _ _ hlt]; exact f2 o
  · exact (h.wr.trans (hmc.mono fun x e => Or.inl e)).trans (h2.mono fun x ⟨e, hne⟩ => Or.inr ⟨j, hj, hne, e⟩)

end Go.Proofs.Ytigmichjpaeedaa
