/- Ops2 in one text: what each says stands at its head below. -/
import Derived.Test.YtcmdgnemkjfckaaGreatDoorG10
/- Chapter 12: lists of operations among the arguments: copied, marked. Made by program (genops.py). -/
namespace Go.Proofs.YtcmdgnemkjfckaaGreatDoor
open Go.RowKit

/-- An operation in six cells whose memory lies in [L, H). -/
structure OwOp (w : World) (b o : Nat) (y z : Value) (L H : Nat) (r : Rf) : Prop where
  c0 : w.cell? ⟨b, o, none⟩ = some (.int .i64 r.tm)
  c1 : w.cell? ⟨b, o + 1, none⟩ = some (.int .i64 r.vt)
  c2 : w.cell? ⟨b, o + 2, none⟩ = some (.int .i64 r.si)
  c3 : w.cell? ⟨b, o + 3, none⟩ = some (.int .i64 r.st)
  c4 : w.cell? ⟨b, o + 4, none⟩ = some y
  c5 : w.cell? ⟨b, o + 5, none⟩ = some z
  iv : IvR L H w y z r.sn r.lg
theorem OwOp.rd {w : World} {b o : Nat} {y z : Value} {L H : Nat} {r : Rf} (h : OwOp w b o y z L H r) : RdOp w b o y z r :=
  ⟨h.c0, h.c1, h.c2, h.c3, h.c4, h.c5, h.iv.rdI.narrow (fun _ _ _ => trivial), h.iv.rdJ.monoR (fun _ _ => trivial)⟩
theorem OwOp.wr {w w' : World} {T : Nat → Prop} {b o : Nat} {y z : Value} {L H : Nat} {r : Rf} (h : OwOp w b o y z L H r) (hw : Wr T w w') (hb : ¬ T b) (hd : ∀ x, L ≤ x → x < H → ¬ T x) : OwOp w' b o y z L H r :=
  ⟨cell_wr hw h.c0 hb, cell_wr hw h.c1 hb, cell_wr hw h.c2 hb, cell_wr hw h.c3 hb, cell_wr hw h.c4 hb, cell_wr hw h.c5 hb, h.iv.wr hw hd⟩
theorem OwOp.later {w w' : World} {b o : Nat} {y z : Value} {L H : Nat} {r : Rf} (h : OwOp w b o y z L H r) (hb : Below w.heap.size w w') : OwOp w' b o y z L H r :=
  h.wr (Wr.of_below hb fun _ => False) id (fun _ _ _ => id)
/-- The operations of a row of the call's own, each in an interval of its own behind the row. -/
def OwOps (lo hi : Nat) (w : World) (v : Value) (os : List Rf) : Prop :=
  ∃ (b c : Nat) (Y Z : Nat → Value) (L : Nat → Nat), v = .slice (some ⟨b, 0, none⟩) os.length c ∧ os.length ≤ 1048576 ∧ (lo ≤ b ∧ b < hi ∧ hi ≤ w.heap.size) ∧ (∀ o, w.frozen? ⟨b, o, none⟩ = false) ∧ (∀ i j, i ≤ j → j ≤ os.length → L i ≤ L j) ∧ (∀ i, i ≤ os.length → b < L i ∧ L i ≤ hi) ∧ ∀ i, i < os.length → OwOp w b (i * 6) (Y i) (Z i) (L i) (L (i + 1)) (os.getD i rf0)
theorem OwOps.rd {lo hi : Nat} {w : World} {v : Value} {os : List Rf} (h : OwOps lo hi w v os) : RdOps w v os := by
  obtain ⟨b, c, Y, Z, L, h1, h2, _, _, _, _, h7⟩ := h
  exact ⟨_, c, h1, by omega, fun _ => ⟨b, 0, Y, Z, rfl, fun i hi => by rw [Nat.zero_add]; exact (h7 i hi).rd⟩⟩
theorem OwOps.wr {lo hi : Nat} {T : Nat → Prop} {w w' : World} {v : Value} {os : List Rf} (h : OwOps lo hi w v os) (hw : Wr T w w') (hd : ∀ x, lo ≤ x → x < hi → ¬ T x) : OwOps lo hi w' v os := by
  obtain ⟨b, c, Y, Z, L, h1, h2, h3, h4, h5, h6, h7⟩ := h
  exact ⟨b, c, Y, Z, L, h1, h2, ⟨h3.1, h3.2.1, Nat.le_trans h3.2.2 hw.size⟩, fun o => (hw.frz _ _ (by omega)).trans (h4 o), h5, h6, fun i hi => (h7 i hi).wr hw (hd b h3.1 h3.2.1) (fun x k1 k2 => hd x (by have := h6 i (by omega); omega) (by have := h6 (i + 1) (by omega); omega))⟩
theorem OwOps.later {lo hi : Nat} {w w' : World} {v : Value} {os : List Rf} (h : OwOps lo hi w v os) (hb : Below w.heap.size w w') : OwOps lo hi w' v os := h.wr (Wr.of_below hb fun _ => False) (fun _ _ _ => id)
theorem OwOps.up {lo hi lo' : Nat} {w : World} {v : Value} {os : List Rf} (h : OwOps lo hi w v os) (h1 : lo' ≤ lo) (h2 : hi ≤ w.heap.size) : OwOps lo' w.heap.size w v os := by
  obtain ⟨b, c, Y, Z, L, k1, k2, k3, k4, k5, k6, k7⟩ := h
  exact ⟨b, c, Y, Z, L, k1, k2, ⟨by omega, by omega, Nat.le_refl _⟩, k4, k5, fun i hi => ⟨(k6 i hi).1, Nat.le_trans (k6 i hi).2 h2⟩, k7⟩
theorem OwOps.shape {lo hi : Nat} {w : World} {v : Value} {os : List Rf} (h : OwOps lo hi w v os) : ∃ ao c, v = .slice ao os.length c := by
  obtain ⟨b, c, Y, Z, L, h1, _⟩ := h
  exact ⟨_, c, h1⟩
theorem Tryz.infoOp : (Tryz.prog.info? 68).map (fun i => (i.zero, i.size, i.bytes)) = some (some (.agg #[.int .i64 0, .int .i64 0, .int .i64 0, .int .i64 0, .slice none 0 0, .slice none 0 0]), 6, 80) := by kernel_rfl
theorem run_make_op (n : Nat) (hn : n ≤ 1048576) (w : World) :
    (Instr.makeSlice 62 (.int .i64 (n : Int)) (.int .i64 (n : Int))).run Tryz.prog w = .ok (.slice (some ⟨w.heap.size, 0, none⟩) n n) (w.alloc (.cells (madeCells #[.int .i64 0, .int .i64 0, .int .i64 0, .int .i64 0, .slice none 0 0, .slice none 0 0] (n * 6)) 68)) := by
  obtain ⟨i, hi, hz, hs, hb⟩ := info_parts Tryz.infoOp
  have hr := run_make (P := Tryz.prog) w 62 68 i (.agg #[.int .i64 0, .int .i64 0, .int .i64 0, .int .i64 0, .slice none 0 0, .slice none 0 0]) Tryz.underlying62 hi hz .i64 .i64 n n (by omega) (Int.le_refl _) (by rw [hb]; omega) (by omega)
  simp only [Int.toNat_natCast, hs] at hr
  exact hr
def set6 (w : World) (B o : Nat) (r : Rf) (y z : Value) : World := ((((((w.setCell ⟨B, o, none⟩ (.int .i64 r.tm)).setCell ⟨B, o + 1, none⟩ (.int .i64 r.vt)).setCell ⟨B, o + 2, none⟩ (.int .i64 r.si)).setCell ⟨B, o + 3, none⟩ (.int .i64 r.st)).setCell ⟨B, o + 4, none⟩ (y)).setCell ⟨B, o + 5, none⟩ (z))
theorem set6_0 {w : World} {B o : Nat} {y z x : Value} {r : Rf} (h : w.cell? ⟨B, o, none⟩ = some x) : (set6 w B o r y z).cell? ⟨B, o, none⟩ = some (.int .i64 r.tm) := by
  unfold set6
  rw [World.cell?_setCell_other _ _ _ _ (by simp)]
  rw [World.cell?_setCell_other _ _ _ _ (by simp)]
  rw [World.cell?_setCell_other _ _ _ _ (by simp)]
  rw [World.cell?_setCell_other _ _ _ _ (by simp)]
  rw [World.cell?_setCell_other _ _ _ _ (by simp)]
  refine World.cell?_setCell_same (u := x) _ _ _ ?_
  exact h
theorem set6_1 {w : World} {B o : Nat} {y z x : Value} {r : Rf} (h : w.cell? ⟨B, o + 1, none⟩ = some x) : (set6 w B o r y z).cell? ⟨B, o + 1, none⟩ = some (.int .i64 r.vt) := by
  unfold set6
  rw [World.cell?_setCell_other _ _ _ _ (by simp)]
  rw [World.cell?_setCell_other _ _ _ _ (by simp)]
  rw [World.cell?_setCell_other _ _ _ _ (by simp)]
  rw [World.cell?_setCell_other _ _ _ _ (by simp)]
  refine World.cell?_setCell_same (u := x) _ _ _ ?_
  rw [World.cell?_setCell_other _ _ _ _ (by simp)]
  exact h
theorem set6_2 {w : World} {B o : Nat} {y z x : Value} {r : Rf} (h : w.cell? ⟨B, o + 2, none⟩ = some x) : (set6 w B o r y z).cell? ⟨B, o + 2, none⟩ = some (.int .i64 r.si) := by
  unfold set6
  rw [World.cell?_setCell_other _ _ _ _ (by simp)]
  rw [World.cell?_setCell_other _ _ _ _ (by simp)]
  rw [World.cell?_setCell_other _ _ _ _ (by simp)]
  refine World.cell?_setCell_same (u := x) _ _ _ ?_
  rw [World.cell?_setCell_other _ _ _ _ (by simp)]
  rw [World.cell?_setCell_other _ _ _ _ (by simp)]
  exact h
theorem set6_3 {w : World} {B o : Nat} {y z x : Value} {r : Rf} (h : w.cell? ⟨B, o + 3, none⟩ = some x) : (set6 w B o r y z).cell? ⟨B, o + 3, none⟩ = some (.int .i64 r.st) := by
  unfold set6
  rw [World.cell?_setCell_other _ _ _ _ (by simp)]
  rw [World.cell?_setCell_other _ _ _ _ (by simp)]
  refine World.cell?_setCell_same (u := x) _ _ _ ?_
  rw [World.cell?_setCell_other _ _ _ _ (by simp)]
  rw [World.cell?_setCell_other _ _ _ _ (by simp)]
  rw [World.cell?_setCell_other _ _ _ _ (by simp)]
  exact h
theorem set6_4 {w : World} {B o : Nat} {y z x : Value} {r : Rf} (h : w.cell? ⟨B, o + 4, none⟩ = some x) : (set6 w B o r y z).cell? ⟨B, o + 4, none⟩ = some (y) := by
  unfold set6
  rw [World.cell?_setCell_other _ _ _ _ (by simp)]
  refine World.cell?_setCell_same (u := x) _ _ _ ?_
  rw [World.cell?_setCell_other _ _ _ _ (by simp)]
  rw [World.cell?_setCell_other _ _ _ _ (by simp)]
  rw [World.cell?_setCell_other _ _ _ _ (by simp)]
  rw [World.cell?_setCell_other _ _ _ _ (by simp)]
  exact h
theorem set6_5 {w : World} {B o : Nat} {y z x : Value} {r : Rf} (h : w.cell? ⟨B, o + 5, none⟩ = some x) : (set6 w B o r y z).cell? ⟨B, o + 5, none⟩ = some (z) := by
  unfold set6
  refine World.cell?_setCell_same (u := x) _ _ _ ?_
  rw [World.cell?_setCell_other _ _ _ _ (by simp)]
  rw [World.cell?_setCell_other _ _ _ _ (by simp)]
  rw [World.cell?_setCell_other _ _ _ _ (by simp)]
  rw [World.cell?_setCell_other _ _ _ _ (by simp)]
  rw [World.cell?_setCell_other _ _ _ _ (by simp)]
  exact h
theorem set6_wr (w : World) (B o : Nat) (r : Rf) (y z : Value) : Wr (· = B) w (set6 w B o r y z) := by
  unfold set6
  exact (((((((Wr.refl (· = B) _).setCell (p := ⟨B, o, none⟩) rfl _).setCell (p := ⟨B, o + 1, none⟩) rfl _).setCell (p := ⟨B, o + 2, none⟩) rfl _).setCell (p := ⟨B, o + 3, none⟩) rfl _).setCell (p := ⟨B, o + 4, none⟩) rfl _).setCell (p := ⟨B, o + 5, none⟩) rfl _)
theorem set6_other (w : World) (B o : Nat) (r : Rf) (y z : Value) (q : Nat) (h : ∀ i, i < 6 → q ≠ o + i) : (set6 w B o r y z).cell? ⟨B, q, none⟩ = w.cell? ⟨B, q, none⟩ := by
  have h0 := h 0 (by omega)
  have h1 := h 1 (by omega)
  have h2 := h 2 (by omega)
  have h3 := h 3 (by omega)
  have h4 := h 4 (by omega)
  have h5 := h 5 (by omega)
  unfold set6
  rw [World.cell?_setCell_other _ _ _ _ (by first | (simp; done) | (simp; omega)), World.cell?_setCell_other _ _ _ _ (by first | (simp; done) | (simp; omega)), World.cell?_setCell_other _ _ _ _ (by first | (simp; done) | (simp; omega)), World.cell?_setCell_other _ _ _ _ (by first | (simp; done) | (simp; omega)), World.cell?_setCell_other _ _ _ _ (by first | (simp; done) | (simp; omega)), World.cell?_setCell_other _ _ _ _ (by first | (simp; done) | (simp; omega))]
/-- What the loop that copies operations knows behind j of them. -/
structure ToP (os : List Rf) (w : World) (j : Nat) (wr : World) : Prop where
  below : Below w.heap.size w wr
  lt : w.heap.size < wr.heap.size
  fr : ∀ o, wr.frozen? ⟨w.heap.size, o, none⟩ = false
  th : ∀ o, o < os.length * 6 → ∃ x, wr.cell? ⟨w.heap.size, o, none⟩ = some x
  ex : ∃ (Y Z : Nat → Value) (L : Nat → Nat), (∀ i k, i ≤ k → k ≤ j → L i ≤ L k) ∧ (∀ i, i ≤ j → w.heap.size < L i ∧ L i ≤ wr.heap.size) ∧ ∀ i, i < j → OwOp wr w.heap.size (i * 6) (Y i) (Z i) (L i) (L (i + 1)) (os.getD i rf0)
theorem ToP.start (os : List Rf) (w : World) (n : Nat) (hn : os.length = n) (t : TypeId) : ToP os w 0 (w.alloc (.cells (madeCells #[.int .i64 0, .int .i64 0, .int .i64 0, .int .i64 0, .slice none 0 0, .slice none 0 0] (n * 6)) t)) := by
  refine ⟨below_alloc _ _, by simp, fun o => by simp [go_sem], fun o ho => ?_, fun _ => .bool false, fun _ => .bool false, fun _ => w.heap.size + 1, fun _ _ _ _ => Nat.le_refl _, fun i _ => ⟨Nat.lt_succ_self _, by simp⟩, fun i hi => absurd hi (Nat.not_lt_zero _)⟩
  subst hn
  have h : o < (madeCells #[Value.int .i64 0, .int .i64 0, .int .i64 0, .int .i64 0, .slice none 0 0, .slice none 0 0] (os.length * 6)).size := by rw [size_madeCells]; exact ho
  exact ⟨_, by simp [go_sem, h]; rfl⟩
theorem ToP.step {os : List Rf} {w : World} {j : Nat} {wr w1 : World} {y z : Value} (h : ToP os w j wr) (hj : j < os.length) (hb : Below wr.heap.size wr w1) (hi : IvR wr.heap.size w1.heap.size w1 y z (os.getD j rf0).sn (os.getD j rf0).lg) :
    ToP os w (j + 1) (set6 w1 w.heap.size (j * 6) (os.getD j rf0) y z) := by
  obtain ⟨Y, Z, L, hm, hL, hO⟩ := h.ex
  have hs := hb.size
  have hlt := h.lt
  have hw := set6_wr w1 w.heap.size (j * 6) (os.getD j rf0) y z
  have hc : ∀ o, w1.cell? ⟨w.heap.size, o, none⟩ = wr.cell? ⟨w.heap.size, o, none⟩ := fun o => (bcell hb).1 _ _ hlt
  have th1 : ∀ o, o < os.length * 6 → ∃ x, w1.cell? ⟨w.heap.size, o, none⟩ = some x := fun o ho => by
    obtain ⟨x, hx⟩ := h.th o ho
    exact ⟨x, by rw [hc]; exact hx⟩
  have hsz : (set6 w1 w.heap.size (j * 6) (os.getD j rf0) y z).heap.size = w1.heap.size := by unfold set6; simp
  refine ⟨(below_on h.below hb).trans (hw.below (by omega) (fun b e => by omega)), by omega, fun o => (hw.frz _ _ (by omega)).trans (((bcell hb).2 _ _ hlt).trans (h.fr o)), fun o ho => ?_, fun i => if i = j then y else Y i, fun i => if i = j then z else Z i, fun i => if i = j + 1 then w1.heap.size else L i, ?_, ?_, ?_⟩
  · by_cases hq : ∃ i, i < 6 ∧ o = j * 6 + i
    · obtain ⟨i, hi6, rfl⟩ := hq
      obtain ⟨x, hx⟩ := th1 (j * 6 + i) ho
      match i, hi6 with
      | 0, _ => exact ⟨_, set6_0 hx⟩
      | 1, _ => exact ⟨_, set6_1 hx⟩
      | 2, _ => exact ⟨_, set6_2 hx⟩
      | 3, _ => exact ⟨_, set6_3 hx⟩
      | 4, _ => exact ⟨_, set6_4 hx⟩
      | 5, _ => exact ⟨_, set6_5 hx⟩
    · obtain ⟨x, hx⟩ := th1 o ho
      exact ⟨x, by rw [set6_other _ _ _ _ _ _ _ (fun i hi e => hq ⟨i, hi, e⟩)]; exact hx⟩
  · intro i k hik hk
    by_cases e1 : k = j + 1
    · by_cases e2 : i = j + 1
      · simp [e1, e2]
      · simp only [if_neg e2, if_pos e1]
        have := hL i (by omega)
        omega
    · simp only [if_neg e1, if_neg (show i ≠ j + 1 by omega)]
      exact hm i k hik (by omega)
  · intro i hi'
    by_cases e1 : i = j + 1
    · simp only [if_pos e1]
      omega
    · simp only [if_neg e1]
      have := hL i (by omega)
      omega
  · intro i hi'
    by_cases e1 : i = j
    · subst e1
      simp only [if_true, if_neg (show i ≠ i + 1 by omega)]
      obtain ⟨x0, q0⟩ := th1 (i * 6) (by omega)
      obtain ⟨x1, q1⟩ := th1 (i * 6 + 1) (by omega)
      obtain ⟨x2, q2⟩ := th1 (i * 6 + 2) (by omega)
      obtain ⟨x3, q3⟩ := th1 (i * 6 + 3) (by omega)
      obtain ⟨x4, q4⟩ := th1 (i * 6 + 4) (by omega)
      obtain ⟨x5, q5⟩ := th1 (i * 6 + 5) (by omega)
      have hi2 := (hi.wr hw (fun b k1 k2 e => by omega)).up (lo' := L i) (hL i (Nat.le_refl _)).2 hw.size
      rw [hsz] at hi2
      exact ⟨set6_0 q0, set6_1 q1, set6_2 q2, set6_3 q3, set6_4 q4, set6_5 q5, hi2⟩
    · simp only [if_neg e1, if_neg (show i ≠ j + 1 by omega), if_neg (show i + 1 ≠ j + 1 by omega)]
      have ho := (hO i (by omega)).later hb
      have hl1 := hL i (by omega)
      have oth : ∀ q, q < 6 → (set6 w1 w.heap.size (j * 6) (os.getD j rf0) y z).cell? ⟨w.heap.size, i * 6 + q, none⟩ = w1.cell? ⟨w.heap.size, i * 6 + q, none⟩ := fun q hq => set6_other _ _ _ _ _ _ _ (fun k hk => by omega)
      exact ⟨(oth 0 (by omega)).trans ho.c0, (oth 1 (by omega)).trans ho.c1, (oth 2 (by omega)).trans ho.c2, (oth 3 (by omega)).trans ho.c3, (oth 4 (by omega)).trans ho.c4, (oth 5 (by omega)).trans ho.c5, ho.iv.wr hw (fun b k1 k2 e => by omega)⟩

set_option maxHeartbeats 4000000 in
set_option maxRecDepth 4000 in
theorem toOps {w : World} {v : Value} {os : List Rf} (hv : RdOps w v os) (hm : szOw os ≤ 1048576) :
    Calls Tryz.prog 57 #[v] w fun e w' => ∃ u, e = .returned u ∧ Below w.heap.size w w' ∧ OwOps w.heap.size w'.heap.size w' u os := by
  obtain ⟨ao, c, rfl, _⟩ := hv.shape
  obtain ⟨hn1, hz1⟩ := szOw_each hm
  have HV := hide hv
  have HZ := hide hz1
  obtain ⟨n, hn⟩ : ∃ n, os.length = n := ⟨_, rfl⟩
  have HN := hide hn
  have hmk := run_make_op n (by rw [← hn]; exact hn1)
  have HT0 := hide (ToP.start os w n hn 68)
  rw [hn] at HV HZ hn1 ⊢
  clear hv hz1 hn hm
  go_enter Tryz.func57, Tryz.ntmps57
  go_wp2
  go_loopw [4] (fun i wr => ∃ j : Nat, j ≤ n ∧ i = .int .i64 j ∧ Hid (ToP os w j wr)) (fun i _ => n - (intOf i).toNat)
  case atStart => exact ⟨0, Nat.zero_le _, rfl, HT0.out⟩
  case round =>
    clear hmk HT0
    obtain ⟨j, hj, rfl, HM⟩ := hrel
    by_cases hlt : j < n
    · obtain ⟨b, off, y, z, rfl, hr⟩ := HV.out.at (k := j) (by rw [HN.out]; exact hlt)
      have hjl : j < os.length := by rw [HN.out]; exact hlt
      have HSt := hide (fun w1 y z hb hi => HM.out.step (w1 := w1) (y := y) (z := z) hjl hb hi)
      have hzj := HZ.out j hlt
      have hB := HM.out.lt
      obtain ⟨x0, e0⟩ := HM.out.th (j * 6) (by rw [HN.out]; omega)
      obtain ⟨x1, e1⟩ := HM.out.th (j * 6 + 1) (by rw [HN.out]; omega)
      obtain ⟨x2, e2⟩ := HM.out.th (j * 6 + 2) (by rw [HN.out]; omega)
      obtain ⟨x3, e3⟩ := HM.out.th (j * 6 + 3) (by rw [HN.out]; omega)
      obtain ⟨x4, e4⟩ := HM.out.th (j * 6 + 4) (by rw [HN.out]; omega)
      obtain ⟨x5, e5⟩ := HM.out.th (j * 6 + 5) (by rw [HN.out]; omega)
      have HFr := hide HM.out.fr
      obtain ⟨x, hx⟩ : ∃ x, os.getD j rf0 = x := ⟨_, rfl⟩
      rw [hx] at hr hzj HSt
      clear hx
      obtain ⟨g0, g1, g2, g3, g4, g5, gI, gJ⟩ := hr.later HM.out.below
      obtain ⟨ay, cy, rfl⟩ := gI.shape
      obtain ⟨az, cz, rfl, _⟩ := gJ.shape
      obtain ⟨p, q, e, d, us, vs⟩ := x
      dsimp only at g0 g1 g2 g3 g4 g5 gI gJ HSt
      unfold szR at hzj
      dsimp only at hzj
      have hnn := szU_nonneg vs
      have HC := hide (toOp p q e d gI gJ (by omega) (smallU (qs := vs) (by omega)).1 (smallU (qs := vs) (by omega)).2.1)
      obtain ⟨l, hl⟩ : ∃ l, us.length = l := ⟨_, rfl⟩
      obtain ⟨m, hm⟩ : ∃ m, vs.length = m := ⟨_, rfl⟩
      have HL := hide hl
      have HMm := hide hm
      rw [hl] at g4 HC
      rw [hm] at g5 HC
      have HE0 := hide e0
      have HE1 := hide e1
      have HE2 := hide e2
      have HE3 := hide e3
      have HE4 := hide e4
      have HE5 := hide e5
      have hj0 : (0 : Int) ≤ (j : Int) := by omega
      have hj1 : (j : Int) < (n : Int) := by omega
      have hbl := World.block_lt_of_cell? _ _ g0
      clear gI gJ hr hl hm hzj hnn e0 e1 e2 e3 e4 e5
      go_wp2_with fail
      refine HC.out.mono ?_
      rintro e6 w1 ⟨y1, z1, rfl, hb, ho⟩
      have HS := hide (HSt.out w1 y1 z1 hb ho)
      obtain ⟨a1, k1, b1, j1, hy1, hz1⟩ := ho.shape
      rw [HL.out] at hy1
      rw [HMm.out] at hz1
      subst hy1
      subst hz1
      have r0 := cell_later hb HE0.out
      have r1 := cell_later hb HE1.out
      have r2 := cell_later hb HE2.out
      have r3 := cell_later hb HE3.out
      have r4 := cell_later hb HE4.out
      have r5 := cell_later hb HE5.out
      have f0 := ((bcell hb).2 _ _ hB).trans (HFr.out (j * 6))
      have f1 := ((bcell hb).2 _ _ hB).trans (HFr.out (j * 6 + 1))
      have f2 := ((bcell hb).2 _ _ hB).trans (HFr.out (j * 6 + 2))
      have f3 := ((bcell hb).2 _ _ hB).trans (HFr.out (j * 6 + 3))
      have f4 := ((bcell hb).2 _ _ hB).trans (HFr.out (j * 6 + 4))
      have f5 := ((bcell hb).2 _ _ hB).trans (HFr.out (j * 6 + 5))
      unfold set6 at HS
      clear hb ho g0 g1 g2 g3 g4 g5 HC HSt
      go_wp2
      go_roundw
      case rel => exact ⟨j + 1, by omega, by go_num, HS.out⟩
      case measure => simp [intOf]; omega
    · have hjn : j = n := by omega
      subst hjn
      go_wp2
      go_ret
      refine ⟨_, rfl, HM.out.below, ?_⟩
      obtain ⟨Y, Z, L, q1, q2, q3⟩ := HM.out.ex
      have e := HN.out
      exact ⟨w.heap.size, j, Y, Z, L, by first | (rw [e]; done) | (simp [e]; done) | (rw [e]; rfl), by omega, ⟨Nat.le_refl _, HM.out.lt, Nat.le_refl _⟩, HM.out.fr, by rw [e]; exact q1, by rw [e]; exact q2, by rw [e]; exact q3⟩
end Go.Proofs.YtcmdgnemkjfckaaGreatDoor
