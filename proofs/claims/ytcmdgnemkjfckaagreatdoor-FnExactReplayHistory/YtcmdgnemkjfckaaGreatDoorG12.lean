/- Th2 Ra3 Ra4 in one text: what each says stands at its head below. -/
import Derived.Test.YtcmdgnemkjfckaaGreatDoorG10
import Derived.Test.YtcmdgnemkjfckaaGreatDoorG11
import Derived.Test.YtcmdgnemkjfckaaGreatDoorG09
import Derived.Test.YtcmdgnemkjfckaaGreatDoorG07
import Derived.BigQuiet
/- Chapter 14: lists of threads among the arguments: copied. Made by program (genth.py). -/
namespace Go.Proofs.YtcmdgnemkjfckaaGreatDoor
open Go.RowKit

/-- A thread in three cells whose memory lies in [L, H). -/
structure OwTh (w : World) (b o : Nat) (y : Value) (L H : Nat) (t : Tq) : Prop where
  c0 : w.cell? ⟨b, o, none⟩ = some y
  c1 : w.cell? ⟨b, o + 1, none⟩ = some (.int .i64 t.pc)
  c2 : w.cell? ⟨b, o + 2, none⟩ = some (.int .i64 t.nd)
  iv : OwOps L H w y t.os
theorem OwTh.rd {w : World} {b o : Nat} {y : Value} {L H : Nat} {t : Tq} (h : OwTh w b o y L H t) : RdTh w b o y t := ⟨h.c0, h.c1, h.c2, h.iv.rd⟩
theorem OwTh.wr {w w' : World} {T : Nat → Prop} {b o : Nat} {y : Value} {L H : Nat} {t : Tq} (h : OwTh w b o y L H t) (hw : Wr T w w') (hb : ¬ T b) (hd : ∀ x, L ≤ x → x < H → ¬ T x) : OwTh w' b o y L H t :=
  ⟨cell_wr hw h.c0 hb, cell_wr hw h.c1 hb, cell_wr hw h.c2 hb, h.iv.wr hw hd⟩
theorem OwTh.later {w w' : World} {b o : Nat} {y : Value} {L H : Nat} {t : Tq} (h : OwTh w b o y L H t) (hb : Below w.heap.size w w') : OwTh w' b o y L H t :=
  h.wr (Wr.of_below hb fun _ => False) id (fun _ _ _ => id)
/-- The threads of a row of the call's own, each in an interval of its own behind the row. -/
def OwThs (lo hi : Nat) (w : World) (v : Value) (ts : List Tq) : Prop :=
  ∃ (b c : Nat) (Y : Nat → Value) (L : Nat → Nat), v = .slice (some ⟨b, 0, none⟩) ts.length c ∧ ts.length ≤ 1048576 ∧ (lo ≤ b ∧ b < hi ∧ hi ≤ w.heap.size) ∧ (∀ o, w.frozen? ⟨b, o, none⟩ = false) ∧ (∀ i j, i ≤ j → j ≤ ts.length → L i ≤ L j) ∧ (∀ i, i ≤ ts.length → b < L i ∧ L i ≤ hi) ∧ ∀ i, i < ts.length → OwTh w b (i * 3) (Y i) (L i) (L (i + 1)) (ts.getD i tq0)
theorem OwThs.rd {lo hi : Nat} {w : World} {v : Value} {ts : List Tq} (h : OwThs lo hi w v ts) : RdThs w v ts := by
  obtain ⟨b, c, Y, L, h1, h2, _, _, _, _, h7⟩ := h
  exact ⟨_, c, h1, by omega, fun _ => ⟨b, 0, Y, rfl, fun i hi => by rw [Nat.zero_add]; exact (h7 i hi).rd⟩⟩
theorem OwThs.wr {lo hi : Nat} {T : Nat → Prop} {w w' : World} {v : Value} {ts : List Tq} (h : OwThs lo hi w v ts) (hw : Wr T w w') (hd : ∀ x, lo ≤ x → x < hi → ¬ T x) : OwThs lo hi w' v ts := by
  obtain ⟨b, c, Y, L, h1, h2, h3, h4, h5, h6, h7⟩ := h
  exact ⟨b, c, Y, L, h1, h2, ⟨h3.1, h3.2.1, Nat.le_trans h3.2.2 hw.size⟩, fun o => (hw.frz _ _ (by omega)).trans (h4 o), h5, h6, fun i hi => (h7 i hi).wr hw (hd b h3.1 h3.2.1) (fun x k1 k2 => hd x (by have := h6 i (by omega); omega) (by have := h6 (i + 1) (by omega); omega))⟩
theorem OwThs.later {lo hi : Nat} {w w' : World} {v : Value} {ts : List Tq} (h : OwThs lo hi w v ts) (hb : Below w.heap.size w w') : OwThs lo hi w' v ts := h.wr (Wr.of_below hb fun _ => False) (fun _ _ _ => id)
theorem OwThs.up {lo hi lo' : Nat} {w : World} {v : Value} {ts : List Tq} (h : OwThs lo hi w v ts) (h1 : lo' ≤ lo) (h2 : hi ≤ w.heap.size) : OwThs lo' w.heap.size w v ts := by
  obtain ⟨b, c, Y, L, k1, k2, k3, k4, k5, k6, k7⟩ := h
  exact ⟨b, c, Y, L, k1, k2, ⟨by omega, by omega, Nat.le_refl _⟩, k4, k5, fun i hi => ⟨(k6 i hi).1, Nat.le_trans (k6 i hi).2 h2⟩, k7⟩
theorem OwThs.shape {lo hi : Nat} {w : World} {v : Value} {ts : List Tq} (h : OwThs lo hi w v ts) : ∃ ao c, v = .slice ao ts.length c := by
  obtain ⟨b, c, Y, L, h1, _⟩ := h
  exact ⟨_, c, h1⟩
theorem Tryz.infoTh : (Tryz.prog.info? 64).map (fun i => (i.zero, i.size, i.bytes)) = some (some (.agg #[.slice none 0 0, .int .i64 0, .int .i64 0]), 3, 40) := by kernel_rfl
theorem run_make_th (n : Nat) (hn : n ≤ 1048576) (w : World) :
    (Instr.makeSlice 38 (.int .i64 (n : Int)) (.int .i64 (n : Int))).run Tryz.prog w = .ok (.slice (some ⟨w.heap.size, 0, none⟩) n n) (w.alloc (.cells (madeCells #[.slice none 0 0, .int .i64 0, .int .i64 0] (n * 3)) 64)) := by
  obtain ⟨i, hi, hz, hs, hb⟩ := info_parts Tryz.infoTh
  have hr := run_make (P := Tryz.prog) w 38 64 i (.agg #[.slice none 0 0, .int .i64 0, .int .i64 0]) Tryz.underlying38 hi hz .i64 .i64 n n (by omega) (Int.le_refl _) (by rw [hb]; omega) (by omega)
  simp only [Int.toNat_natCast, hs] at hr
  exact hr
def setT3 (w : World) (B o : Nat) (t : Tq) (y : Value) : World := (((w.setCell ⟨B, o, none⟩ y).setCell ⟨B, o + 1, none⟩ (.int .i64 t.pc)).setCell ⟨B, o + 2, none⟩ (.int .i64 t.nd))
theorem setT3_0 {w : World} {B o : Nat} {y x : Value} {t : Tq} (h : w.cell? ⟨B, o, none⟩ = some x) : (setT3 w B o t y).cell? ⟨B, o, none⟩ = some y := by
  unfold setT3
  rw [World.cell?_setCell_other _ _ _ _ (by simp)]
  rw [World.cell?_setCell_other _ _ _ _ (by simp)]
  exact World.cell?_setCell_same (u := x) _ _ _ h
theorem setT3_1 {w : World} {B o : Nat} {y x : Value} {t : Tq} (h : w.cell? ⟨B, o + 1, none⟩ = some x) : (setT3 w B o t y).cell? ⟨B, o + 1, none⟩ = some (.int .i64 t.pc) := by
  unfold setT3
  rw [World.cell?_setCell_other _ _ _ _ (by simp)]
  refine World.cell?_setCell_same (u := x) _ _ _ ?_
  rw [World.cell?_setCell_other _ _ _ _ (by simp)]
  exact h
theorem setT3_2 {w : World} {B o : Nat} {y x : Value} {t : Tq} (h : w.cell? ⟨B, o + 2, none⟩ = some x) : (setT3 w B o t y).cell? ⟨B, o + 2, none⟩ = some (.int .i64 t.nd) := by
  unfold setT3
  refine World.cell?_setCell_same (u := x) _ _ _ ?_
  rw [World.cell?_setCell_other _ _ _ _ (by simp)]
  rw [World.cell?_setCell_other _ _ _ _ (by simp)]
  exact h
theorem setT3_wr (w : World) (B o : Nat) (t : Tq) (y : Value) : Wr (· = B) w (setT3 w B o t y) := by
  unfold setT3
  exact ((((Wr.refl (· = B) _).setCell (p := ⟨B, o, none⟩) rfl _).setCell (p := ⟨B, o + 1, none⟩) rfl _).setCell (p := ⟨B, o + 2, none⟩) rfl _)
theorem setT3_other (w : World) (B o : Nat) (t : Tq) (y : Value) (q : Nat) (h : ∀ i, i < 3 → q ≠ o + i) : (setT3 w B o t y).cell? ⟨B, q, none⟩ = w.cell? ⟨B, q, none⟩ := by
  have h0 := h 0 (by omega)
  have h1 := h 1 (by omega)
  have h2 := h 2 (by omega)
  unfold setT3
  rw [World.cell?_setCell_other _ _ _ _ (by first | (simp; done) | (simp; omega)), World.cell?_setCell_other _ _ _ _ (by first | (simp; done) | (simp; omega)), World.cell?_setCell_other _ _ _ _ (by first | (simp; done) | (simp; omega))]
/-- What the loop that copies threads knows behind j of them. -/
structure ToH (ts : List Tq) (w : World) (j : Nat) (wr : World) : Prop where
  below : Below w.heap.size w wr
  lt : w.heap.size < wr.heap.size
  fr : ∀ o, wr.frozen? ⟨w.heap.size, o, none⟩ = false
  th : ∀ o, o < ts.length * 3 → ∃ x, wr.cell? ⟨w.heap.size, o, none⟩ = some x
  ex : ∃ (Y : Nat → Value) (L : Nat → Nat), (∀ i k, i ≤ k → k ≤ j → L i ≤ L k) ∧ (∀ i, i ≤ j → w.heap.size < L i ∧ L i ≤ wr.heap.size) ∧ ∀ i, i < j → OwTh wr w.heap.size (i * 3) (Y i) (L i) (L (i + 1)) (ts.getD i tq0)
theorem ToH.start (ts : List Tq) (w : World) (n : Nat) (hn : ts.length = n) (t : TypeId) : ToH ts w 0 (w.alloc (.cells (madeCells #[.slice none 0 0, .int .i64 0, .int .i64 0] (n * 3)) t)) := by
  refine ⟨below_alloc _ _, by simp, fun o => by simp [go_sem], fun o ho => ?_, fun _ => .bool false, fun _ => w.heap.size + 1, fun _ _ _ _ => Nat.le_refl _, fun i _ => ⟨Nat.lt_succ_self _, by simp⟩, fun i hi => absurd hi (Nat.not_lt_zero _)⟩
  subst hn
  have h : o < (madeCells #[Value.slice none 0 0, .int .i64 0, .int .i64 0] (ts.length * 3)).size := by rw [size_madeCells]; exact ho
  exact ⟨_, by simp [go_sem, h]; rfl⟩
theorem ToH.step {ts : List Tq} {w : World} {j : Nat} {wr w1 : World} {y : Value} (h : ToH ts w j wr) (hj : j < ts.length) (hb : Below wr.heap.size wr w1) (hi : OwOps wr.heap.size w1.heap.size w1 y (ts.getD j tq0).os) :
    ToH ts w (j + 1) (setT3 w1 w.heap.size (j * 3) (ts.getD j tq0) y) := by
  obtain ⟨Y, L, hm, hL, hO⟩ := h.ex
  have hs := hb.size
  have hlt := h.lt
  have hw := setT3_wr w1 w.heap.size (j * 3) (ts.getD j tq0) y
  have hc : ∀ o, w1.cell? ⟨w.heap.size, o, none⟩ = wr.cell? ⟨w.heap.size, o, none⟩ := fun o => (bcell hb).1 _ _ hlt
  have th1 : ∀ o, o < ts.length * 3 → ∃ x, w1.cell? ⟨w.heap.size, o, none⟩ = some x := fun o ho => by
    obtain ⟨x, hx⟩ := h.th o ho
    exact ⟨x, by rw [hc]; exact hx⟩
  have hsz : (setT3 w1 w.heap.size (j * 3) (ts.getD j tq0) y).heap.size = w1.heap.size := by unfold setT3; simp
  refine ⟨(below_on h.below hb).trans (hw.below (by omega) (fun b e => by omega)), by omega, fun o => (hw.frz _ _ (by omega)).trans (((bcell hb).2 _ _ hlt).trans (h.fr o)), fun o ho => ?_, fun i => if i = j then y else Y i, fun i => if i = j + 1 then w1.heap.size else L i, ?_, ?_, ?_⟩
  · by_cases hq : ∃ i, i < 3 ∧ o = j * 3 + i
    · obtain ⟨i, hi6, rfl⟩ := hq
      obtain ⟨x, hx⟩ := th1 (j * 3 + i) ho
      match i, hi6 with
      | 0, _ => exact ⟨_, setT3_0 hx⟩
      | 1, _ => exact ⟨_, setT3_1 hx⟩
      | 2, _ => exact ⟨_, setT3_2 hx⟩
    · obtain ⟨x, hx⟩ := th1 o ho
      exact ⟨x, by rw [setT3_other _ _ _ _ _ _ (fun i hi e => hq ⟨i, hi, e⟩)]; exact hx⟩
  · intro i k hik hk
    by_cases e1 : k = j + 1
    · by_cases e2 : i = j + 1
      · simp [e1, e2]
      · simp only [if_neg e2, if_pos e1]
        have := hL i (by omega)
        omega
    · simp only [if_neg e1, if_neg (show i ≠ j + 1 by omega)]
      exact hm i k hik (by omega)
  · intro i hi'
    by_cases e1 : i = j + 1
    · simp only [if_pos e1]
      omega
    · simp only [if_neg e1]
      have := hL i (by omega)
      omega
  · intro i hi'
    by_cases e1 : i = j
    · subst e1
      simp only [if_true, if_neg (show i ≠ i + 1 by omega)]
      obtain ⟨x0, q0⟩ := th1 (i * 3) (by omega)
      obtain ⟨x1, q1⟩ := th1 (i * 3 + 1) (by omega)
      obtain ⟨x2, q2⟩ := th1 (i * 3 + 2) (by omega)
      have hi2 := (hi.wr hw (fun b k1 k2 e => by omega)).up (lo' := L i) (hL i (Nat.le_refl _)).2 hw.size
      rw [hsz] at hi2
      exact ⟨setT3_0 q0, setT3_1 q1, setT3_2 q2, hi2⟩
    · simp only [if_neg e1, if_neg (show i ≠ j + 1 by omega), if_neg (show i + 1 ≠ j + 1 by omega)]
      have ho := (hO i (by omega)).later hb
      have hl1 := hL i (by omega)
      have oth : ∀ q, q < 3 → (setT3 w1 w.heap.size (j * 3) (ts.getD j tq0) y).cell? ⟨w.heap.size, i * 3 + q, none⟩ = w1.cell? ⟨w.heap.size, i * 3 + q, none⟩ := fun q hq => setT3_other _ _ _ _ _ _ (fun k hk => by omega)
      exact ⟨(oth 0 (by omega)).trans ho.c0, (oth 1 (by omega)).trans ho.c1, (oth 2 (by omega)).trans ho.c2, ho.iv.wr hw (fun b k1 k2 e => by omega)⟩

set_option maxHeartbeats 2000000 in
theorem toTh {w : World} {v : Value} {os : List Rf} (pc nd : Int) (hv : RdOps w v os) (hm : szOw os ≤ 1048576) :
    Calls Tryz.prog 31 #[.agg #[v, .int .i64 pc, .int .i64 nd]] w fun e w' => ∃ u, e = .returned (.agg #[u, .int .i64 pc, .int .i64 nd]) ∧ Below w.heap.size w w' ∧ OwOps w.heap.size w'.heap.size w' u os := by
  obtain ⟨ao, c, rfl, _⟩ := hv.shape
  have HV := hide (fun (w' : World) (hb : Below w.heap.size w w') => toOps (hv.later hb) hm)
  obtain ⟨n, hn⟩ : ∃ n, os.length = n := ⟨_, rfl⟩
  have HN := hide hn
  rw [hn] at HV ⊢
  clear hv hn
  have BA := hide (below_on (below_alloc w (.cells #[.slice ao n c, .int .i64 pc, .int .i64 nd] 56)) (below_on (below_alloc _ (.cells #[.slice none 0 0, .int .i64 0, .int .i64 0] 64)) (below_alloc _ (.cells #[.slice none 0 0, .int .i64 0, .int .i64 0] 64))))
  go_enter Tryz.func31, Tryz.ntmps31
  go_wp2_with fail
  refine (HV.out _ BA.out).mono ?_
  rintro e w1 ⟨u1, rfl, hb, ho⟩
  obtain ⟨a1, c1, hu1⟩ := ho.shape
  rw [HN.out] at hu1
  subst hu1
  have v0 : w1.cell? ⟨w.heap.size + 1, 0, none⟩ = some (.slice none 0 0) := cell_later hb (by simp [go_sem])
  have o0 : w1.cell? ⟨w.heap.size + 2, 0, none⟩ = some (.slice none 0 0) := cell_later hb (by simp [go_sem])
  have f0 : w1.frozen? ⟨w.heap.size + 1, 0, none⟩ = false := ((bcell hb).2 _ _ (by simp)).trans (by simp [go_sem])
  have g0 : w1.frozen? ⟨w.heap.size + 2, 0, none⟩ = false := ((bcell hb).2 _ _ (by simp)).trans (by simp [go_sem])
  have v1 : w1.cell? ⟨w.heap.size + 1, 1, none⟩ = some (.int .i64 0) := cell_later hb (by simp [go_sem])
  have o1 : w1.cell? ⟨w.heap.size + 2, 1, none⟩ = some (.int .i64 0) := cell_later hb (by simp [go_sem])
  have f1 : w1.frozen? ⟨w.heap.size + 1, 1, none⟩ = false := ((bcell hb).2 _ _ (by simp)).trans (by simp [go_sem])
  have g1 : w1.frozen? ⟨w.heap.size + 2, 1, none⟩ = false := ((bcell hb).2 _ _ (by simp)).trans (by simp [go_sem])
  have k1 : w1.cell? ⟨w.heap.size, 1, none⟩ = some (.int .i64 pc) := cell_later hb (by simp [go_sem])
  have v2 : w1.cell? ⟨w.heap.size + 1, 2, none⟩ = some (.int .i64 0) := cell_later hb (by simp [go_sem])
  have o2 : w1.cell? ⟨w.heap.size + 2, 2, none⟩ = some (.int .i64 0) := cell_later hb (by simp [go_sem])
  have f2 : w1.frozen? ⟨w.heap.size + 1, 2, none⟩ = false := ((bcell hb).2 _ _ (by simp)).trans (by simp [go_sem])
  have g2 : w1.frozen? ⟨w.heap.size + 2, 2, none⟩ = false := ((bcell hb).2 _ _ (by simp)).trans (by simp [go_sem])
  have k2 : w1.cell? ⟨w.heap.size, 2, none⟩ = some (.int .i64 nd) := cell_later hb (by simp [go_sem])
  have hs1 := hb.size
  simp only [World.size_alloc] at hs1
  have HB := hide (below_on BA.out hb)
  simp only [World.size_alloc] at ho
  have HO := hide ho
  clear hb ho BA
  go_wp2
  refine bodyPost_ret (v := .agg #[.slice a1 n c1, .int .i64 pc, .int .i64 nd]) (by simp [results, Tryz.results31, go_sem, v0, v1, v2]) rfl ⟨_, rfl, ?_, ?_⟩
  · repeat (first | refine Below.setCell ?_ (by first | (simp; done) | (simp; omega) | omega) _ | exact HB.out)
  · have hw : ∀ W, Wr (fun x => x < w.heap.size + 3) w1 W → OwOps w.heap.size W.heap.size W (.slice a1 n c1) os := fun W h => (HO.out.wr h (fun x h1 h2 e => by omega)).up (by omega) h.size
    refine hw _ ?_
    repeat (first | refine Wr.setCell ?_ (by first | (simp; done) | (simp; omega) | omega) _ | exact Wr.refl _ _)

set_option maxHeartbeats 4000000 in
set_option maxRecDepth 4000 in
theorem toThs {w : World} {v : Value} {ts : List Tq} (hv : RdThs w v ts) (hm : szTw ts ≤ 1048576) :
    Calls Tryz.prog 9 #[v] w fun e w' => ∃ u, e = .returned u ∧ Below w.heap.size w w' ∧ OwThs w.heap.size w'.heap.size w' u ts := by
  obtain ⟨ao, c, rfl, _⟩ := hv.shape
  obtain ⟨hn1, hz1⟩ := szTw_each hm
  have HV := hide hv
  have HZ := hide hz1
  obtain ⟨n, hn⟩ : ∃ n, ts.length = n := ⟨_, rfl⟩
  have HN := hide hn
  have hmk := run_make_th n (by rw [← hn]; exact hn1)
  have HT0 := hide (ToH.start ts w n hn 64)
  rw [hn] at HV HZ hn1 ⊢
  clear hv hz1 hn hm
  go_enter Tryz.func9, Tryz.ntmps9
  go_wp2
  go_loopw [4] (fun i wr => ∃ j : Nat, j ≤ n ∧ i = .int .i64 j ∧ Hid (ToH ts w j wr)) (fun i _ => n - (intOf i).toNat)
  case atStart => exact ⟨0, Nat.zero_le _, rfl, HT0.out⟩
  case round =>
    clear hmk HT0
    obtain ⟨j, hj, rfl, HM⟩ := hrel
    by_cases hlt : j < n
    · obtain ⟨b, off, y, rfl, hr⟩ := HV.out.at (k := j) (by rw [HN.out]; exact hlt)
      have hjl : j < ts.length := by rw [HN.out]; exact hlt
      have HSt := hide (fun w1 y hb hi => HM.out.step (w1 := w1) (y := y) hjl hb hi)
      have hzj := HZ.out j hlt
      have hB := HM.out.lt
      obtain ⟨x0, e0⟩ := HM.out.th (j * 3) (by rw [HN.out]; omega)
      obtain ⟨x1, e1⟩ := HM.out.th (j * 3 + 1) (by rw [HN.out]; omega)
      obtain ⟨x2, e2⟩ := HM.out.th (j * 3 + 2) (by rw [HN.out]; omega)
      have HFr := hide HM.out.fr
      obtain ⟨x, hx⟩ : ∃ x, ts.getD j tq0 = x := ⟨_, rfl⟩
      rw [hx] at hr hzj HSt
      clear hx
      obtain ⟨g0, g1, g2, gO⟩ := hr.later HM.out.below
      obtain ⟨us, p, q⟩ := x
      dsimp only at g0 g1 g2 gO HSt hzj
      obtain ⟨ay, cy, rfl, _⟩ := gO.shape
      have HC := hide (toTh p q gO hzj)
      obtain ⟨l, hl⟩ : ∃ l, us.length = l := ⟨_, rfl⟩
      have HL := hide hl
      rw [hl] at g0 HC
      have HE0 := hide e0
      have HE1 := hide e1
      have HE2 := hide e2
      have hj0 : (0 : Int) ≤ (j : Int) := by omega
      have hj1 : (j : Int) < (n : Int) := by omega
      have hbl := World.block_lt_of_cell? _ _ g0
      clear gO hr hl hzj e0 e1 e2
      go_wp2_with fail
      refine HC.out.mono ?_
      rintro e6 w1 ⟨y1, rfl, hb, ho⟩
      have HS := hide (HSt.out w1 y1 hb ho)
      obtain ⟨a1, k1, hy1⟩ := ho.shape
      rw [HL.out] at hy1
      subst hy1
      have r0 := cell_later hb HE0.out
      have r1 := cell_later hb HE1.out
      have r2 := cell_later hb HE2.out
      have f0 := ((bcell hb).2 _ _ hB).trans (HFr.out (j * 3))
      have f1 := ((bcell hb).2 _ _ hB).trans (HFr.out (j * 3 + 1))
      have f2 := ((bcell hb).2 _ _ hB).trans (HFr.out (j * 3 + 2))
      unfold setT3 at HS
      clear hb ho g0 g1 g2 HC HSt
      go_wp2
      go_roundw
      case rel => exact ⟨j + 1, by omega, by go_num, HS.out⟩
      case measure => simp [intOf]; omega
    · have hjn : j = n := by omega
      subst hjn
      go_wp2
      go_ret
      refine ⟨_, rfl, HM.out.below, ?_⟩
      obtain ⟨Y, L, q1, q2, q3⟩ := HM.out.ex
      have e := HN.out
      exact ⟨w.heap.size, j, Y, L, by first | (rw [e]; done) | (simp [e]; done) | (rw [e]; rfl), by omega, ⟨Nat.le_refl _, HM.out.lt, Nat.le_refl _⟩, HM.out.fr, by rw [e]; exact q1, by rw [e]; exact q2, by rw [e]; exact q3⟩
end Go.Proofs.YtcmdgnemkjfckaaGreatDoor
/- Chapter 10: the fault of a store, of the program, walked. Made by program (genra3.py). -/
namespace Go.Proofs.YtcmdgnemkjfckaaGreatDoor
open Go.RowKit

theorem isHardB (a v : Int) (w : World) : Calls Tryz.prog 76 #[.int .i64 a, .int .i64 v] w fun e w' => e = .returned (.bool (decide ((0 ≤ a ∧ a ≤ 999) ∧ (0 ≤ v ∧ v ≤ 9)))) ∧ w' = w := by
  by_cases h1 : 0 ≤ a
  · skip
    have h1' : a ≥ 0 := h1
    by_cases h2 : a ≤ 999
    · skip
      by_cases h3 : 0 ≤ v
      · skip
        have h3' : v ≥ 0 := h3
        by_cases h4 : v ≤ 9
        · skip
          rw [decide_eq_true ⟨⟨h1, h2⟩, h3, h4⟩]
          go_enter Tryz.func76, Tryz.ntmps76
          go_wp2
          go_ret
          exact ⟨rfl, rfl⟩
        · skip
          rw [decide_eq_false (by omega)]
          go_enter Tryz.func76, Tryz.ntmps76
          go_wp2
          go_ret
          exact ⟨rfl, rfl⟩
      · skip
        have h3' : ¬ v ≥ 0 := h3
        rw [decide_eq_false (by omega)]
        go_enter Tryz.func76, Tryz.ntmps76
        go_wp2
        go_ret
        exact ⟨rfl, rfl⟩
    · skip
      rw [decide_eq_false (by omega)]
      go_enter Tryz.func76, Tryz.ntmps76
      go_wp2
      go_ret
      exact ⟨rfl, rfl⟩
  · skip
    have h1' : ¬ a ≥ 0 := h1
    rw [decide_eq_false (by omega)]
    go_enter Tryz.func76, Tryz.ntmps76
    go_wp2
    go_ret
    exact ⟨rfl, rfl⟩

set_option maxHeartbeats 2000000 in
theorem isSnapRangeB (a b c d : Int) (ay az : Option Addr) (l m cy cz : Nat) (w : World) : Calls Tryz.prog 77 #[.agg #[.int .i64 a, .int .i64 b, .int .i64 c, .int .i64 d, .slice ay l cy, .slice az m cz]] w fun e w' => e = .returned (.bool (decide ((0 ≤ c ∧ c ≤ 9999) ∧ 0 ≤ d ∧ d ≤ a))) ∧ Below w.heap.size w w' := by
  by_cases h1 : 0 ≤ c
  · skip
    have h1' : c ≥ 0 := h1
    by_cases h2 : c ≤ 9999
    · skip
      by_cases h3 : 0 ≤ d
      · skip
        have h3' : d ≥ 0 := h3
        by_cases h4 : d ≤ a
        · skip
          rw [decide_eq_true ⟨⟨h1, h2⟩, h3, h4⟩]
          go_enter Tryz.func77, Tryz.ntmps77
          go_wp2
          go_ret
          exact ⟨rfl, below_alloc _ _⟩
        · skip
          rw [decide_eq_false (by omega)]
          go_enter Tryz.func77, Tryz.ntmps77
          go_wp2
          go_ret
          exact ⟨rfl, below_alloc _ _⟩
      · skip
        have h3' : ¬ d ≥ 0 := h3
        rw [decide_eq_false (by omega)]
        go_enter Tryz.func77, Tryz.ntmps77
        go_wp2
        go_ret
        exact ⟨rfl, below_alloc _ _⟩
    · skip
      rw [decide_eq_false (by omega)]
      go_enter Tryz.func77, Tryz.ntmps77
      go_wp2
      go_ret
      exact ⟨rfl, below_alloc _ _⟩
  · skip
    have h1' : ¬ c ≥ 0 := h1
    rw [decide_eq_false (by omega)]
    go_enter Tryz.func77, Tryz.ntmps77
    go_wp2
    go_ret
    exact ⟨rfl, below_alloc _ _⟩

theorem snapFaultI {S : Nat → Prop} {w : World} {v : Value} {xs : List Int} (hv : RdI S w v xs) :
    Calls Tryz.prog 78 #[v] w fun e w' => e = .returned (.int .i64 (daF xs)) ∧ ∃ q, w' = w.drewN q := by
  have hm : xs.length ≤ 9223372036854775807 := hv.maxR
  have HW := hide (wordsFault hv)
  obtain ⟨ao, c, rfl⟩ := hv.shape
  have HD : Hid (daF xs = if 40 < xs.length then 2 else wordsF xs) := rfl
  obtain ⟨l, hl⟩ : ∃ l, xs.length = l := ⟨_, rfl⟩
  rw [HD.out]
  rw [hl] at hm HW ⊢
  clear HD hl hv
  by_cases h : 40 < l
  · have h' : (40 : Int) < (l : Int) := by omega
    rw [if_pos h]
    go_enter Tryz.func78, Tryz.ntmps78
    go_wp2
    go_ret
    exact ⟨rfl, 0, rfl⟩
  · have h' : ¬ (40 : Int) < (l : Int) := by omega
    rw [if_neg h]
    go_enter Tryz.func78, Tryz.ntmps78
    go_wp2_with fail
    refine HW.out.mono ?_
    rintro e w1 ⟨rfl, q, rfl⟩
    go_wp2
    go_ret
    exact ⟨rfl, q, rfl⟩

set_option maxHeartbeats 2000000 in
theorem isSnapWholeB (a b c d : Int) (ay az : Option Addr) (l m cy cz : Nat) (hl : l ≤ 9223372036854775807) (w : World) : Calls Tryz.prog 79 #[.agg #[.int .i64 a, .int .i64 b, .int .i64 c, .int .i64 d, .slice ay l cy, .slice az m cz]] w fun e w' => e = .returned (.bool (decide ((c = 0 ↔ d = 0) ∧ (c = 0 → l = 0)))) ∧ Below w.heap.size w w' := by
  by_cases h1 : c = 0
  · subst h1
    by_cases h2 : d = 0
    · subst h2
      by_cases h3 : l = 0
      · subst h3
        rw [decide_eq_true ⟨Iff.rfl, fun _ => rfl⟩]
        go_enter Tryz.func79, Tryz.ntmps79
        go_wp2
        go_ret
        exact ⟨rfl, below_alloc _ _⟩
      · have h3' : ((l : Int) == 0) = false := by simp; omega
        rw [decide_eq_false (fun h => h3 (h.2 rfl))]
        go_enter Tryz.func79, Tryz.ntmps79
        go_wp2
        go_ret
        exact ⟨rfl, below_alloc _ _⟩
    · have h2' : (d == 0) = false := by simpa using h2
      rw [decide_eq_false (fun h => h2 (h.1.1 rfl))]
      go_enter Tryz.func79, Tryz.ntmps79
      go_wp2
      go_ret
      exact ⟨rfl, below_alloc _ _⟩
  · have h1' : (c == 0) = false := by simpa using h1
    by_cases h2 : d = 0
    · subst h2
      rw [decide_eq_false (fun h => h1 (h.1.2 rfl))]
      go_enter Tryz.func79, Tryz.ntmps79
      go_wp2
      go_ret
      exact ⟨rfl, below_alloc _ _⟩
    · have h2' : (d == 0) = false := by simpa using h2
      rw [decide_eq_true ⟨⟨fun h => absurd h h1, fun h => absurd h h2⟩, fun h => absurd h h1⟩]
      go_enter Tryz.func79, Tryz.ntmps79
      go_wp2
      go_ret
      exact ⟨by first | rfl | simp [h2] | simp [h2'], below_alloc _ _⟩
/-- A list goes on behind an index of a term, up to a term. -/
def gon (l : List Oj) (i t m : Int) : Prop := l ≠ [] → (l.getD 0 oj0).1 - 1 = i ∧ t ≤ (l.getD 0 oj0).2.1 ∧ (l.getD (l.length - 1) oj0).2.1 ≤ m
instance (l : List Oj) (i t m : Int) : Decidable (gon l i t m) := by unfold gon; infer_instance
theorem gon_fit (r : Rf) (i t : Int) (l : List Oj) : gon l i t r.tm ↔ fitR r i t l := Iff.rfl
theorem gon_link (r : Rf) : gon r.lg r.si r.st r.tm ↔ lkR r := by
  unfold gon lkR
  constructor <;> intro h hn <;> obtain ⟨h1, h2⟩ := h hn <;> exact ⟨by omega, h2⟩

set_option maxHeartbeats 4000000 in
set_option maxRecDepth 4000 in
theorem goesOnB {S : Nat → Prop} {w : World} {v : Value} {fs : List Oj} (i t m : Int) (hv : RdJ S w v fs) (h0 : fs ≠ [] → 1 ≤ (fs.getD 0 oj0).1 ∧ (fs.getD 0 oj0).1 ≤ 9999) :
    Calls Tryz.prog 81 #[v, .int .i64 i, .int .i64 t, .int .i64 m] w fun e w' => e = .returned (.bool (decide (gon fs i t m))) ∧ Below w.heap.size w w' := by
  obtain ⟨av, cv, rfl, hm⟩ := hv.shape
  by_cases hne : fs = []
  · subst hne
    rw [decide_eq_true (show gon [] i t m from fun h => absurd rfl h)]
    go_enter Tryz.func81, Tryz.ntmps81
    go_wp2
    go_ret
    exact ⟨rfl, Below.refl _ _⟩
  · have hpos : 0 < fs.length := List.length_pos_iff.2 hne
    obtain ⟨b, off, rfl, y, p0, p1, p2, p3⟩ := hv.file (k := 0) hpos
    obtain ⟨b', off', e', y', r0, r1, r2, r3⟩ := hv.file (k := fs.length - 1) (by omega)
    injection e' with e'
    injection e' with e1 e2
    subst e1 e2
    have hh := h0 hne
    have HG : Hid (gon fs i t m ↔ (fs.getD 0 oj0).1 - 1 = i ∧ t ≤ (fs.getD 0 oj0).2.1 ∧ (fs.getD (fs.length - 1) oj0).2.1 ≤ m) := ⟨fun h => h hne, fun h _ => h⟩
    obtain ⟨n, hn⟩ : ∃ n, fs.length = n := ⟨_, rfl⟩
    rw [hn] at r0 r1 r2 r3 hm hpos HG ⊢
    obtain ⟨x, hx⟩ : ∃ x, fs.getD 0 oj0 = x := ⟨_, rfl⟩
    obtain ⟨x', hx'⟩ : ∃ x', fs.getD (n - 1) oj0 = x' := ⟨_, rfl⟩
    rw [hx] at p0 p1 p3 hh HG
    rw [hx'] at r0 r1 r3 HG
    obtain ⟨a0, t0, xs0⟩ := x
    obtain ⟨a1, t1, xs1⟩ := x'
    dsimp only at p0 p1 p3 r0 r1 r3 hh HG
    have g3 := p3.shape
    have g4 := r3.shape
    obtain ⟨ay, cy, rfl⟩ := g3
    obtain ⟨ay', cy', rfl⟩ := g4
    generalize xs0.length = l0 at p2
    generalize xs1.length = l1 at r2
    simp only [Nat.zero_mul, Nat.add_zero] at p0 p1 p2
    clear p3 r3 hv hne h0 hn hx hx'
    have hbl := World.block_lt_of_cell? _ _ p0
    have hn0 : ((n : Int) == 0) = false := by simp; omega
    have hw1 : IntKind.i64.wrap ((n : Int) - 1) = ((n - 1 : Nat) : Int) := by simp [IntKind.wrap, IntKind.bits, IntKind.signed]; omega
    obtain ⟨j, hj⟩ : ∃ j, n - 1 = j := ⟨_, rfl⟩
    rw [hj] at r0 r1 r2 hw1
    have hjn : (j : Int) < (n : Int) := by omega
    have hj0 : (0 : Int) ≤ (j : Int) := by omega
    have hn1 : (0 : Int) < (n : Int) := by omega
    clear hj
    have ha1 : IntKind.i64.wrap (a0 - 1) = a0 - 1 := by simp [IntKind.wrap, IntKind.bits, IntKind.signed]; omega
    have key : Hid (∀ B : Bool, decide (gon fs i t m) = B → Calls Tryz.prog 81 #[.slice (some ⟨b, off, none⟩) n cv, .int .i64 i, .int .i64 t, .int .i64 m] w fun e w' => e = .returned (.bool B) ∧ Below w.heap.size w w') := by
      intro B hB
      have HB := hide hB
      clear hB
      by_cases c1 : a0 - 1 = i
      · have c1' : (a0 - 1 == i) = true := by simpa using c1
        by_cases c2 : t ≤ t0
        · have c2' : t0 ≥ t := c2
          by_cases c3 : t1 ≤ m
          · obtain rfl : true = B := by rw [← HB.out]; exact (decide_eq_true (HG.out.2 ⟨c1, c2, c3⟩)).symm
            clear c1
            go_enter Tryz.func81, Tryz.ntmps81
            go_wp2
            go_region
            all_goals
              go_wp2
              go_ret
              exact ⟨by first | rfl | (simp; omega), below_on (below_on (below_alloc _ _) (below_alloc _ _)) (below_drewN _ 1)⟩
          · have c3' : decide (t1 ≤ m) = false := by simpa using c3
            obtain rfl : false = B := by rw [← HB.out]; exact (decide_eq_false (fun h => c3 (HG.out.1 h).2.2)).symm
            clear c1
            go_enter Tryz.func81, Tryz.ntmps81
            go_wp2
            go_region
            all_goals
              go_wp2
              go_ret
              exact ⟨by first | rfl | (simp; omega), below_on (below_on (below_alloc _ _) (below_alloc _ _)) (below_drewN _ 1)⟩
        · have c2' : ¬ t0 ≥ t := c2
          obtain rfl : false = B := by rw [← HB.out]; exact (decide_eq_false (fun h => c2 (HG.out.1 h).2.1)).symm
          clear c1
          go_enter Tryz.func81, Tryz.ntmps81
          go_wp2
          go_region
          all_goals
            go_wp2
            go_ret
            exact ⟨by first | rfl | (simp; omega), below_on (below_on (below_alloc _ _) (below_alloc _ _)) (below_drewN _ 1)⟩
      · have c1' : (a0 - 1 == i) = false := by simpa using c1
        obtain rfl : false = B := by rw [← HB.out]; exact (decide_eq_false (fun h => c1 (HG.out.1 h).1)).symm
        clear c1
        go_enter Tryz.func81, Tryz.ntmps81
        go_wp2
        go_region
        all_goals
          go_wp2
          go_ret
          exact ⟨by first | rfl | (simp; omega), below_on (below_on (below_alloc _ _) (below_alloc _ _)) (below_drewN _ 1)⟩
    exact key.out _ rfl

end Go.Proofs.YtcmdgnemkjfckaaGreatDoor
/- Chapter 10: the fault of a store, of the program, walked. Made by program (genra4.py). -/
namespace Go.Proofs.YtcmdgnemkjfckaaGreatDoor
open Go.RowKit

set_option maxHeartbeats 4000000 in
set_option maxRecDepth 4000 in
theorem implRaftFault {S T : Nat → Prop} {w : World} {y z : Value} (r : Rf) (hy : RdI S w y r.sn) (hz : RdJ T w z r.lg) :
    Calls Tryz.prog 58 #[.agg #[.int .i64 r.tm, .int .i64 r.vt, .int .i64 r.si, .int .i64 r.st, y, z]] w fun e w' => e = .returned (.int .i64 (rfF r)) ∧ Below w.heap.size w w' := by
  obtain ⟨ay, cy, rfl⟩ := hy.shape
  obtain ⟨az, cz, rfl, _⟩ := hz.shape
  have hym := hy.maxR
  have hlk := gon_link r
  have hrg : rgR r ↔ ((0 ≤ r.tm ∧ r.tm ≤ 999) ∧ (0 ≤ r.vt ∧ r.vt ≤ 9)) ∧ (0 ≤ r.si ∧ r.si ≤ 9999) ∧ 0 ≤ r.st ∧ r.st ≤ r.tm := Iff.rfl
  have hfm : fmR r ↔ ((r.si = 0 ↔ r.st = 0) ∧ (r.si = 0 → r.sn.length = 0)) := by unfold fmR; simp only [List.length_eq_zero_iff]
  have HF := hide (@rfF_range r)
  have HF1 := hide (@rfF_data r)
  have HF2 := hide (@rfF_form r)
  have HF3 := hide (@rfF_log r)
  have HF4 := hide (@rfF_link r)
  have HF5 := hide (@rfF_ok r)
  obtain ⟨Z, hZ⟩ : ∃ Z, rfF r = Z := ⟨_, rfl⟩
  rw [hZ] at HF HF1 HF2 HF3 HF4 HF5 ⊢
  have H3 := hide (fun (w' : World) (hb : Below w.heap.size w w') => snapFaultI (hy.later hb))
  have H5 := hide (fun (w' : World) (hb : Below w.heap.size w w') => implLogFault (hz.later hb))
  have H6 := hide (fun (w' : World) (hb : Below w.heap.size w w') (h : logF r.lg = 0) => goesOnB r.si r.st r.tm (hz.later hb) (fun hne => (entF_zero ((logF_iff.1 h).2.1 0 (List.length_pos_iff.2 hne))).1.1))
  have HRG := hide hrg
  have HFM := hide hfm
  have HLK := hide hlk
  obtain ⟨l, hl⟩ : ∃ l, r.sn.length = l := ⟨_, rfl⟩
  obtain ⟨m, hm⟩ : ∃ m, r.lg.length = m := ⟨_, rfl⟩
  rw [hl] at H3 HFM hym ⊢
  rw [hm] at H5 H6 ⊢
  obtain ⟨D, hD⟩ : ∃ D, daF r.sn = D := ⟨_, rfl⟩
  obtain ⟨G, hG⟩ : ∃ G, logF r.lg = G := ⟨_, rfl⟩
  rw [hD] at H3 HF1 HF2 HF3 HF4 HF5
  rw [hG] at H5 H6 HF3 HF4 HF5
  clear hy hz hlk hrg hfm hZ hl hm hD hG
  generalize r.tm = a at *
  generalize r.vt = b at *
  generalize r.si = c at *
  generalize r.st = d at *
  have H1 := hide (isHardB a b)
  have H2 := hide (isSnapRangeB a b c d ay az l m cy cz)
  have H4 := hide (isSnapWholeB a b c d ay az l m cy cz hym)
  obtain ⟨B1, hB1⟩ : ∃ B, decide ((0 ≤ a ∧ a ≤ 999) ∧ (0 ≤ b ∧ b ≤ 9)) = B := ⟨_, rfl⟩
  obtain ⟨B2, hB2⟩ : ∃ B, decide ((0 ≤ c ∧ c ≤ 9999) ∧ 0 ≤ d ∧ d ≤ a) = B := ⟨_, rfl⟩
  obtain ⟨B4, hB4⟩ : ∃ B, decide ((c = 0 ↔ d = 0) ∧ (c = 0 → l = 0)) = B := ⟨_, rfl⟩
  obtain ⟨B6, hB6⟩ : ∃ B, decide (gon r.lg c d a) = B := ⟨_, rfl⟩
  rw [hB1] at H1
  rw [hB2] at H2
  rw [hB4] at H4
  rw [hB6] at H6
  have K1 := hide hB1
  have K2 := hide hB2
  have K4 := hide hB4
  have K6 := hide hB6
  clear hB1 hB2 hB4 hB6
  have BA := hide (below_alloc w (.cells #[.int .i64 a, .int .i64 b, .int .i64 c, .int .i64 d, .slice ay l cy, .slice az m cz] 33))
  have VA := hide (Var6_new w (.int .i64 a) (.int .i64 b) (.int .i64 c) (.int .i64 d) (.slice ay l cy) (.slice az m cz) 33)
  go_enter Tryz.func58, Tryz.ntmps58
  go_wp2_with fail
  refine (H1.out _).mono ?_
  rintro e w1 ⟨rfl, hw1⟩
  have hw1 := hw1.symm
  subst hw1
  cases B1
  · have HZ : Hid ((3 : Int) = Z) := (HF.out (fun h => by have := of_decide_eq_false K1.out; exact this (HRG.out.1 h).1)).symm
    go_wp2
    go_ret
    exact ⟨ret_int HZ.out, BA.out⟩
  · go_wp2_with fail
    refine (H2.out _).mono ?_
    rintro e w2 ⟨rfl, hb⟩
    have BA2 := hide (below_on BA.out hb)
    have VA2 := hide (VA.out.later hb)
    clear hb
    cases B2
    · have HZ : Hid ((3 : Int) = Z) := (HF.out (fun h => by have := of_decide_eq_false K2.out; exact this (HRG.out.1 h).2)).symm
      go_wp2
      go_ret
      exact ⟨ret_int HZ.out, BA2.out⟩
    · have KR : Hid (rgR r) := HRG.out.2 ⟨of_decide_eq_true K1.out, of_decide_eq_true K2.out⟩
      obtain ⟨c0, c1, c2, c3, c4, c5⟩ := VA2.out
      go_wp2_with fail
      refine (H3.out _ BA2.out).mono ?_
      rintro e w3 ⟨rfl, q, rfl⟩
      by_cases hD : D = 0
      · subst hD
        go_wp2_with fail
        refine (H4.out _).mono ?_
        rintro e w4 ⟨rfl, hb⟩
        have BA4 := hide (below_on (below_on BA2.out (below_drewN _ q)) hb)
        have VA4 := hide ((VA2.out.later (below_drewN _ q)).later hb)
        clear hb c0 c1 c2 c3 c4 c5
        cases B4
        · have HZ : Hid ((1 : Int) = Z) := (HF2.out KR.out (by first | trivial | rfl) (fun h => by have := of_decide_eq_false K4.out; exact this (HFM.out.1 h))).symm
          go_wp2
          go_ret
          exact ⟨ret_int HZ.out, BA4.out⟩
        · have KF : Hid (fmR r) := HFM.out.2 (of_decide_eq_true K4.out)
          obtain ⟨c0, c1, c2, c3, c4, c5⟩ := VA4.out
          go_wp2_with fail
          refine (H5.out _ BA4.out).mono ?_
          rintro e w5 ⟨rfl, hb⟩
          have BA5 := hide (below_on BA4.out hb)
          have VA5 := hide (VA4.out.later hb)
          clear hb c0 c1 c2 c3 c4 c5
          by_cases hG : G = 0
          · subst hG
            obtain ⟨c0, c1, c2, c3, c4, c5⟩ := VA5.out
            go_wp2_with fail
            refine (H6.out _ BA5.out (by first | trivial | rfl)).mono ?_
            rintro e w6 ⟨rfl, hb⟩
            have BA6 := hide (below_on BA5.out hb)
            clear hb c0 c1 c2 c3 c4 c5
            cases B6
            · have HZ : Hid ((1 : Int) = Z) := (HF4.out KR.out (by first | trivial | rfl) KF.out (by first | trivial | rfl) (fun h => by have := of_decide_eq_false K6.out; exact this (HLK.out.2 h))).symm
              go_wp2
              go_ret
              exact ⟨ret_int HZ.out, BA6.out⟩
            · have HZ : Hid ((0 : Int) = Z) := (HF5.out KR.out (by first | trivial | rfl) KF.out (by first | trivial | rfl) (HLK.out.1 (of_decide_eq_true K6.out))).symm
              go_wp2
              go_ret
              exact ⟨ret_int HZ.out, BA6.out⟩
          · have HZ : Hid (G = Z) := (HF3.out KR.out (by first | trivial | rfl) KF.out hG).symm
            have hG' : (G == 0) = false := by simpa using hG
            go_wp2
            go_ret
            exact ⟨ret_int HZ.out, BA5.out⟩
      · have HZ : Hid (D = Z) := (HF1.out KR.out hD).symm
        have hD' : (D == 0) = false := by simpa using hD
        go_wp2
        go_ret
        exact ⟨ret_int HZ.out, below_on BA2.out (below_drewN _ q)⟩
end Go.Proofs.YtcmdgnemkjfckaaGreatDoor
