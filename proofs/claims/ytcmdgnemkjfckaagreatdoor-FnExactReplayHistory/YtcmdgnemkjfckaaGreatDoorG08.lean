/- Dr Fp3 En1 Cfr in one text: what each says stands at its head below. -/
import Derived.Test.YtcmdgnemkjfckaaGreatDoorG06
import Derived.Test.YtcmdgnemkjfckaaGreatDoorG07
import Derived.Test.YtcmdgnemkjfckaaGreatDoorG03
import Derived.Test.YtcmdgnemkjfckaaGreatDoorG02
import Derived.Test.YtcmdgnemkjfckaaGreatDoorG01
/- Chapter 12: a code, a reply, a number and a store: nine cells; the laws' helpers over it. Made by program (gendo.py). -/
namespace Go.Proofs.YtcmdgnemkjfckaaGreatDoor
open Go.RowKit

def Var9 (w : World) (b : Nat) (x0 x1 x2 x3 x4 x5 x6 x7 x8 : Value) : Prop := w.cell? ⟨b, 0, none⟩ = some x0 ∧ w.cell? ⟨b, 1, none⟩ = some x1 ∧ w.cell? ⟨b, 2, none⟩ = some x2 ∧ w.cell? ⟨b, 3, none⟩ = some x3 ∧ w.cell? ⟨b, 4, none⟩ = some x4 ∧ w.cell? ⟨b, 5, none⟩ = some x5 ∧ w.cell? ⟨b, 6, none⟩ = some x6 ∧ w.cell? ⟨b, 7, none⟩ = some x7 ∧ w.cell? ⟨b, 8, none⟩ = some x8
theorem Var9.later {w w' : World} {b : Nat} {x0 x1 x2 x3 x4 x5 x6 x7 x8 : Value} (h : Var9 w b x0 x1 x2 x3 x4 x5 x6 x7 x8) (hb : Below w.heap.size w w') : Var9 w' b x0 x1 x2 x3 x4 x5 x6 x7 x8 :=
  ⟨cell_later hb h.1, cell_later hb h.2.1, cell_later hb h.2.2.1, cell_later hb h.2.2.2.1, cell_later hb h.2.2.2.2.1, cell_later hb h.2.2.2.2.2.1, cell_later hb h.2.2.2.2.2.2.1, cell_later hb h.2.2.2.2.2.2.2.1, cell_later hb h.2.2.2.2.2.2.2.2⟩
theorem Var9.wr {S : Nat → Prop} {w w' : World} {b : Nat} {x0 x1 x2 x3 x4 x5 x6 x7 x8 : Value} (h : Var9 w b x0 x1 x2 x3 x4 x5 x6 x7 x8) (hb : Wr S w w') (hd : ¬ S b) : Var9 w' b x0 x1 x2 x3 x4 x5 x6 x7 x8 :=
  ⟨cell_wr hb h.1 hd, cell_wr hb h.2.1 hd, cell_wr hb h.2.2.1 hd, cell_wr hb h.2.2.2.1 hd, cell_wr hb h.2.2.2.2.1 hd, cell_wr hb h.2.2.2.2.2.1 hd, cell_wr hb h.2.2.2.2.2.2.1 hd, cell_wr hb h.2.2.2.2.2.2.2.1 hd, cell_wr hb h.2.2.2.2.2.2.2.2 hd⟩
theorem Var9.lt {w : World} {b : Nat} {x0 x1 x2 x3 x4 x5 x6 x7 x8 : Value} (h : Var9 w b x0 x1 x2 x3 x4 x5 x6 x7 x8) : b < w.heap.size := World.block_lt_of_cell? _ _ h.1
theorem Var9_new (w : World) (x0 x1 x2 x3 x4 x5 x6 x7 x8 : Value) (t : TypeId) : Var9 (w.alloc (.cells #[x0, x1, x2, x3, x4, x5, x6, x7, x8] t)) w.heap.size x0 x1 x2 x3 x4 x5 x6 x7 x8 := by
  refine ⟨?_, ?_, ?_, ?_, ?_, ?_, ?_, ?_, ?_⟩ <;> simp [go_sem]
theorem set9_other {w : World} {b h o : Nat} {x0 x1 x2 x3 x4 x5 x6 x7 x8 : Value} (hb : b ≠ h) : (((((((((w.setCell ⟨h, 0, none⟩ x0).setCell ⟨h, 1, none⟩ x1).setCell ⟨h, 2, none⟩ x2).setCell ⟨h, 3, none⟩ x3).setCell ⟨h, 4, none⟩ x4).setCell ⟨h, 5, none⟩ x5).setCell ⟨h, 6, none⟩ x6).setCell ⟨h, 7, none⟩ x7).setCell ⟨h, 8, none⟩ x8).cell? ⟨b, o, none⟩ = w.cell? ⟨b, o, none⟩ := by
  rw [World.cell?_setCell_other _ _ _ _ (by intro e; injection e with e1 _; exact hb e1.symm), World.cell?_setCell_other _ _ _ _ (by intro e; injection e with e1 _; exact hb e1.symm), World.cell?_setCell_other _ _ _ _ (by intro e; injection e with e1 _; exact hb e1.symm), World.cell?_setCell_other _ _ _ _ (by intro e; injection e with e1 _; exact hb e1.symm), World.cell?_setCell_other _ _ _ _ (by intro e; injection e with e1 _; exact hb e1.symm), World.cell?_setCell_other _ _ _ _ (by intro e; injection e with e1 _; exact hb e1.symm), World.cell?_setCell_other _ _ _ _ (by intro e; injection e with e1 _; exact hb e1.symm), World.cell?_setCell_other _ _ _ _ (by intro e; injection e with e1 _; exact hb e1.symm), World.cell?_setCell_other _ _ _ _ (by intro e; injection e with e1 _; exact hb e1.symm)]
/-- What a call that ends in a code, a reply, a number and a store is to leave, field by field. -/
def EndsO8 (x x1 x2 q0 q1 q2 q3 : Int) (rs : List Int) (rp : List Oj) (w : World) (e : Ending) (w' : World) : Prop :=
  ∃ y z, e = .returned (.agg #[.int .i64 x, .int .i64 x1, .int .i64 x2, .int .i64 q0, .int .i64 q1, .int .i64 q2, .int .i64 q3, y, z]) ∧ Below w.heap.size w w' ∧ IvR w.heap.size w'.heap.size w' y z rs rp
structure Res9 (w wr : World) (r : Nat) : Prop where
  below : Below w.heap.size w wr
  v : Var9 wr r (.int .i64 0) (.int .i64 0) (.int .i64 0) (.int .i64 0) (.int .i64 0) (.int .i64 0) (.int .i64 0) (.slice none 0 0) (.slice none 0 0)
  fr : ∀ o, wr.frozen? ⟨r, o, none⟩ = false
  ge : w.heap.size ≤ r
theorem Res9.lt {w wr : World} {r : Nat} (h : Res9 w wr r) : r < wr.heap.size := h.v.lt
theorem Res9.later {w wr w1 : World} {r : Nat} (h : Res9 w wr r) (hb : Below wr.heap.size wr w1) : Res9 w w1 r := ⟨below_on h.below hb, h.v.later hb, fun o => ((bcell hb).2 _ _ h.lt).trans (h.fr o), h.ge⟩
theorem Res9.wr {w wr w1 : World} {r : Nat} {T : Nat → Prop} (h : Res9 w wr r) (hw : Wr T wr w1) (hr : ¬ T r) (hT : ∀ b, T b → w.heap.size ≤ b) : Res9 w w1 r := ⟨h.below.trans (hw.below h.below.size hT), h.v.wr hw hr, fun o => (hw.frz _ _ h.lt).trans (h.fr o), h.ge⟩
theorem Res9.new {w w1 : World} (hb : Below w.heap.size w w1) (t : TypeId) : Res9 w (w1.alloc (.cells #[.int .i64 0, .int .i64 0, .int .i64 0, .int .i64 0, .int .i64 0, .int .i64 0, .int .i64 0, .slice none 0 0, .slice none 0 0] t)) w1.heap.size := ⟨below_on hb (below_alloc _ _), Var9_new _ _ _ _ _ _ _ _ _ _ _, fun o => by simp [go_sem], hb.size⟩
theorem ret_op {w w3 : World} {r lo : Nat} {x0 x1 x2 x3 x4 x5 x6 y z : Value} {xs : List Int} {ps : List Oj} (hb : Below w.heap.size w w3) (hr : w.heap.size ≤ r) (ho : IvR lo w3.heap.size w3 y z xs ps) (hlo : r < lo) :
    Below w.heap.size w (((((((((w3.setCell ⟨r, 0, none⟩ x0).setCell ⟨r, 1, none⟩ x1).setCell ⟨r, 2, none⟩ x2).setCell ⟨r, 3, none⟩ x3).setCell ⟨r, 4, none⟩ x4).setCell ⟨r, 5, none⟩ x5).setCell ⟨r, 6, none⟩ x6).setCell ⟨r, 7, none⟩ y).setCell ⟨r, 8, none⟩ z) ∧ IvR w.heap.size (((((((((w3.setCell ⟨r, 0, none⟩ x0).setCell ⟨r, 1, none⟩ x1).setCell ⟨r, 2, none⟩ x2).setCell ⟨r, 3, none⟩ x3).setCell ⟨r, 4, none⟩ x4).setCell ⟨r, 5, none⟩ x5).setCell ⟨r, 6, none⟩ x6).setCell ⟨r, 7, none⟩ y).setCell ⟨r, 8, none⟩ z).heap.size (((((((((w3.setCell ⟨r, 0, none⟩ x0).setCell ⟨r, 1, none⟩ x1).setCell ⟨r, 2, none⟩ x2).setCell ⟨r, 3, none⟩ x3).setCell ⟨r, 4, none⟩ x4).setCell ⟨r, 5, none⟩ x5).setCell ⟨r, 6, none⟩ x6).setCell ⟨r, 7, none⟩ y).setCell ⟨r, 8, none⟩ z) y z xs ps := by
  have hw : Wr (fun q => q = r) w3 (((((((((w3.setCell ⟨r, 0, none⟩ x0).setCell ⟨r, 1, none⟩ x1).setCell ⟨r, 2, none⟩ x2).setCell ⟨r, 3, none⟩ x3).setCell ⟨r, 4, none⟩ x4).setCell ⟨r, 5, none⟩ x5).setCell ⟨r, 6, none⟩ x6).setCell ⟨r, 7, none⟩ y).setCell ⟨r, 8, none⟩ z) := ((((((((((Wr.refl (fun q => q = r) _).setCell (p := ⟨r, 0, none⟩) rfl _).setCell (p := ⟨r, 1, none⟩) rfl _).setCell (p := ⟨r, 2, none⟩) rfl _).setCell (p := ⟨r, 3, none⟩) rfl _).setCell (p := ⟨r, 4, none⟩) rfl _).setCell (p := ⟨r, 5, none⟩) rfl _).setCell (p := ⟨r, 6, none⟩) rfl _).setCell (p := ⟨r, 7, none⟩) rfl _).setCell (p := ⟨r, 8, none⟩) rfl _)
  exact ⟨(((((((((hb.setCell (p := ⟨r, 0, none⟩) hr _).setCell (p := ⟨r, 1, none⟩) hr _).setCell (p := ⟨r, 2, none⟩) hr _).setCell (p := ⟨r, 3, none⟩) hr _).setCell (p := ⟨r, 4, none⟩) hr _).setCell (p := ⟨r, 5, none⟩) hr _).setCell (p := ⟨r, 6, none⟩) hr _).setCell (p := ⟨r, 7, none⟩) hr _).setCell (p := ⟨r, 8, none⟩) hr _), IvR.up (ho.wr hw (fun b h1 _ e => by omega)) (by omega) hw.size⟩
set_option maxHeartbeats 2000000 in
set_option maxRecDepth 4000 in
theorem eqOpResult {S T S' T' : Nat → Prop} {w : World} {x x1 x2 : Int} {y z y' z' : Value} {r : Rf} (hy : RdI S w y r.sn) (hz : RdJ T w z r.lg) (hy' : RdI S' w y' r.sn) (hz' : RdJ T' w z' r.lg) :
    Calls Tryz.prog 12 #[.agg #[.int .i64 x, .int .i64 x1, .int .i64 x2, .int .i64 r.tm, .int .i64 r.vt, .int .i64 r.si, .int .i64 r.st, y, z], .agg #[.int .i64 x, .int .i64 x1, .int .i64 x2, .int .i64 r.tm, .int .i64 r.vt, .int .i64 r.si, .int .i64 r.st, y', z']] w fun e w' => e = .returned (.bool true) ∧ Below w.heap.size w w' := by
  obtain ⟨a, b, c, d, xs, ps⟩ := r
  dsimp only at hy hz hy' hz' ⊢
  obtain ⟨ay, cy, rfl⟩ := hy.shape
  obtain ⟨az, cz, rfl, _⟩ := hz.shape
  obtain ⟨ay', cy', rfl⟩ := hy'.shape
  obtain ⟨az', cz', rfl, _⟩ := hz'.shape
  have HE := hide (fun (w' : World) (hb : Below w.heap.size w w') => eqRaft a b c d (hy.later hb) (hz.later hb) (hy'.later hb) (hz'.later hb))
  obtain ⟨l, hl⟩ : ∃ l, xs.length = l := ⟨_, rfl⟩
  obtain ⟨m, hm⟩ : ∃ m, ps.length = m := ⟨_, rfl⟩
  rw [hl, hm] at HE ⊢
  clear hy hz hy' hz' hl hm
  have BA := hide (below_on (below_alloc w (.cells #[.int .i64 x, .int .i64 x1, .int .i64 x2, .int .i64 a, .int .i64 b, .int .i64 c, .int .i64 d, .slice ay l cy, .slice az m cz] 35)) (below_alloc _ (.cells #[.int .i64 x, .int .i64 x1, .int .i64 x2, .int .i64 a, .int .i64 b, .int .i64 c, .int .i64 d, .slice ay' l cy', .slice az' m cz'] 35)))
  go_enter Tryz.func12, Tryz.ntmps12
  go_wp2_with fail
  refine (HE.out _ BA.out).mono ?_
  rintro e w2 ⟨rfl, hb2⟩
  have BC := hide (below_on BA.out hb2)
  clear hb2
  go_wp2
  go_ret
  exact ⟨rfl, BC.out⟩

set_option maxHeartbeats 2000000 in
set_option maxRecDepth 4000 in
theorem heldOpResult {lo hi : Nat} {w : World} {x x1 x2 : Int} {y z : Value} {n : Nat} {ps : List Oj} {k : Int} (a b c d : Int) (h : MkR k lo hi w y z n ps) (hk0 : 0 ≤ k) (hk : k + ((n : Int) + (totJ ps ps.length : Int)) ≤ 9223372036854775807) :
    Calls Tryz.prog 20 #[.agg #[.int .i64 x, .int .i64 x1, .int .i64 x2, .int .i64 a, .int .i64 b, .int .i64 c, .int .i64 d, y, z], .int .i64 k] w fun e w' =>
      e = .returned (.int .i64 (k + ((n : Int) + (totJ ps ps.length : Int)))) ∧ Below w.heap.size w w' := by
  have H1 := hide h
  obtain ⟨ay, cy, hy⟩ := h.1.shape
  obtain ⟨az, cz, hz, _⟩ := RdJ.shape h.2
  rw [mkI_len] at hy
  rw [mkJ_len] at hz
  subst hy
  subst hz
  clear h
  obtain ⟨M, hM⟩ : ∃ M, k + ((n : Int) + (totJ ps ps.length : Int)) = M := ⟨_, rfl⟩
  have HM := hide hM
  have HK := hide hk
  have hpos : 0 ≤ M := by omega
  rw [hM]
  obtain ⟨m, hm⟩ : ∃ m, ps.length = m := ⟨_, rfl⟩
  have HMm := hide hm
  rw [hm] at H1 ⊢
  clear hM hk hm
  go_enter Tryz.func20, Tryz.ntmps20
  go_wp2_with fail
  refine (heldRaft a b c d (H1.out.later (below_alloc _ _)) hk0 HK.out).mono ?_
  rintro e w1 ⟨he, hb⟩
  rw [HM.out] at he
  subst he
  have HB := hide (below_on (below_alloc _ _) hb)
  clear hb
  go_wp2
  go_ret
  exact ⟨rfl, HB.out⟩

set_option maxHeartbeats 2000000 in
set_option maxRecDepth 4000 in
theorem markOpResult {lo hi : Nat} {w : World} {x x1 x2 : Int} {y z : Value} {xs : List Int} {ps : List Oj} {k : Int} (a b c d : Int) (h : IvR lo hi w y z xs ps) (hk0 : 0 ≤ k) (hk : k + ((xs.length : Int) + (totJ ps ps.length : Int)) ≤ 9223372036854775807) :
    Calls Tryz.prog 19 #[.agg #[.int .i64 x, .int .i64 x1, .int .i64 x2, .int .i64 a, .int .i64 b, .int .i64 c, .int .i64 d, y, z], .int .i64 k] w fun e w' =>
      e = .returned (.int .i64 (k + ((xs.length : Int) + (totJ ps ps.length : Int)))) ∧ MkR k lo hi w' y z xs.length ps ∧ Wr (fun b => lo ≤ b ∧ b < hi) w w' := by
  obtain ⟨ay, cy, az, cz, rfl, rfl⟩ := h.shape
  have H1 := hide h
  clear h
  obtain ⟨M, hM⟩ : ∃ M, k + ((xs.length : Int) + (totJ ps ps.length : Int)) = M := ⟨_, rfl⟩
  have HM := hide hM
  have HK := hide hk
  rw [hM]
  obtain ⟨l, hl⟩ : ∃ l, xs.length = l := ⟨_, rfl⟩
  obtain ⟨m, hm⟩ : ∃ m, ps.length = m := ⟨_, rfl⟩
  have HL := hide hl
  rw [hm, hl] at H1 ⊢
  clear hM hk hm hl
  go_enter Tryz.func19, Tryz.ntmps19
  go_wp2_with fail
  refine (markRaft a b c d (H1.out.later (below_alloc _ _)) hk0 HK.out).mono ?_
  rintro e w1 ⟨he, hm, hw⟩
  rw [HM.out] at he
  rw [HL.out] at hm
  subst he
  have HMk := hide hm
  have HW := hide (wr_on (below_alloc _ _) hw)
  clear hm hw
  go_wp2
  go_ret
  exact ⟨rfl, HMk.out, HW.out⟩

set_option maxHeartbeats 2000000 in
set_option maxRecDepth 4000 in
theorem toOpC {S T : Nat → Prop} {w : World} {y z : Value} {xs : List Int} {ps : List Oj} (a b c d : Int) (hy : RdI S w y xs) (hz : RdJ T w z ps) (hm : xs.length ≤ 1048576) (hm' : ps.length ≤ 1048576) (hl' : ∀ i, i < ps.length → (ps.getD i oj0).2.2.length ≤ 1048576) :
    Calls Tryz.prog 75 #[.agg #[.int .i64 a, .int .i64 b, .int .i64 c, .int .i64 d, y, z]] w fun e w' =>
      ∃ y' z', e = .returned (.agg #[.int .i64 a, .int .i64 b, .int .i64 c, .int .i64 d, y', z']) ∧ Below w.heap.size w w' ∧ IvR w.heap.size w'.heap.size w' y' z' xs ps ∧ capE z' := by
  have HY := hide hy
  have HZ := hide hz
  have HL' := hide hl'
  have HM := hide hm
  obtain ⟨ay, cy, rfl⟩ := hy.shape
  obtain ⟨az, cz, rfl, _⟩ := hz.shape
  obtain ⟨l, hl⟩ : ∃ l, xs.length = l := ⟨_, rfl⟩
  obtain ⟨m, hme⟩ : ∃ m, ps.length = m := ⟨_, rfl⟩
  have HL := hide hl
  have HME := hide hme
  rw [hl] at HY ⊢
  rw [hme] at HZ ⊢
  have HM' := hide hm'
  clear hy hz hl' hm hm' hl hme
  go_enter Tryz.func75, Tryz.ntmps75
  go_wp2_with fail
  refine (toI' (((HY.out.later (below_alloc _ _)).later (below_alloc _ _)).later (below_alloc _ _)) HM.out).mono ?_
  rintro e w1 ⟨z1, rfl, hb, ho⟩
  obtain ⟨a1, c1, hz1⟩ := ho.shape
  rw [HL.out] at hz1
  subst hz1
  have v0 : w1.cell? ⟨w.heap.size + 1, 0, none⟩ = some (.int .i64 0) := cell_later hb (by simp [go_sem])
  have o0 : w1.cell? ⟨w.heap.size + 2, 0, none⟩ = some (.int .i64 a) := cell_later hb (by simp [go_sem])
  have f0 : w1.frozen? ⟨w.heap.size + 1, 0, none⟩ = false := ((bcell hb).2 _ _ (by simp)).trans (by simp [go_sem])
  have g0 : w1.frozen? ⟨w.heap.size + 2, 0, none⟩ = false := ((bcell hb).2 _ _ (by simp)).trans (by simp [go_sem])
  have v1 : w1.cell? ⟨w.heap.size + 1, 1, none⟩ = some (.int .i64 0) := cell_later hb (by simp [go_sem])
  have o1 : w1.cell? ⟨w.heap.size + 2, 1, none⟩ = some (.int .i64 b) := cell_later hb (by simp [go_sem])
  have f1 : w1.frozen? ⟨w.heap.size + 1, 1, none⟩ = false := ((bcell hb).2 _ _ (by simp)).trans (by simp [go_sem])
  have g1 : w1.frozen? ⟨w.heap.size + 2, 1, none⟩ = false := ((bcell hb).2 _ _ (by simp)).trans (by simp [go_sem])
  have v2 : w1.cell? ⟨w.heap.size + 1, 2, none⟩ = some (.int .i64 0) := cell_later hb (by simp [go_sem])
  have o2 : w1.cell? ⟨w.heap.size + 2, 2, none⟩ = some (.int .i64 c) := cell_later hb (by simp [go_sem])
  have f2 : w1.frozen? ⟨w.heap.size + 1, 2, none⟩ = false := ((bcell hb).2 _ _ (by simp)).trans (by simp [go_sem])
  have g2 : w1.frozen? ⟨w.heap.size + 2, 2, none⟩ = false := ((bcell hb).2 _ _ (by simp)).trans (by simp [go_sem])
  have v3 : w1.cell? ⟨w.heap.size + 1, 3, none⟩ = some (.int .i64 0) := cell_later hb (by simp [go_sem])
  have o3 : w1.cell? ⟨w.heap.size + 2, 3, none⟩ = some (.int .i64 d) := cell_later hb (by simp [go_sem])
  have f3 : w1.frozen? ⟨w.heap.size + 1, 3, none⟩ = false := ((bcell hb).2 _ _ (by simp)).trans (by simp [go_sem])
  have g3 : w1.frozen? ⟨w.heap.size + 2, 3, none⟩ = false := ((bcell hb).2 _ _ (by simp)).trans (by simp [go_sem])
  have v4 : w1.cell? ⟨w.heap.size + 1, 4, none⟩ = some (.slice none 0 0) := cell_later hb (by simp [go_sem])
  have o4 : w1.cell? ⟨w.heap.size + 2, 4, none⟩ = some (.slice none 0 0) := cell_later hb (by simp [go_sem])
  have f4 : w1.frozen? ⟨w.heap.size + 1, 4, none⟩ = false := ((bcell hb).2 _ _ (by simp)).trans (by simp [go_sem])
  have g4 : w1.frozen? ⟨w.heap.size + 2, 4, none⟩ = false := ((bcell hb).2 _ _ (by simp)).trans (by simp [go_sem])
  have v5 : w1.cell? ⟨w.heap.size + 1, 5, none⟩ = some (.slice none 0 0) := cell_later hb (by simp [go_sem])
  have o5 : w1.cell? ⟨w.heap.size + 2, 5, none⟩ = some (.slice none 0 0) := cell_later hb (by simp [go_sem])
  have f5 : w1.frozen? ⟨w.heap.size + 1, 5, none⟩ = false := ((bcell hb).2 _ _ (by simp)).trans (by simp [go_sem])
  have g5 : w1.frozen? ⟨w.heap.size + 2, 5, none⟩ = false := ((bcell hb).2 _ _ (by simp)).trans (by simp [go_sem])
  have k5 : w1.cell? ⟨w.heap.size, 5, none⟩ = some (.slice az m cz) := cell_later hb (by simp [go_sem])
  have hs1 := hb.size
  simp only [World.size_alloc] at hs1
  have HB := hide (below_on (below_on (below_on (below_alloc _ _) (below_alloc _ _)) (below_alloc _ _)) hb)
  have HO := hide ho
  clear hb ho
  go_wp2_with fail
  refine (toEnC (HZ.out.later (HB.out.setCell (p := ⟨w.heap.size + 2, 4, none⟩) (by simp) _)) HM'.out HL'.out).mono ?_
  rintro e w2 ⟨z2, rfl, hb, ho, hcp⟩
  obtain ⟨a2, c2, hz2⟩ := ho.shape
  rw [HME.out] at hz2
  subst hz2
  have HCp := hide hcp
  clear hcp
  have x0 : w2.cell? ⟨w.heap.size + 1, 0, none⟩ = some (.int .i64 0) := cell_later hb ((World.cell?_setCell_other _ _ _ _ (by simp)).trans v0)
  have y0 : w2.cell? ⟨w.heap.size + 2, 0, none⟩ = some (.int .i64 a) := cell_later hb ((World.cell?_setCell_other _ _ _ _ (by simp)).trans o0)
  have p0 : w2.frozen? ⟨w.heap.size + 1, 0, none⟩ = false := ((bcell hb).2 _ _ (by simp; omega)).trans (by rw [World.frozen?_setCell]; exact f0)
  have q0 : w2.frozen? ⟨w.heap.size + 2, 0, none⟩ = false := ((bcell hb).2 _ _ (by simp; omega)).trans (by rw [World.frozen?_setCell]; exact g0)
  have x1 : w2.cell? ⟨w.heap.size + 1, 1, none⟩ = some (.int .i64 0) := cell_later hb ((World.cell?_setCell_other _ _ _ _ (by simp)).trans v1)
  have y1 : w2.cell? ⟨w.heap.size + 2, 1, none⟩ = some (.int .i64 b) := cell_later hb ((World.cell?_setCell_other _ _ _ _ (by simp)).trans o1)
  have p1 : w2.frozen? ⟨w.heap.size + 1, 1, none⟩ = false := ((bcell hb).2 _ _ (by simp; omega)).trans (by rw [World.frozen?_setCell]; exact f1)
  have q1 : w2.frozen? ⟨w.heap.size + 2, 1, none⟩ = false := ((bcell hb).2 _ _ (by simp; omega)).trans (by rw [World.frozen?_setCell]; exact g1)
  have x2 : w2.cell? ⟨w.heap.size + 1, 2, none⟩ = some (.int .i64 0) := cell_later hb ((World.cell?_setCell_other _ _ _ _ (by simp)).trans v2)
  have y2 : w2.cell? ⟨w.heap.size + 2, 2, none⟩ = some (.int .i64 c) := cell_later hb ((World.cell?_setCell_other _ _ _ _ (by simp)).trans o2)
  have p2 : w2.frozen? ⟨w.heap.size + 1, 2, none⟩ = false := ((bcell hb).2 _ _ (by simp; omega)).trans (by rw [World.frozen?_setCell]; exact f2)
  have q2 : w2.frozen? ⟨w.heap.size + 2, 2, none⟩ = false := ((bcell hb).2 _ _ (by simp; omega)).trans (by rw [World.frozen?_setCell]; exact g2)
  have x3 : w2.cell? ⟨w.heap.size + 1, 3, none⟩ = some (.int .i64 0) := cell_later hb ((World.cell?_setCell_other _ _ _ _ (by simp)).trans v3)
  have y3 : w2.cell? ⟨w.heap.size + 2, 3, none⟩ = some (.int .i64 d) := cell_later hb ((World.cell?_setCell_other _ _ _ _ (by simp)).trans o3)
  have p3 : w2.frozen? ⟨w.heap.size + 1, 3, none⟩ = false := ((bcell hb).2 _ _ (by simp; omega)).trans (by rw [World.frozen?_setCell]; exact f3)
  have q3 : w2.frozen? ⟨w.heap.size + 2, 3, none⟩ = false := ((bcell hb).2 _ _ (by simp; omega)).trans (by rw [World.frozen?_setCell]; exact g3)
  have x4 : w2.cell? ⟨w.heap.size + 1, 4, none⟩ = some (.slice none 0 0) := cell_later hb ((World.cell?_setCell_other _ _ _ _ (by simp)).trans v4)
  have y4 : w2.cell? ⟨w.heap.size + 2, 4, none⟩ = some (.slice a1 l c1) := cell_later hb (World.cell?_setCell_same _ _ _ o4)
  have p4 : w2.frozen? ⟨w.heap.size + 1, 4, none⟩ = false := ((bcell hb).2 _ _ (by simp; omega)).trans (by rw [World.frozen?_setCell]; exact f4)
  have q4 : w2.frozen? ⟨w.heap.size + 2, 4, none⟩ = false := ((bcell hb).2 _ _ (by simp; omega)).trans (by rw [World.frozen?_setCell]; exact g4)
  have x5 : w2.cell? ⟨w.heap.size + 1, 5, none⟩ = some (.slice none 0 0) := cell_later hb ((World.cell?_setCell_other _ _ _ _ (by simp)).trans v5)
  have y5 : w2.cell? ⟨w.heap.size + 2, 5, none⟩ = some (.slice none 0 0) := cell_later hb ((World.cell?_setCell_other _ _ _ _ (by simp)).trans o5)
  have p5 : w2.frozen? ⟨w.heap.size + 1, 5, none⟩ = false := ((bcell hb).2 _ _ (by simp; omega)).trans (by rw [World.frozen?_setCell]; exact f5)
  have q5 : w2.frozen? ⟨w.heap.size + 2, 5, none⟩ = false := ((bcell hb).2 _ _ (by simp; omega)).trans (by rw [World.frozen?_setCell]; exact g5)
  have hs2 := hb.size
  simp only [World.size_setCell] at hs2
  have HB2 := hide (below_on (HB.out.setCell (p := ⟨w.heap.size + 2, 4, none⟩) (by simp) _) hb)
  have HO2 := hide ((HO.out.iv.wr (T := fun x => x = w.heap.size + 2) (Wr.setCell (p := ⟨w.heap.size + 2, 4, none⟩) (Wr.refl (fun x => x = w.heap.size + 2) _) rfl (.slice a1 l c1)) (fun b hb1 hb2 e => by simp at hb1; omega)).later hb)
  simp only [World.size_setCell] at ho
  have HJ := hide ho
  clear hb ho HB HO k5 v0 o0 f0 g0 v1 o1 f1 g1 v2 o2 f2 g2 v3 o3 f3 g3 v4 o4 f4 g4 v5 o5 f5 g5
  go_wp2
  refine bodyPost_ret (v := .agg #[.int .i64 a, .int .i64 b, .int .i64 c, .int .i64 d, .slice a1 l c1, .slice a2 m c2]) (by simp [results, Tryz.results75, go_sem, x0, x1, x2, x3, x4, x5]) rfl ⟨_, _, rfl, ?_, ?_, HCp.out⟩
  · repeat (first | refine Below.setCell ?_ (by first | (simp; done) | (simp; omega) | omega) _ | exact HB2.out)
  · refine IvR_made HO2.out HJ.out (by simp; omega) (by simp; omega) (Wr.mono (S := fun b => b < w.heap.size + 3) ?_ (fun b hb => by simp; omega))
    repeat (first | refine Wr.setCell ?_ (by first | (simp; done) | (simp; omega) | omega) _ | exact Wr.refl _ _)


end Go.Proofs.YtcmdgnemkjfckaaGreatDoor
/- A struct of two numbers and a list (a file, an entry) that lies somewhere in memory. -/
namespace Go.Proofs.YtcmdgnemkjfckaaGreatDoor
open Go.RowKit

/-- A file lies at the cell off of block b. -/
def RdFp (S : Nat → Prop) (w : World) (b off : Nat) (p : Oj) : Prop :=
  ∃ y, w.cell? ⟨b, off, none⟩ = some (.int .i64 p.1) ∧ w.cell? ⟨b, off + 1, none⟩ = some (.int .i64 p.2.1) ∧ w.cell? ⟨b, off + 2, none⟩ = some y ∧ RdI S w y p.2.2
theorem RdFp.later {S : Nat → Prop} {w w' : World} {b off : Nat} {p : Oj} (h : RdFp S w b off p) (hb : Below w.heap.size w w') : RdFp S w' b off p := by
  obtain ⟨y, h0, h1, h2, h3⟩ := h
  exact ⟨y, cell_later hb h0, cell_later hb h1, cell_later hb h2, h3.later hb⟩
theorem RdJ.file {S : Nat → Prop} {w : World} {ao : Option Addr} {n c : Nat} {fs : List Oj} (h : RdJ S w (.slice ao n c) fs) {k : Nat} (hk : k < fs.length) : ∃ b off, ao = some ⟨b, off, none⟩ ∧ RdFp S w b (off + k * 3) (fs.getD k oj0) := by
  obtain ⟨ao', c', e, hm, h⟩ := h
  injection e with e1 e2 e3
  obtain ⟨b, off, V, e4, _, hc⟩ := h (by rintro rfl; exact absurd hk (Nat.not_lt_zero _))
  obtain ⟨q0, q1, q2, q3⟩ := hc k hk
  exact ⟨b, off, e1.trans e4, V k, q0, q1, q2, q3⟩
theorem ret_intF {a b : Int} (h : a = b) : Ending.returned (.int .i64 a) = .returned (.int .i64 b) := by rw [h]
end Go.Proofs.YtcmdgnemkjfckaaGreatDoor
/- Chapter 9: the fault of an entry, of the program and of the model, walked. Made by program (genen1.py). -/
namespace Go.Proofs.YtcmdgnemkjfckaaGreatDoor
open Go.RowKit

/-- The fault of an entry. -/
def entF (p : Oj) : Int :=
  if (1 ≤ p.1 ∧ p.1 ≤ 9999) ∧ 1 ≤ p.2.1 ∧ p.2.1 ≤ 999 then (if 6 < p.2.2.length then 2 else wordsF p.2.2) else 3
theorem entF_range {p : Oj} (h : ¬ ((1 ≤ p.1 ∧ p.1 ≤ 9999) ∧ 1 ≤ p.2.1 ∧ p.2.1 ≤ 999)) : entF p = 3 := by unfold entF; rw [if_neg h]
theorem entF_many {p : Oj} (h : (1 ≤ p.1 ∧ p.1 ≤ 9999) ∧ 1 ≤ p.2.1 ∧ p.2.1 ≤ 999) (h2 : 6 < p.2.2.length) : entF p = 2 := by unfold entF; rw [if_pos h, if_pos h2]
theorem entF_words {p : Oj} (h : (1 ≤ p.1 ∧ p.1 ≤ 9999) ∧ 1 ≤ p.2.1 ∧ p.2.1 ≤ 999) (h2 : ¬ 6 < p.2.2.length) : entF p = wordsF p.2.2 := by unfold entF; rw [if_pos h, if_neg h2]
theorem entF_zero {p : Oj} (h : entF p = 0) : ((1 ≤ p.1 ∧ p.1 ≤ 9999) ∧ 1 ≤ p.2.1 ∧ p.2.1 ≤ 999) ∧ p.2.2.length ≤ 6 ∧ wordsF p.2.2 = 0 := by
  unfold entF at h
  split at h
  · rename_i h1
    split at h
    · exact absurd h (by decide)
    · rename_i h2
      exact ⟨h1, by omega, h⟩
  · exact absurd h (by decide)

theorem isIndexY (a : Int) (h1 : 1 ≤ a) (h2 : a ≤ 9999) (w : World) : Calls Tryz.prog 108 #[.int .i64 a] w fun e w' => e = .returned (.bool true) ∧ w' = w := by
  have h1' : a ≥ 1 := h1
  go_enter Tryz.func108, Tryz.ntmps108
  go_wp2
  go_ret
  exact ⟨rfl, rfl⟩
theorem isIndexN (a : Int) (h : ¬ (1 ≤ a ∧ a ≤ 9999)) (w : World) : Calls Tryz.prog 108 #[.int .i64 a] w fun e w' => e = .returned (.bool false) ∧ w' = w := by
  by_cases h1 : 1 ≤ a
  · have h2 : ¬ a ≤ 9999 := fun h2 => h ⟨h1, h2⟩
    have h1' : a ≥ 1 := h1
    clear h
    go_enter Tryz.func108, Tryz.ntmps108
    go_wp2
    go_ret
    exact ⟨rfl, rfl⟩
  · have h1' : ¬ a ≥ 1 := h1
    clear h
    go_enter Tryz.func108, Tryz.ntmps108
    go_wp2
    go_ret
    exact ⟨rfl, rfl⟩
theorem isTermY (a : Int) (h1 : 1 ≤ a) (h2 : a ≤ 999) (w : World) : Calls Tryz.prog 111 #[.int .i64 a] w fun e w' => e = .returned (.bool true) ∧ w' = w := by
  have h1' : a ≥ 1 := h1
  go_enter Tryz.func111, Tryz.ntmps111
  go_wp2
  go_ret
  exact ⟨rfl, rfl⟩
theorem isTermN (a : Int) (h : ¬ (1 ≤ a ∧ a ≤ 999)) (w : World) : Calls Tryz.prog 111 #[.int .i64 a] w fun e w' => e = .returned (.bool false) ∧ w' = w := by
  by_cases h1 : 1 ≤ a
  · have h2 : ¬ a ≤ 999 := fun h2 => h ⟨h1, h2⟩
    have h1' : a ≥ 1 := h1
    clear h
    go_enter Tryz.func111, Tryz.ntmps111
    go_wp2
    go_ret
    exact ⟨rfl, rfl⟩
  · have h1' : ¬ a ≥ 1 := h1
    clear h
    go_enter Tryz.func111, Tryz.ntmps111
    go_wp2
    go_ret
    exact ⟨rfl, rfl⟩
theorem l9IndexY (a : Int) (h1 : 1 ≤ a) (h2 : a ≤ 9999) (w : World) : Calls Tryz.prog 74 #[.int .i64 a] w fun e w' => e = .returned (.bool true) ∧ w' = w := by
  go_enter Tryz.func74, Tryz.ntmps74
  go_wp2_with fail
  refine (l1In_yes a 1 9999 h1 h2 _).mono ?_
  rintro e w' ⟨rfl, rfl⟩
  go_wp2
  go_ret
  exact ⟨rfl, rfl⟩
theorem l9IndexN (a : Int) (h : ¬ (1 ≤ a ∧ a ≤ 9999)) (w : World) : Calls Tryz.prog 74 #[.int .i64 a] w fun e w' => e = .returned (.bool false) ∧ w' = w := by
  go_enter Tryz.func74, Tryz.ntmps74
  go_wp2_with fail
  refine (l1In_no a 1 9999 (by omega) _).mono ?_
  rintro e w' ⟨rfl, rfl⟩
  go_wp2
  go_ret
  exact ⟨rfl, rfl⟩
theorem l9TermY (a : Int) (h1 : 1 ≤ a) (h2 : a ≤ 999) (w : World) : Calls Tryz.prog 94 #[.int .i64 a] w fun e w' => e = .returned (.bool true) ∧ w' = w := by
  go_enter Tryz.func94, Tryz.ntmps94
  go_wp2_with fail
  refine (l1In_yes a 1 999 h1 h2 _).mono ?_
  rintro e w' ⟨rfl, rfl⟩
  go_wp2
  go_ret
  exact ⟨rfl, rfl⟩
theorem l9TermN (a : Int) (h : ¬ (1 ≤ a ∧ a ≤ 999)) (w : World) : Calls Tryz.prog 94 #[.int .i64 a] w fun e w' => e = .returned (.bool false) ∧ w' = w := by
  go_enter Tryz.func94, Tryz.ntmps94
  go_wp2_with fail
  refine (l1In_no a 1 999 (by omega) _).mono ?_
  rintro e w' ⟨rfl, rfl⟩
  go_wp2
  go_ret
  exact ⟨rfl, rfl⟩

set_option maxHeartbeats 2000000 in
set_option maxRecDepth 4000 in
theorem implEntryFault {S : Nat → Prop} {w : World} {y : Value} {xs : List Int} (a t : Int) (hy : RdI S w y xs) :
    Calls Tryz.prog 97 #[.agg #[.int .i64 a, .int .i64 t, y]] w fun e w' => e = .returned (.int .i64 (entF (a, t, xs))) ∧ Below w.heap.size w w' := by
  have HY := hide hy
  have hyl : xs.length ≤ 9223372036854775807 := by obtain ⟨_, _, _, h, _⟩ := hy; exact h
  obtain ⟨ay, cy, rfl⟩ := hy.shape
  obtain ⟨n, hn⟩ : ∃ n, xs.length = n := ⟨_, rfl⟩
  have HN := hide hn
  rw [hn] at HY hyl ⊢
  clear hy hn
  obtain ⟨z, hz⟩ : ∃ z, entF (a, t, xs) = z := ⟨_, rfl⟩
  have HZ := hide hz
  rw [hz]
  clear hz
  have A0 := hide (below_alloc w (.cells #[.int .i64 a, .int .i64 t, .slice ay n cy] 90))
  by_cases h1 : 1 ≤ a ∧ a ≤ 9999
  · by_cases h2 : 1 ≤ t ∧ t ≤ 999
    · have HG := hide (show (1 ≤ a ∧ a ≤ 9999) ∧ 1 ≤ t ∧ t ≤ 999 from ⟨h1, h2.1, h2.2⟩)
      clear h1 h2
      by_cases h3 : 6 < n
      · have hz2 : z = 2 := HZ.out.symm.trans (entF_many HG.out (by show 6 < xs.length; rw [HN.out]; exact h3))
        subst hz2
        go_enter Tryz.func97, Tryz.ntmps97
        go_wp2_with fail
        refine (isIndexY a HG.out.1.1 HG.out.1.2 _).mono ?_
        rintro e w' ⟨rfl, hw⟩
        have hw := hw.symm
        subst hw
        go_wp2_with fail
        refine (isTermY t HG.out.2.1 HG.out.2.2 _).mono ?_
        rintro e w' ⟨rfl, hw⟩
        have hw := hw.symm
        subst hw
        go_wp2
        go_ret
        exact ⟨rfl, A0.out⟩
      · have hzw := HZ.out.symm.trans (entF_words HG.out (by show ¬ 6 < xs.length; rw [HN.out]; exact h3))
        have HW := hide hzw
        clear hzw
        go_enter Tryz.func97, Tryz.ntmps97
        go_wp2_with fail
        refine (isIndexY a HG.out.1.1 HG.out.1.2 _).mono ?_
        rintro e w' ⟨rfl, hw⟩
        have hw := hw.symm
        subst hw
        go_wp2_with fail
        refine (isTermY t HG.out.2.1 HG.out.2.2 _).mono ?_
        rintro e w' ⟨rfl, hw⟩
        have hw := hw.symm
        subst hw
        go_wp2_with fail
        refine (wordsFault (HY.out.later A0.out)).mono ?_
        rintro e w4 ⟨he, q, rfl⟩
        rw [← HW.out] at he
        subst he
        go_wp2
        go_ret
        exact ⟨rfl, below_on A0.out (below_drewN _ _)⟩
    · have hz3 : z = 3 := HZ.out.symm.trans (entF_range (fun h => h2 h.2))
      subst hz3
      have H2 := hide h2
      have H1 := hide h1
      clear h1 h2
      go_enter Tryz.func97, Tryz.ntmps97
      go_wp2_with fail
      refine (isIndexY a H1.out.1 H1.out.2 _).mono ?_
      rintro e w' ⟨rfl, hw⟩
      have hw := hw.symm
      subst hw
      go_wp2_with fail
      refine (isTermN t H2.out _).mono ?_
      rintro e w' ⟨rfl, hw⟩
      have hw := hw.symm
      subst hw
      go_wp2
      go_ret
      exact ⟨rfl, A0.out⟩
  · have hz3 : z = 3 := HZ.out.symm.trans (entF_range (fun h => h1 h.1))
    subst hz3
    have H1 := hide h1
    clear h1
    go_enter Tryz.func97, Tryz.ntmps97
    go_wp2_with fail
    refine (isIndexN a H1.out _).mono ?_
    rintro e w' ⟨rfl, hw⟩
    have hw := hw.symm
    subst hw
    go_wp2
    go_ret
    exact ⟨rfl, A0.out⟩

set_option maxHeartbeats 2000000 in
set_option maxRecDepth 4000 in
theorem l9One {S : Nat → Prop} {w : World} {b off : Nat} {p : Oj} (hp : RdFp S w b off p) :
    Calls Tryz.prog 70 #[.pointer (some ⟨b, off, none⟩)] w fun e w' => e = .returned (.int .i64 (entF p)) ∧ (∃ q, w' = w.drewN q) := by
  obtain ⟨y, g0, g1, g2, hy⟩ := hp
  obtain ⟨a, t, xs⟩ := p
  dsimp only at g0 g1 g2 hy
  have HY := hide hy
  have hyl : xs.length ≤ 9223372036854775807 := by obtain ⟨_, _, _, h, _⟩ := hy; exact h
  obtain ⟨ay, cy, rfl⟩ := hy.shape
  obtain ⟨n, hn⟩ : ∃ n, xs.length = n := ⟨_, rfl⟩
  have HN := hide hn
  rw [hn] at HY hyl g2
  clear hy hn
  obtain ⟨z, hz⟩ : ∃ z, entF (a, t, xs) = z := ⟨_, rfl⟩
  have HZ := hide hz
  rw [hz]
  clear hz
  by_cases h1 : 1 ≤ a ∧ a ≤ 9999
  · by_cases h2 : 1 ≤ t ∧ t ≤ 999
    · have HG := hide (show (1 ≤ a ∧ a ≤ 9999) ∧ 1 ≤ t ∧ t ≤ 999 from ⟨h1, h2.1, h2.2⟩)
      clear h1 h2
      by_cases h3 : 6 < n
      · have hz2 : z = 2 := HZ.out.symm.trans (entF_many HG.out (by show 6 < xs.length; rw [HN.out]; exact h3))
        subst hz2
        go_enter Tryz.func70, Tryz.ntmps70
        go_wp2_with fail
        refine (l9IndexY a HG.out.1.1 HG.out.1.2 _).mono ?_
        rintro e w' ⟨rfl, hw⟩
        have hw := hw.symm
        subst hw
        go_wp2_with fail
        refine (l9TermY t HG.out.2.1 HG.out.2.2 _).mono ?_
        rintro e w' ⟨rfl, hw⟩
        have hw := hw.symm
        subst hw
        go_wp2
        go_ret
        exact ⟨rfl, 0, rfl⟩
      · have hzw := HZ.out.symm.trans (entF_words HG.out (by show ¬ 6 < xs.length; rw [HN.out]; exact h3))
        have HW := hide hzw
        clear hzw
        go_enter Tryz.func70, Tryz.ntmps70
        go_wp2_with fail
        refine (l9IndexY a HG.out.1.1 HG.out.1.2 _).mono ?_
        rintro e w' ⟨rfl, hw⟩
        have hw := hw.symm
        subst hw
        go_wp2_with fail
        refine (l9TermY t HG.out.2.1 HG.out.2.2 _).mono ?_
        rintro e w' ⟨rfl, hw⟩
        have hw := hw.symm
        subst hw
        go_wp2_with fail
        refine (l1Words HY.out).mono ?_
        rintro e w4 ⟨he, q, rfl⟩
        rw [← HW.out] at he
        subst he
        go_wp2
        go_ret
        exact ⟨rfl, q, rfl⟩
    · have hz3 : z = 3 := HZ.out.symm.trans (entF_range (fun h => h2 h.2))
      subst hz3
      have H2 := hide h2
      have H1 := hide h1
      clear h1 h2
      go_enter Tryz.func70, Tryz.ntmps70
      go_wp2_with fail
      refine (l9IndexY a H1.out.1 H1.out.2 _).mono ?_
      rintro e w' ⟨rfl, hw⟩
      have hw := hw.symm
      subst hw
      go_wp2_with fail
      refine (l9TermN t H2.out _).mono ?_
      rintro e w' ⟨rfl, hw⟩
      have hw := hw.symm
      subst hw
      go_wp2
      go_ret
      exact ⟨rfl, 0, rfl⟩
  · have hz3 : z = 3 := HZ.out.symm.trans (entF_range (fun h => h1 h.1))
    subst hz3
    have H1 := hide h1
    clear h1
    go_enter Tryz.func70, Tryz.ntmps70
    go_wp2_with fail
    refine (l9IndexN a H1.out _).mono ?_
    rintro e w' ⟨rfl, hw⟩
    have hw := hw.symm
    subst hw
    go_wp2
    go_ret
    exact ⟨rfl, 0, rfl⟩

end Go.Proofs.YtcmdgnemkjfckaaGreatDoor
/- The first code among questions that are asked one behind the other. -/
namespace Go.Proofs.YtcmdgnemkjfckaaGreatDoor

/-- The first code of n questions, from the k-th on. -/
def cfr (g : Nat → Int) : Nat → Nat → Int
  | 0, _ => 0
  | n + 1, k => if g k = 0 then cfr g n (k + 1) else g k
theorem cfr_ok {g : Nat → Int} {m j : Nat} (hj : j < m) (h : g j = 0) : cfr g (m - j) j = cfr g (m - (j + 1)) (j + 1) := by
  rw [show m - j = (m - (j + 1)) + 1 by omega, cfr, if_pos h]
theorem cfr_no {g : Nat → Int} {m j : Nat} (hj : j < m) (h : g j ≠ 0) : cfr g (m - j) j = g j := by
  rw [show m - j = (m - (j + 1)) + 1 by omega, cfr, if_neg h]
theorem cfr_end {g : Nat → Int} {m j : Nat} (hj : ¬ j < m) : cfr g (m - j) j = 0 := by
  rw [show m - j = 0 by omega, cfr]
theorem cfr_all {g : Nat → Int} : ∀ (n k : Nat), cfr g n k = 0 ↔ ∀ i, k ≤ i → i < k + n → g i = 0
  | 0, k => ⟨fun _ i h1 h2 => by omega, fun _ => rfl⟩
  | n + 1, k => by
    rw [cfr]
    by_cases hs : g k = 0
    · rw [if_pos hs, cfr_all n (k + 1)]
      constructor
      · intro h i h1 h2
        by_cases e : i = k
        · rw [e]; exact hs
        · exact h i (by omega) (by omega)
      · intro h i h1 h2
        exact h i (by omega) (by omega)
    · rw [if_neg hs]
      exact ⟨fun h => absurd h hs, fun h => h k (Nat.le_refl _) (by omega)⟩
end Go.Proofs.YtcmdgnemkjfckaaGreatDoor
