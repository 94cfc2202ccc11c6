/- Dr Iv4 Iv5 in one text: what each says stands at its head below. -/
import Derived.Test.YtlljcajfdeiigaaGreatDoorG07
import Derived.Test.YtlljcajfdeiigaaGreatDoorG08
import Derived.Test.YtlljcajfdeiigaaGreatDoorG03
/- Chapter 12: a code, a reply, a number and a store: nine cells; the laws' helpers over it. Made by program (gendo.py). -/
namespace Go.Proofs.YtlljcajfdeiigaaGreatDoor
open Go.RowKit

def Var9 (w : World) (b : Nat) (x0 x1 x2 x3 x4 x5 x6 x7 x8 : Value) : Prop := w.cell? ⟨b, 0, none⟩ = some x0 ∧ w.cell? ⟨b, 1, none⟩ = some x1 ∧ w.cell? ⟨b, 2, none⟩ = some x2 ∧ w.cell? ⟨b, 3, none⟩ = some x3 ∧ w.cell? ⟨b, 4, none⟩ = some x4 ∧ w.cell? ⟨b, 5, none⟩ = some x5 ∧ w.cell? ⟨b, 6, none⟩ = some x6 ∧ w.cell? ⟨b, 7, none⟩ = some x7 ∧ w.cell? ⟨b, 8, none⟩ = some x8
theorem Var9.later {w w' : World} {b : Nat} {x0 x1 x2 x3 x4 x5 x6 x7 x8 : Value} (h : Var9 w b x0 x1 x2 x3 x4 x5 x6 x7 x8) (hb : Below w.heap.size w w') : Var9 w' b x0 x1 x2 x3 x4 x5 x6 x7 x8 :=
  ⟨cell_later hb h.1, cell_later hb h.2.1, cell_later hb h.2.2.1, cell_later hb h.2.2.2.1, cell_later hb h.2.2.2.2.1, cell_later hb h.2.2.2.2.2.1, cell_later hb h.2.2.2.2.2.2.1, cell_later hb h.2.2.2.2.2.2.2.1, cell_later hb h.2.2.2.2.2.2.2.2⟩
theorem Var9.wr {S : Nat → Prop} {w w' : World} {b : Nat} {x0 x1 x2 x3 x4 x5 x6 x7 x8 : Value} (h : Var9 w b x0 x1 x2 x3 x4 x5 x6 x7 x8) (hb : Wr S w w') (hd : ¬ S b) : Var9 w' b x0 x1 x2 x3 x4 x5 x6 x7 x8 :=
  ⟨cell_wr hb h.1 hd, cell_wr hb h.2.1 hd, cell_wr hb h.2.2.1 hd, cell_wr hb h.2.2.2.1 hd, cell_wr hb h.2.2.2.2.1 hd, cell_wr hb h.2.2.2.2.2.1 hd, cell_wr hb h.2.2.2.2.2.2.1 hd, cell_wr hb h.2.2.2.2.2.2.2.1 hd, cell_wr hb h.2.2.2.2.2.2.2.2 hd⟩
theorem Var9.lt {w : World} {b : Nat} {x0 x1 x2 x3 x4 x5 x6 x7 x8 : Value} (h : Var9 w b x0 x1 x2 x3 x4 x5 x6 x7 x8) : b < w.heap.size := World.block_lt_of_cell? _ _ h.1
theorem Var9_new (w : World) (x0 x1 x2 x3 x4 x5 x6 x7 x8 : Value) (t : TypeId) : Var9 (w.alloc (.cells #[x0, x1, x2, x3, x4, x5, x6, x7, x8] t)) w.heap.size x0 x1 x2 x3 x4 x5 x6 x7 x8 := by
  refine ⟨?_, ?_, ?_, ?_, ?_, ?_, ?_, ?_, ?_⟩ <;> simp [go_sem]
theorem set9_other {w : World} {b h o : Nat} {x0 x1 x2 x3 x4 x5 x6 x7 x8 : Value} (hb : b ≠ h) : (((((((((w.setCell ⟨h, 0, none⟩ x0).setCell ⟨h, 1, none⟩ x1).setCell ⟨h, 2, none⟩ x2).setCell ⟨h, 3, none⟩ x3).setCell ⟨h, 4, none⟩ x4).setCell ⟨h, 5, none⟩ x5).setCell ⟨h, 6, none⟩ x6).setCell ⟨h, 7, none⟩ x7).setCell ⟨h, 8, none⟩ x8).cell? ⟨b, o, none⟩ = w.cell? ⟨b, o, none⟩ := by
  rw [World.cell?_setCell_other _ _ _ _ (by intro e; injection e with e1 _; exact hb e1.symm), World.cell?_setCell_other _ _ _ _ (by intro e; injection e with e1 _; exact hb e1.symm), World.cell?_setCell_other _ _ _ _ (by intro e; injection e with e1 _; exact hb e1.symm), World.cell?_setCell_other _ _ _ _ (by intro e; injection e with e1 _; exact hb e1.symm), World.cell?_setCell_other _ _ _ _ (by intro e; injection e with e1 _; exact hb e1.symm), World.cell?_setCell_other _ _ _ _ (by intro e; injection e with e1 _; exact hb e1.symm), World.cell?_setCell_other _ _ _ _ (by intro e; injection e with e1 _; exact hb e1.symm), World.cell?_setCell_other _ _ _ _ (by intro e; injection e with e1 _; exact hb e1.symm), World.cell?_setCell_other _ _ _ _ (by intro e; injection e with e1 _; exact hb e1.symm)]
/-- What a call that ends in a code, a reply, a number and a store is to leave, field by field. -/
def EndsO8 (x x1 x2 q0 q1 q2 q3 : Int) (rs : List Int) (rp : List Oj) (w : World) (e : Ending) (w' : World) : Prop :=
  ∃ y z, e = .returned (.agg #[.int .i64 x, .int .i64 x1, .int .i64 x2, .int .i64 q0, .int .i64 q1, .int .i64 q2, .int .i64 q3, y, z]) ∧ Below w.heap.size w w' ∧ IvR w.heap.size w'.heap.size w' y z rs rp
structure Res9 (w wr : World) (r : Nat) : Prop where
  below : Below w.heap.size w wr
  v : Var9 wr r (.int .i64 0) (.int .i64 0) (.int .i64 0) (.int .i64 0) (.int .i64 0) (.int .i64 0) (.int .i64 0) (.slice none 0 0) (.slice none 0 0)
  fr : ∀ o, wr.frozen? ⟨r, o, none⟩ = false
  ge : w.heap.size ≤ r
theorem Res9.lt {w wr : World} {r : Nat} (h : Res9 w wr r) : r < wr.heap.size := h.v.lt
theorem Res9.later {w wr w1 : World} {r : Nat} (h : Res9 w wr r) (hb : Below wr.heap.size wr w1) : Res9 w w1 r := ⟨below_on h.below hb, h.v.later hb, fun o => ((bcell hb).2 _ _ h.lt).trans (h.fr o), h.ge⟩
theorem Res9.wr {w wr w1 : World} {r : Nat} {T : Nat → Prop} (h : Res9 w wr r) (hw : Wr T wr w1) (hr : ¬ T r) (hT : ∀ b, T b → w.heap.size ≤ b) : Res9 w w1 r := ⟨h.below.trans (hw.below h.below.size hT), h.v.wr hw hr, fun o => (hw.frz _ _ h.lt).trans (h.fr o), h.ge⟩
theorem Res9.new {w w1 : World} (hb : Below w.heap.size w w1) (t : TypeId) : Res9 w (w1.alloc (.cells #[.int .i64 0, .int .i64 0, .int .i64 0, .int .i64 0, .int .i64 0, .int .i64 0, .int .i64 0, .slice none 0 0, .slice none 0 0] t)) w1.heap.size := ⟨below_on hb (below_alloc _ _), Var9_new _ _ _ _ _ _ _ _ _ _ _, fun o => by simp [go_sem], hb.size⟩
theorem ret_op {w w3 : World} {r lo : Nat} {x0 x1 x2 x3 x4 x5 x6 y z : Value} {xs : List Int} {ps : List Oj} (hb : Below w.heap.size w w3) (hr : w.heap.size ≤ r) (ho : IvR lo w3.heap.size w3 y z xs ps) (hlo : r < lo) :
    Below w.heap.size w (((((((((w3.setCell ⟨r, 0, none⟩ x0).setCell ⟨r, 1, none⟩ x1).setCell ⟨r, 2, none⟩ x2).setCell ⟨r, 3, none⟩ x3).setCell ⟨r, 4, none⟩ x4).setCell ⟨r, 5, none⟩ x5).setCell ⟨r, 6, none⟩ x6).setCell ⟨r, 7, none⟩ y).setCell ⟨r, 8, none⟩ z) ∧ IvR w.heap.size (((((((((w3.setCell ⟨r, 0, none⟩ x0).setCell ⟨r, 1, none⟩ x1).setCell ⟨r, 2, none⟩ x2).setCell ⟨r, 3, none⟩ x3).setCell ⟨r, 4, none⟩ x4).setCell ⟨r, 5, none⟩ x5).setCell ⟨r, 6, none⟩ x6).setCell ⟨r, 7, none⟩ y).setCell ⟨r, 8, none⟩ z).heap.size (((((((((w3.setCell ⟨r, 0, none⟩ x0).setCell ⟨r, 1, none⟩ x1).setCell ⟨r, 2, none⟩ x2).setCell ⟨r, 3, none⟩ x3).setCell ⟨r, 4, none⟩ x4).setCell ⟨r, 5, none⟩ x5).setCell ⟨r, 6, none⟩ x6).setCell ⟨r, 7, none⟩ y).setCell ⟨r, 8, none⟩ z) y z xs ps := by
  have hw : Wr (fun q => q = r) w3 (((((((((w3.setCell ⟨r, 0, none⟩ x0).setCell ⟨r, 1, none⟩ x1).setCell ⟨r, 2, none⟩ x2).setCell ⟨r, 3, none⟩ x3).setCell ⟨r, 4, none⟩ x4).setCell ⟨r, 5, none⟩ x5).setCell ⟨r, 6, none⟩ x6).setCell ⟨r, 7, none⟩ y).setCell ⟨r, 8, none⟩ z) := ((((((((((Wr.refl (fun q => q = r) _).setCell (p := ⟨r, 0, none⟩) rfl _).setCell (p := ⟨r, 1, none⟩) rfl _).setCell (p := ⟨r, 2, none⟩) rfl _).setCell (p := ⟨r, 3, none⟩) rfl _).setCell (p := ⟨r, 4, none⟩) rfl _).setCell (p := ⟨r, 5, none⟩) rfl _).setCell (p := ⟨r, 6, none⟩) rfl _).setCell (p := ⟨r, 7, none⟩) rfl _).setCell (p := ⟨r, 8, none⟩) rfl _)
  exact ⟨(((((((((hb.setCell (p := ⟨r, 0, none⟩) hr _).setCell (p := ⟨r, 1, none⟩) hr _).setCell (p := ⟨r, 2, none⟩) hr _).setCell (p := ⟨r, 3, none⟩) hr _).setCell (p := ⟨r, 4, none⟩) hr _).setCell (p := ⟨r, 5, none⟩) hr _).setCell (p := ⟨r, 6, none⟩) hr _).setCell (p := ⟨r, 7, none⟩) hr _).setCell (p := ⟨r, 8, none⟩) hr _), IvR.up (ho.wr hw (fun b h1 _ e => by omega)) (by omega) hw.size⟩
set_option maxHeartbeats 2000000 in
set_option maxRecDepth 4000 in
theorem eqOpResult {S T S' T' : Nat → Prop} {w : World} {x x1 x2 : Int} {y z y' z' : Value} {r : Rf} (hy : RdI S w y r.sn) (hz : RdJ T w z r.lg) (hy' : RdI S' w y' r.sn) (hz' : RdJ T' w z' r.lg) :
    Calls Tryz.prog 11 #[.agg #[.int .i64 x, .int .i64 x1, .int .i64 x2, .int .i64 r.tm, .int .i64 r.vt, .int .i64 r.si, .int .i64 r.st, y, z], .agg #[.int .i64 x, .int .i64 x1, .int .i64 x2, .int .i64 r.tm, .int .i64 r.vt, .int .i64 r.si, .int .i64 r.st, y', z']] w fun e w' => e = .returned (.bool true) ∧ Below w.heap.size w w' := by
  obtain ⟨a, b, c, d, xs, ps⟩ := r
  dsimp only at hy hz hy' hz' ⊢
  obtain ⟨ay, cy, rfl⟩ := hy.shape
  obtain ⟨az, cz, rfl, _⟩ := hz.shape
  obtain ⟨ay', cy', rfl⟩ := hy'.shape
  obtain ⟨az', cz', rfl, _⟩ := hz'.shape
  have HE := hide (fun (w' : World) (hb : Below w.heap.size w w') => eqRaft a b c d (hy.later hb) (hz.later hb) (hy'.later hb) (hz'.later hb))
  obtain ⟨l, hl⟩ : ∃ l, xs.length = l := ⟨_, rfl⟩
  obtain ⟨m, hm⟩ : ∃ m, ps.length = m := ⟨_, rfl⟩
  rw [hl, hm] at HE ⊢
  clear hy hz hy' hz' hl hm
  have BA := hide (below_on (below_alloc w (.cells #[.int .i64 x, .int .i64 x1, .int .i64 x2, .int .i64 a, .int .i64 b, .int .i64 c, .int .i64 d, .slice ay l cy, .slice az m cz] 34)) (below_alloc _ (.cells #[.int .i64 x, .int .i64 x1, .int .i64 x2, .int .i64 a, .int .i64 b, .int .i64 c, .int .i64 d, .slice ay' l cy', .slice az' m cz'] 34)))
  go_enter Tryz.func11, Tryz.ntmps11
  go_wp2_with fail
  refine (HE.out _ BA.out).mono ?_
  rintro e w2 ⟨rfl, hb2⟩
  have BC := hide (below_on BA.out hb2)
  clear hb2
  go_wp2
  go_ret
  exact ⟨rfl, BC.out⟩

set_option maxHeartbeats 2000000 in
set_option maxRecDepth 4000 in
theorem heldOpResult {lo hi : Nat} {w : World} {x x1 x2 : Int} {y z : Value} {n : Nat} {ps : List Oj} {k : Int} (a b c d : Int) (h : MkR k lo hi w y z n ps) (hk0 : 0 ≤ k) (hk : k + ((n : Int) + (totJ ps ps.length : Int)) ≤ 9223372036854775807) :
    Calls Tryz.prog 17 #[.agg #[.int .i64 x, .int .i64 x1, .int .i64 x2, .int .i64 a, .int .i64 b, .int .i64 c, .int .i64 d, y, z], .int .i64 k] w fun e w' =>
      e = .returned (.int .i64 (k + ((n : Int) + (totJ ps ps.length : Int)))) ∧ Below w.heap.size w w' := by
  have H1 := hide h
  obtain ⟨ay, cy, hy⟩ := h.1.shape
  obtain ⟨az, cz, hz, _⟩ := RdJ.shape h.2
  rw [mkI_len] at hy
  rw [mkJ_len] at hz
  subst hy
  subst hz
  clear h
  obtain ⟨M, hM⟩ : ∃ M, k + ((n : Int) + (totJ ps ps.length : Int)) = M := ⟨_, rfl⟩
  have HM := hide hM
  have HK := hide hk
  have hpos : 0 ≤ M := by omega
  rw [hM]
  obtain ⟨m, hm⟩ : ∃ m, ps.length = m := ⟨_, rfl⟩
  have HMm := hide hm
  rw [hm] at H1 ⊢
  clear hM hk hm
  go_enter Tryz.func17, Tryz.ntmps17
  go_wp2_with fail
  refine (heldRaft a b c d (H1.out.later (below_alloc _ _)) hk0 HK.out).mono ?_
  rintro e w1 ⟨he, hb⟩
  rw [HM.out] at he
  subst he
  have HB := hide (below_on (below_alloc _ _) hb)
  clear hb
  go_wp2
  go_ret
  exact ⟨rfl, HB.out⟩

set_option maxHeartbeats 2000000 in
set_option maxRecDepth 4000 in
theorem markOpResult {lo hi : Nat} {w : World} {x x1 x2 : Int} {y z : Value} {xs : List Int} {ps : List Oj} {k : Int} (a b c d : Int) (h : IvR lo hi w y z xs ps) (hk0 : 0 ≤ k) (hk : k + ((xs.length : Int) + (totJ ps ps.length : Int)) ≤ 9223372036854775807) :
    Calls Tryz.prog 16 #[.agg #[.int .i64 x, .int .i64 x1, .int .i64 x2, .int .i64 a, .int .i64 b, .int .i64 c, .int .i64 d, y, z], .int .i64 k] w fun e w' =>
      e = .returned (.int .i64 (k + ((xs.length : Int) + (totJ ps ps.length : Int)))) ∧ MkR k lo hi w' y z xs.length ps ∧ Wr (fun b => lo ≤ b ∧ b < hi) w w' := by
  obtain ⟨ay, cy, az, cz, rfl, rfl⟩ := h.shape
  have H1 := hide h
  clear h
  obtain ⟨M, hM⟩ : ∃ M, k + ((xs.length : Int) + (totJ ps ps.length : Int)) = M := ⟨_, rfl⟩
  have HM := hide hM
  have HK := hide hk
  rw [hM]
  obtain ⟨l, hl⟩ : ∃ l, xs.length = l := ⟨_, rfl⟩
  obtain ⟨m, hm⟩ : ∃ m, ps.length = m := ⟨_, rfl⟩
  have HL := hide hl
  rw [hm, hl] at H1 ⊢
  clear hM hk hm hl
  go_enter Tryz.func16, Tryz.ntmps16
  go_wp2_with fail
  refine (markRaft a b c d (H1.out.later (below_alloc _ _)) hk0 HK.out).mono ?_
  rintro e w1 ⟨he, hm, hw⟩
  rw [HM.out] at he
  rw [HL.out] at hm
  subst he
  have HMk := hide hm
  have HW := hide (wr_on (below_alloc _ _) hw)
  clear hm hw
  go_wp2
  go_ret
  exact ⟨rfl, HMk.out, HW.out⟩

set_option maxHeartbeats 2000000 in
set_option maxRecDepth 4000 in
theorem toOpC {S T : Nat → Prop} {w : World} {y z : Value} {xs : List Int} {ps : List Oj} (a b c d : Int) (hy : RdI S w y xs) (hz : RdJ T w z ps) (hm : xs.length ≤ 1048576) (hm' : ps.length ≤ 1048576) (hl' : ∀ i, i < ps.length → (ps.getD i oj0).2.2.length ≤ 1048576) :
    Calls Tryz.prog 9 #[.agg #[.int .i64 a, .int .i64 b, .int .i64 c, .int .i64 d, y, z]] w fun e w' =>
      ∃ y' z', e = .returned (.agg #[.int .i64 a, .int .i64 b, .int .i64 c, .int .i64 d, y', z']) ∧ Below w.heap.size w w' ∧ IvR w.heap.size w'.heap.size w' y' z' xs ps ∧ capE z' := by
  have HY := hide hy
  have HZ := hide hz
  have HL' := hide hl'
  have HM := hide hm
  obtain ⟨ay, cy, rfl⟩ := hy.shape
  obtain ⟨az, cz, rfl, _⟩ := hz.shape
  obtain ⟨l, hl⟩ : ∃ l, xs.length = l := ⟨_, rfl⟩
  obtain ⟨m, hme⟩ : ∃ m, ps.length = m := ⟨_, rfl⟩
  have HL := hide hl
  have HME := hide hme
  rw [hl] at HY ⊢
  rw [hme] at HZ ⊢
  have HM' := hide hm'
  clear hy hz hl' hm hm' hl hme
  go_enter Tryz.func9, Tryz.ntmps9
  go_wp2_with fail
  refine (toI' (((HY.out.later (below_alloc _ _)).later (below_alloc _ _)).later (below_alloc _ _)) HM.out).mono ?_
  rintro e w1 ⟨z1, rfl, hb, ho⟩
  obtain ⟨a1, c1, hz1⟩ := ho.shape
  rw [HL.out] at hz1
  subst hz1
  have v0 : w1.cell? ⟨w.heap.size + 1, 0, none⟩ = some (.int .i64 0) := cell_later hb (by simp [go_sem])
  have o0 : w1.cell? ⟨w.heap.size + 2, 0, none⟩ = some (.int .i64 a) := cell_later hb (by simp [go_sem])
  have f0 : w1.frozen? ⟨w.heap.size + 1, 0, none⟩ = false := ((bcell hb).2 _ _ (by simp)).trans (by simp [go_sem])
  have g0 : w1.frozen? ⟨w.heap.size + 2, 0, none⟩ = false := ((bcell hb).2 _ _ (by simp)).trans (by simp [go_sem])
  have v1 : w1.cell? ⟨w.heap.size + 1, 1, none⟩ = some (.int .i64 0) := cell_later hb (by simp [go_sem])
  have o1 : w1.cell? ⟨w.heap.size + 2, 1, none⟩ = some (.int .i64 b) := cell_later hb (by simp [go_sem])
  have f1 : w1.frozen? ⟨w.heap.size + 1, 1, none⟩ = false := ((bcell hb).2 _ _ (by simp)).trans (by simp [go_sem])
  have g1 : w1.frozen? ⟨w.heap.size + 2, 1, none⟩ = false := ((bcell hb).2 _ _ (by simp)).trans (by simp [go_sem])
  have v2 : w1.cell? ⟨w.heap.size + 1, 2, none⟩ = some (.int .i64 0) := cell_later hb (by simp [go_sem])
  have o2 : w1.cell? ⟨w.heap.size + 2, 2, none⟩ = some (.int .i64 c) := cell_later hb (by simp [go_sem])
  have f2 : w1.frozen? ⟨w.heap.size + 1, 2, none⟩ = false := ((bcell hb).2 _ _ (by simp)).trans (by simp [go_sem])
  have g2 : w1.frozen? ⟨w.heap.size + 2, 2, none⟩ = false := ((bcell hb).2 _ _ (by simp)).trans (by simp [go_sem])
  have v3 : w1.cell? ⟨w.heap.size + 1, 3, none⟩ = some (.int .i64 0) := cell_later hb (by simp [go_sem])
  have o3 : w1.cell? ⟨w.heap.size + 2, 3, none⟩ = some (.int .i64 d) := cell_later hb (by simp [go_sem])
  have f3 : w1.frozen? ⟨w.heap.size + 1, 3, none⟩ = false := ((bcell hb).2 _ _ (by simp)).trans (by simp [go_sem])
  have g3 : w1.frozen? ⟨w.heap.size + 2, 3, none⟩ = false := ((bcell hb).2 _ _ (by simp)).trans (by simp [go_sem])
  have v4 : w1.cell? ⟨w.heap.size + 1, 4, none⟩ = some (.slice none 0 0) := cell_later hb (by simp [go_sem])
  have o4 : w1.cell? ⟨w.heap.size + 2, 4, none⟩ = some (.slice none 0 0) := cell_later hb (by simp [go_sem])
  have f4 : w1.frozen? ⟨w.heap.size + 1, 4, none⟩ = false := ((bcell hb).2 _ _ (by simp)).trans (by simp [go_sem])
  have g4 : w1.frozen? ⟨w.heap.size + 2, 4, none⟩ = false := ((bcell hb).2 _ _ (by simp)).trans (by simp [go_sem])
  have v5 : w1.cell? ⟨w.heap.size + 1, 5, none⟩ = some (.slice none 0 0) := cell_later hb (by simp [go_sem])
  have o5 : w1.cell? ⟨w.heap.size + 2, 5, none⟩ = some (.slice none 0 0) := cell_later hb (by simp [go_sem])
  have f5 : w1.frozen? ⟨w.heap.size + 1, 5, none⟩ = false := ((bcell hb).2 _ _ (by simp)).trans (by simp [go_sem])
  have g5 : w1.frozen? ⟨w.heap.size + 2, 5, none⟩ = false := ((bcell hb).2 _ _ (by simp)).trans (by simp [go_sem])
  have k5 : w1.cell? ⟨w.heap.size, 5, none⟩ = some (.slice az m cz) := cell_later hb (by simp [go_sem])
  have hs1 := hb.size
  simp only [World.size_alloc] at hs1
  have HB := hide (below_on (below_on (below_on (below_alloc _ _) (below_alloc _ _)) (below_alloc _ _)) hb)
  have HO := hide ho
  clear hb ho
  go_wp2_with fail
  refine (toEnC (HZ.out.later (HB.out.setCell (p := ⟨w.heap.size + 2, 4, none⟩) (by simp) _)) HM'.out HL'.out).mono ?_
  rintro e w2 ⟨z2, rfl, hb, ho, hcp⟩
  obtain ⟨a2, c2, hz2⟩ := ho.shape
  rw [HME.out] at hz2
  subst hz2
  have HCp := hide hcp
  clear hcp
  have x0 : w2.cell? ⟨w.heap.size + 1, 0, none⟩ = some (.int .i64 0) := cell_later hb ((World.cell?_setCell_other _ _ _ _ (by simp)).trans v0)
  have y0 : w2.cell? ⟨w.heap.size + 2, 0, none⟩ = some (.int .i64 a) := cell_later hb ((World.cell?_setCell_other _ _ _ _ (by simp)).trans o0)
  have p0 : w2.frozen? ⟨w.heap.size + 1, 0, none⟩ = false := ((bcell hb).2 _ _ (by simp; omega)).trans (by rw [World.frozen?_setCell]; exact f0)
  have q0 : w2.frozen? ⟨w.heap.size + 2, 0, none⟩ = false := ((bcell hb).2 _ _ (by simp; omega)).trans (by rw [World.frozen?_setCell]; exact g0)
  have x1 : w2.cell? ⟨w.heap.size + 1, 1, none⟩ = some (.int .i64 0) := cell_later hb ((World.cell?_setCell_other _ _ _ _ (by simp)).trans v1)
  have y1 : w2.cell? ⟨w.heap.size + 2, 1, none⟩ = some (.int .i64 b) := cell_later hb ((World.cell?_setCell_other _ _ _ _ (by simp)).trans o1)
  have p1 : w2.frozen? ⟨w.heap.size + 1, 1, none⟩ = false := ((bcell hb).2 _ _ (by simp; omega)).trans (by rw [World.frozen?_setCell]; exact f1)
  have q1 : w2.frozen? ⟨w.heap.size + 2, 1, none⟩ = false := ((bcell hb).2 _ _ (by simp; omega)).trans (by rw [World.frozen?_setCell]; exact g1)
  have x2 : w2.cell? ⟨w.heap.size + 1, 2, none⟩ = some (.int .i64 0) := cell_later hb ((World.cell?_setCell_other _ _ _ _ (by simp)).trans v2)
  have y2 : w2.cell? ⟨w.heap.size + 2, 2, none⟩ = some (.int .i64 c) := cell_later hb ((World.cell?_setCell_other _ _ _ _ (by simp)).trans o2)
  have p2 : w2.frozen? ⟨w.heap.size + 1, 2, none⟩ = false := ((bcell hb).2 _ _ (by simp; omega)).trans (by rw [World.frozen?_setCell]; exact f2)
  have q2 : w2.frozen? ⟨w.heap.size + 2, 2, none⟩ = false := ((bcell hb).2 _ _ (by simp; omega)).trans (by rw [World.frozen?_setCell]; exact g2)
  have x3 : w2.cell? ⟨w.heap.size + 1, 3, none⟩ = some (.int .i64 0) := cell_later hb ((World.cell?_setCell_other _ _ _ _ (by simp)).trans v3)
  have y3 : w2.cell? ⟨w.heap.size + 2, 3, none⟩ = some (.int .i64 d) := cell_later hb ((World.cell?_setCell_other _ _ _ _ (by simp)).trans o3)
  have p3 : w2.frozen? ⟨w.heap.size + 1, 3, none⟩ = false := ((bcell hb).2 _ _ (by simp; omega)).trans (by rw [World.frozen?_setCell]; exact f3)
  have q3 : w2.frozen? ⟨w.heap.size + 2, 3, none⟩ = false := ((bcell hb).2 _ _ (by simp; omega)).trans (by rw [World.frozen?_setCell]; exact g3)
  have x4 : w2.cell? ⟨w.heap.size + 1, 4, none⟩ = some (.slice none 0 0) := cell_later hb ((World.cell?_setCell_other _ _ _ _ (by simp)).trans v4)
  have y4 : w2.cell? ⟨w.heap.size + 2, 4, none⟩ = some (.slice a1 l c1) := cell_later hb (World.cell?_setCell_same _ _ _ o4)
  have p4 : w2.frozen? ⟨w.heap.size + 1, 4, none⟩ = false := ((bcell hb).2 _ _ (by simp; omega)).trans (by rw [World.frozen?_setCell]; exact f4)
  have q4 : w2.frozen? ⟨w.heap.size + 2, 4, none⟩ = false := ((bcell hb).2 _ _ (by simp; omega)).trans (by rw [World.frozen?_setCell]; exact g4)
  have x5 : w2.cell? ⟨w.heap.size + 1, 5, none⟩ = some (.slice none 0 0) := cell_later hb ((World.cell?_setCell_other _ _ _ _ (by simp)).trans v5)
  have y5 : w2.cell? ⟨w.heap.size + 2, 5, none⟩ = some (.slice none 0 0) := cell_later hb ((World.cell?_setCell_other _ _ _ _ (by simp)).trans o5)
  have p5 : w2.frozen? ⟨w.heap.size + 1, 5, none⟩ = false := ((bcell hb).2 _ _ (by simp; omega)).trans (by rw [World.frozen?_setCell]; exact f5)
  have q5 : w2.frozen? ⟨w.heap.size + 2, 5, none⟩ = false := ((bcell hb).2 _ _ (by simp; omega)).trans (by rw [World.frozen?_setCell]; exact g5)
  have hs2 := hb.size
  simp only [World.size_setCell] at hs2
  have HB2 := hide (below_on (HB.out.setCell (p := ⟨w.heap.size + 2, 4, none⟩) (by simp) _) hb)
  have HO2 := hide ((HO.out.iv.wr (T := fun x => x = w.heap.size + 2) (Wr.setCell (p := ⟨w.heap.size + 2, 4, none⟩) (Wr.refl (fun x => x = w.heap.size + 2) _) rfl (.slice a1 l c1)) (fun b hb1 hb2 e => by simp at hb1; omega)).later hb)
  simp only [World.size_setCell] at ho
  have HJ := hide ho
  clear hb ho HB HO k5 v0 o0 f0 g0 v1 o1 f1 g1 v2 o2 f2 g2 v3 o3 f3 g3 v4 o4 f4 g4 v5 o5 f5 g5
  go_wp2
  refine bodyPost_ret (v := .agg #[.int .i64 a, .int .i64 b, .int .i64 c, .int .i64 d, .slice a1 l c1, .slice a2 m c2]) (by simp [results, Tryz.results9, go_sem, x0, x1, x2, x3, x4, x5]) rfl ⟨_, _, rfl, ?_, ?_, HCp.out⟩
  · repeat (first | refine Below.setCell ?_ (by first | (simp; done) | (simp; omega) | omega) _ | exact HB2.out)
  · refine IvR_made HO2.out HJ.out (by simp; omega) (by simp; omega) (Wr.mono (S := fun b => b < w.heap.size + 3) ?_ (fun b hb => by simp; omega))
    repeat (first | refine Wr.setCell ?_ (by first | (simp; done) | (simp; omega) | omega) _ | exact Wr.refl _ _)


end Go.Proofs.YtlljcajfdeiigaaGreatDoor
/- Four cells of a variable. -/
namespace Go.Proofs.YtlljcajfdeiigaaGreatDoor
open Go.RowKit

def Var4 (w : World) (b : Nat) (x y z u : Value) : Prop := w.cell? ⟨b, 0, none⟩ = some x ∧ w.cell? ⟨b, 1, none⟩ = some y ∧ w.cell? ⟨b, 2, none⟩ = some z ∧ w.cell? ⟨b, 3, none⟩ = some u
theorem Var4.later {w w' : World} {b : Nat} {x y z u : Value} (h : Var4 w b x y z u) (hb : Below w.heap.size w w') : Var4 w' b x y z u :=
  ⟨cell_later hb h.1, cell_later hb h.2.1, cell_later hb h.2.2.1, cell_later hb h.2.2.2⟩
theorem Var4.wr {S : Nat → Prop} {w w' : World} {b : Nat} {x y z u : Value} (h : Var4 w b x y z u) (hb : Wr S w w') (hd : ¬ S b) : Var4 w' b x y z u :=
  ⟨cell_wr hb h.1 hd, cell_wr hb h.2.1 hd, cell_wr hb h.2.2.1 hd, cell_wr hb h.2.2.2 hd⟩
theorem Var4.lt {w : World} {b : Nat} {x y z u : Value} (h : Var4 w b x y z u) : b < w.heap.size := World.block_lt_of_cell? _ _ h.1
theorem Var4_new (w : World) (x y z u : Value) (t : TypeId) : Var4 (w.alloc (.cells #[x, y, z, u] t)) w.heap.size x y z u := by
  refine ⟨?_, ?_, ?_, ?_⟩ <;> simp [go_sem]
theorem IvI.mono {lo hi lo' hi' : Nat} {w : World} {v : Value} {xs : List Int} (h : IvI lo hi w v xs) (h1 : lo' ≤ lo) (h2 : hi ≤ hi') : IvI lo' hi' w v xs := by
  obtain ⟨b, k1, k2⟩ := h
  exact ⟨b, k1, fun hne => ⟨Nat.le_trans h1 (k2 hne).1, Nat.lt_of_lt_of_le (k2 hne).2.1 h2, (k2 hne).2.2⟩⟩
theorem set4_other {w : World} {b h o : Nat} {x y z u : Value} (hb : b ≠ h) : ((((w.setCell ⟨h, 0, none⟩ x).setCell ⟨h, 1, none⟩ y).setCell ⟨h, 2, none⟩ z).setCell ⟨h, 3, none⟩ u).cell? ⟨b, o, none⟩ = w.cell? ⟨b, o, none⟩ := by
  rw [World.cell?_setCell_other _ _ _ _ (by intro e; injection e with e1 _; exact hb e1.symm), World.cell?_setCell_other _ _ _ _ (by intro e; injection e with e1 _; exact hb e1.symm), World.cell?_setCell_other _ _ _ _ (by intro e; injection e with e1 _; exact hb e1.symm), World.cell?_setCell_other _ _ _ _ (by intro e; injection e with e1 _; exact hb e1.symm)]
/-- Of the world that a region that draws stands in no more is kept than R. -/
theorem forgetH {P : Program} {md : Region.Mode} {ops : Array Oper} {Q : Exit → Act → World → Prop} {S : World → Prop} {fuel : Nat} {listed : Array Bool} {a : Act} {w0 : World} (R : World → Prop) (h0 : R w0) (h : ∀ w, R w → wpAnyH P md ops Q S fuel listed a w) : wpAnyH P md ops Q S fuel listed a w0 := h _ h0
end Go.Proofs.YtlljcajfdeiigaaGreatDoor
/- Stores into two or three cells of a variable; what is elsewhere stays. -/
namespace Go.Proofs.YtlljcajfdeiigaaGreatDoor
open Go.RowKit

theorem set2_other {w : World} {b h o : Nat} {x y : Value} (hb : b ≠ h) : ((w.setCell ⟨h, 0, none⟩ x).setCell ⟨h, 1, none⟩ y).cell? ⟨b, o, none⟩ = w.cell? ⟨b, o, none⟩ := by
  rw [World.cell?_setCell_other _ _ _ _ (by intro e; injection e with e1 _; exact hb e1.symm), World.cell?_setCell_other _ _ _ _ (by intro e; injection e with e1 _; exact hb e1.symm)]
theorem set3_other {w : World} {b h o : Nat} {x y z : Value} (hb : b ≠ h) : (((w.setCell ⟨h, 0, none⟩ x).setCell ⟨h, 1, none⟩ y).setCell ⟨h, 2, none⟩ z).cell? ⟨b, o, none⟩ = w.cell? ⟨b, o, none⟩ := by
  rw [World.cell?_setCell_other _ _ _ _ (by intro e; injection e with e1 _; exact hb e1.symm), set2_other hb]
end Go.Proofs.YtlljcajfdeiigaaGreatDoor
