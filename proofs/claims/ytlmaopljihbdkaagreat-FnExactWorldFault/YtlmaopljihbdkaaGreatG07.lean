/- Ra Ra2 Wd in one text: what each says stands at its head below. -/
import Derived.Test.YtlmaopljihbdkaaGreatG06
import Derived.Test.YtlmaopljihbdkaaGreatG03
import Derived.Test.YtlmaopljihbdkaaGreatG04
namespace Go.Proofs.YtlmaopljihbdkaaGreat
open Go.RowKit
theorem RdI.maxR {S : Nat → Prop} {w : World} {v : Value} {xs : List Int} (h : RdI S w v xs) : xs.length ≤ 9223372036854775807 := by obtain ⟨_, _, _, h, _⟩ := h; exact h
structure Rf where
  (tm vt si st : Int)
  sn : List Int
  lg : List Oj
def IvR (lo hi : Nat) (w : World) (y z : Value) (xs : List Int) (ps : List Oj) : Prop :=
  ∃ (b : Nat) (S : Nat → Prop), RdI (· = b) w y xs ∧ (xs ≠ [] → lo ≤ b ∧ b < hi ∧ ¬ S b ∧ ∀ o, w.frozen? ⟨b, o, none⟩ = false) ∧ hi ≤ w.heap.size ∧ (∀ x, S x → lo ≤ x ∧ x < hi) ∧ OwJ S w z ps
theorem IvR.wr {lo hi : Nat} {T : Nat → Prop} {w w' : World} {y z : Value} {xs : List Int} {ps : List Oj} (h : IvR lo hi w y z xs ps) (hw : Wr T w w') (hd : ∀ b, lo ≤ b → b < hi → ¬ T b) : IvR lo hi w' y z xs ps := by
  obtain ⟨b, S, h1, h2, h3, h4, h5⟩ := h
  exact ⟨b, S, h1.wr hw (fun hn x hx => hx ▸ hd _ (h2 hn).1 (h2 hn).2.1), fun hn => ⟨(h2 hn).1, (h2 hn).2.1, (h2 hn).2.2.1, fun o => (hw.frz _ _ (Nat.lt_of_lt_of_le (h2 hn).2.1 h3)).trans ((h2 hn).2.2.2 o)⟩, Nat.le_trans h3 hw.size, h4, h5.wr hw fun x hx => hd x (h4 x hx).1 (h4 x hx).2⟩
theorem IvR.later {lo hi : Nat} {w w' : World} {y z : Value} {xs : List Int} {ps : List Oj} (h : IvR lo hi w y z xs ps) (hb : Below w.heap.size w w') : IvR lo hi w' y z xs ps :=
  h.wr (Wr.of_below hb fun _ => False) fun _ _ _ => id
theorem IvR.rdI {lo hi : Nat} {w : World} {y z : Value} {xs : List Int} {ps : List Oj} (h : IvR lo hi w y z xs ps) : RdI (fun b => lo ≤ b ∧ b < hi) w y xs := by
  obtain ⟨b, S, h1, h2, _⟩ := h
  exact h1.narrow fun hn x hx => hx ▸ ⟨(h2 hn).1, (h2 hn).2.1⟩
theorem IvR.rdJ {lo hi : Nat} {w : World} {y z : Value} {xs : List Int} {ps : List Oj} (h : IvR lo hi w y z xs ps) : RdJ (fun b => lo ≤ b ∧ b < hi) w z ps := by
  obtain ⟨b, S, _, _, _, h4, h5⟩ := h
  exact (h5.mono h4).rd
theorem IvR.shape {lo hi : Nat} {w : World} {y z : Value} {xs : List Int} {ps : List Oj} (h : IvR lo hi w y z xs ps) : ∃ ao c ao' c', y = .slice ao xs.length c ∧ z = .slice ao' ps.length c' := by
  obtain ⟨a, c, e1⟩ := h.rdI.shape
  obtain ⟨a', c', e2, _⟩ := h.rdJ.shape
  exact ⟨a, c, a', c', e1, e2⟩
theorem IvR.up {lo hi lo' : Nat} {w : World} {y z : Value} {xs : List Int} {ps : List Oj} (h : IvR lo hi w y z xs ps) (h1 : lo' ≤ lo) (h2 : hi ≤ w.heap.size) : IvR lo' w.heap.size w y z xs ps := by
  obtain ⟨b, S, k1, k2, k3, k4, k5⟩ := h
  exact ⟨b, S, k1, fun hn => ⟨Nat.le_trans h1 (k2 hn).1, Nat.lt_of_lt_of_le (k2 hn).2.1 h2, (k2 hn).2.2⟩, Nat.le_refl _, fun x hx => ⟨Nat.le_trans h1 (k4 x hx).1, Nat.lt_of_lt_of_le (k4 x hx).2 h2⟩, k5⟩
theorem IvR_nil (lo : Nat) (w : World) : IvR lo w.heap.size w (.slice none 0 0) (.slice none 0 0) [] [] :=
  ⟨0, fun _ => False, ⟨none, 0, by simp, by simp, fun h => absurd rfl h⟩, fun h => absurd rfl h, Nat.le_refl _, fun _ h => h.elim, ⟨none, 0, 0, 0, fun _ => .bool false, fun _ => 0, by simp, by simp, fun h => absurd rfl h, fun i hi => absurd hi (by simp)⟩⟩
theorem RdJ.monoR {S T : Nat → Prop} {w : World} {v : Value} {fs : List Oj} (h : RdJ S w v fs) (hT : ∀ b, S b → T b) : RdJ T w v fs := by
  obtain ⟨ao, c, e1, e2, e3⟩ := h
  refine ⟨ao, c, e1, e2, fun hne => ?_⟩
  obtain ⟨b, off, V, f1, f2, f3⟩ := e3 hne
  exact ⟨b, off, V, f1, hT b f2, fun i hi => ⟨(f3 i hi).1, (f3 i hi).2.1, (f3 i hi).2.2.1, (f3 i hi).2.2.2.narrow (fun _ b hb => hT b hb)⟩⟩
theorem OwJ.laterR {S : Nat → Prop} {w w' : World} {v : Value} {ps : List Oj} (h : OwJ S w v ps) (hb : Below w.heap.size w w') : OwJ S w' v ps := h.wr (Wr.of_below hb fun _ => False) fun _ _ => id
def EndsRf (x : Int) (r : Rf) (w : World) (e : Ending) (w' : World) : Prop :=
  ∃ y z, e = .returned (.agg #[.int .i64 x, .int .i64 r.tm, .int .i64 r.vt, .int .i64 r.si, .int .i64 r.st, y, z]) ∧ Below w.heap.size w w' ∧ IvR w.heap.size w'.heap.size w' y z r.sn r.lg
set_option maxHeartbeats 2000000 in
set_option maxRecDepth 4000 in
theorem szRaft {S T : Nat → Prop} {w : World} {y z : Value} {xs : List Int} {ps : List Oj} {left : Int} (a b c d : Int) (hy : RdI S w y xs) (hz : RdJ T w z ps) (h0 : 0 ≤ left) (h1 : left ≤ 1048576) :
    Calls Tryz.prog 6 #[.agg #[.int .i64 a, .int .i64 b, .int .i64 c, .int .i64 d, y, z], .int .i64 left] w fun e w' => e = .returned (.int .i64 (szv left ((xs.length : Int) + szU ps))) ∧ Below w.heap.size w w' := by
  obtain ⟨ay, cy, rfl⟩ := hy.shape
  obtain ⟨az, cz, rfl, _⟩ := hz.shape
  have HZ := hide hz
  have hn := szU_nonneg ps
  have hlm : xs.length ≤ 9223372036854775807 := hy.maxR
  obtain ⟨l, hl⟩ : ∃ l, xs.length = l := ⟨_, rfl⟩
  obtain ⟨m, hm⟩ : ∃ m, ps.length = m := ⟨_, rfl⟩
  have HU := hide (fun (w' : World) (hb : Below w.heap.size w w') (left : Int) => szEnU (left := left) (HZ.out.later hb))
  obtain ⟨s, hs⟩ : ∃ s, szU ps = s := ⟨_, rfl⟩
  rw [hl] at hlm ⊢
  rw [hs] at HU hn ⊢
  rw [hm] at HU ⊢
  clear hy hz hl hs hm HZ
  have BA := hide (below_alloc w (.cells #[.int .i64 a, .int .i64 b, .int .i64 c, .int .i64 d, .slice ay l cy, .slice az m cz] 25))
  have C5 : Hid ((w.alloc (.cells #[.int .i64 a, .int .i64 b, .int .i64 c, .int .i64 d, .slice ay l cy, .slice az m cz] 25)).cell? ⟨w.heap.size, 5, none⟩ = some (.slice az m cz)) := by simp [Hid, go_sem]
  by_cases h : (l : Int) ≤ left
  · have HS := hide (szv_yes h)
    go_enter Tryz.func6, Tryz.ntmps6
    go_wp2_with fail
    refine (szI l cy ay left _ hlm h0 h1).mono ?_
    rintro e w1 ⟨he, rfl⟩
    rw [HS.out] at he
    subst he
    have hp : ¬ left - (l : Int) < 0 := by omega
    have c5 := C5.out
    go_wp2_with fail
    refine (HU.out _ BA.out _ (by omega) (by omega)).mono ?_
    rintro e w2 ⟨he, hb⟩
    have HB := hide (below_on BA.out hb)
    clear hb c5
    by_cases h2 : s ≤ left - (l : Int)
    · rw [szv_yes h2] at he
      subst he
      have hp2 : ¬ left - (l : Int) - s < 0 := by omega
      have hr : szv left ((l : Int) + s) = left - (l : Int) - s := by rw [szv_yes (by omega)]; omega
      have HR := hide hr
      clear hr h2
      go_wp2
      go_ret
      exact ⟨ret_int HR.out.symm, HB.out⟩
    · rw [szv_no (by omega)] at he
      subst he
      have HR := hide (szv_no (left := left) (s := (l : Int) + s) (by omega))
      clear h2
      go_wp2
      go_ret
      exact ⟨ret_int HR.out.symm, HB.out⟩
  · have HS := hide (szv_no (left := left) (s := (l : Int)) (by omega))
    have HR := hide (szv_no (left := left) (s := (l : Int) + s) (by omega))
    go_enter Tryz.func6, Tryz.ntmps6
    go_wp2_with fail
    refine (szI l cy ay left _ hlm h0 h1).mono ?_
    rintro e w1 ⟨he, rfl⟩
    rw [HS.out] at he
    subst he
    go_wp2
    go_ret
    exact ⟨ret_int HR.out.symm, BA.out⟩
set_option maxHeartbeats 2000000 in
set_option maxRecDepth 4000 in
theorem eqRaft {S T S' T' : Nat → Prop} {w : World} {y z y' z' : Value} {xs : List Int} {ps : List Oj} (a b c d : Int) (hy : RdI S w y xs) (hz : RdJ T w z ps) (hy' : RdI S' w y' xs) (hz' : RdJ T' w z' ps) :
    Calls Tryz.prog 11 #[.agg #[.int .i64 a, .int .i64 b, .int .i64 c, .int .i64 d, y, z], .agg #[.int .i64 a, .int .i64 b, .int .i64 c, .int .i64 d, y', z']] w fun e w' => e = .returned (.bool true) ∧ Below w.heap.size w w' := by
  obtain ⟨ay, cy, rfl⟩ := hy.shape
  obtain ⟨az, cz, rfl, _⟩ := hz.shape
  obtain ⟨ay', cy', rfl⟩ := hy'.shape
  obtain ⟨az', cz', rfl, _⟩ := hz'.shape
  have H1 := hide hy
  have H2 := hide hz
  have K1 := hide hy'
  have K2 := hide hz'
  obtain ⟨l, hl⟩ : ∃ l, xs.length = l := ⟨_, rfl⟩
  obtain ⟨m, hm⟩ : ∃ m, ps.length = m := ⟨_, rfl⟩
  rw [hl] at H1 K1 ⊢
  rw [hm] at H2 K2 ⊢
  clear hy hz hy' hz' hl hm
  have BA := hide (below_on (below_alloc w (.cells #[.int .i64 a, .int .i64 b, .int .i64 c, .int .i64 d, .slice ay l cy, .slice az m cz] 33)) (below_alloc _ (.cells #[.int .i64 a, .int .i64 b, .int .i64 c, .int .i64 d, .slice ay' l cy', .slice az' m cz'] 33)))
  go_enter Tryz.func11, Tryz.ntmps11
  go_wp2_with fail
  refine (eqI (H1.out.later BA.out) (K1.out.later BA.out)).mono ?_
  rintro e w1 ⟨rfl, q, rfl⟩
  have BB := hide (below_on BA.out (below_drewN _ q))
  go_wp2_with fail
  refine (eqEn (H2.out.later BB.out) (K2.out.later BB.out)).mono ?_
  rintro e w2 ⟨rfl, hb2⟩
  have BC := hide (below_on BB.out hb2)
  clear hb2
  go_wp2
  go_ret
  exact ⟨rfl, by first | exact BC.out | simpa using BC.out⟩
end Go.Proofs.YtlmaopljihbdkaaGreat
namespace Go.Proofs.YtlmaopljihbdkaaGreat
open Go.RowKit
theorem IvR_made {lo1 C lo : Nat} {w w' : World} {y z : Value} {xs : List Int} {ps : List Oj} (ho : IvI lo1 C w y xs) (hj : OwJ (fun b => C ≤ b ∧ b < w.heap.size) w z ps) (h1 : lo ≤ lo1) (h2 : lo1 ≤ C) (hw : Wr (fun b => b < lo1) w w') : IvR lo w'.heap.size w' y z xs ps := by
  obtain ⟨b, k1, k2⟩ := ho
  refine ⟨b, fun b => C ≤ b ∧ b < w.heap.size, k1.wr hw (fun hn x hx e => by subst hx; have := (k2 hn).1; omega), fun hn => ?_, Nat.le_refl _, fun x hx => ⟨by omega, Nat.lt_of_lt_of_le hx.2 hw.size⟩, hj.wr hw fun x hx e => by omega⟩
  obtain ⟨g1, g2, g3, g4⟩ := k2 hn
  exact ⟨by omega, Nat.lt_of_lt_of_le g3 hw.size, fun h => by omega, fun o => (hw.frz _ _ g3).trans (g4 o)⟩
set_option maxHeartbeats 4000000 in
set_option maxRecDepth 4000 in
theorem toRaft {S T : Nat → Prop} {w : World} {y z : Value} {xs : List Int} {ps : List Oj} (a b c d : Int) (hy : RdI S w y xs) (hz : RdJ T w z ps) (hm : xs.length ≤ 1048576) (hm' : ps.length ≤ 1048576) (hl' : ∀ i, i < ps.length → (ps.getD i oj0).2.2.length ≤ 1048576) :
    Calls Tryz.prog 8 #[.agg #[.int .i64 a, .int .i64 b, .int .i64 c, .int .i64 d, y, z]] w fun e w' =>
      ∃ y' z', e = .returned (.agg #[.int .i64 a, .int .i64 b, .int .i64 c, .int .i64 d, y', z']) ∧ Below w.heap.size w w' ∧ IvR w.heap.size w'.heap.size w' y' z' xs ps := by
  have HY := hide hy
  have HZ := hide hz
  have HL' := hide hl'
  have HM := hide hm
  obtain ⟨ay, cy, rfl⟩ := hy.shape
  obtain ⟨az, cz, rfl, _⟩ := hz.shape
  obtain ⟨l, hl⟩ : ∃ l, xs.length = l := ⟨_, rfl⟩
  obtain ⟨m, hme⟩ : ∃ m, ps.length = m := ⟨_, rfl⟩
  have HL := hide hl
  have HME := hide hme
  rw [hl] at HY ⊢
  rw [hme] at HZ ⊢
  have HM' := hide hm'
  clear hy hz hl' hm hm' hl hme
  go_enter Tryz.func8, Tryz.ntmps8
  go_wp2_with fail
  refine (toI' (((HY.out.later (below_alloc _ _)).later (below_alloc _ _)).later (below_alloc _ _)) HM.out).mono ?_
  rintro e w1 ⟨z1, rfl, hb, ho⟩
  obtain ⟨a1, c1, hz1⟩ := ho.shape
  rw [HL.out] at hz1
  subst hz1
  have v0 : w1.cell? ⟨w.heap.size + 1, 0, none⟩ = some (.int .i64 0) := cell_later hb (by simp [go_sem])
  have o0 : w1.cell? ⟨w.heap.size + 2, 0, none⟩ = some (.int .i64 a) := cell_later hb (by simp [go_sem])
  have f0 : w1.frozen? ⟨w.heap.size + 1, 0, none⟩ = false := ((bcell hb).2 _ _ (by simp)).trans (by simp [go_sem])
  have g0 : w1.frozen? ⟨w.heap.size + 2, 0, none⟩ = false := ((bcell hb).2 _ _ (by simp)).trans (by simp [go_sem])
  have v1 : w1.cell? ⟨w.heap.size + 1, 1, none⟩ = some (.int .i64 0) := cell_later hb (by simp [go_sem])
  have o1 : w1.cell? ⟨w.heap.size + 2, 1, none⟩ = some (.int .i64 b) := cell_later hb (by simp [go_sem])
  have f1 : w1.frozen? ⟨w.heap.size + 1, 1, none⟩ = false := ((bcell hb).2 _ _ (by simp)).trans (by simp [go_sem])
  have g1 : w1.frozen? ⟨w.heap.size + 2, 1, none⟩ = false := ((bcell hb).2 _ _ (by simp)).trans (by simp [go_sem])
  have v2 : w1.cell? ⟨w.heap.size + 1, 2, none⟩ = some (.int .i64 0) := cell_later hb (by simp [go_sem])
  have o2 : w1.cell? ⟨w.heap.size + 2, 2, none⟩ = some (.int .i64 c) := cell_later hb (by simp [go_sem])
  have f2 : w1.frozen? ⟨w.heap.size + 1, 2, none⟩ = false := ((bcell hb).2 _ _ (by simp)).trans (by simp [go_sem])
  have g2 : w1.frozen? ⟨w.heap.size + 2, 2, none⟩ = false := ((bcell hb).2 _ _ (by simp)).trans (by simp [go_sem])
  have v3 : w1.cell? ⟨w.heap.size + 1, 3, none⟩ = some (.int .i64 0) := cell_later hb (by simp [go_sem])
  have o3 : w1.cell? ⟨w.heap.size + 2, 3, none⟩ = some (.int .i64 d) := cell_later hb (by simp [go_sem])
  have f3 : w1.frozen? ⟨w.heap.size + 1, 3, none⟩ = false := ((bcell hb).2 _ _ (by simp)).trans (by simp [go_sem])
  have g3 : w1.frozen? ⟨w.heap.size + 2, 3, none⟩ = false := ((bcell hb).2 _ _ (by simp)).trans (by simp [go_sem])
  have v4 : w1.cell? ⟨w.heap.size + 1, 4, none⟩ = some (.slice none 0 0) := cell_later hb (by simp [go_sem])
  have o4 : w1.cell? ⟨w.heap.size + 2, 4, none⟩ = some (.slice none 0 0) := cell_later hb (by simp [go_sem])
  have f4 : w1.frozen? ⟨w.heap.size + 1, 4, none⟩ = false := ((bcell hb).2 _ _ (by simp)).trans (by simp [go_sem])
  have g4 : w1.frozen? ⟨w.heap.size + 2, 4, none⟩ = false := ((bcell hb).2 _ _ (by simp)).trans (by simp [go_sem])
  have v5 : w1.cell? ⟨w.heap.size + 1, 5, none⟩ = some (.slice none 0 0) := cell_later hb (by simp [go_sem])
  have o5 : w1.cell? ⟨w.heap.size + 2, 5, none⟩ = some (.slice none 0 0) := cell_later hb (by simp [go_sem])
  have f5 : w1.frozen? ⟨w.heap.size + 1, 5, none⟩ = false := ((bcell hb).2 _ _ (by simp)).trans (by simp [go_sem])
  have g5 : w1.frozen? ⟨w.heap.size + 2, 5, none⟩ = false := ((bcell hb).2 _ _ (by simp)).trans (by simp [go_sem])
  have k5 : w1.cell? ⟨w.heap.size, 5, none⟩ = some (.slice az m cz) := cell_later hb (by simp [go_sem])
  have hs1 := hb.size
  simp only [World.size_alloc] at hs1
  have HB := hide (below_on (below_on (below_on (below_alloc _ _) (below_alloc _ _)) (below_alloc _ _)) hb)
  have HO := hide ho
  clear hb ho
  go_wp2_with fail
  refine (toEn (HZ.out.later (HB.out.setCell (p := ⟨w.heap.size + 2, 4, none⟩) (by simp) _)) HM'.out HL'.out).mono ?_
  rintro e w2 ⟨z2, rfl, hb, ho⟩
  obtain ⟨a2, c2, hz2⟩ := ho.shape
  rw [HME.out] at hz2
  subst hz2
  have x0 : w2.cell? ⟨w.heap.size + 1, 0, none⟩ = some (.int .i64 0) := cell_later hb ((World.cell?_setCell_other _ _ _ _ (by simp)).trans v0)
  have y0 : w2.cell? ⟨w.heap.size + 2, 0, none⟩ = some (.int .i64 a) := cell_later hb ((World.cell?_setCell_other _ _ _ _ (by simp)).trans o0)
  have p0 : w2.frozen? ⟨w.heap.size + 1, 0, none⟩ = false := ((bcell hb).2 _ _ (by simp; omega)).trans (by rw [World.frozen?_setCell]; exact f0)
  have q0 : w2.frozen? ⟨w.heap.size + 2, 0, none⟩ = false := ((bcell hb).2 _ _ (by simp; omega)).trans (by rw [World.frozen?_setCell]; exact g0)
  have x1 : w2.cell? ⟨w.heap.size + 1, 1, none⟩ = some (.int .i64 0) := cell_later hb ((World.cell?_setCell_other _ _ _ _ (by simp)).trans v1)
  have y1 : w2.cell? ⟨w.heap.size + 2, 1, none⟩ = some (.int .i64 b) := cell_later hb ((World.cell?_setCell_other _ _ _ _ (by simp)).trans o1)
  have p1 : w2.frozen? ⟨w.heap.size + 1, 1, none⟩ = false := ((bcell hb).2 _ _ (by simp; omega)).trans (by rw [World.frozen?_setCell]; exact f1)
  have q1 : w2.frozen? ⟨w.heap.size + 2, 1, none⟩ = false := ((bcell hb).2 _ _ (by simp; omega)).trans (by rw [World.frozen?_setCell]; exact g1)
  have x2 : w2.cell? ⟨w.heap.size + 1, 2, none⟩ = some (.int .i64 0) := cell_later hb ((World.cell?_setCell_other _ _ _ _ (by simp)).trans v2)
  have y2 : w2.cell? ⟨w.heap.size + 2, 2, none⟩ = some (.int .i64 c) := cell_later hb ((World.cell?_setCell_other _ _ _ _ (by simp)).trans o2)
  have p2 : w2.frozen? ⟨w.heap.size + 1, 2, none⟩ = false := ((bcell hb).2 _ _ (by simp; omega)).trans (by rw [World.frozen?_setCell]; exact f2)
  have q2 : w2.frozen? ⟨w.heap.size + 2, 2, none⟩ = false := ((bcell hb).2 _ _ (by simp; omega)).trans (by rw [World.frozen?_setCell]; exact g2)
  have x3 : w2.cell? ⟨w.heap.size + 1, 3, none⟩ = some (.int .i64 0) := cell_later hb ((World.cell?_setCell_other _ _ _ _ (by simp)).trans v3)
  have y3 : w2.cell? ⟨w.heap.size + 2, 3, none⟩ = some (.int .i64 d) := cell_later hb ((World.cell?_setCell_other _ _ _ _ (by simp)).trans o3)
  have p3 : w2.frozen? ⟨w.heap.size + 1, 3, none⟩ = false := ((bcell hb).2 _ _ (by simp; omega)).trans (by rw [World.frozen?_setCell]; exact f3)
  have q3 : w2.frozen? ⟨w.heap.size + 2, 3, none⟩ = false := ((bcell hb).2 _ _ (by simp; omega)).trans (by rw [World.frozen?_setCell]; exact g3)
  have x4 : w2.cell? ⟨w.heap.size + 1, 4, none⟩ = some (.slice none 0 0) := cell_later hb ((World.cell?_setCell_other _ _ _ _ (by simp)).trans v4)
  have y4 : w2.cell? ⟨w.heap.size + 2, 4, none⟩ = some (.slice a1 l c1) := cell_later hb (World.cell?_setCell_same _ _ _ o4)
  have p4 : w2.frozen? ⟨w.heap.size + 1, 4, none⟩ = false := ((bcell hb).2 _ _ (by simp; omega)).trans (by rw [World.frozen?_setCell]; exact f4)
  have q4 : w2.frozen? ⟨w.heap.size + 2, 4, none⟩ = false := ((bcell hb).2 _ _ (by simp; omega)).trans (by rw [World.frozen?_setCell]; exact g4)
  have x5 : w2.cell? ⟨w.heap.size + 1, 5, none⟩ = some (.slice none 0 0) := cell_later hb ((World.cell?_setCell_other _ _ _ _ (by simp)).trans v5)
  have y5 : w2.cell? ⟨w.heap.size + 2, 5, none⟩ = some (.slice none 0 0) := cell_later hb ((World.cell?_setCell_other _ _ _ _ (by simp)).trans o5)
  have p5 : w2.frozen? ⟨w.heap.size + 1, 5, none⟩ = false := ((bcell hb).2 _ _ (by simp; omega)).trans (by rw [World.frozen?_setCell]; exact f5)
  have q5 : w2.frozen? ⟨w.heap.size + 2, 5, none⟩ = false := ((bcell hb).2 _ _ (by simp; omega)).trans (by rw [World.frozen?_setCell]; exact g5)
  have hs2 := hb.size
  simp only [World.size_setCell] at hs2
  have HB2 := hide (below_on (HB.out.setCell (p := ⟨w.heap.size + 2, 4, none⟩) (by simp) _) hb)
  have HO2 := hide ((HO.out.iv.wr (T := fun x => x = w.heap.size + 2) (Wr.setCell (p := ⟨w.heap.size + 2, 4, none⟩) (Wr.refl (fun x => x = w.heap.size + 2) _) rfl (.slice a1 l c1)) (fun b hb1 hb2 e => by simp at hb1; omega)).later hb)
  simp only [World.size_setCell] at ho
  have HJ := hide ho
  clear hb ho HB HO k5 v0 o0 f0 g0 v1 o1 f1 g1 v2 o2 f2 g2 v3 o3 f3 g3 v4 o4 f4 g4 v5 o5 f5 g5
  go_wp2
  refine bodyPost_ret (v := .agg #[.int .i64 a, .int .i64 b, .int .i64 c, .int .i64 d, .slice a1 l c1, .slice a2 m c2]) (by simp [results, Tryz.results8, go_sem, x0, x1, x2, x3, x4, x5]) rfl ⟨_, _, rfl, ?_, ?_⟩
  · repeat (first | refine Below.setCell ?_ (by first | (simp; done) | (simp; omega) | omega) _ | exact HB2.out)
  · refine IvR_made HO2.out HJ.out (by simp; omega) (by simp; omega) (Wr.mono (S := fun b => b < w.heap.size + 3) ?_ (fun b hb => by simp; omega))
    repeat (first | refine Wr.setCell ?_ (by first | (simp; done) | (simp; omega) | omega) _ | exact Wr.refl _ _)
end Go.Proofs.YtlmaopljihbdkaaGreat
namespace Go.Proofs.YtlmaopljihbdkaaGreat
open Go.RowKit
def Var8 (w : World) (b : Nat) (x0 x1 x2 x3 x4 x5 x6 x7 : Value) : Prop := w.cell? ⟨b, 0, none⟩ = some x0 ∧ w.cell? ⟨b, 1, none⟩ = some x1 ∧ w.cell? ⟨b, 2, none⟩ = some x2 ∧ w.cell? ⟨b, 3, none⟩ = some x3 ∧ w.cell? ⟨b, 4, none⟩ = some x4 ∧ w.cell? ⟨b, 5, none⟩ = some x5 ∧ w.cell? ⟨b, 6, none⟩ = some x6 ∧ w.cell? ⟨b, 7, none⟩ = some x7
theorem Var8.later {w w' : World} {b : Nat} {x0 x1 x2 x3 x4 x5 x6 x7 : Value} (h : Var8 w b x0 x1 x2 x3 x4 x5 x6 x7) (hb : Below w.heap.size w w') : Var8 w' b x0 x1 x2 x3 x4 x5 x6 x7 :=
  ⟨cell_later hb h.1, cell_later hb h.2.1, cell_later hb h.2.2.1, cell_later hb h.2.2.2.1, cell_later hb h.2.2.2.2.1, cell_later hb h.2.2.2.2.2.1, cell_later hb h.2.2.2.2.2.2.1, cell_later hb h.2.2.2.2.2.2.2⟩
theorem Var8.wr {S : Nat → Prop} {w w' : World} {b : Nat} {x0 x1 x2 x3 x4 x5 x6 x7 : Value} (h : Var8 w b x0 x1 x2 x3 x4 x5 x6 x7) (hb : Wr S w w') (hd : ¬ S b) : Var8 w' b x0 x1 x2 x3 x4 x5 x6 x7 :=
  ⟨cell_wr hb h.1 hd, cell_wr hb h.2.1 hd, cell_wr hb h.2.2.1 hd, cell_wr hb h.2.2.2.1 hd, cell_wr hb h.2.2.2.2.1 hd, cell_wr hb h.2.2.2.2.2.1 hd, cell_wr hb h.2.2.2.2.2.2.1 hd, cell_wr hb h.2.2.2.2.2.2.2 hd⟩
theorem Var8.lt {w : World} {b : Nat} {x0 x1 x2 x3 x4 x5 x6 x7 : Value} (h : Var8 w b x0 x1 x2 x3 x4 x5 x6 x7) : b < w.heap.size := World.block_lt_of_cell? _ _ h.1
theorem Var8_new (w : World) (x0 x1 x2 x3 x4 x5 x6 x7 : Value) (t : TypeId) : Var8 (w.alloc (.cells #[x0, x1, x2, x3, x4, x5, x6, x7] t)) w.heap.size x0 x1 x2 x3 x4 x5 x6 x7 := by
  refine ⟨?_, ?_, ?_, ?_, ?_, ?_, ?_, ?_⟩ <;> simp [go_sem]
def IvW (lo hi : Nat) (w : World) (u v y z : Value) (xss : List (List Int)) (ps : List (Int × List Int)) (xs : List Int) (es : List Oj) : Prop :=
  ∃ a b c d, lo ≤ a ∧ b ≤ hi ∧ lo ≤ c ∧ d ≤ hi ∧ hi ≤ w.heap.size ∧ (b ≤ c ∨ d ≤ a) ∧ IvD a b w u v xss ps ∧ IvR c d w y z xs es
theorem IvW.wr {lo hi : Nat} {T : Nat → Prop} {w w' : World} {u v y z : Value} {xss : List (List Int)} {ps : List (Int × List Int)} {xs : List Int} {es : List Oj} (h : IvW lo hi w u v y z xss ps xs es) (hw : Wr T w w') (hd : ∀ b, lo ≤ b → b < hi → ¬ T b) : IvW lo hi w' u v y z xss ps xs es := by
  obtain ⟨a, b, c, d, h1, h2, h3, h4, h5, h6, h7, h8⟩ := h
  exact ⟨a, b, c, d, h1, h2, h3, h4, Nat.le_trans h5 hw.size, h6, h7.wr hw fun x k1 k2 => hd x (by omega) (by omega), h8.wr hw fun x k1 k2 => hd x (by omega) (by omega)⟩
theorem IvW.later {lo hi : Nat} {w w' : World} {u v y z : Value} {xss : List (List Int)} {ps : List (Int × List Int)} {xs : List Int} {es : List Oj} (h : IvW lo hi w u v y z xss ps xs es) (hb : Below w.heap.size w w') : IvW lo hi w' u v y z xss ps xs es :=
  h.wr (Wr.of_below hb fun _ => False) fun _ _ _ => id
theorem IvW.rdII {lo hi : Nat} {w : World} {u v y z : Value} {xss : List (List Int)} {ps : List (Int × List Int)} {xs : List Int} {es : List Oj} (h : IvW lo hi w u v y z xss ps xs es) : RdII (fun b => lo ≤ b ∧ b < hi) w u xss := by
  obtain ⟨a, b, c, d, h1, h2, h3, h4, h5, h6, ⟨S, T, k0, k1, k2, k3, k4, k5⟩, h8⟩ := h
  exact (k4.mono fun x hx => ⟨Nat.le_trans h1 (k1 x hx).1, Nat.lt_of_lt_of_le (k1 x hx).2 h2⟩).rd
theorem IvW.rdP {lo hi : Nat} {w : World} {u v y z : Value} {xss : List (List Int)} {ps : List (Int × List Int)} {xs : List Int} {es : List Oj} (h : IvW lo hi w u v y z xss ps xs es) : RdP (fun b => lo ≤ b ∧ b < hi) w v ps := by
  obtain ⟨a, b, c, d, h1, h2, h3, h4, h5, h6, ⟨S, T, k0, k1, k2, k3, k4, k5⟩, h8⟩ := h
  exact (k5.mono fun x hx => ⟨Nat.le_trans h1 (k2 x hx).1, Nat.lt_of_lt_of_le (k2 x hx).2 h2⟩).rd
theorem IvW.rdI {lo hi : Nat} {w : World} {u v y z : Value} {xss : List (List Int)} {ps : List (Int × List Int)} {xs : List Int} {es : List Oj} (h : IvW lo hi w u v y z xss ps xs es) : RdI (fun b => lo ≤ b ∧ b < hi) w y xs := by
  obtain ⟨a, b, c, d, h1, h2, h3, h4, h5, h6, h7, h8⟩ := h
  exact h8.rdI.narrow fun _ x hx => ⟨Nat.le_trans h3 hx.1, Nat.lt_of_lt_of_le hx.2 h4⟩
theorem IvW.rdJ {lo hi : Nat} {w : World} {u v y z : Value} {xss : List (List Int)} {ps : List (Int × List Int)} {xs : List Int} {es : List Oj} (h : IvW lo hi w u v y z xss ps xs es) : RdJ (fun b => lo ≤ b ∧ b < hi) w z es := by
  obtain ⟨a, b, c, d, h1, h2, h3, h4, h5, h6, h7, h8⟩ := h
  exact h8.rdJ.monoR fun x hx => ⟨Nat.le_trans h3 hx.1, Nat.lt_of_lt_of_le hx.2 h4⟩
theorem IvW.shape {lo hi : Nat} {w : World} {u v y z : Value} {xss : List (List Int)} {ps : List (Int × List Int)} {xs : List Int} {es : List Oj} (h : IvW lo hi w u v y z xss ps xs es) : ∃ ao c ao' c' bo d bo' d', u = .slice ao xss.length c ∧ v = .slice ao' ps.length c' ∧ y = .slice bo xs.length d ∧ z = .slice bo' es.length d' := by
  obtain ⟨a, b, c, d, h1, h2, h3, h4, h5, h6, h7, h8⟩ := h
  obtain ⟨e1, e2, e3⟩ := h7.rdII
  obtain ⟨f1, f2, f3⟩ := h7.rdP
  obtain ⟨g1, g2, g3, g4, g5, g6⟩ := h8.shape
  exact ⟨_, _, _, _, _, _, _, _, e3.1, f3.1, g5, g6⟩
theorem IvW.up {lo hi lo' : Nat} {w : World} {u v y z : Value} {xss : List (List Int)} {ps : List (Int × List Int)} {xs : List Int} {es : List Oj} (h : IvW lo hi w u v y z xss ps xs es) (h1 : lo' ≤ lo) (h2 : hi ≤ w.heap.size) : IvW lo' w.heap.size w u v y z xss ps xs es := by
  obtain ⟨a, b, c, d, k1, k2, k3, k4, k5, k6, k7, k8⟩ := h
  exact ⟨a, b, c, d, by omega, by omega, by omega, by omega, Nat.le_refl _, k6, k7, k8⟩
theorem RdII.shapeW {S : Nat → Prop} {w : World} {u : Value} {xss : List (List Int)} (h : RdII S w u xss) : ∃ ao c, u = .slice ao xss.length c := by
  obtain ⟨a, c, e, _⟩ := h
  exact ⟨a, c, e⟩
theorem RdP.shapeW {S : Nat → Prop} {w : World} {u : Value} {ps : List (Int × List Int)} (h : RdP S w u ps) : ∃ ao c, u = .slice ao ps.length c := by
  obtain ⟨a, c, e, _⟩ := h
  exact ⟨a, c, e⟩
theorem RdJ.shapeW {S : Nat → Prop} {w : World} {u : Value} {ps : List Oj} (h : RdJ S w u ps) : ∃ ao c, u = .slice ao ps.length c := by
  obtain ⟨a, c, e, _⟩ := h.shape
  exact ⟨a, c, e⟩
set_option maxHeartbeats 4000000 in
set_option maxRecDepth 4000 in
theorem eqWorld {S1 S2 S3 S4 T1 T2 T3 T4 : Nat → Prop} {w : World} {u v y z u' v' y' z' : Value} {xss : List (List Int)} {ps : List (Int × List Int)} {xs : List Int} {es : List Oj} (a b c d : Int) (h1 : RdII S1 w u xss) (h2 : RdP S2 w v ps) (h3 : RdI S3 w y xs) (h4 : RdJ S4 w z es) (h1' : RdII T1 w u' xss) (h2' : RdP T2 w v' ps) (h3' : RdI T3 w y' xs) (h4' : RdJ T4 w z' es) :
    Calls Tryz.prog 28 #[.agg #[u, v, .int .i64 a, .int .i64 b, .int .i64 c, .int .i64 d, y, z], .agg #[u', v', .int .i64 a, .int .i64 b, .int .i64 c, .int .i64 d, y', z']] w fun e w' => e = .returned (.bool true) ∧ Below w.heap.size w w' := by
  obtain ⟨au, cu, rfl⟩ := h1.shapeW
  obtain ⟨av, cv, rfl⟩ := h2.shapeW
  obtain ⟨ay, cy, rfl⟩ := h3.shape
  obtain ⟨az, cz, rfl⟩ := h4.shapeW
  obtain ⟨au', cu', rfl⟩ := h1'.shapeW
  obtain ⟨av', cv', rfl⟩ := h2'.shapeW
  obtain ⟨ay', cy', rfl⟩ := h3'.shape
  obtain ⟨az', cz', rfl⟩ := h4'.shapeW
  have HD := hide (fun (w' : World) (hb : Below w.heap.size w w') => eqDisk (h1.later hb) (h2.later hb) (h1'.later hb) (h2'.later hb))
  have HE := hide (fun (w' : World) (hb : Below w.heap.size w w') => eqRaft a b c d (h3.later hb) (h4.later hb) (h3'.later hb) (h4'.later hb))
  obtain ⟨l1, e1⟩ : ∃ l, xss.length = l := ⟨_, rfl⟩
  obtain ⟨l2, e2⟩ : ∃ l, ps.length = l := ⟨_, rfl⟩
  obtain ⟨l3, e3⟩ : ∃ l, xs.length = l := ⟨_, rfl⟩
  obtain ⟨l4, e4⟩ : ∃ l, es.length = l := ⟨_, rfl⟩
  rw [e1, e2] at HD ⊢
  rw [e3, e4] at HE ⊢
  clear h1 h2 h3 h4 h1' h2' h3' h4' e1 e2 e3 e4
  have BA := hide (below_on (below_alloc w (.cells #[.slice au l1 cu, .slice av l2 cv, .int .i64 a, .int .i64 b, .int .i64 c, .int .i64 d, .slice ay l3 cy, .slice az l4 cz] 61)) (below_alloc _ (.cells #[.slice au' l1 cu', .slice av' l2 cv', .int .i64 a, .int .i64 b, .int .i64 c, .int .i64 d, .slice ay' l3 cy', .slice az' l4 cz'] 61)))
  go_enter Tryz.func28, Tryz.ntmps28
  go_wp2_with fail
  refine (HD.out _ BA.out).mono ?_
  rintro e w2 ⟨rfl, hb2⟩
  have hs2 := hb2.size
  simp only [World.size_alloc] at hs2
  have p2 : w2.cell? ⟨w.heap.size, 2, none⟩ = some (.int .i64 a) := cell_later hb2 (by simp [go_sem])
  have q2 : w2.cell? ⟨w.heap.size + 1, 2, none⟩ = some (.int .i64 a) := cell_later hb2 (by simp [go_sem])
  have p3 : w2.cell? ⟨w.heap.size, 3, none⟩ = some (.int .i64 b) := cell_later hb2 (by simp [go_sem])
  have q3 : w2.cell? ⟨w.heap.size + 1, 3, none⟩ = some (.int .i64 b) := cell_later hb2 (by simp [go_sem])
  have p4 : w2.cell? ⟨w.heap.size, 4, none⟩ = some (.int .i64 c) := cell_later hb2 (by simp [go_sem])
  have q4 : w2.cell? ⟨w.heap.size + 1, 4, none⟩ = some (.int .i64 c) := cell_later hb2 (by simp [go_sem])
  have p5 : w2.cell? ⟨w.heap.size, 5, none⟩ = some (.int .i64 d) := cell_later hb2 (by simp [go_sem])
  have q5 : w2.cell? ⟨w.heap.size + 1, 5, none⟩ = some (.int .i64 d) := cell_later hb2 (by simp [go_sem])
  have p6 : w2.cell? ⟨w.heap.size, 6, none⟩ = some (.slice ay l3 cy) := cell_later hb2 (by simp [go_sem])
  have q6 : w2.cell? ⟨w.heap.size + 1, 6, none⟩ = some (.slice ay' l3 cy') := cell_later hb2 (by simp [go_sem])
  have p7 : w2.cell? ⟨w.heap.size, 7, none⟩ = some (.slice az l4 cz) := cell_later hb2 (by simp [go_sem])
  have q7 : w2.cell? ⟨w.heap.size + 1, 7, none⟩ = some (.slice az' l4 cz') := cell_later hb2 (by simp [go_sem])
  have BC := hide (below_on BA.out hb2)
  clear hb2
  go_wp2_with fail
  refine (HE.out _ BC.out).mono ?_
  rintro e w3 ⟨rfl, hb3⟩
  have BD := hide (below_on BC.out hb3)
  clear hb3
  go_wp2
  go_ret
  exact ⟨rfl, BD.out⟩
end Go.Proofs.YtlmaopljihbdkaaGreat
