/- Ra Ra2 Iv6 Sh0 in one text: what each says stands at its head below. -/
import Derived.Test.YtlmaopljihbdkaaGreatG08
import Derived.Test.YtlmaopljihbdkaaGreatG03
import Derived.Test.YtlmaopljihbdkaaGreatG05
/- Chapter 10: the store of a node among the arguments: its size, copied, compared, marked, held; a code with a store. -/
namespace Go.Proofs.YtlmaopljihbdkaaGreat
open Go.RowKit

theorem RdI.maxR {S : Nat → Prop} {w : World} {v : Value} {xs : List Int} (h : RdI S w v xs) : xs.length ≤ 9223372036854775807 := by obtain ⟨_, _, _, h, _⟩ := h; exact h
/-- A store: four numbers, the words of its snapshot, its entries. -/
structure Rf where
  (tm vt si st : Int)
  sn : List Int
  lg : List Oj
def rfv (r : Rf) (y z : Value) : Value := .agg #[.int .i64 r.tm, .int .i64 r.vt, .int .i64 r.si, .int .i64 r.st, y, z]
def szR (r : Rf) : Int := (r.sn.length : Int) + szU r.lg
def totR (r : Rf) : Int := (r.sn.length : Int) + (totJ r.lg r.lg.length : Int)
/-- The words and the entries of a store in [lo, hi), apart from each other. -/
def IvR (lo hi : Nat) (w : World) (y z : Value) (xs : List Int) (ps : List Oj) : Prop :=
  ∃ (b : Nat) (S : Nat → Prop), RdI (· = b) w y xs ∧ (xs ≠ [] → lo ≤ b ∧ b < hi ∧ ¬ S b ∧ ∀ o, w.frozen? ⟨b, o, none⟩ = false) ∧ hi ≤ w.heap.size ∧ (∀ x, S x → lo ≤ x ∧ x < hi) ∧ OwJ S w z ps
def MkR (k : Int) (lo hi : Nat) (w : World) (y z : Value) (n : Nat) (ps : List Oj) : Prop := RdI (fun b => lo ≤ b ∧ b < hi) w y (mkI k n) ∧ MkJs (k + (n : Int)) lo hi w z ps
theorem IvR.wr {lo hi : Nat} {T : Nat → Prop} {w w' : World} {y z : Value} {xs : List Int} {ps : List Oj} (h : IvR lo hi w y z xs ps) (hw : Wr T w w') (hd : ∀ b, lo ≤ b → b < hi → ¬ T b) : IvR lo hi w' y z xs ps := by
  obtain ⟨b, S, h1, h2, h3, h4, h5⟩ := h
  exact ⟨b, S, h1.wr hw (fun hn x hx => hx ▸ hd _ (h2 hn).1 (h2 hn).2.1), fun hn => ⟨(h2 hn).1, (h2 hn).2.1, (h2 hn).2.2.1, fun o => (hw.frz _ _ (Nat.lt_of_lt_of_le (h2 hn).2.1 h3)).trans ((h2 hn).2.2.2 o)⟩, Nat.le_trans h3 hw.size, h4, h5.wr hw fun x hx => hd x (h4 x hx).1 (h4 x hx).2⟩
theorem IvR.later {lo hi : Nat} {w w' : World} {y z : Value} {xs : List Int} {ps : List Oj} (h : IvR lo hi w y z xs ps) (hb : Below w.heap.size w w') : IvR lo hi w' y z xs ps :=
  h.wr (Wr.of_below hb fun _ => False) fun _ _ _ => id
theorem IvR.rdI {lo hi : Nat} {w : World} {y z : Value} {xs : List Int} {ps : List Oj} (h : IvR lo hi w y z xs ps) : RdI (fun b => lo ≤ b ∧ b < hi) w y xs := by
  obtain ⟨b, S, h1, h2, _⟩ := h
  exact h1.narrow fun hn x hx => hx ▸ ⟨(h2 hn).1, (h2 hn).2.1⟩
theorem IvR.rdJ {lo hi : Nat} {w : World} {y z : Value} {xs : List Int} {ps : List Oj} (h : IvR lo hi w y z xs ps) : RdJ (fun b => lo ≤ b ∧ b < hi) w z ps := by
  obtain ⟨b, S, _, _, _, h4, h5⟩ := h
  exact (h5.mono h4).rd
theorem IvR.shape {lo hi : Nat} {w : World} {y z : Value} {xs : List Int} {ps : List Oj} (h : IvR lo hi w y z xs ps) : ∃ ao c ao' c', y = .slice ao xs.length c ∧ z = .slice ao' ps.length c' := by
  obtain ⟨a, c, e1⟩ := h.rdI.shape
  obtain ⟨a', c', e2, _⟩ := h.rdJ.shape
  exact ⟨a, c, a', c', e1, e2⟩
theorem IvR.up {lo hi lo' : Nat} {w : World} {y z : Value} {xs : List Int} {ps : List Oj} (h : IvR lo hi w y z xs ps) (h1 : lo' ≤ lo) (h2 : hi ≤ w.heap.size) : IvR lo' w.heap.size w y z xs ps := by
  obtain ⟨b, S, k1, k2, k3, k4, k5⟩ := h
  exact ⟨b, S, k1, fun hn => ⟨Nat.le_trans h1 (k2 hn).1, Nat.lt_of_lt_of_le (k2 hn).2.1 h2, (k2 hn).2.2⟩, Nat.le_refl _, fun x hx => ⟨Nat.le_trans h1 (k4 x hx).1, Nat.lt_of_lt_of_le (k4 x hx).2 h2⟩, k5⟩
theorem IvR_nil (lo : Nat) (w : World) : IvR lo w.heap.size w (.slice none 0 0) (.slice none 0 0) [] [] :=
  ⟨0, fun _ => False, ⟨none, 0, by simp, by simp, fun h => absurd rfl h⟩, fun h => absurd rfl h, Nat.le_refl _, fun _ h => h.elim, ⟨none, 0, 0, 0, fun _ => .bool false, fun _ => 0, by simp, by simp, fun h => absurd rfl h, fun i hi => absurd hi (by simp)⟩⟩
theorem MkR.wr {k : Int} {lo hi : Nat} {T : Nat → Prop} {w w' : World} {y z : Value} {n : Nat} {ps : List Oj} (h : MkR k lo hi w y z n ps) (hw : Wr T w w') (hd : ∀ b, lo ≤ b → b < hi → ¬ T b) : MkR k lo hi w' y z n ps :=
  ⟨h.1.wr hw fun _ b hb => hd b hb.1 hb.2, h.2.wr hw hd⟩
theorem MkR.later {k : Int} {lo hi : Nat} {w w' : World} {y z : Value} {n : Nat} {ps : List Oj} (h : MkR k lo hi w y z n ps) (hb : Below w.heap.size w w') : MkR k lo hi w' y z n ps :=
  ⟨h.1.later hb, h.2.later hb⟩
theorem RdJ.monoR {S T : Nat → Prop} {w : World} {v : Value} {fs : List Oj} (h : RdJ S w v fs) (hT : ∀ b, S b → T b) : RdJ T w v fs := by
  obtain ⟨ao, c, e1, e2, e3⟩ := h
  refine ⟨ao, c, e1, e2, fun hne => ?_⟩
  obtain ⟨b, off, V, f1, f2, f3⟩ := e3 hne
  exact ⟨b, off, V, f1, hT b f2, fun i hi => ⟨(f3 i hi).1, (f3 i hi).2.1, (f3 i hi).2.2.1, (f3 i hi).2.2.2.narrow (fun _ b hb => hT b hb)⟩⟩
theorem OwJ.laterR {S : Nat → Prop} {w w' : World} {v : Value} {ps : List Oj} (h : OwJ S w v ps) (hb : Below w.heap.size w w') : OwJ S w' v ps := h.wr (Wr.of_below hb fun _ => False) fun _ _ => id
/-- What a call that ends in a code and a store is to leave. -/
def EndsRf (x : Int) (r : Rf) (w : World) (e : Ending) (w' : World) : Prop :=
  ∃ y z, e = .returned (.agg #[.int .i64 x, .int .i64 r.tm, .int .i64 r.vt, .int .i64 r.si, .int .i64 r.st, y, z]) ∧ Below w.heap.size w w' ∧ IvR w.heap.size w'.heap.size w' y z r.sn r.lg

set_option maxHeartbeats 2000000 in
set_option maxRecDepth 4000 in
theorem szRaft {S T : Nat → Prop} {w : World} {y z : Value} {xs : List Int} {ps : List Oj} {left : Int} (a b c d : Int) (hy : RdI S w y xs) (hz : RdJ T w z ps) (h0 : 0 ≤ left) (h1 : left ≤ 1048576) :
    Calls Tryz.prog 6 #[.agg #[.int .i64 a, .int .i64 b, .int .i64 c, .int .i64 d, y, z], .int .i64 left] w fun e w' => e = .returned (.int .i64 (szv left ((xs.length : Int) + szU ps))) ∧ Below w.heap.size w w' := by
  obtain ⟨ay, cy, rfl⟩ := hy.shape
  obtain ⟨az, cz, rfl, _⟩ := hz.shape
  have HZ := hide hz
  have hn := szU_nonneg ps
  have hlm : xs.length ≤ 9223372036854775807 := hy.maxR
  obtain ⟨l, hl⟩ : ∃ l, xs.length = l := ⟨_, rfl⟩
  obtain ⟨m, hm⟩ : ∃ m, ps.length = m := ⟨_, rfl⟩
  have HU := hide (fun (w' : World) (hb : Below w.heap.size w w') (left : Int) => szEnU (left := left) (HZ.out.later hb))
  obtain ⟨s, hs⟩ : ∃ s, szU ps = s := ⟨_, rfl⟩
  rw [hl] at hlm ⊢
  rw [hs] at HU hn ⊢
  rw [hm] at HU ⊢
  clear hy hz hl hs hm HZ
  have BA := hide (below_alloc w (.cells #[.int .i64 a, .int .i64 b, .int .i64 c, .int .i64 d, .slice ay l cy, .slice az m cz] 25))
  have C5 : Hid ((w.alloc (.cells #[.int .i64 a, .int .i64 b, .int .i64 c, .int .i64 d, .slice ay l cy, .slice az m cz] 25)).cell? ⟨w.heap.size, 5, none⟩ = some (.slice az m cz)) := by simp [Hid, go_sem]
  by_cases h : (l : Int) ≤ left
  · have HS := hide (szv_yes h)
    go_enter Tryz.func6, Tryz.ntmps6
    go_wp2_with fail
    refine (szI l cy ay left _ hlm h0 h1).mono ?_
    rintro e w1 ⟨he, rfl⟩
    rw [HS.out] at he
    subst he
    have hp : ¬ left - (l : Int) < 0 := by omega
    have c5 := C5.out
    go_wp2_with fail
    refine (HU.out _ BA.out _ (by omega) (by omega)).mono ?_
    rintro e w2 ⟨he, hb⟩
    have HB := hide (below_on BA.out hb)
    clear hb c5
    by_cases h2 : s ≤ left - (l : Int)
    · rw [szv_yes h2] at he
      subst he
      have hp2 : ¬ left - (l : Int) - s < 0 := by omega
      have hr : szv left ((l : Int) + s) = left - (l : Int) - s := by rw [szv_yes (by omega)]; omega
      have HR := hide hr
      clear hr h2
      go_wp2
      go_ret
      exact ⟨ret_int HR.out.symm, HB.out⟩
    · rw [szv_no (by omega)] at he
      subst he
      have HR := hide (szv_no (left := left) (s := (l : Int) + s) (by omega))
      clear h2
      go_wp2
      go_ret
      exact ⟨ret_int HR.out.symm, HB.out⟩
  · have HS := hide (szv_no (left := left) (s := (l : Int)) (by omega))
    have HR := hide (szv_no (left := left) (s := (l : Int) + s) (by omega))
    go_enter Tryz.func6, Tryz.ntmps6
    go_wp2_with fail
    refine (szI l cy ay left _ hlm h0 h1).mono ?_
    rintro e w1 ⟨he, rfl⟩
    rw [HS.out] at he
    subst he
    go_wp2
    go_ret
    exact ⟨ret_int HR.out.symm, BA.out⟩

set_option maxHeartbeats 2000000 in
set_option maxRecDepth 4000 in
theorem eqRaft {S T S' T' : Nat → Prop} {w : World} {y z y' z' : Value} {xs : List Int} {ps : List Oj} (a b c d : Int) (hy : RdI S w y xs) (hz : RdJ T w z ps) (hy' : RdI S' w y' xs) (hz' : RdJ T' w z' ps) :
    Calls Tryz.prog 11 #[.agg #[.int .i64 a, .int .i64 b, .int .i64 c, .int .i64 d, y, z], .agg #[.int .i64 a, .int .i64 b, .int .i64 c, .int .i64 d, y', z']] w fun e w' => e = .returned (.bool true) ∧ Below w.heap.size w w' := by
  obtain ⟨ay, cy, rfl⟩ := hy.shape
  obtain ⟨az, cz, rfl, _⟩ := hz.shape
  obtain ⟨ay', cy', rfl⟩ := hy'.shape
  obtain ⟨az', cz', rfl, _⟩ := hz'.shape
  have H1 := hide hy
  have H2 := hide hz
  have K1 := hide hy'
  have K2 := hide hz'
  obtain ⟨l, hl⟩ : ∃ l, xs.length = l := ⟨_, rfl⟩
  obtain ⟨m, hm⟩ : ∃ m, ps.length = m := ⟨_, rfl⟩
  rw [hl] at H1 K1 ⊢
  rw [hm] at H2 K2 ⊢
  clear hy hz hy' hz' hl hm
  have BA := hide (below_on (below_alloc w (.cells #[.int .i64 a, .int .i64 b, .int .i64 c, .int .i64 d, .slice ay l cy, .slice az m cz] 33)) (below_alloc _ (.cells #[.int .i64 a, .int .i64 b, .int .i64 c, .int .i64 d, .slice ay' l cy', .slice az' m cz'] 33)))
  go_enter Tryz.func11, Tryz.ntmps11
  go_wp2_with fail
  refine (eqI (H1.out.later BA.out) (K1.out.later BA.out)).mono ?_
  rintro e w1 ⟨rfl, q, rfl⟩
  have BB := hide (below_on BA.out (below_drewN _ q))
  go_wp2_with fail
  refine (eqEn (H2.out.later BB.out) (K2.out.later BB.out)).mono ?_
  rintro e w2 ⟨rfl, hb2⟩
  have BC := hide (below_on BB.out hb2)
  clear hb2
  go_wp2
  go_ret
  exact ⟨rfl, by first | exact BC.out | simpa using BC.out⟩

set_option maxHeartbeats 2000000 in
set_option maxRecDepth 4000 in
theorem eqRaftResult {S T S' T' : Nat → Prop} {w : World} {x : Int} {y z y' z' : Value} {r : Rf} (hy : RdI S w y r.sn) (hz : RdJ T w z r.lg) (hy' : RdI S' w y' r.sn) (hz' : RdJ T' w z' r.lg) :
    Calls Tryz.prog 19 #[.agg #[.int .i64 x, .int .i64 r.tm, .int .i64 r.vt, .int .i64 r.si, .int .i64 r.st, y, z], .agg #[.int .i64 x, .int .i64 r.tm, .int .i64 r.vt, .int .i64 r.si, .int .i64 r.st, y', z']] w fun e w' => e = .returned (.bool true) ∧ Below w.heap.size w w' := by
  obtain ⟨a, b, c, d, xs, ps⟩ := r
  dsimp only at hy hz hy' hz' ⊢
  obtain ⟨ay, cy, rfl⟩ := hy.shape
  obtain ⟨az, cz, rfl, _⟩ := hz.shape
  obtain ⟨ay', cy', rfl⟩ := hy'.shape
  obtain ⟨az', cz', rfl, _⟩ := hz'.shape
  have HE := hide (fun (w' : World) (hb : Below w.heap.size w w') => eqRaft a b c d (hy.later hb) (hz.later hb) (hy'.later hb) (hz'.later hb))
  obtain ⟨l, hl⟩ : ∃ l, xs.length = l := ⟨_, rfl⟩
  obtain ⟨m, hm⟩ : ∃ m, ps.length = m := ⟨_, rfl⟩
  rw [hl, hm] at HE ⊢
  clear hy hz hy' hz' hl hm
  have BA := hide (below_on (below_alloc w (.cells #[.int .i64 x, .int .i64 a, .int .i64 b, .int .i64 c, .int .i64 d, .slice ay l cy, .slice az m cz] 43)) (below_alloc _ (.cells #[.int .i64 x, .int .i64 a, .int .i64 b, .int .i64 c, .int .i64 d, .slice ay' l cy', .slice az' m cz'] 43)))
  go_enter Tryz.func19, Tryz.ntmps19
  go_wp2_with fail
  refine (HE.out _ BA.out).mono ?_
  rintro e w2 ⟨rfl, hb2⟩
  have BC := hide (below_on BA.out hb2)
  clear hb2
  go_wp2
  go_ret
  exact ⟨rfl, BC.out⟩

set_option maxHeartbeats 2000000 in
set_option maxRecDepth 4000 in
theorem markRaft {lo hi : Nat} {w : World} {y z : Value} {xs : List Int} {ps : List Oj} {k : Int} (a b c d : Int) (h : IvR lo hi w y z xs ps) (hk0 : 0 ≤ k) (hk : k + ((xs.length : Int) + (totJ ps ps.length : Int)) ≤ 9223372036854775807) :
    Calls Tryz.prog 12 #[.agg #[.int .i64 a, .int .i64 b, .int .i64 c, .int .i64 d, y, z], .int .i64 k] w fun e w' =>
      e = .returned (.int .i64 (k + ((xs.length : Int) + (totJ ps ps.length : Int)))) ∧ MkR k lo hi w' y z xs.length ps ∧ Wr (fun b => lo ≤ b ∧ b < hi) w w' := by
  obtain ⟨ay, cy, az, cz, rfl, rfl⟩ := h.shape
  obtain ⟨g, S, h1, h2, h3, h4, h5⟩ := h
  have H1 := hide h1
  have H2 := hide h2
  have H4 := hide h4
  have H5 := hide h5
  obtain ⟨l, hl⟩ : ∃ l, xs.length = l := ⟨_, rfl⟩
  obtain ⟨m, hm⟩ : ∃ m, ps.length = m := ⟨_, rfl⟩
  obtain ⟨t, ht⟩ : ∃ t : Nat, totJ ps ps.length = t := ⟨_, rfl⟩
  have HL := hide hl
  have HT := hide ht
  rw [ht, hl] at hk ⊢
  rw [hl] at H1
  rw [hm] at H5 ⊢
  clear h1 h2 h4 h5 ht hl
  have BA := hide (below_alloc w (.cells #[.int .i64 a, .int .i64 b, .int .i64 c, .int .i64 d, .slice ay l cy, .slice az m cz] 33))
  have C5 : Hid ((w.alloc (.cells #[.int .i64 a, .int .i64 b, .int .i64 c, .int .i64 d, .slice ay l cy, .slice az m cz] 33)).cell? ⟨w.heap.size, 5, none⟩ = some (.slice az m cz)) := by simp [Hid, go_sem]
  go_enter Tryz.func12, Tryz.ntmps12
  go_wp2_with fail
  refine (markI (H1.out.later BA.out) (fun hne o => ((bcell BA.out).2 _ _ (Nat.lt_of_lt_of_le (H2.out hne).2.1 h3)).trans ((H2.out hne).2.2.2 o)) hk0 (by rw [HL.out]; omega)).mono ?_
  rintro e w1 ⟨he, hr, hw⟩
  rw [HL.out] at he hr
  subst he
  have g5 := cell_wr hw C5.out (fun ⟨e, hne⟩ => by have := (H2.out hne).2.1; omega)
  have HR := hide hr
  have HW := hide hw
  have HJ := hide ((H5.out.laterR BA.out).wr hw (fun x hx ⟨e, hne⟩ => (H2.out hne).2.2.1 (e ▸ hx)))
  clear hr hw
  go_wp2_with fail
  refine (markEn HJ.out (by omega) (by rw [HT.out]; omega)).mono ?_
  rintro e w2 ⟨he, hr, hw⟩
  rw [HT.out] at he
  subst he
  have HR2 := hide hr
  have HW2 := hide hw
  have HR1 := hide (HR.out.wr hw (fun hn x hx e => by
    have hxn : xs ≠ [] := by rintro rfl; have := HL.out; simp at this; subst this; exact hn rfl
    exact (H2.out hxn).2.2.1 (hx ▸ e)))
  clear hr hw g5
  go_wp2
  go_ret
  refine ⟨ret_int (Int.add_assoc _ _ _), ⟨HR1.out.narrow (fun hne x hx => ?_), HR2.out.monoR H4.out⟩, wr_on BA.out ((HW.out.mono fun x ⟨e, hne⟩ => e ▸ ⟨(H2.out hne).1, (H2.out hne).2.1⟩).trans (HW2.out.mono fun x hx => H4.out x hx))⟩
  subst hx
  have hne' : xs ≠ [] := by rintro rfl; have := HL.out; simp at this; subst this; exact hne rfl
  exact ⟨(H2.out hne').1, (H2.out hne').2.1⟩
end Go.Proofs.YtlmaopljihbdkaaGreat
/- Chapter 10: a store copied; held; a code with a store marked and held. -/
namespace Go.Proofs.YtlmaopljihbdkaaGreat
open Go.RowKit
theorem IvR_made {lo1 C lo : Nat} {w w' : World} {y z : Value} {xs : List Int} {ps : List Oj} (ho : IvI lo1 C w y xs) (hj : OwJ (fun b => C ≤ b ∧ b < w.heap.size) w z ps) (h1 : lo ≤ lo1) (h2 : lo1 ≤ C) (hw : Wr (fun b => b < lo1) w w') : IvR lo w'.heap.size w' y z xs ps := by
  obtain ⟨b, k1, k2⟩ := ho
  refine ⟨b, fun b => C ≤ b ∧ b < w.heap.size, k1.wr hw (fun hn x hx e => by subst hx; have := (k2 hn).1; omega), fun hn => ?_, Nat.le_refl _, fun x hx => ⟨by omega, Nat.lt_of_lt_of_le hx.2 hw.size⟩, hj.wr hw fun x hx e => by omega⟩
  obtain ⟨g1, g2, g3, g4⟩ := k2 hn
  exact ⟨by omega, Nat.lt_of_lt_of_le g3 hw.size, fun h => by omega, fun o => (hw.frz _ _ g3).trans (g4 o)⟩


set_option maxHeartbeats 4000000 in
set_option maxRecDepth 4000 in
theorem toRaft {S T : Nat → Prop} {w : World} {y z : Value} {xs : List Int} {ps : List Oj} (a b c d : Int) (hy : RdI S w y xs) (hz : RdJ T w z ps) (hm : xs.length ≤ 1048576) (hm' : ps.length ≤ 1048576) (hl' : ∀ i, i < ps.length → (ps.getD i oj0).2.2.length ≤ 1048576) :
    Calls Tryz.prog 8 #[.agg #[.int .i64 a, .int .i64 b, .int .i64 c, .int .i64 d, y, z]] w fun e w' =>
      ∃ y' z', e = .returned (.agg #[.int .i64 a, .int .i64 b, .int .i64 c, .int .i64 d, y', z']) ∧ Below w.heap.size w w' ∧ IvR w.heap.size w'.heap.size w' y' z' xs ps := by
  have HY := hide hy
  have HZ := hide hz
  have HL' := hide hl'
  have HM := hide hm
  obtain ⟨ay, cy, rfl⟩ := hy.shape
  obtain ⟨az, cz, rfl, _⟩ := hz.shape
  obtain ⟨l, hl⟩ : ∃ l, xs.length = l := ⟨_, rfl⟩
  obtain ⟨m, hme⟩ : ∃ m, ps.length = m := ⟨_, rfl⟩
  have HL := hide hl
  have HME := hide hme
  rw [hl] at HY ⊢
  rw [hme] at HZ ⊢
  have HM' := hide hm'
  clear hy hz hl' hm hm' hl hme
  go_enter Tryz.func8, Tryz.ntmps8
  go_wp2_with fail
  refine (toI' (((HY.out.later (below_alloc _ _)).later (below_alloc _ _)).later (below_alloc _ _)) HM.out).mono ?_
  rintro e w1 ⟨z1, rfl, hb, ho⟩
  obtain ⟨a1, c1, hz1⟩ := ho.shape
  rw [HL.out] at hz1
  subst hz1
  have v0 : w1.cell? ⟨w.heap.size + 1, 0, none⟩ = some (.int .i64 0) := cell_later hb (by simp [go_sem])
  have o0 : w1.cell? ⟨w.heap.size + 2, 0, none⟩ = some (.int .i64 a) := cell_later hb (by simp [go_sem])
  have f0 : w1.frozen? ⟨w.heap.size + 1, 0, none⟩ = false := ((bcell hb).2 _ _ (by simp)).trans (by simp [go_sem])
  have g0 : w1.frozen? ⟨w.heap.size + 2, 0, none⟩ = false := ((bcell hb).2 _ _ (by simp)).trans (by simp [go_sem])
  have v1 : w1.cell? ⟨w.heap.size + 1, 1, none⟩ = some (.int .i64 0) := cell_later hb (by simp [go_sem])
  have o1 : w1.cell? ⟨w.heap.size + 2, 1, none⟩ = some (.int .i64 b) := cell_later hb (by simp [go_sem])
  have f1 : w1.frozen? ⟨w.heap.size + 1, 1, none⟩ = false := ((bcell hb).2 _ _ (by simp)).trans (by simp [go_sem])
  have g1 : w1.frozen? ⟨w.heap.size + 2, 1, none⟩ = false := ((bcell hb).2 _ _ (by simp)).trans (by simp [go_sem])
  have v2 : w1.cell? ⟨w.heap.size + 1, 2, none⟩ = some (.int .i64 0) := cell_later hb (by simp [go_sem])
  have o2 : w1.cell? ⟨w.heap.size + 2, 2, none⟩ = some (.int .i64 c) := cell_later hb (by simp [go_sem])
  have f2 : w1.frozen? ⟨w.heap.size + 1, 2, none⟩ = false := ((bcell hb).2 _ _ (by simp)).trans (by simp [go_sem])
  have g2 : w1.frozen? ⟨w.heap.size + 2, 2, none⟩ = false := ((bcell hb).2 _ _ (by simp)).trans (by simp [go_sem])
  have v3 : w1.cell? ⟨w.heap.size + 1, 3, none⟩ = some (.int .i64 0) := cell_later hb (by simp [go_sem])
  have o3 : w1.cell? ⟨w.heap.size + 2, 3, none⟩ = some (.int .i64 d) := cell_later hb (by simp [go_sem])
  have f3 : w1.frozen? ⟨w.heap.size + 1, 3, none⟩ = false := ((bcell hb).2 _ _ (by simp)).trans (by simp [go_sem])
  have g3 : w1.frozen? ⟨w.heap.size + 2, 3, none⟩ = false := ((bcell hb).2 _ _ (by simp)).trans (by simp [go_sem])
  have v4 : w1.cell? ⟨w.heap.size + 1, 4, none⟩ = some (.slice none 0 0) := cell_later hb (by simp [go_sem])
  have o4 : w1.cell? ⟨w.heap.size + 2, 4, none⟩ = some (.slice none 0 0) := cell_later hb (by simp [go_sem])
  have f4 : w1.frozen? ⟨w.heap.size + 1, 4, none⟩ = false := ((bcell hb).2 _ _ (by simp)).trans (by simp [go_sem])
  have g4 : w1.frozen? ⟨w.heap.size + 2, 4, none⟩ = false := ((bcell hb).2 _ _ (by simp)).trans (by simp [go_sem])
  have v5 : w1.cell? ⟨w.heap.size + 1, 5, none⟩ = some (.slice none 0 0) := cell_later hb (by simp [go_sem])
  have o5 : w1.cell? ⟨w.heap.size + 2, 5, none⟩ = some (.slice none 0 0) := cell_later hb (by simp [go_sem])
  have f5 : w1.frozen? ⟨w.heap.size + 1, 5, none⟩ = false := ((bcell hb).2 _ _ (by simp)).trans (by simp [go_sem])
  have g5 : w1.frozen? ⟨w.heap.size + 2, 5, none⟩ = false := ((bcell hb).2 _ _ (by simp)).trans (by simp [go_sem])
  have k5 : w1.cell? ⟨w.heap.size, 5, none⟩ = some (.slice az m cz) := cell_later hb (by simp [go_sem])
  have hs1 := hb.size
  simp only [World.size_alloc] at hs1
  have HB := hide (below_on (below_on (below_on (below_alloc _ _) (below_alloc _ _)) (below_alloc _ _)) hb)
  have HO := hide ho
  clear hb ho
  go_wp2_with fail
  refine (toEn (HZ.out.later (HB.out.setCell (p := ⟨w.heap.size + 2, 4, none⟩) (by simp) _)) HM'.out HL'.out).mono ?_
  rintro e w2 ⟨z2, rfl, hb, ho⟩
  obtain ⟨a2, c2, hz2⟩ := ho.shape
  rw [HME.out] at hz2
  subst hz2
  have x0 : w2.cell? ⟨w.heap.size + 1, 0, none⟩ = some (.int .i64 0) := cell_later hb ((World.cell?_setCell_other _ _ _ _ (by simp)).trans v0)
  have y0 : w2.cell? ⟨w.heap.size + 2, 0, none⟩ = some (.int .i64 a) := cell_later hb ((World.cell?_setCell_other _ _ _ _ (by simp)).trans o0)
  have p0 : w2.frozen? ⟨w.heap.size + 1, 0, none⟩ = false := ((bcell hb).2 _ _ (by simp; omega)).trans (by rw [World.frozen?_setCell]; exact f0)
  have q0 : w2.frozen? ⟨w.heap.size + 2, 0, none⟩ = false := ((bcell hb).2 _ _ (by simp; omega)).trans (by rw [World.frozen?_setCell]; exact g0)
  have x1 : w2.cell? ⟨w.heap.size + 1, 1, none⟩ = some (.int .i64 0) := cell_later hb ((World.cell?_setCell_other _ _ _ _ (by simp)).trans v1)
  have y1 : w2.cell? ⟨w.heap.size + 2, 1, none⟩ = some (.int .i64 b) := cell_later hb ((World.cell?_setCell_other _ _ _ _ (by simp)).trans o1)
  have p1 : w2.frozen? ⟨w.heap.size + 1, 1, none⟩ = false := ((bcell hb).2 _ _ (by simp; omega)).trans (by rw [World.frozen?_setCell]; exact f1)
  have q1 : w2.frozen? ⟨w.heap.size + 2, 1, none⟩ = false := ((bcell hb).2 _ _ (by simp; omega)).trans (by rw [World.frozen?_setCell]; exact g1)
  have x2 : w2.cell? ⟨w.heap.size + 1, 2, none⟩ = some (.int .i64 0) := cell_later hb ((World.cell?_setCell_other _ _ _ _ (by simp)).trans v2)
  have y2 : w2.cell? ⟨w.heap.size + 2, 2, none⟩ = some (.int .i64 c) := cell_later hb ((World.cell?_setCell_other _ _ _ _ (by simp)).trans o2)
  have p2 : w2.frozen? ⟨w.heap.size + 1, 2, none⟩ = false := ((bcell hb).2 _ _ (by simp; omega)).trans (by rw [World.frozen?_setCell]; exact f2)
  have q2 : w2.frozen? ⟨w.heap.size + 2, 2, none⟩ = false := ((bcell hb).2 _ _ (by simp; omega)).trans (by rw [World.frozen?_setCell]; exact g2)
  have x3 : w2.cell? ⟨w.heap.size + 1, 3, none⟩ = some (.int .i64 0) := cell_later hb ((World.cell?_setCell_other _ _ _ _ (by simp)).trans v3)
  have y3 : w2.cell? ⟨w.heap.size + 2, 3, none⟩ = some (.int .i64 d) := cell_later hb ((World.cell?_setCell_other _ _ _ _ (by simp)).trans o3)
  have p3 : w2.frozen? ⟨w.heap.size + 1, 3, none⟩ = false := ((bcell hb).2 _ _ (by simp; omega)).trans (by rw [World.frozen?_setCell]; exact f3)
  have q3 : w2.frozen? ⟨w.heap.size + 2, 3, none⟩ = false := ((bcell hb).2 _ _ (by simp; omega)).trans (by rw [World.frozen?_setCell]; exact g3)
  have x4 : w2.cell? ⟨w.heap.size + 1, 4, none⟩ = some (.slice none 0 0) := cell_later hb ((World.cell?_setCell_other _ _ _ _ (by simp)).trans v4)
  have y4 : w2.cell? ⟨w.heap.size + 2, 4, none⟩ = some (.slice a1 l c1) := cell_later hb (World.cell?_setCell_same _ _ _ o4)
  have p4 : w2.frozen? ⟨w.heap.size + 1, 4, none⟩ = false := ((bcell hb).2 _ _ (by simp; omega)).trans (by rw [World.frozen?_setCell]; exact f4)
  have q4 : w2.frozen? ⟨w.heap.size + 2, 4, none⟩ = false := ((bcell hb).2 _ _ (by simp; omega)).trans (by rw [World.frozen?_setCell]; exact g4)
  have x5 : w2.cell? ⟨w.heap.size + 1, 5, none⟩ = some (.slice none 0 0) := cell_later hb ((World.cell?_setCell_other _ _ _ _ (by simp)).trans v5)
  have y5 : w2.cell? ⟨w.heap.size + 2, 5, none⟩ = some (.slice none 0 0) := cell_later hb ((World.cell?_setCell_other _ _ _ _ (by simp)).trans o5)
  have p5 : w2.frozen? ⟨w.heap.size + 1, 5, none⟩ = false := ((bcell hb).2 _ _ (by simp; omega)).trans (by rw [World.frozen?_setCell]; exact f5)
  have q5 : w2.frozen? ⟨w.heap.size + 2, 5, none⟩ = false := ((bcell hb).2 _ _ (by simp; omega)).trans (by rw [World.frozen?_setCell]; exact g5)
  have hs2 := hb.size
  simp only [World.size_setCell] at hs2
  have HB2 := hide (below_on (HB.out.setCell (p := ⟨w.heap.size + 2, 4, none⟩) (by simp) _) hb)
  have HO2 := hide ((HO.out.iv.wr (T := fun x => x = w.heap.size + 2) (Wr.setCell (p := ⟨w.heap.size + 2, 4, none⟩) (Wr.refl (fun x => x = w.heap.size + 2) _) rfl (.slice a1 l c1)) (fun b hb1 hb2 e => by simp at hb1; omega)).later hb)
  simp only [World.size_setCell] at ho
  have HJ := hide ho
  clear hb ho HB HO k5 v0 o0 f0 g0 v1 o1 f1 g1 v2 o2 f2 g2 v3 o3 f3 g3 v4 o4 f4 g4 v5 o5 f5 g5
  go_wp2
  refine bodyPost_ret (v := .agg #[.int .i64 a, .int .i64 b, .int .i64 c, .int .i64 d, .slice a1 l c1, .slice a2 m c2]) (by simp [results, Tryz.results8, go_sem, x0, x1, x2, x3, x4, x5]) rfl ⟨_, _, rfl, ?_, ?_⟩
  · repeat (first | refine Below.setCell ?_ (by first | (simp; done) | (simp; omega) | omega) _ | exact HB2.out)
  · refine IvR_made HO2.out HJ.out (by simp; omega) (by simp; omega) (Wr.mono (S := fun b => b < w.heap.size + 3) ?_ (fun b hb => by simp; omega))
    repeat (first | refine Wr.setCell ?_ (by first | (simp; done) | (simp; omega) | omega) _ | exact Wr.refl _ _)

set_option maxHeartbeats 2000000 in
set_option maxRecDepth 4000 in
theorem heldRaft {lo hi : Nat} {w : World} {y z : Value} {n : Nat} {ps : List Oj} {k : Int} (a b c d : Int) (h : MkR k lo hi w y z n ps) (hk0 : 0 ≤ k) (hk : k + ((n : Int) + (totJ ps ps.length : Int)) ≤ 9223372036854775807) :
    Calls Tryz.prog 55 #[.agg #[.int .i64 a, .int .i64 b, .int .i64 c, .int .i64 d, y, z], .int .i64 k] w fun e w' =>
      e = .returned (.int .i64 (k + ((n : Int) + (totJ ps ps.length : Int)))) ∧ Below w.heap.size w w' := by
  have H1 := hide h.1
  have H2 := hide h.2
  obtain ⟨ay, cy, hy⟩ := h.1.shape
  obtain ⟨az, cz, hz, _⟩ := RdJ.shape h.2
  rw [mkI_len] at hy
  rw [mkJ_len] at hz
  subst hy
  subst hz
  clear h
  obtain ⟨m, hm⟩ : ∃ m, ps.length = m := ⟨_, rfl⟩
  obtain ⟨t, ht⟩ : ∃ t : Nat, totJ ps ps.length = t := ⟨_, rfl⟩
  have HT := hide ht
  rw [ht] at hk ⊢
  rw [hm] at H2 ⊢
  clear ht hm
  go_enter Tryz.func55, Tryz.ntmps55
  go_wp2_with fail
  refine (heldI (H1.out.later (below_alloc _ _)) hk0 (by omega)).mono ?_
  rintro e w1 ⟨rfl, q, rfl⟩
  have hp : ¬ k + (n : Int) < 0 := by omega
  go_wp2_with fail
  refine (heldEn ((RdJ.later H2.out (below_alloc _ _)).later (below_drewN _ q)) (by omega) (by rw [HT.out]; omega)).mono ?_
  rintro e w2 ⟨he, q2, rfl⟩
  rw [HT.out, Int.add_assoc] at he
  subst he
  have hp2 : ¬ k + ((n : Int) + (t : Int)) < 0 := by omega
  go_wp2
  go_ret
  exact ⟨rfl, below_on (below_alloc _ _) (below_drewN _ _)⟩

set_option maxHeartbeats 2000000 in
set_option maxRecDepth 4000 in
theorem heldRaftResult {lo hi : Nat} {w : World} {x : Int} {y z : Value} {n : Nat} {ps : List Oj} {k : Int} (a b c d : Int) (h : MkR k lo hi w y z n ps) (hk0 : 0 ≤ k) (hk : k + ((n : Int) + (totJ ps ps.length : Int)) ≤ 9223372036854775807) :
    Calls Tryz.prog 23 #[.agg #[.int .i64 x, .int .i64 a, .int .i64 b, .int .i64 c, .int .i64 d, y, z], .int .i64 k] w fun e w' =>
      e = .returned (.int .i64 (k + ((n : Int) + (totJ ps ps.length : Int)))) ∧ Below w.heap.size w w' := by
  have H1 := hide h
  obtain ⟨ay, cy, hy⟩ := h.1.shape
  obtain ⟨az, cz, hz, _⟩ := RdJ.shape h.2
  rw [mkI_len] at hy
  rw [mkJ_len] at hz
  subst hy
  subst hz
  clear h
  obtain ⟨M, hM⟩ : ∃ M, k + ((n : Int) + (totJ ps ps.length : Int)) = M := ⟨_, rfl⟩
  have HM := hide hM
  have HK := hide hk
  have hpos : 0 ≤ M := by omega
  rw [hM]
  obtain ⟨m, hm⟩ : ∃ m, ps.length = m := ⟨_, rfl⟩
  have HMm := hide hm
  rw [hm] at H1 ⊢
  clear hM hk hm
  go_enter Tryz.func23, Tryz.ntmps23
  go_wp2_with fail
  refine (heldRaft a b c d (H1.out.later (below_alloc _ _)) hk0 HK.out).mono ?_
  rintro e w1 ⟨he, hb⟩
  rw [HM.out] at he
  subst he
  have HB := hide (below_on (below_alloc _ _) hb)
  clear hb
  go_wp2
  go_ret
  exact ⟨rfl, HB.out⟩

set_option maxHeartbeats 2000000 in
set_option maxRecDepth 4000 in
theorem markRaftResult {lo hi : Nat} {w : World} {x : Int} {y z : Value} {xs : List Int} {ps : List Oj} {k : Int} (a b c d : Int) (h : IvR lo hi w y z xs ps) (hk0 : 0 ≤ k) (hk : k + ((xs.length : Int) + (totJ ps ps.length : Int)) ≤ 9223372036854775807) :
    Calls Tryz.prog 22 #[.agg #[.int .i64 x, .int .i64 a, .int .i64 b, .int .i64 c, .int .i64 d, y, z], .int .i64 k] w fun e w' =>
      e = .returned (.int .i64 (k + ((xs.length : Int) + (totJ ps ps.length : Int)))) ∧ MkR k lo hi w' y z xs.length ps ∧ Wr (fun b => lo ≤ b ∧ b < hi) w w' := by
  obtain ⟨ay, cy, az, cz, rfl, rfl⟩ := h.shape
  have H1 := hide h
  clear h
  obtain ⟨M, hM⟩ : ∃ M, k + ((xs.length : Int) + (totJ ps ps.length : Int)) = M := ⟨_, rfl⟩
  have HM := hide hM
  have HK := hide hk
  rw [hM]
  obtain ⟨l, hl⟩ : ∃ l, xs.length = l := ⟨_, rfl⟩
  obtain ⟨m, hm⟩ : ∃ m, ps.length = m := ⟨_, rfl⟩
  have HL := hide hl
  rw [hm, hl] at H1 ⊢
  clear hM hk hm hl
  go_enter Tryz.func22, Tryz.ntmps22
  go_wp2_with fail
  refine (markRaft a b c d (H1.out.later (below_alloc _ _)) hk0 HK.out).mono ?_
  rintro e w1 ⟨he, hm, hw⟩
  rw [HM.out] at he
  rw [HL.out] at hm
  subst he
  have HMk := hide hm
  have HW := hide (wr_on (below_alloc _ _) hw)
  clear hm hw
  go_wp2
  go_ret
  exact ⟨rfl, HMk.out, HW.out⟩
end Go.Proofs.YtlmaopljihbdkaaGreat
/- Variables of six and of seven cells. -/
namespace Go.Proofs.YtlmaopljihbdkaaGreat
open Go.RowKit

def Var6 (w : World) (b : Nat) (x0 x1 x2 x3 x4 x5 : Value) : Prop := w.cell? ⟨b, 0, none⟩ = some x0 ∧ w.cell? ⟨b, 1, none⟩ = some x1 ∧ w.cell? ⟨b, 2, none⟩ = some x2 ∧ w.cell? ⟨b, 3, none⟩ = some x3 ∧ w.cell? ⟨b, 4, none⟩ = some x4 ∧ w.cell? ⟨b, 5, none⟩ = some x5
theorem Var6.later {w w' : World} {b : Nat} {x0 x1 x2 x3 x4 x5 : Value} (h : Var6 w b x0 x1 x2 x3 x4 x5) (hb : Below w.heap.size w w') : Var6 w' b x0 x1 x2 x3 x4 x5 :=
  ⟨cell_later hb h.1, cell_later hb h.2.1, cell_later hb h.2.2.1, cell_later hb h.2.2.2.1, cell_later hb h.2.2.2.2.1, cell_later hb h.2.2.2.2.2⟩
theorem Var6.wr {S : Nat → Prop} {w w' : World} {b : Nat} {x0 x1 x2 x3 x4 x5 : Value} (h : Var6 w b x0 x1 x2 x3 x4 x5) (hb : Wr S w w') (hd : ¬ S b) : Var6 w' b x0 x1 x2 x3 x4 x5 :=
  ⟨cell_wr hb h.1 hd, cell_wr hb h.2.1 hd, cell_wr hb h.2.2.1 hd, cell_wr hb h.2.2.2.1 hd, cell_wr hb h.2.2.2.2.1 hd, cell_wr hb h.2.2.2.2.2 hd⟩
theorem Var6.lt {w : World} {b : Nat} {x0 x1 x2 x3 x4 x5 : Value} (h : Var6 w b x0 x1 x2 x3 x4 x5) : b < w.heap.size := World.block_lt_of_cell? _ _ h.1
theorem Var6_new (w : World) (x0 x1 x2 x3 x4 x5 : Value) (t : TypeId) : Var6 (w.alloc (.cells #[x0, x1, x2, x3, x4, x5] t)) w.heap.size x0 x1 x2 x3 x4 x5 := by
  refine ⟨?_, ?_, ?_, ?_, ?_, ?_⟩ <;> simp [go_sem]
def Var7 (w : World) (b : Nat) (x0 x1 x2 x3 x4 x5 x6 : Value) : Prop := w.cell? ⟨b, 0, none⟩ = some x0 ∧ w.cell? ⟨b, 1, none⟩ = some x1 ∧ w.cell? ⟨b, 2, none⟩ = some x2 ∧ w.cell? ⟨b, 3, none⟩ = some x3 ∧ w.cell? ⟨b, 4, none⟩ = some x4 ∧ w.cell? ⟨b, 5, none⟩ = some x5 ∧ w.cell? ⟨b, 6, none⟩ = some x6
theorem Var7.later {w w' : World} {b : Nat} {x0 x1 x2 x3 x4 x5 x6 : Value} (h : Var7 w b x0 x1 x2 x3 x4 x5 x6) (hb : Below w.heap.size w w') : Var7 w' b x0 x1 x2 x3 x4 x5 x6 :=
  ⟨cell_later hb h.1, cell_later hb h.2.1, cell_later hb h.2.2.1, cell_later hb h.2.2.2.1, cell_later hb h.2.2.2.2.1, cell_later hb h.2.2.2.2.2.1, cell_later hb h.2.2.2.2.2.2⟩
theorem Var7.wr {S : Nat → Prop} {w w' : World} {b : Nat} {x0 x1 x2 x3 x4 x5 x6 : Value} (h : Var7 w b x0 x1 x2 x3 x4 x5 x6) (hb : Wr S w w') (hd : ¬ S b) : Var7 w' b x0 x1 x2 x3 x4 x5 x6 :=
  ⟨cell_wr hb h.1 hd, cell_wr hb h.2.1 hd, cell_wr hb h.2.2.1 hd, cell_wr hb h.2.2.2.1 hd, cell_wr hb h.2.2.2.2.1 hd, cell_wr hb h.2.2.2.2.2.1 hd, cell_wr hb h.2.2.2.2.2.2 hd⟩
theorem Var7.lt {w : World} {b : Nat} {x0 x1 x2 x3 x4 x5 x6 : Value} (h : Var7 w b x0 x1 x2 x3 x4 x5 x6) : b < w.heap.size := World.block_lt_of_cell? _ _ h.1
theorem Var7_new (w : World) (x0 x1 x2 x3 x4 x5 x6 : Value) (t : TypeId) : Var7 (w.alloc (.cells #[x0, x1, x2, x3, x4, x5, x6] t)) w.heap.size x0 x1 x2 x3 x4 x5 x6 := by
  refine ⟨?_, ?_, ?_, ?_, ?_, ?_, ?_⟩ <;> simp [go_sem]
end Go.Proofs.YtlmaopljihbdkaaGreat
/- What a call that ends in a code and a store is to leave, field by field. -/
namespace Go.Proofs.YtlmaopljihbdkaaGreat
open Go.RowKit

def EndsR6 (x q0 q1 q2 q3 : Int) (rs : List Int) (rp : List Oj) (w : World) (e : Ending) (w' : World) : Prop :=
  ∃ y z, e = .returned (.agg #[.int .i64 x, .int .i64 q0, .int .i64 q1, .int .i64 q2, .int .i64 q3, y, z]) ∧ Below w.heap.size w w' ∧ IvR w.heap.size w'.heap.size w' y z rs rp
end Go.Proofs.YtlmaopljihbdkaaGreat
