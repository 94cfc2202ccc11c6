/- Ra in one text: what each says stands at its head below. -/
import Derived.Test.YtcbapclpopbjbaaDoorG13
import Derived.Test.YtcbapclpopbjbaaDoorG02
import Derived.Test.YtcbapclpopbjbaaDoorG05
/- Chapter 10: the store of a node among the arguments: its size, copied, compared, marked, held; a code with a store. -/
namespace Go.Proofs.YtcbapclpopbjbaaDoor
open Go.RowKit

theorem RdI.maxR {S : Nat → Prop} {w : World} {v : Value} {xs : List Int} (h : RdI S w v xs) : xs.length ≤ 9223372036854775807 := by obtain ⟨_, _, _, h, _⟩ := h; exact h
/-- A store: four numbers, the words of its snapshot, its entries. -/
structure Rf where
  (tm vt si st : Int)
  sn : List Int
  lg : List Oj
def rfv (r : Rf) (y z : Value) : Value := .agg #[.int .i64 r.tm, .int .i64 r.vt, .int .i64 r.si, .int .i64 r.st, y, z]
def szR (r : Rf) : Int := (r.sn.length : Int) + szU r.lg
def totR (r : Rf) : Int := (r.sn.length : Int) + (totJ r.lg r.lg.length : Int)
/-- The words and the entries of a store in [lo, hi), apart from each other. -/
def IvR (lo hi : Nat) (w : World) (y z : Value) (xs : List Int) (ps : List Oj) : Prop :=
  ∃ (b : Nat) (S : Nat → Prop), RdI (· = b) w y xs ∧ (xs ≠ [] → lo ≤ b ∧ b < hi ∧ ¬ S b ∧ ∀ o, w.frozen? ⟨b, o, none⟩ = false) ∧ hi ≤ w.heap.size ∧ (∀ x, S x → lo ≤ x ∧ x < hi) ∧ OwJ S w z ps
def MkR (k : Int) (lo hi : Nat) (w : World) (y z : Value) (n : Nat) (ps : List Oj) : Prop := RdI (fun b => lo ≤ b ∧ b < hi) w y (mkI k n) ∧ MkJs (k + (n : Int)) lo hi w z ps
theorem IvR.wr {lo hi : Nat} {T : Nat → Prop} {w w' : World} {y z : Value} {xs : List Int} {ps : List Oj} (h : IvR lo hi w y z xs ps) (hw : Wr T w w') (hd : ∀ b, lo ≤ b → b < hi → ¬ T b) : IvR lo hi w' y z xs ps := by
  obtain ⟨b, S, h1, h2, h3, h4, h5⟩ := h
  exact ⟨b, S, h1.wr hw (fun hn x hx => hx ▸ hd _ (h2 hn).1 (h2 hn).2.1), fun hn => ⟨(h2 hn).1, (h2 hn).2.1, (h2 hn).2.2.1, fun o => (hw.frz _ _ (Nat.lt_of_lt_of_le (h2 hn).2.1 h3)).trans ((h2 hn).2.2.2 o)⟩, Nat.le_trans h3 hw.size, h4, h5.wr hw fun x hx => hd x (h4 x hx).1 (h4 x hx).2⟩
theorem IvR.later {lo hi : Nat} {w w' : World} {y z : Value} {xs : List Int} {ps : List Oj} (h : IvR lo hi w y z xs ps) (hb : Below w.heap.size w w') : IvR lo hi w' y z xs ps :=
  h.wr (Wr.of_below hb fun _ => False) fun _ _ _ => id
theorem IvR.rdI {lo hi : Nat} {w : World} {y z : Value} {xs : List Int} {ps : List Oj} (h : IvR lo hi w y z xs ps) : RdI (fun b => lo ≤ b ∧ b < hi) w y xs := by
  obtain ⟨b, S, h1, h2, _⟩ := h
  exact h1.narrow fun hn x hx => hx ▸ ⟨(h2 hn).1, (h2 hn).2.1⟩
theorem IvR.rdJ {lo hi : Nat} {w : World} {y z : Value} {xs : List Int} {ps : List Oj} (h : IvR lo hi w y z xs ps) : RdJ (fun b => lo ≤ b ∧ b < hi) w z ps := by
  obtain ⟨b, S, _, _, _, h4, h5⟩ := h
  exact (h5.mono h4).rd
theorem IvR.shape {lo hi : Nat} {w : World} {y z : Value} {xs : List Int} {ps : List Oj} (h : IvR lo hi w y z xs ps) : ∃ ao c ao' c', y = .slice ao xs.length c ∧ z = .slice ao' ps.length c' := by
  obtain ⟨a, c, e1⟩ := h.rdI.shape
  obtain ⟨a', c', e2, _⟩ := h.rdJ.shape
  exact ⟨a, c, a', c', e1, e2⟩
theorem IvR.up {lo hi lo' : Nat} {w : World} {y z : Value} {xs : List Int} {ps : List Oj} (h : IvR lo hi w y z xs ps) (h1 : lo' ≤ lo) (h2 : hi ≤ w.heap.size) : IvR lo' w.heap.size w y z xs ps := by
  obtain ⟨b, S, k1, k2, k3, k4, k5⟩ := h
  exact ⟨b, S, k1, fun hn => ⟨Nat.le_trans h1 (k2 hn).1, Nat.lt_of_lt_of_le (k2 hn).2.1 h2, (k2 hn).2.2⟩, Nat.le_refl _, fun x hx => ⟨Nat.le_trans h1 (k4 x hx).1, Nat.lt_of_lt_of_le (k4 x hx).2 h2⟩, k5⟩
theorem IvR_nil (lo : Nat) (w : World) : IvR lo w.heap.size w (.slice none 0 0) (.slice none 0 0) [] [] :=
  ⟨0, fun _ => False, ⟨none, 0, by simp, by simp, fun h => absurd rfl h⟩, fun h => absurd rfl h, Nat.le_refl _, fun _ h => h.elim, ⟨none, 0, 0, 0, fun _ => .bool false, fun _ => 0, by simp, by simp, fun h => absurd rfl h, fun i hi => absurd hi (by simp)⟩⟩
theorem MkR.wr {k : Int} {lo hi : Nat} {T : Nat → Prop} {w w' : World} {y z : Value} {n : Nat} {ps : List Oj} (h : MkR k lo hi w y z n ps) (hw : Wr T w w') (hd : ∀ b, lo ≤ b → b < hi → ¬ T b) : MkR k lo hi w' y z n ps :=
  ⟨h.1.wr hw fun _ b hb => hd b hb.1 hb.2, h.2.wr hw hd⟩
theorem MkR.later {k : Int} {lo hi : Nat} {w w' : World} {y z : Value} {n : Nat} {ps : List Oj} (h : MkR k lo hi w y z n ps) (hb : Below w.heap.size w w') : MkR k lo hi w' y z n ps :=
  ⟨h.1.later hb, h.2.later hb⟩
theorem RdJ.monoR {S T : Nat → Prop} {w : World} {v : Value} {fs : List Oj} (h : RdJ S w v fs) (hT : ∀ b, S b → T b) : RdJ T w v fs := by
  obtain ⟨ao, c, e1, e2, e3⟩ := h
  refine ⟨ao, c, e1, e2, fun hne => ?_⟩
  obtain ⟨b, off, V, f1, f2, f3⟩ := e3 hne
  exact ⟨b, off, V, f1, hT b f2, fun i hi => ⟨(f3 i hi).1, (f3 i hi).2.1, (f3 i hi).2.2.1, (f3 i hi).2.2.2.narrow (fun _ b hb => hT b hb)⟩⟩
theorem OwJ.laterR {S : Nat → Prop} {w w' : World} {v : Value} {ps : List Oj} (h : OwJ S w v ps) (hb : Below w.heap.size w w') : OwJ S w' v ps := h.wr (Wr.of_below hb fun _ => False) fun _ _ => id
/-- What a call that ends in a code and a store is to leave. -/
def EndsRf (x : Int) (r : Rf) (w : World) (e : Ending) (w' : World) : Prop :=
  ∃ y z, e = .returned (.agg #[.int .i64 x, .int .i64 r.tm, .int .i64 r.vt, .int .i64 r.si, .int .i64 r.st, y, z]) ∧ Below w.heap.size w w' ∧ IvR w.heap.size w'.heap.size w' y z r.sn r.lg

set_option maxHeartbeats 2000000 in
set_option maxRecDepth 4000 in
theorem szRaft {S T : Nat → Prop} {w : World} {y z : Value} {xs : List Int} {ps : List Oj} {left : Int} (a b c d : Int) (hy : RdI S w y xs) (hz : RdJ T w z ps) (h0 : 0 ≤ left) (h1 : left ≤ 1048576) :
    Calls Tryd.prog 17 #[.agg #[.int .i64 a, .int .i64 b, .int .i64 c, .int .i64 d, y, z], .int .i64 left] w fun e w' => e = .returned (.int .i64 (szv left ((xs.length : Int) + szU ps))) ∧ Below w.heap.size w w' := by
  obtain ⟨ay, cy, rfl⟩ := hy.shape
  obtain ⟨az, cz, rfl, _⟩ := hz.shape
  have HZ := hide hz
  have hn := szU_nonneg ps
  have hlm : xs.length ≤ 9223372036854775807 := hy.maxR
  obtain ⟨l, hl⟩ : ∃ l, xs.length = l := ⟨_, rfl⟩
  obtain ⟨m, hm⟩ : ∃ m, ps.length = m := ⟨_, rfl⟩
  have HU := hide (fun (w' : World) (hb : Below w.heap.size w w') (left : Int) => szEnU (left := left) (HZ.out.later hb))
  obtain ⟨s, hs⟩ : ∃ s, szU ps = s := ⟨_, rfl⟩
  rw [hl] at hlm ⊢
  rw [hs] at HU hn ⊢
  rw [hm] at HU ⊢
  clear hy hz hl hs hm HZ
  have BA := hide (below_alloc w (.cells #[.int .i64 a, .int .i64 b, .int .i64 c, .int .i64 d, .slice ay l cy, .slice az m cz] 45))
  have C5 : Hid ((w.alloc (.cells #[.int .i64 a, .int .i64 b, .int .i64 c, .int .i64 d, .slice ay l cy, .slice az m cz] 45)).cell? ⟨w.heap.size, 5, none⟩ = some (.slice az m cz)) := by simp [Hid, go_sem]
  by_cases h : (l : Int) ≤ left
  · have HS := hide (szv_yes h)
    go_enter Tryd.func17, Tryd.ntmps17
    go_wp2_with fail
    refine (szI l cy ay left _ hlm h0 h1).mono ?_
    rintro e w1 ⟨he, rfl⟩
    rw [HS.out] at he
    subst he
    have hp : ¬ left - (l : Int) < 0 := by omega
    have c5 := C5.out
    go_wp2_with fail
    refine (HU.out _ BA.out _ (by omega) (by omega)).mono ?_
    rintro e w2 ⟨he, hb⟩
    have HB := hide (below_on BA.out hb)
    clear hb c5
    by_cases h2 : s ≤ left - (l : Int)
    · rw [szv_yes h2] at he
      subst he
      have hp2 : ¬ left - (l : Int) - s < 0 := by omega
      have hr : szv left ((l : Int) + s) = left - (l : Int) - s := by rw [szv_yes (by omega)]; omega
      have HR := hide hr
      clear hr h2
      go_wp2
      go_ret
      exact ⟨ret_int HR.out.symm, HB.out⟩
    · rw [szv_no (by omega)] at he
      subst he
      have HR := hide (szv_no (left := left) (s := (l : Int) + s) (by omega))
      clear h2
      go_wp2
      go_ret
      exact ⟨ret_int HR.out.symm, HB.out⟩
  · have HS := hide (szv_no (left := left) (s := (l : Int)) (by omega))
    have HR := hide (szv_no (left := left) (s := (l : Int) + s) (by omega))
    go_enter Tryd.func17, Tryd.ntmps17
    go_wp2_with fail
    refine (szI l cy ay left _ hlm h0 h1).mono ?_
    rintro e w1 ⟨he, rfl⟩
    rw [HS.out] at he
    subst he
    go_wp2
    go_ret
    exact ⟨ret_int HR.out.symm, BA.out⟩

set_option maxHeartbeats 2000000 in
set_option maxRecDepth 4000 in
theorem eqRaft {S T S' T' : Nat → Prop} {w : World} {y z y' z' : Value} {xs : List Int} {ps : List Oj} (a b c d : Int) (hy : RdI S w y xs) (hz : RdJ T w z ps) (hy' : RdI S' w y' xs) (hz' : RdJ T' w z' ps) :
    Calls Tryd.prog 21 #[.agg #[.int .i64 a, .int .i64 b, .int .i64 c, .int .i64 d, y, z], .agg #[.int .i64 a, .int .i64 b, .int .i64 c, .int .i64 d, y', z']] w fun e w' => e = .returned (.bool true) ∧ Below w.heap.size w w' := by
  obtain ⟨ay, cy, rfl⟩ := hy.shape
  obtain ⟨az, cz, rfl, _⟩ := hz.shape
  obtain ⟨ay', cy', rfl⟩ := hy'.shape
  obtain ⟨az', cz', rfl, _⟩ := hz'.shape
  have H1 := hide hy
  have H2 := hide hz
  have K1 := hide hy'
  have K2 := hide hz'
  obtain ⟨l, hl⟩ : ∃ l, xs.length = l := ⟨_, rfl⟩
  obtain ⟨m, hm⟩ : ∃ m, ps.length = m := ⟨_, rfl⟩
  rw [hl] at H1 K1 ⊢
  rw [hm] at H2 K2 ⊢
  clear hy hz hy' hz' hl hm
  have BA := hide (below_on (below_alloc w (.cells #[.int .i64 a, .int .i64 b, .int .i64 c, .int .i64 d, .slice ay l cy, .slice az m cz] 49)) (below_alloc _ (.cells #[.int .i64 a, .int .i64 b, .int .i64 c, .int .i64 d, .slice ay' l cy', .slice az' m cz'] 49)))
  go_enter Tryd.func21, Tryd.ntmps21
  go_wp2_with fail
  refine (eqI (H1.out.later BA.out) (K1.out.later BA.out)).mono ?_
  rintro e w1 ⟨rfl, q, rfl⟩
  have BB := hide (below_on BA.out (below_drewN _ q))
  go_wp2_with fail
  refine (eqEn (H2.out.later BB.out) (K2.out.later BB.out)).mono ?_
  rintro e w2 ⟨rfl, hb2⟩
  have BC := hide (below_on BB.out hb2)
  clear hb2
  go_wp2
  go_ret
  exact ⟨rfl, by first | exact BC.out | simpa using BC.out⟩

end Go.Proofs.YtcbapclpopbjbaaDoor
