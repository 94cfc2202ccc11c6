/- A code with two lists of numbers that share no memory: compared, marked, held. -/
import Derived.Test.YtolhpjeoagjnjaaIv
namespace Go.Proofs.Ytolhpjeoagjnjaa
open Go.RowKit

theorem RdI_nilK (S : Nat → Prop) (w : World) : RdI S w (.slice none 0 0) [] := ⟨none, 0, by simp, by simp, fun h => absurd rfl h⟩
/-- Two lists of new memory. -/
def OwK (B : Nat) (w : World) (u v : Value) (xs ys : List Int) : Prop :=
  ∃ b1 b2, RdI (· = b1) w u xs ∧ RdI (· = b2) w v ys ∧ (xs ≠ [] → B ≤ b1 ∧ b1 < w.heap.size ∧ ∀ o, w.frozen? ⟨b1, o, none⟩ = false) ∧ (ys ≠ [] → B ≤ b2 ∧ b2 < w.heap.size ∧ ∀ o, w.frozen? ⟨b2, o, none⟩ = false) ∧ (xs ≠ [] → ys ≠ [] → b1 ≠ b2)
/-- .. in [lo, hi). -/
def IvK (lo hi : Nat) (w : World) (u v : Value) (xs ys : List Int) : Prop :=
  ∃ b1 b2, RdI (· = b1) w u xs ∧ RdI (· = b2) w v ys ∧ (xs ≠ [] → lo ≤ b1 ∧ b1 < hi ∧ b1 < w.heap.size ∧ ∀ o, w.frozen? ⟨b1, o, none⟩ = false) ∧ (ys ≠ [] → lo ≤ b2 ∧ b2 < hi ∧ b2 < w.heap.size ∧ ∀ o, w.frozen? ⟨b2, o, none⟩ = false) ∧ (xs ≠ [] → ys ≠ [] → b1 ≠ b2)
/-- .. whose marks stand from k on. -/
def MkK (k : Int) (lo hi : Nat) (w : World) (u v : Value) (n m : Nat) : Prop := RdI (fun b => lo ≤ b ∧ b < hi) w u (mkI k n) ∧ RdI (fun b => lo ≤ b ∧ b < hi) w v (mkI (k + (n : Int)) m)
theorem OwK.iv {B : Nat} {w : World} {u v : Value} {xs ys : List Int} (h : OwK B w u v xs ys) : IvK B w.heap.size w u v xs ys := by
  obtain ⟨b1, b2, h1, h2, h3, h4, h5⟩ := h
  exact ⟨b1, b2, h1, h2, fun hn => ⟨(h3 hn).1, (h3 hn).2.1, (h3 hn).2.1, (h3 hn).2.2⟩, fun hn => ⟨(h4 hn).1, (h4 hn).2.1, (h4 hn).2.1, (h4 hn).2.2⟩, h5⟩
theorem OwK.shape {B : Nat} {w : World} {u v : Value} {xs ys : List Int} (h : OwK B w u v xs ys) : ∃ ao c ao' c', u = .slice ao xs.length c ∧ v = .slice ao' ys.length c' := by
  obtain ⟨b1, b2, h1, h2, _⟩ := h
  obtain ⟨a, c, e1⟩ := h1.shape
  obtain ⟨a', c', e2⟩ := h2.shape
  exact ⟨a, c, a', c', e1, e2⟩
theorem OwK_nil (B : Nat) (w : World) : OwK B w (.slice none 0 0) (.slice none 0 0) [] [] :=
  ⟨0, 0, RdI_nilK _ _, RdI_nilK _ _, fun h => absurd rfl h, fun h => absurd rfl h, fun h => absurd rfl h⟩
theorem OwK.wr {B : Nat} {T : Nat → Prop} {w w' : World} {u v : Value} {xs ys : List Int} (h : OwK B w u v xs ys) (hw : Wr T w w') (hd : ∀ b, B ≤ b → b < w.heap.size → ¬ T b) : OwK B w' u v xs ys := by
  obtain ⟨b1, b2, h1, h2, h3, h4, h5⟩ := h
  exact ⟨b1, b2, h1.wr hw (fun hn b hb => hb ▸ hd _ (h3 hn).1 (h3 hn).2.1), h2.wr hw (fun hn b hb => hb ▸ hd _ (h4 hn).1 (h4 hn).2.1),
    fun hn => ⟨(h3 hn).1, Nat.lt_of_lt_of_le (h3 hn).2.1 hw.size, fun o => (hw.frz _ _ (h3 hn).2.1).trans ((h3 hn).2.2 o)⟩,
    fun hn => ⟨(h4 hn).1, Nat.lt_of_lt_of_le (h4 hn).2.1 hw.size, fun o => (hw.frz _ _ (h4 hn).2.1).trans ((h4 hn).2.2 o)⟩, h5⟩
theorem OwK.mono {B B' : Nat} {w : World} {u v : Value} {xs ys : List Int} (h : OwK B w u v xs ys) (hB : B' ≤ B) : OwK B' w u v xs ys := by
  obtain ⟨b1, b2, h1, h2, h3, h4, h5⟩ := h
  exact ⟨b1, b2, h1, h2, fun hn => ⟨Nat.le_trans hB (h3 hn).1, (h3 hn).2⟩, fun hn => ⟨Nat.le_trans hB (h4 hn).1, (h4 hn).2⟩, h5⟩
theorem IvK.wr {lo hi : Nat} {T : Nat → Prop} {w w' : World} {u v : Value} {xs ys : List Int} (h : IvK lo hi w u v xs ys) (hw : Wr T w w') (hd : ∀ b, lo ≤ b → b < hi → ¬ T b) : IvK lo hi w' u v xs ys := by
  obtain ⟨b1, b2, h1, h2, h3, h4, h5⟩ := h
  exact ⟨b1, b2, h1.wr hw (fun hn b hb => hb ▸ hd _ (h3 hn).1 (h3 hn).2.1), h2.wr hw (fun hn b hb => hb ▸ hd _ (h4 hn).1 (h4 hn).2.1),
    fun hn => ⟨(h3 hn).1, (h3 hn).2.1, Nat.lt_of_lt_of_le (h3 hn).2.2.1 hw.size, fun o => (hw.frz _ _ (h3 hn).2.2.1).trans ((h3 hn).2.2.2 o)⟩,
    fun hn => ⟨(h4 hn).1, (h4 hn).2.1, Nat.lt_of_lt_of_le (h4 hn).2.2.1 hw.size, fun o => (hw.frz _ _ (h4 hn).2.2.1).trans ((h4 hn).2.2.2 o)⟩, h5⟩
theorem IvK.later {lo hi : Nat} {w w' : World} {u v : Value} {xs ys : List Int} (h : IvK lo hi w u v xs ys) (hb : Below w.heap.size w w') : IvK lo hi w' u v xs ys :=
  h.wr (Wr.of_below hb fun _ => False) fun _ _ _ => id
theorem MkK.wr {k : Int} {lo hi : Nat} {T : Nat → Prop} {w w' : World} {u v : Value} {n m : Nat} (h : MkK k lo hi w u v n m) (hw : Wr T w w') (hd : ∀ b, lo ≤ b → b < hi → ¬ T b) : MkK k lo hi w' u v n m :=
  ⟨h.1.wr hw fun _ b hb => hd b hb.1 hb.2, h.2.wr hw fun _ b hb => hd b hb.1 hb.2⟩
theorem MkK.later {k : Int} {lo hi : Nat} {w w' : World} {u v : Value} {n m : Nat} (h : MkK k lo hi w u v n m) (hb : Below w.heap.size w w') : MkK k lo hi w' u v n m :=
  ⟨h.1.later hb, h.2.later hb⟩

/-- 'eqTakeResult' of what reads alike. -/
theorem eqTakeResult {lo hi lo' hi' : Nat} {w : World} {x : Int} {u v u' v' : Value} {xs ys : List Int} (h : IvK lo hi w u v xs ys) (h' : IvK lo' hi' w u' v' xs ys) :
    Calls Try.prog 29 #[.agg #[.int .i64 x, u, v], .agg #[.int .i64 x, u', v']] w fun e w' => e = .returned (.bool true) ∧ Below w.heap.size w w' := by
  obtain ⟨b1, b2, h1, h2, _⟩ := h
  obtain ⟨c1, c2, k1, k2, _⟩ := h'
  obtain ⟨a1, d1, e1⟩ := h1.shape
  obtain ⟨a2, d2, e2⟩ := h2.shape
  obtain ⟨a3, d3, e3⟩ := k1.shape
  obtain ⟨a4, d4, e4⟩ := k2.shape
  subst e1 e2 e3 e4
  have H1 := hide h1
  have H2 := hide h2
  have K1 := hide k1
  have K2 := hide k2
  clear h1 h2 k1 k2
  obtain ⟨n, hn⟩ : ∃ n, xs.length = n := ⟨_, rfl⟩
  obtain ⟨m, hm⟩ : ∃ m, ys.length = m := ⟨_, rfl⟩
  rw [hn] at H1 K1 ⊢
  rw [hm] at H2 K2 ⊢
  clear hn hm
  have BA := hide (below_on (below_alloc w (.cells #[.int .i64 x, .slice a1 n d1, .slice a2 m d2] 33)) (below_alloc _ (.cells #[.int .i64 x, .slice a3 n d3, .slice a4 m d4] 33)))
  go_enter Try.func29, Try.ntmps29
  go_wp2_with fail
  refine (eqI (H1.out.later BA.out) (K1.out.later BA.out)).mono ?_
  rintro e w1 ⟨rfl, q, rfl⟩
  have BB := hide (below_on BA.out (below_drewN _ q))
  go_wp2_with fail
  refine (eqI (H2.out.later BB.out) (K2.out.later BB.out)).mono ?_
  rintro e w2 ⟨rfl, q', rfl⟩
  have BC := hide (below_on BB.out (below_drewN _ q'))
  go_wp2
  go_ret
  exact ⟨rfl, by first | exact BC.out | simpa using BC.out⟩

/-- 'markTakeResult' of two lists in [lo, hi). -/
theorem markTakeResult {lo hi : Nat} {w : World} {x : Int} {u v : Value} {xs ys : List Int} {k : Int} (h : IvK lo hi w u v xs ys) (hk0 : 0 ≤ k) (hk : k + ((xs.length : Int) + (ys.length : Int)) ≤ 9223372036854775807) :
    Calls Try.prog 30 #[.agg #[.int .i64 x, u, v], .int .i64 k] w fun e w' =>
      e = .returned (.int .i64 (k + ((xs.length : Int) + (ys.length : Int)))) ∧ MkK k lo hi w' u v xs.length ys.length ∧ Wr (fun b => lo ≤ b ∧ b < hi) w w' := by
  obtain ⟨b1, b2, h1, h2, h3, h4, h5⟩ := h
  obtain ⟨a1, d1, e1⟩ := h1.shape
  obtain ⟨a2, d2, e2⟩ := h2.shape
  subst e1 e2
  have H1 := hide h1
  have H2 := hide h2
  have H3 := hide h3
  have H4 := hide h4
  have H5 := hide h5
  clear h1 h2 h3 h4 h5
  have BA := hide (below_alloc w (.cells #[.int .i64 x, .slice a1 xs.length d1, .slice a2 ys.length d2] 33))
  have C1 : Hid ((w.alloc (.cells #[.int .i64 x, .slice a1 xs.length d1, .slice a2 ys.length d2] 33)).cell? ⟨w.heap.size, 2, none⟩ = some (.slice a2 ys.length d2)) := by simp [Hid, go_sem]
  go_enter Try.func30, Try.ntmps30
  go_wp2_with fail
  refine (markI (H1.out.later BA.out) (fun hne o => ((bcell BA.out).2 _ _ (H3.out hne).2.2.1).trans ((H3.out hne).2.2.2 o)) hk0 (by omega)).mono ?_
  rintro e w1 ⟨rfl, hr, hw⟩
  have g2 := cell_wr hw C1.out (fun ⟨e, hne⟩ => by have := (H3.out hne).2.2.1; omega)
  have HR := hide hr
  have HW := hide hw
  clear hr hw
  go_wp2_with fail
  refine (markI (k := k + (xs.length : Int)) ((H2.out.later BA.out).wr HW.out (fun hn b hb ⟨e, hne⟩ => H5.out hne hn (e.symm.trans hb))) (fun hne o => (HW.out.frz _ _ (Nat.lt_of_lt_of_le (H4.out hne).2.2.1 BA.out.size)).trans (((bcell BA.out).2 _ _ (H4.out hne).2.2.1).trans ((H4.out hne).2.2.2 o))) (by omega) (by omega)).mono ?_
  rintro e w2 ⟨rfl, hr, hw⟩
  have HR1 := hide (HR.out.wr hw (fun hn b hb ⟨e, hne⟩ => by
    have hxn : xs ≠ [] := by rintro rfl; exact hn rfl
    exact H5.out hxn hne (hb.symm.trans e)))
  have HR2 := hide hr
  have HW2 := hide hw
  clear hr hw HR
  go_wp2
  go_ret
  refine ⟨ret_int (Int.add_assoc _ _ _), ⟨HR1.out.narrow (fun hne y hy => ?_), HR2.out.narrow (fun hne y hy => ?_)⟩, (wr_on BA.out ((HW.out.mono fun y ⟨e, hne⟩ => e ▸ ⟨(H3.out hne).1, (H3.out hne).2.1⟩).trans (HW2.out.mono fun y ⟨e, hne⟩ => e ▸ ⟨(H4.out hne).1, (H4.out hne).2.1⟩)))⟩
  · subst hy
    have hne' : xs ≠ [] := by rintro rfl; exact hne rfl
    exact ⟨(H3.out hne').1, (H3.out hne').2.1⟩
  · subst hy
    have hne' : ys ≠ [] := by rintro rfl; exact hne rfl
    exact ⟨(H4.out hne').1, (H4.out hne').2.1⟩

/-- 'heldTakeResult' of two lists whose marks stand. -/
theorem heldTakeResult {lo hi : Nat} {w : World} {x : Int} {u v : Value} {n m : Nat} {k : Int} (h : MkK k lo hi w u v n m) (hk0 : 0 ≤ k) (hk : k + ((n : Int) + (m : Int)) ≤ 9223372036854775807) :
    Calls Try.prog 31 #[.agg #[.int .i64 x, u, v], .int .i64 k] w fun e w' =>
      e = .returned (.int .i64 (k + ((n : Int) + (m : Int)))) ∧ Below w.heap.size w w' := by
  obtain ⟨h1, h2⟩ := h
  obtain ⟨a1, d1, e1⟩ := h1.shape
  obtain ⟨a2, d2, e2⟩ := h2.shape
  rw [mkI_len] at e1 e2
  subst e1 e2
  have H1 := hide h1
  have H2 := hide h2
  clear h1 h2
  have BA := hide (below_alloc w (.cells #[.int .i64 x, .slice a1 n d1, .slice a2 m d2] 33))
  have hn0 : ¬ k + (n : Int) < 0 := by omega
  have hn1 : ¬ k + ((n : Int) + (m : Int)) < 0 := by omega
  have hn2 : ¬ k + (n : Int) + (m : Int) < 0 := by omega
  go_enter Try.func31, Try.ntmps31
  go_wp2_with fail
  refine (heldI (H1.out.later BA.out) hk0 (by omega)).mono ?_
  rintro e w1 ⟨rfl, q, rfl⟩
  have BB := hide (below_on BA.out (below_drewN _ q))
  go_wp2_with fail
  refine (heldI (H2.out.later BB.out) (by omega) (by omega)).mono ?_
  rintro e w2 ⟨rfl, q', rfl⟩
  have BC := hide (below_on BB.out (below_drewN _ q'))
  go_wp2
  go_ret
  exact ⟨ret_int (Int.add_assoc _ _ _), by first | exact BC.out | simpa using BC.out⟩
/-- What a function leaves that answers a code with two lists. -/
def EndsK (code : Int) (xs ys : List Int) (w : World) : Ending → World → Prop := fun e w' => ∃ u v, e = .returned (.agg #[.int .i64 code, u, v]) ∧ Below w.heap.size w w' ∧ OwK w.heap.size w' u v xs ys
end Go.Proofs.Ytolhpjeoagjnjaa
