/- Bg1 in one text: what each says stands at its head below. -/
import Derived.Test.YtncgpfapepminaaGreatDoorG33
import Derived.Test.YtncgpfapepminaaGreatDoorG34
/- Chapter 10, draws: a store in its variable that is bent here and there ('spec.l10Bent'): what a branch keeps. -/
namespace Go.Proofs.YtncgpfapepminaaGreatDoor
open Go.RowKit

theorem OwJ.later {S : Nat → Prop} {w w' : World} {v : Value} {ts : List Oj} (h : OwJ S w v ts) (hb : Below w.heap.size w w') : OwJ S w' v ts :=
  h.wr (Wr.of_below hb fun _ => False) fun _ _ => id
/-- The memory of a store: words in a block of their own, entries in S; none of it block B or RR. -/
def MemG (B RR : Nat) (w : World) (y z : Value) (xs : List Int) (ps : List Oj) : Prop :=
  ∃ (b : Nat) (S : Nat → Prop), RdI (· = b) w y xs ∧ (xs ≠ [] → B < b ∧ b < w.heap.size ∧ b ≠ RR ∧ ¬ S b ∧ ∀ o, w.frozen? ⟨b, o, none⟩ = false) ∧ (∀ x, S x → B < x ∧ x < w.heap.size ∧ x ≠ RR) ∧ OwJ S w z ps
theorem MemG.wr {B RR : Nat} {T : Nat → Prop} {w w' : World} {y z : Value} {xs : List Int} {ps : List Oj} (h : MemG B RR w y z xs ps) (hw : Wr T w w') (hd : ∀ b, B < b → b ≠ RR → ¬ T b) : MemG B RR w' y z xs ps := by
  obtain ⟨b, S, h1, h2, h3, h4⟩ := h
  exact ⟨b, S, h1.wr hw (fun hn x hx => hx ▸ hd _ (h2 hn).1 (h2 hn).2.2.1), fun hn => ⟨(h2 hn).1, Nat.lt_of_lt_of_le (h2 hn).2.1 hw.size, (h2 hn).2.2.1, (h2 hn).2.2.2.1, fun o => (hw.frz _ _ (h2 hn).2.1).trans ((h2 hn).2.2.2.2 o)⟩, fun x hx => ⟨(h3 x hx).1, Nat.lt_of_lt_of_le (h3 x hx).2.1 hw.size, (h3 x hx).2.2⟩, h4.wr hw fun x hx => hd x (h3 x hx).1 (h3 x hx).2.2⟩
theorem MemG.later {B RR : Nat} {w w' : World} {y z : Value} {xs : List Int} {ps : List Oj} (h : MemG B RR w y z xs ps) (hb : Below w.heap.size w w') : MemG B RR w' y z xs ps :=
  h.wr (Wr.of_below hb fun _ => False) fun _ _ _ => id
theorem MemG.of {B RR lo hi : Nat} {w : World} {y z : Value} {xs : List Int} {ps : List Oj} (h : IvR lo hi w y z xs ps) (hB : B < lo) (hR : hi ≤ RR ∨ RR < lo) : MemG B RR w y z xs ps := by
  obtain ⟨b, S, h1, h2, h3, h4, h5⟩ := h
  exact ⟨b, S, h1, fun hn => ⟨by have := (h2 hn).1; omega, by have := (h2 hn).2.1; omega, by have := (h2 hn).1; have := (h2 hn).2.1; omega, (h2 hn).2.2⟩, fun x hx => by have := h4 x hx; omega, h5⟩
theorem MemG.iv {B RR : Nat} {w : World} {y z : Value} {xs : List Int} {ps : List Oj} (h : MemG B RR w y z xs ps) : IvR B w.heap.size w y z xs ps := by
  obtain ⟨b, S, h1, h2, h3, h4⟩ := h
  exact ⟨b, S, h1, fun hn => ⟨by have := (h2 hn).1; omega, (h2 hn).2.1, (h2 hn).2.2.2⟩, Nat.le_refl _, fun x hx => by have := h3 x hx; omega, h4⟩
theorem MemG.shape {B RR : Nat} {w : World} {y z : Value} {xs : List Int} {ps : List Oj} (h : MemG B RR w y z xs ps) : ∃ ao c bo d, y = .slice ao xs.length c ∧ z = .slice bo ps.length d := h.iv.shape
/-- .. and the words other ones, of new memory. -/
theorem MemG.words {B RR M : Nat} {w : World} {y y' z : Value} {xs xs' : List Int} {ps : List Oj} (h : MemG B RR w y z xs ps) {w' : World} (hb : Below w.heap.size w w') (ho : OwI M w' y' xs') (hM : w.heap.size ≤ M) (hB : B < M) (hR : RR < M) : MemG B RR w' y' z xs' ps := by
  obtain ⟨b, S, _, _, h3, h4⟩ := h
  obtain ⟨c, k1, k2⟩ := ho
  have hz := hb.size
  exact ⟨c, S, k1, fun hn => ⟨by have := (k2 hn).1; omega, (k2 hn).2.1, by have := (k2 hn).1; omega, fun e => by have := (h3 c e).2.1; have := (k2 hn).1; omega, (k2 hn).2.2⟩, fun x hx => ⟨(h3 x hx).1, Nat.lt_of_lt_of_le (h3 x hx).2.1 hz, (h3 x hx).2.2⟩, h4.later hb⟩

/-- The bounds of a store that is right or bent. -/
structure BdR (Q : Rf) : Prop where
  tm : -1 ≤ Q.tm ∧ Q.tm ≤ 1000
  vt : -1 ≤ Q.vt ∧ Q.vt ≤ 10
  si : 0 ≤ Q.si ∧ Q.si ≤ 9999
  st : 0 ≤ Q.st ∧ Q.st ≤ 1000
  sn : Q.sn.length ≤ 41
  lg : Q.lg.length ≤ 15
  da : ∀ p ∈ Q.lg, p.2.2.length ≤ 8
theorem BdR.of {Q : Rf} (h : rfF Q = 0) : BdR Q := by
  obtain ⟨a, b, c, d, e, f⟩ := rf_nums h
  refine ⟨by omega, by omega, by omega, by omega, by omega, by omega, fun p hp => ?_⟩
  obtain ⟨i, hi, rfl⟩ := List.getElem_of_mem hp
  have := (entF_zero ((logF_iff.1 (rfF_iff.1 h).lo).2.1 i hi)).2.1
  simp [List.getD, hi] at this
  omega

/-- The store in its variable (block RR), the result's variable (the first new block) untouched, so much drawn; its memory wherever. -/
structure BgI (w : World) (s : Nat) (v : Value) (bs : List Nat) (t N RR : Nat) (Q : Rf) (y z : Value) (t5 : Nat) (wr : World) : Prop where
  dr : Drawn N s v bs t t5 w wr
  res : Var6 wr w.heap.size (.int .i64 0) (.int .i64 0) (.int .i64 0) (.int .i64 0) (.slice none 0 0) (.slice none 0 0)
  rfz : ∀ o, wr.frozen? ⟨w.heap.size, o, none⟩ = false
  var : Var6 wr RR (.int .i64 Q.tm) (.int .i64 Q.vt) (.int .i64 Q.si) (.int .i64 Q.st) y z
  vfz : ∀ o, wr.frozen? ⟨RR, o, none⟩ = false
  mem : MemG w.heap.size RR wr y z Q.sn Q.lg
  ge : w.heap.size < RR
  old : s < w.heap.size
section
variable {w : World} {s : Nat} {v : Value} {bs : List Nat} {t N M RR : Nat} {Q : Rf} {y z : Value} {t5 t6 : Nat} {wr w1 : World}
theorem BgI.lt (h : BgI w s v bs t N RR Q y z t5 wr) : RR < wr.heap.size := h.var.lt
theorem BgI.on (h : BgI w s v bs t N RR Q y z t5 wr) (hd : Drawn M s v bs t5 t6 wr w1) : BgI w s v bs t (N + M) RR Q y z t6 w1 := by
  have ho := h.old
  have hg := h.ge
  have hr := h.res.lt
  exact ⟨h.dr.on hd, h.res.wr hd.2.1 (by show ¬ w.heap.size = s; omega), fun o => (hd.2.1.frz _ _ hr).trans (h.rfz o), h.var.wr hd.2.1 (by show ¬ RR = s; omega), fun o => (hd.2.1.frz _ _ h.lt).trans (h.vfz o), h.mem.wr hd.2.1 (fun b k1 _ e => by have e : b = s := e; omega), hg, ho⟩
theorem BgI.later (h : BgI w s v bs t N RR Q y z t5 wr) (hb : Below wr.heap.size wr w1) : BgI w s v bs t N RR Q y z t5 w1 :=
  ⟨h.dr.later hb, h.res.later hb, fun o => ((bcell hb).2 _ _ h.res.lt).trans (h.rfz o), h.var.later hb, fun o => ((bcell hb).2 _ _ h.lt).trans (h.vfz o), h.mem.later hb, h.ge, h.old⟩
theorem BgI.mono (h : BgI w s v bs t N RR Q y z t5 wr) (hN : N ≤ M) : BgI w s v bs t M RR Q y z t5 wr :=
  ⟨h.dr.mono hN, h.res, h.rfz, h.var, h.vfz, h.mem, h.ge, h.old⟩
/-- The variable is written. -/
theorem BgI.set {Q' : Rf} {y' z' : Value} (HS : Src s v bs w t) (h : BgI w s v bs t N RR Q y z t5 wr) (hw : Wr (· = RR) wr w1) (hv : Var6 w1 RR (.int .i64 Q'.tm) (.int .i64 Q'.vt) (.int .i64 Q'.si) (.int .i64 Q'.st) y' z') (hm : MemG w.heap.size RR wr y' z' Q'.sn Q'.lg) : BgI w s v bs t N RR Q' y' z' t5 w1 := by
  have hg := h.ge
  have hr := h.res.lt
  exact ⟨Drawn.onBelow HS h.dr (hw.below (by omega) (fun b e => by omega)), h.res.wr hw (by show ¬ w.heap.size = RR; omega), fun o => (hw.frz _ _ hr).trans (h.rfz o), hv, fun o => (hw.frz _ _ h.lt).trans (h.vfz o), hm.wr hw (fun b _ k e => k e), hg, h.old⟩
theorem BgI.fin (HS : Src s v bs w t) (h : BgI w s v bs t N RR Q y z t5 wr) (hw : Wr (· = w.heap.size) wr w1) : IvR w.heap.size w1.heap.size w1 y z Q.sn Q.lg ∧ Drawn N s v bs t t5 w w1 := by
  have hg := h.ge
  have hr := h.res.lt
  exact ⟨(h.mem.wr hw (fun b k _ e => by have e : b = w.heap.size := e; omega)).iv, Drawn.onBelow HS h.dr (hw.below (by omega) (fun b e => by omega))⟩
/-- One entry more, of new memory. -/
theorem BgI.push {a b : Int} {ze : Value} {xs : List Int} {w3 : World} (HS : Src s v bs w t) (h : BgI w s v bs t N RR Q y z t5 wr) (hd : Drawn M s v bs t5 t6 wr w3) (hz : OwI wr.heap.size w3 ze xs) (hlen : Q.lg.length ≤ 1000) (ty : TypeId) :
    ∃ ao c w5, (Builtin.append_ #[25, 25] ty #[z, .slice (some ⟨w3.heap.size, 0, none⟩) 1 1]).run Tryz.prog (w3.alloc (.cells #[.int .i64 a, .int .i64 b, ze] 55)) = .ok (.slice ao (Q.lg.length + 1) c) w5 ∧
      Var6 w5 RR (.int .i64 Q.tm) (.int .i64 Q.vt) (.int .i64 Q.si) (.int .i64 Q.st) y z ∧ (∀ o, w5.frozen? ⟨RR, o, none⟩ = false) ∧ BgI w s v bs t (N + M) RR { Q with lg := Q.lg ++ [(a, b, xs)] } y (.slice ao (Q.lg.length + 1) c) t6 (w5.setCell ⟨RR, 5, none⟩ (.slice ao (Q.lg.length + 1) c)) := by
  have H3 := h.on hd
  have hb4 := below_alloc w3 (.cells #[.int .i64 a, .int .i64 b, ze] 55)
  have H4 := H3.later hb4
  obtain ⟨w4, hw4⟩ : ∃ x, w3.alloc (.cells #[.int .i64 a, .int .i64 b, ze] 55) = x := ⟨_, rfl⟩
  have c0 : w4.cell? ⟨w3.heap.size, 0, none⟩ = some (.int .i64 a) := by rw [← hw4]; simp [go_sem]
  have c1 : w4.cell? ⟨w3.heap.size, 1, none⟩ = some (.int .i64 b) := by rw [← hw4]; simp [go_sem]
  have c2 : w4.cell? ⟨w3.heap.size, 2, none⟩ = some ze := by rw [← hw4]; simp [go_sem]
  rw [hw4] at hb4 H4 ⊢
  have hz4 := hz.later hb4
  have hs3 := hd.2.1.size
  have hs4 := hb4.size
  have hRl := h.lt
  have hg := h.ge
  obtain ⟨b0, S0, m1, m2, m3, m4⟩ := h.mem
  have hsS : ∀ x, S0 x → ¬ x = s := fun x hx e => by have := (m3 x hx).1; have := h.old; omega
  have m4' := (m4.wr hd.2.1 hsS).later hb4
  obtain ⟨v', w5, hrun, hwr, how⟩ := OwJ.push (M := wr.heap.size) (g2 := w3.heap.size) (p := (a, b, xs)) ty m4' (fun x hx => (m3 x hx).2.1) hlen hz4 (by omega) c0 c1 c2
  obtain ⟨ao, c, rfl⟩ := how.shape
  rw [show (Q.lg ++ [(a, b, xs)]).length = Q.lg.length + 1 by simp] at hrun how
  have hB : Below w.heap.size w4 w5 := hwr.below (by omega) (fun x hx => by have := (m3 x hx).1; omega)
  have hs5 := hwr.size
  have nS : ∀ x, x = w.heap.size ∨ x = RR → ¬ S0 x := fun x e hx => by have := m3 x hx; omega
  have k1 := (m1.wr hd.2.1 (fun hn x hx e => by have e : x = s := e; have hx : x = b0 := hx; have := (m2 hn).1; have := h.old; omega)).later hb4
  have k1' := k1.wr hwr (fun hn x hx e => (m2 hn).2.2.2.1 (by have hx : x = b0 := hx; exact hx ▸ e))
  have kf : Q.sn ≠ [] → ∀ o, w5.frozen? ⟨b0, o, none⟩ = false := fun hn o => by
    have := (m2 hn).2.1
    exact (hwr.frz _ _ (by omega)).trans (((bcell hb4).2 _ _ (by omega)).trans ((hd.2.1.frz _ _ (by omega)).trans ((m2 hn).2.2.2.2 o)))
  have hv5 := H4.var.wr hwr (nS _ (Or.inr rfl))
  have hf5 : ∀ o, w5.frozen? ⟨RR, o, none⟩ = false := fun o => (hwr.frz _ _ H4.lt).trans (H4.vfz o)
  refine ⟨ao, c, w5, hrun, hv5, hf5, ?_⟩
  have hw6 : Wr (· = RR) w5 (w5.setCell ⟨RR, 5, none⟩ (.slice ao (Q.lg.length + 1) c)) := (Wr.refl (· = RR) w5).setCell (p := ⟨RR, 5, none⟩) rfl _
  obtain ⟨r0, r1, r2, r3, r4, r5⟩ := hv5
  have e5 := hf5 5
  have hv6 : Var6 (w5.setCell ⟨RR, 5, none⟩ (.slice ao (Q.lg.length + 1) c)) RR (.int .i64 Q.tm) (.int .i64 Q.vt) (.int .i64 Q.si) (.int .i64 Q.st) y (.slice ao (Q.lg.length + 1) c) := ⟨by simp [go_sem, r0], by simp [go_sem, r1], by simp [go_sem, r2], by simp [go_sem, r3], by simp [go_sem, r4], by simp [go_sem, r5]⟩
  have hr5 : w.heap.size < w5.heap.size := by omega
  refine ⟨Drawn.onBelow HS (Drawn.onBelow HS H4.dr hB) (hw6.below (by omega) (fun x e => by omega)), (H4.res.wr hwr (nS _ (Or.inl rfl))).wr hw6 (by show ¬ w.heap.size = RR; omega), fun o => (hw6.frz _ _ hr5).trans ((hwr.frz _ _ H4.res.lt).trans (H4.rfz o)), hv6, fun o => (hw6.frz _ _ (by omega)).trans (hf5 o), ?_, hg, h.old⟩
  refine ⟨b0, fun x => S0 x ∨ (wr.heap.size ≤ x ∧ x < w5.heap.size), k1'.wr hw6 (fun hn x hx e => (m2 hn).2.2.1 (by have hx : x = b0 := hx; have e : x = RR := e; omega)), fun hn => ⟨(m2 hn).1, by have := (m2 hn).2.1; have := hw6.size; omega, (m2 hn).2.2.1, fun e => ?_, fun o => (hw6.frz _ _ (by have := (m2 hn).2.1; omega)).trans (kf hn o)⟩, fun x hx => ?_, how.wr hw6 fun x hx e => ?_⟩
  · rcases e with e | e
    · exact (m2 hn).2.2.2.1 e
    · have := (m2 hn).2.1; omega
  · have hz6 := hw6.size
    rcases hx with hx | hx
    · have := m3 x hx; omega
    · omega
  · have e : x = RR := e
    rcases hx with hx | hx
    · exact (m3 x hx).2.2 e
    · omega
end
end Go.Proofs.YtncgpfapepminaaGreatDoor
