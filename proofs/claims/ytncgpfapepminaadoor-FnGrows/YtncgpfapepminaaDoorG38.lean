/- Bp1 in one text: what each says stands at its head below. -/
import Derived.Test.YtncgpfapepminaaDoorG37
import Derived.Test.YtncgpfapepminaaDoorG20
import Derived.Test.YtncgpfapepminaaDoorG15
import Derived.Test.YtncgpfapepminaaDoorG31
import Derived.Test.YtncgpfapepminaaDoorG32
/- Chapter 15, draws: 'spec.DrawAppendRaft', walked. Made by program (genbp.py). -/
namespace Go.Proofs.YtncgpfapepminaaDoor
open Go.RowKit

theorem tmV_nn {r : Rf} {i : Int} (h : rfF r = 0) : 0 ≤ tmV r i := by
  have h1 := rfF_iff.1 h
  obtain ⟨⟨⟨a1, a2⟩, _⟩, _, b1, b2⟩ := h1.rg
  unfold tmV
  by_cases hc : tmC r i = 0
  · rw [if_pos hc]
    by_cases hi : i = r.si
    · rw [if_pos hi]; omega
    · rw [if_neg hi]
      have hlt : (i - r.si - 1).toNat < r.lg.length := by
        unfold tmC at hc
        by_cases k1 : i < r.si
        · rw [if_pos k1] at hc; exact absurd hc (by decide)
        · rw [if_neg k1] at hc
          by_cases k2 : lastR r < i
          · rw [if_pos k2] at hc; exact absurd hc (by decide)
          · unfold lastR at k2; omega
      have := (entF_zero ((logF_iff.1 h1.lo).2.1 _ hlt)).1.2
      omega
  · rw [if_neg hc]; omega
theorem RdB.at {w w1 : World} {v : Value} {bs : List Nat} {s : Nat} (h : RdB w.heap.size w v bs) (hb : Below w.heap.size w w1) (hs : w.heap.size ≤ s) : RdB s w1 v bs := by
  obtain ⟨ao, c, e1, e2, e3⟩ := h
  refine ⟨ao, c, e1, e2, fun hne => ?_⟩
  obtain ⟨b, off, f1, f2, f3⟩ := e3 hne
  have h1 := (f3 0 (List.length_pos_iff.2 hne)).1
  have := World.block_lt_of_cell? _ _ h1
  exact ⟨b, off, f1, by simp at this; omega, fun i hi => ⟨cell_later hb (f3 i hi).1, (f3 i hi).2⟩⟩
theorem owns_rdI {w : World} {v : Value} {xs : List Int} (h : w.ownsRow 0 2 1 v xs.length (xs.map (Value.int .i64))) (hm : xs.length ≤ 1048576) : RdI (fun x => v.ownBlock = some x) w v xs := by
  rcases h.2 with ⟨e1, e2⟩ | ⟨g, cap, cur, e1, _⟩
  · rw [e1]; exact ⟨none, 0, by rw [e2], by rw [e2]; omega, fun hne => absurd (List.eq_nil_of_length_eq_zero e2) hne⟩
  · obtain ⟨b, q1, q2⟩ := ow_of_owns rfl h (by omega)
    refine q1.narrow fun hne x hxb => ?_
    subst hxb
    obtain ⟨ao', c', f1, f2, f3⟩ := q1
    obtain ⟨b', off', f4, f5, f6⟩ := f3 hne
    rw [e1] at f1
    injection f1 with f1 _ _
    rw [f4] at f1
    injection f1 with f1
    injection f1 with f1 _
    rw [e1, ← f5, ← f1]
    rfl
theorem RdI.lowP {S : Nat → Prop} {M : Nat} {w w1 : World} {v : Value} {xs : List Int} (h : RdI S w v xs) (hb : Below M w w1) (hS : ∀ b, S b → b < M) : RdI S w1 v xs := by
  obtain ⟨ao, c, h1, h2, h3⟩ := h
  refine ⟨ao, c, h1, h2, fun hne => ?_⟩
  obtain ⟨b, off, e, hbS, hc⟩ := h3 hne
  exact ⟨b, off, e, hbS, fun i hi => (hb.cell (p := ⟨b, off + i, none⟩) (hS _ hbS)).trans (hc i hi)⟩
theorem RdI.lowB {M b : Nat} {w w1 : World} {u : Value} {xs : List Int} (h : RdI (· = b) w u xs) (hb : Below M w w1) (hl : xs ≠ [] → b < M) : RdI (· = b) w1 u xs := by
  obtain ⟨ao, c, h1, h2, h3⟩ := h
  refine ⟨ao, c, h1, h2, fun hne => ?_⟩
  obtain ⟨x, off, e, rfl, hc⟩ := h3 hne
  exact ⟨x, off, e, rfl, fun i hi => (hb.cell (p := ⟨x, off + i, none⟩) (hl hne)).trans (hc i hi)⟩
theorem OwJ.lowB {S : Nat → Prop} {M : Nat} {w w1 : World} {u : Value} {ts : List Oj} (h : OwJ S w u ts) (hb : Below M w w1) (hS : ∀ b, S b → b < M) : OwJ S w1 u ts := by
  obtain ⟨ao, c, b, off, V, B, h1, ⟨h2, h2c, hroom⟩, h3, h4⟩ := h
  refine ⟨ao, c, b, off, V, B, h1, ⟨h2, h2c, fun o ho => ?_⟩, fun hne => ⟨(h3 hne).1, (h3 hne).2.1, fun o => (hb.frozen (p := ⟨b, o, none⟩) (hS _ (h3 hne).2.1)).trans ((h3 hne).2.2 o)⟩, fun i hi => ?_⟩
  · obtain ⟨k1, k2, k3, x, k4⟩ := hroom o ho
    exact ⟨k1, k2, fun q => (hb.frozen (p := ⟨b, q, none⟩) (hS _ k2)).trans (k3 q), x, (hb.cell (p := ⟨b, off + o, none⟩) (hS _ k2)).trans k4⟩
  · obtain ⟨f0, f1, f2, f3, f4⟩ := h4 i hi
    have hne : ts ≠ [] := by rintro rfl; exact absurd hi (Nat.not_lt_zero _)
    have hbM := hS _ (h3 hne).2.1
    exact ⟨(hb.cell (p := ⟨b, off + i * 3, none⟩) hbM).trans f0, (hb.cell (p := ⟨b, off + i * 3 + 1, none⟩) hbM).trans f1, (hb.cell (p := ⟨b, off + i * 3 + 2, none⟩) hbM).trans f2, f3.lowB hb (fun hn => hS _ (f4 hn).1), fun hn => ⟨(f4 hn).1, (f4 hn).2.1, fun o => (hb.frozen (p := ⟨B i, o, none⟩) (hS _ (f4 hn).1)).trans ((f4 hn).2.2.1 o), (f4 hn).2.2.2⟩⟩
theorem IvR.lowB {lo hi M : Nat} {w w1 : World} {y z : Value} {xs : List Int} {ps : List Oj} (h : IvR lo hi w y z xs ps) (hb : Below M w w1) (hM : hi ≤ M) : IvR lo hi w1 y z xs ps := by
  obtain ⟨b, S, h1, h2, h3, h4, h5⟩ := h
  exact ⟨b, S, h1.lowB hb (fun hn => by have := (h2 hn).2.1; omega), fun hn => ⟨(h2 hn).1, (h2 hn).2.1, (h2 hn).2.2.1, fun o => (hb.frozen (p := ⟨b, o, none⟩) (by have := (h2 hn).2.1; show b < M; omega)).trans ((h2 hn).2.2.2 o)⟩, Nat.le_trans h3 hb.size, h4, h5.lowB hb (fun x hx => by have := h4 x hx; omega)⟩
theorem Var6.lowB {M b : Nat} {w w1 : World} {x0 x1 x2 x3 x4 x5 : Value} (h : Var6 w b x0 x1 x2 x3 x4 x5) (hb : Below M w w1) (hM : b < M) : Var6 w1 b x0 x1 x2 x3 x4 x5 :=
  ⟨(hb.cell (p := ⟨b, 0, none⟩) hM).trans h.1, (hb.cell (p := ⟨b, 1, none⟩) hM).trans h.2.1, (hb.cell (p := ⟨b, 2, none⟩) hM).trans h.2.2.1, (hb.cell (p := ⟨b, 3, none⟩) hM).trans h.2.2.2.1, (hb.cell (p := ⟨b, 4, none⟩) hM).trans h.2.2.2.2.1, (hb.cell (p := ⟨b, 5, none⟩) hM).trans h.2.2.2.2.2⟩

/-- The list that was drawn: its row in block b; its entries' words in blocks behind s that are not b. -/
structure LsI (s : Nat) (v : Value) (b n : Nat) (ts : List Oj) (wr : World) : Prop where
  len : ts.length = n
  shp : ∃ ao c, v = .slice ao n c ∧ n ≤ c ∧ (n ≠ 0 → ao = some ⟨b, 0, none⟩)
  dat : ∃ V : Nat → Value, ∀ i, i < n → wr.cell? ⟨b, i * 3, none⟩ = some (.int .i64 (ts.getD i oj0).1) ∧ wr.cell? ⟨b, i * 3 + 1, none⟩ = some (.int .i64 (ts.getD i oj0).2.1) ∧ wr.cell? ⟨b, i * 3 + 2, none⟩ = some (V i) ∧ RdI (fun x => s < x ∧ x ≠ b) wr (V i) (ts.getD i oj0).2.2
  frz : n ≠ 0 → ∀ o, wr.frozen? ⟨b, o, none⟩ = false
  lens : ∀ i, i < n → (ts.getD i oj0).2.2.length ≤ 8
theorem LsI.of {s M : Nat} {w : World} {v : Value} {n : Nat} {gs : List Oj} (h : EoRow (M ≤ ·) w v n gs) (hk : gs.length = n) (hsM : s < M) (hl : ∀ p, p ∈ gs → p.2.2.length ≤ 4) : ∃ b, M ≤ b ∧ LsI s v b n gs w := by
  have hl' : ∀ i, i < n → (gs.getD i oj0).2.2.length ≤ 8 := fun i hi => by have := hl _ (getD_memR (by omega : i < gs.length)); omega
  obtain ⟨V, h1, hp, h3⟩ := h
  rcases h1.2 with ⟨rfl, e⟩ | ⟨g, cap, cur, rfl, hg, hh, hnc, _⟩
  · subst e
    exact ⟨M, Nat.le_refl _, ⟨hk, ⟨none, 0, rfl, Nat.le_refl _, fun h => absurd rfl h⟩, ⟨V, fun i hi => absurd hi (Nat.not_lt_zero _)⟩, fun h => absurd rfl h, hl'⟩⟩
  · refine ⟨g, hp g rfl, ⟨hk, ⟨_, cap, rfl, hnc, fun _ => rfl⟩, ⟨V, fun i hi => ⟨?_, ?_, ?_, (owns_rdI (h3.1 i hi).1 (by have := hl' i hi; dsimp only; omega)).narrow fun _ x hx => ⟨?_, fun e => ((h3.1 i hi).2 x hx).2 (by rw [e]; rfl)⟩⟩⟩, fun _ o => h1.frozenAt o, hl'⟩⟩
    · rw [h1.cellAt (i * 3) (by omega)]
      exact cellsEn_flg _ _ _ _ hi
    · rw [h1.cellAt (i * 3 + 1) (by omega)]
      exact cellsEn_num _ _ _ _ hi
    · rw [h1.cellAt (i * 3 + 2) (by omega)]
      exact cellsEn_words _ _ _ _ hi
    · have hx1 : M ≤ x := ((h3.1 i hi).2 x hx).1
      omega
theorem LsI.wr {s : Nat} {v : Value} {b n : Nat} {ts : List Oj} {w w1 : World} (h : LsI s v b n ts w) (hw : Wr (· = s) w w1) (hb : b ≠ s) : LsI s v b n ts w1 := by
  obtain ⟨V, h3⟩ := h.dat
  exact ⟨h.len, h.shp, ⟨V, fun i hi => ⟨cell_wr hw (h3 i hi).1 hb, cell_wr hw (h3 i hi).2.1 hb, cell_wr hw (h3 i hi).2.2.1 hb, (h3 i hi).2.2.2.wr hw (fun _ x hx e => by have e : x = s := e; have := hx.1; omega)⟩⟩, fun hn o => by
    have h1 := World.block_lt_of_cell? _ _ (h3 0 (Nat.pos_of_ne_zero hn)).1
    exact (hw.frz _ _ h1).trans (h.frz hn o), h.lens⟩
theorem LsI.later {s : Nat} {v : Value} {b n : Nat} {ts : List Oj} {w w1 : World} (h : LsI s v b n ts w) (hb : Below w.heap.size w w1) : LsI s v b n ts w1 := by
  obtain ⟨V, h3⟩ := h.dat
  exact ⟨h.len, h.shp, ⟨V, fun i hi => ⟨cell_later hb (h3 i hi).1, cell_later hb (h3 i hi).2.1, cell_later hb (h3 i hi).2.2.1, (h3 i hi).2.2.2.later hb⟩⟩, fun hn o => by
    have h1 := World.block_lt_of_cell? _ _ (h3 0 (Nat.pos_of_ne_zero hn)).1
    exact ((bcell hb).2 _ _ h1).trans (h.frz hn o), h.lens⟩
theorem getD_setL {ts : List Oj} {i j : Nat} {p : Oj} (hj : j < ts.length) : (ts.set i p).getD j oj0 = if i = j then p else ts.getD j oj0 := by
  simp only [List.getD, List.getElem?_set]
  by_cases e : i = j
  · subst e; simp [hj]
  · simp [e]
theorem LsI.set {s : Nat} {v : Value} {b n : Nat} {ts : List Oj} {wr : World} (h : LsI s v b n ts wr) {i : Nat} (hi : i < n) {a t : Int} {vd : Value} {xs : List Int} (hd : RdI (fun x => s < x ∧ x ≠ b) wr vd xs) (hx : xs.length ≤ 8) :
    LsI s v b n (ts.set i (a, t, xs)) (((wr.setCell ⟨b, i * 3, none⟩ (.int .i64 a)).setCell ⟨b, i * 3 + 1, none⟩ (.int .i64 t)).setCell ⟨b, i * 3 + 2, none⟩ vd) := by
  obtain ⟨V, h3⟩ := h.dat
  have hw : Wr (· = b) wr (((wr.setCell ⟨b, i * 3, none⟩ (.int .i64 a)).setCell ⟨b, i * 3 + 1, none⟩ (.int .i64 t)).setCell ⟨b, i * 3 + 2, none⟩ vd) := Wr.setCell (p := ⟨b, i * 3 + 2, none⟩) (Wr.setCell (p := ⟨b, i * 3 + 1, none⟩) (Wr.setCell (p := ⟨b, i * 3, none⟩) (Wr.refl (· = b) wr) rfl _) rfl _) rfl _
  have hne : ∀ {p q : Nat}, p ≠ q → (⟨b, p, none⟩ : Addr) ≠ ⟨b, q, none⟩ := fun hpq e => by injection e with _ e; exact hpq e
  have hc : ∀ q, q ≠ i * 3 → q ≠ i * 3 + 1 → q ≠ i * 3 + 2 → (((wr.setCell ⟨b, i * 3, none⟩ (.int .i64 a)).setCell ⟨b, i * 3 + 1, none⟩ (.int .i64 t)).setCell ⟨b, i * 3 + 2, none⟩ vd).cell? ⟨b, q, none⟩ = wr.cell? ⟨b, q, none⟩ := fun q q0 q1 q2 => by
    rw [World.cell?_setCell_other _ _ _ _ (hne (by omega)), World.cell?_setCell_other _ _ _ _ (hne (by omega)), World.cell?_setCell_other _ _ _ _ (hne (by omega))]
  refine ⟨by rw [List.length_set]; exact h.len, h.shp, ⟨fun j => if i = j then vd else V j, fun j hj => ?_⟩, fun hn o => ?_, fun j hj => ?_⟩
  · rw [getD_setL (by rw [h.len]; exact hj)]
    obtain ⟨c0, c1, c2, c3⟩ := h3 i hi
    by_cases e : i = j
    · subst e
      rw [if_pos rfl]
      dsimp only
      rw [if_pos rfl]
      refine ⟨?_, ?_, ?_, hd.wr hw (fun _ x hx e => hx.2 e)⟩
      · rw [World.cell?_setCell_other _ _ _ _ (hne (by omega)), World.cell?_setCell_other _ _ _ _ (hne (by omega))]
        exact World.cell?_setCell_same _ _ _ c0
      · rw [World.cell?_setCell_other _ _ _ _ (hne (by omega))]
        exact World.cell?_setCell_same _ _ _ ((World.cell?_setCell_other _ _ _ _ (hne (by omega))).trans c1)
      · exact World.cell?_setCell_same _ _ _ (((World.cell?_setCell_other _ _ _ _ (hne (by omega))).trans (World.cell?_setCell_other _ _ _ _ (hne (by omega)))).trans c2)
    · rw [if_neg e]
      dsimp only
      rw [if_neg e, hc _ (by omega) (by omega) (by omega), hc _ (by omega) (by omega) (by omega), hc _ (by omega) (by omega) (by omega)]
      exact ⟨(h3 j hj).1, (h3 j hj).2.1, (h3 j hj).2.2.1, (h3 j hj).2.2.2.wr hw (fun _ x hx e => hx.2 e)⟩
  · have h1 := World.block_lt_of_cell? _ _ (h3 0 (Nat.pos_of_ne_zero hn)).1
    exact (hw.frz _ _ h1).trans (h.frz hn o)
  · rw [getD_setL (by rw [h.len]; exact hj)]
    by_cases e : i = j
    · rw [if_pos e]; exact hx
    · rw [if_neg e]; exact h.lens j hj
theorem LsI.rdJ {s : Nat} {v : Value} {b n : Nat} {ts : List Oj} {w : World} (h : LsI s v b n ts w) (hn : n ≤ 1048576) : RdJ (fun _ => True) w v ts := by
  obtain ⟨V, h3⟩ := h.dat
  obtain ⟨ao, c, e1, e2, e3⟩ := h.shp
  refine ⟨ao, c, by rw [h.len]; exact e1, by rw [h.len]; omega, fun hne => ⟨b, 0, V, e3 (fun e => hne (List.eq_nil_of_length_eq_zero (h.len.trans e))), trivial, fun i hi => ?_⟩⟩
  rw [h.len] at hi
  simp only [Nat.zero_add]
  exact ⟨(h3 i hi).1, (h3 i hi).2.1, (h3 i hi).2.2.1, (h3 i hi).2.2.2.narrow (fun _ _ _ => trivial)⟩

/-- A store that was drawn, all of it below M, the source s between it and the result's variable (block B). -/
structure DaI (s RR M : Nat) (v : Value) (bs : List Nat) (N : Nat) (w : World) (Q : Rf) (y z : Value) (t : Nat) (wr : World) : Prop where
  bel : Below w.heap.size w wr
  src : Src s v bs wr t
  ts : t ≤ N
  res : Var6 wr w.heap.size (.int .i64 0) (.int .i64 0) (.int .i64 0) (.int .i64 0) (.slice none 0 0) (.slice none 0 0)
  rfz : ∀ o, wr.frozen? ⟨w.heap.size, o, none⟩ = false
  var : Var6 wr RR (.int .i64 Q.tm) (.int .i64 Q.vt) (.int .i64 Q.si) (.int .i64 Q.st) y z
  mem : ∃ lo hi, s < lo ∧ hi ≤ M ∧ IvR lo hi wr y z Q.sn Q.lg
  old : w.heap.size < s
  oth : s < RR
  top : RR < M
  fit : M ≤ wr.heap.size
theorem DaI.on {s RR M : Nat} {v : Value} {bs : List Nat} {K N : Nat} {w : World} {Q : Rf} {y z : Value} {t5 t6 : Nat} {wr w1 : World} (h : DaI s RR M v bs N w Q y z t5 wr) (hd : Drawn K s v bs t5 t6 wr w1) : DaI s RR M v bs (N + K) w Q y z t6 w1 := by
  obtain ⟨lo, hi, h1, h2, h3⟩ := h.mem
  have ho := h.old
  have hoth := h.oth
  have htop := h.top
  have hfit := h.fit
  have hr := h.res.lt
  have hz := hd.2.1.size
  have ht := h.ts
  have ht2 := hd.2.2
  exact ⟨Below.trans h.bel (hd.2.1.below (by omega) (fun b e => by omega)), hd.1, by omega, h.res.wr hd.2.1 (by show ¬ w.heap.size = s; omega), fun o => (hd.2.1.frz _ _ hr).trans (h.rfz o), h.var.wr hd.2.1 (by show ¬ RR = s; omega), ⟨lo, hi, h1, h2, h3.wr hd.2.1 (fun b k1 k2 e => by have e : b = s := e; omega)⟩, ho, hoth, htop, by omega⟩
theorem DaI.low {s RR M : Nat} {v : Value} {bs : List Nat} {N : Nat} {w : World} {Q : Rf} {y z : Value} {t5 : Nat} {wr w1 : World} (h : DaI s RR M v bs N w Q y z t5 wr) (hv : RdB w.heap.size w v bs) (hb : Below M wr w1) : DaI s RR M v bs N w Q y z t5 w1 := by
  obtain ⟨lo, hi, h1, h2, h3⟩ := h.mem
  have ho := h.old
  have hoth := h.oth
  have htop := h.top
  have hfit := h.fit
  have hz := hb.size
  have hB := Below.trans h.bel (hb.mono (by omega))
  exact ⟨hB, ⟨(hb.cell (p := ⟨s, 0, none⟩) (by show s < M; omega)).trans h.src.code, (hb.cell (p := ⟨s, 1, none⟩) (by show s < M; omega)).trans h.src.at_, fun o => (hb.frozen (p := ⟨s, o, none⟩) (by show s < M; omega)).trans (h.src.free o), hv.at hB (by omega)⟩, h.ts, h.res.lowB hb (by omega), fun o => (hb.frozen (p := ⟨w.heap.size, o, none⟩) (by show w.heap.size < M; omega)).trans (h.rfz o), h.var.lowB hb (by omega), ⟨lo, hi, h1, h2, h3.lowB hb h2⟩, ho, hoth, htop, by omega⟩

set_option maxRecDepth 4000 in
theorem l10WrongA {S T : Nat → Prop} {w : World} {bk : Nat} {y z : Value} (r : Rf) (hv : Var6 w bk (.int .i64 r.tm) (.int .i64 r.vt) (.int .i64 r.si) (.int .i64 r.st) y z) (hy : RdI S w y r.sn) (hz : RdJ T w z r.lg) :
    Calls Tryd.prog 42 #[.pointer (some ⟨bk, 0, none⟩)] w fun e w' => e = .returned (.bool (rfF r != 0)) ∧ Below w.heap.size w w' := by
  have H := hide (l10Fault r hv hy hz)
  generalize rfF r = f at H ⊢
  clear hv hy hz
  go_enter Tryd.func42, Tryd.ntmps42
  go_wp2_with fail
  refine (H.out).mono ?_
  rintro e w1 ⟨rfl, hb⟩
  have HB := hide hb
  clear hb
  go_wp2
  go_ret
  exact ⟨by simp, HB.out⟩

set_option linter.unusedSimpArgs false in
set_option maxHeartbeats 8000000 in
set_option maxRecDepth 4000 in
/-- 'DrawAppendRaft': a store of new memory, right or bent, an index, a term and a list of new memory. -/
theorem drawAppendRaft {v : Value} {bs : List Nat} {w : World} (hv : RdB w.heap.size w v bs) :
    Calls Tryd.prog 13 #[v] w fun e w' => ∃ (Q : Rf) (y z u : Value) (p t : Int) (ls : List Oj), e = .returned (.tuple #[.agg #[.int .i64 Q.tm, .int .i64 Q.vt, .int .i64 Q.si, .int .i64 Q.st, y, z], .int .i64 p, .int .i64 t, u]) ∧ Below w.heap.size w w' ∧ IvR w.heap.size w'.heap.size w' y z Q.sn Q.lg ∧ EoRow (w.heap.size ≤ ·) w' u ls.length ls ∧ ls.length ≤ 4 ∧ ∀ i, i < ls.length → (ls.getD i oj0).2.2.length ≤ 8 := by
  have B0 := below_alloc w (.cells #[.int .i64 0, .int .i64 0, .int .i64 0, .int .i64 0, .slice none 0 0, .slice none 0 0] 27)
  have HV0 := hide hv
  have HV := hide (show RdB (w.alloc (.cells #[.int .i64 0, .int .i64 0, .int .i64 0, .int .i64 0, .slice none 0 0, .slice none 0 0] 27)).heap.size (w.alloc (.cells #[.int .i64 0, .int .i64 0, .int .i64 0, .int .i64 0, .slice none 0 0, .slice none 0 0] 27)) v bs from hv.laterH B0)
  have R0 := hide (Var6_new w (.int .i64 0) (.int .i64 0) (.int .i64 0) (.int .i64 0) (.slice none 0 0) (.slice none 0 0) 27)
  have F0 : Hid (∀ o, (w.alloc (.cells #[.int .i64 0, .int .i64 0, .int .i64 0, .int .i64 0, .slice none 0 0, .slice none 0 0] 27)).frozen? ⟨w.heap.size, o, none⟩ = false) := fun o => by simp [go_sem]
  have hs0 : (w.alloc (.cells #[.int .i64 0, .int .i64 0, .int .i64 0, .int .i64 0, .slice none 0 0, .slice none 0 0] 27)).heap.size = w.heap.size + 1 := by simp
  obtain ⟨W0, hW0⟩ : ∃ x, w.alloc (.cells #[.int .i64 0, .int .i64 0, .int .i64 0, .int .i64 0, .slice none 0 0, .slice none 0 0] 27) = x := ⟨_, rfl⟩
  rw [hW0] at B0 HV R0 F0 hs0
  have HB0 := hide B0
  obtain ⟨ao, c, rfl, h2, h3⟩ := hv
  clear h2 h3 B0
  go_enter Tryd.func13, Tryd.ntmps13
  go_upto_region 1 with fail
  (try rw [hW0])
  clear hW0
  go_wp2_with fail
  refine (l1Source HV.out).mono ?_
  rintro e w1 ⟨rfl, hb1, hz1, hS1⟩
  rw [hs0] at hz1 hS1 ⊢
  have HS1 := hide hS1
  have HR1 := hide (R0.out.later hb1)
  have HF1 : Hid (∀ o, w1.frozen? ⟨w.heap.size, o, none⟩ = false) := fun o => ((bcell hb1).2 _ _ (by omega)).trans (F0.out o)
  have HB1 := hide (below_on HB0.out hb1)
  clear hb1 hS1 R0 F0 HB0 HV
  go_wp2_with fail
  refine (l10Bent HS1.out (by omega)).mono ?_
  rintro e w2 ⟨Q, y, z, rfl, hQ, hiv, t2, hd2⟩
  obtain ⟨ay, cy, az, cz, ey, ez⟩ := hiv.shape
  subst ey
  subst ez
  have HQ := hide hQ
  have hz2 := hd2.2.1.size
  have I3 : Hid (DaI (w.heap.size + 1) w2.heap.size (w2.alloc (.cells #[.int .i64 Q.tm, .int .i64 Q.vt, .int .i64 Q.si, .int .i64 Q.st, .slice ay Q.sn.length cy, .slice az Q.lg.length cz] 27)).heap.size (.slice ao bs.length c) bs 2300 w Q (.slice ay Q.sn.length cy) (.slice az Q.lg.length cz) t2 (w2.alloc (.cells #[.int .i64 Q.tm, .int .i64 Q.vt, .int .i64 Q.si, .int .i64 Q.st, .slice ay Q.sn.length cy, .slice az Q.lg.length cz] 27))) := by
    have hb := below_alloc w2 (.cells #[.int .i64 Q.tm, .int .i64 Q.vt, .int .i64 Q.si, .int .i64 Q.st, .slice ay Q.sn.length cy, .slice az Q.lg.length cz] 27)
    exact ⟨Below.trans (Below.trans HB1.out (hd2.2.1.below (by omega) (fun b e => by omega))) (hb.mono (by omega)), hd2.1.later hb, by have := hd2.2.2; omega, (HR1.out.wr hd2.2.1 (by show ¬ w.heap.size = w.heap.size + 1; omega)).later hb, fun o => ((bcell hb).2 _ _ (by omega)).trans ((hd2.2.1.frz _ _ (by omega)).trans (HF1.out o)), Var6_new w2 (.int .i64 Q.tm) (.int .i64 Q.vt) (.int .i64 Q.si) (.int .i64 Q.st) (.slice ay Q.sn.length cy) (.slice az Q.lg.length cz) 27, ⟨w1.heap.size, w2.heap.size, by omega, by simp, hiv.later hb⟩, by omega, by omega, by simp, Nat.le_refl _⟩
  clear hQ hiv hd2 HS1 HR1 HF1 HB1
  go_upto_region 3 with fail
  obtain ⟨W3, hW3⟩ : ∃ x, w2.alloc (.cells #[.int .i64 Q.tm, .int .i64 Q.vt, .int .i64 Q.si, .int .i64 Q.st, .slice ay Q.sn.length cy, .slice az Q.lg.length cz] 27) = x := ⟨_, rfl⟩
  rw [hW3] at I3
  (try rw [hW3])
  clear hW3
  obtain ⟨RR, hRR⟩ : ∃ x, w2.heap.size = x := ⟨_, rfl⟩
  rw [hRR] at I3 hz2
  (try rw [hRR])
  clear hRR
  obtain ⟨M0, hM0⟩ : ∃ x, W3.heap.size = x := ⟨_, rfl⟩
  rw [hM0] at I3
  clear hM0
  have hq := HQ.out.si
  have hql := HQ.out.lg
  obtain ⟨g0, g1, g2, g3, g4, g5⟩ := I3.out.var
  refine wp_region_held_drew (S := fun w' => w'.cell? ⟨RR, 0, none⟩ = some (.int .i64 Q.tm) ∧ w'.cell? ⟨RR, 1, none⟩ = some (.int .i64 Q.vt) ∧ w'.cell? ⟨RR, 2, none⟩ = some (.int .i64 Q.si) ∧ w'.cell? ⟨RR, 3, none⟩ = some (.int .i64 Q.st) ∧ w'.cell? ⟨RR, 4, none⟩ = some (.slice ay Q.sn.length cy) ∧ w'.cell? ⟨RR, 5, none⟩ = some (.slice az Q.lg.length cz)) (by kernel_rfl) ⟨g0, g1, g2, g3, g4, g5⟩ (fun _ => ?_)
  clear g0 g1 g2 g3 g4 g5
  refine forgetH (fun wx => DaI (w.heap.size + 1) RR M0 (.slice ao bs.length c) bs 2300 w Q (.slice ay Q.sn.length cy) (.slice az Q.lg.length cz) t2 wx) (I3.out.low HV0.out ((below_drewN W3 1).mono I3.out.fit)) ?_
  rintro Y0 i4
  have I4 := hide i4
  clear i4 I3
  have hHeld := I4.out.var
  refine wpAnyH_take (i := 0) (v := ?vt1x0) rfl (by kernel_rfl) (by kernel_rfl) (by kernel_rfl) (fun _ _ _ h => h) (Or.inl ⟨by rfl, ?ht1x0⟩) hHeld ?rt1x0
  case ht1x0 => intro w9 hSw; (try dsimp only at hSw); first | (go_simp; done) | (go_simp; with_reducible rfl)
  try simp only [Act.put, List.setIfInBounds_toArray, List.set_cons_zero, List.set_cons_succ, List.getElem_toArray, List.getElem_cons_zero]
  refine wpAnyH_take (i := 1) (v := ?vt2x1) rfl (by kernel_rfl) (by kernel_rfl) (by kernel_rfl) (fun _ _ _ h => h) (Or.inl ⟨by rfl, ?ht2x1⟩) hHeld ?rt2x1
  case ht2x1 => intro w9 hSw; (try dsimp only at hSw); first | (go_simp; done) | (go_simp; with_reducible rfl)
  try simp only [Act.put, List.setIfInBounds_toArray, List.set_cons_zero, List.set_cons_succ, List.getElem_toArray, List.getElem_cons_zero, List.getElem_cons_succ]
  refine wpAnyH_take (i := 2) (v := ?vt3x2) rfl (by kernel_rfl) (by kernel_rfl) (by kernel_rfl) (fun _ _ _ h => h) (Or.inl ⟨by rfl, ?ht3x2⟩) hHeld ?rt3x2
  case ht3x2 => intro w9 hSw; (try dsimp only at hSw); first | (go_simp; done) | (go_simp; with_reducible rfl)
  try simp only [Act.put, List.setIfInBounds_toArray, List.set_cons_zero, List.set_cons_succ, List.getElem_toArray, List.getElem_cons_zero, List.getElem_cons_succ]
  refine wpAnyH_take (i := 3) (v := ?vt4x3) rfl (by kernel_rfl) (by kernel_rfl) (by kernel_rfl) (fun _ _ _ h => h) (Or.inl ⟨by rfl, ?ht4x3⟩) hHeld ?rt4x3
  case ht4x3 => intro w9 hSw; (try dsimp only at hSw); first | (go_simp; done) | (go_simp; with_reducible rfl)
  try simp only [Act.put, List.setIfInBounds_toArray, List.set_cons_zero, List.set_cons_succ, List.getElem_toArray, List.getElem_cons_zero, List.getElem_cons_succ]
  refine wpAnyH_take (i := 4) (v := ?vt5x4) rfl (by kernel_rfl) (by kernel_rfl) (by kernel_rfl) (fun _ _ _ h => h) (Or.inl ⟨by rfl, ?ht5x4⟩) hHeld ?rt5x4
  case ht5x4 => intro w9 hSw; (try dsimp only at hSw); first | (go_simp; done) | (go_simp; with_reducible rfl)
  try simp only [Act.put, List.setIfInBounds_toArray, List.set_cons_zero, List.set_cons_succ, List.getElem_toArray, List.getElem_cons_zero, List.getElem_cons_succ]
  refine wpAnyH_take (i := 5) (v := ?vt6x5) rfl (by kernel_rfl) (by kernel_rfl) (by kernel_rfl) (fun _ _ _ h => h) (Or.inl ⟨by rfl, ?ht6x5⟩) hHeld ?rt6x5
  case ht6x5 => intro w9 hSw; (try dsimp only at hSw); first | (go_simp; done) | (go_simp; with_reducible rfl)
  try simp only [Act.put, List.setIfInBounds_toArray, List.set_cons_zero, List.set_cons_succ, List.getElem_toArray, List.getElem_cons_zero, List.getElem_cons_succ]
  refine wpAnyH_take (i := 6) (v := ?vt7x6) rfl (by kernel_rfl) (by kernel_rfl) (by kernel_rfl) (fun _ _ _ h => h) (Or.inl ⟨by rfl, ?ht7x6⟩) hHeld ?rt7x6
  case ht7x6 => intro w9 hSw; (try dsimp only at hSw); first | (go_simp; done) | (go_simp; with_reducible rfl)
  try simp only [Act.put, List.setIfInBounds_toArray, List.set_cons_zero, List.set_cons_succ, List.getElem_toArray, List.getElem_cons_zero, List.getElem_cons_succ]
  refine wpAnyH_take (i := 7) (v := ?vt8x7) rfl (by kernel_rfl) (by kernel_rfl) (by kernel_rfl) (fun _ _ _ h => h) (Or.inl ⟨by rfl, ?ht8x7⟩) hHeld ?rt8x7
  case ht8x7 => intro w9 hSw; (try dsimp only at hSw); first | (go_simp; done) | (go_simp; with_reducible rfl)
  try simp only [Act.put, List.setIfInBounds_toArray, List.set_cons_zero, List.set_cons_succ, List.getElem_toArray, List.getElem_cons_zero, List.getElem_cons_succ]
  refine wpAnyH_take (i := 8) (v := ?vt9x8) rfl (by kernel_rfl) (by kernel_rfl) (by kernel_rfl) (fun _ _ _ h => h) (Or.inl ⟨by rfl, ?ht9x8⟩) hHeld ?rt9x8
  case ht9x8 => intro w9 hSw; (try dsimp only at hSw); first | (go_simp; done) | (go_simp; with_reducible rfl)
  try simp only [Act.put, List.setIfInBounds_toArray, List.set_cons_zero, List.set_cons_succ, List.getElem_toArray, List.getElem_cons_zero, List.getElem_cons_succ]
  refine wpAnyH_take (i := 9) (v := ?vt10x9) rfl (by kernel_rfl) (by kernel_rfl) (by kernel_rfl) (fun _ _ _ h => h) (Or.inl ⟨by rfl, ?ht10x9⟩) hHeld ?rt10x9
  case ht10x9 => intro w9 hSw; (try dsimp only at hSw); first | (go_simp; done) | (go_simp; with_reducible rfl)
  try simp only [Act.put, List.setIfInBounds_toArray, List.set_cons_zero, List.set_cons_succ, List.getElem_toArray, List.getElem_cons_zero, List.getElem_cons_succ]
  refine wpAnyH_take (i := 10) (v := ?vt11x10) rfl (by kernel_rfl) (by kernel_rfl) (by kernel_rfl) (fun _ _ _ h => h) (Or.inl ⟨by rfl, ?ht11x10⟩) hHeld ?rt11x10
  case ht11x10 => intro w9 hSw; (try dsimp only at hSw); first | (go_simp; done) | (go_simp; with_reducible rfl)
  try simp only [Act.put, List.setIfInBounds_toArray, List.set_cons_zero, List.set_cons_succ, List.getElem_toArray, List.getElem_cons_zero, List.getElem_cons_succ]
  have ew : IntKind.i64.wrap ((Q.lg.length : Int) + 1) = (Q.lg.length : Int) + 1 := by simp [IntKind.wrap, IntKind.bits, IntKind.signed]; omega
  (try rw [ew])
  clear ew
  refine wpAnyH_take (i := 12) (v := ?vt12x12) rfl (by kernel_rfl) (by kernel_rfl) (by kernel_rfl) (fun _ _ _ h => h) (Or.inl ⟨by rfl, ?ht12x12⟩) hHeld ?rt12x12
  case ht12x12 => intro w9 hSw; (try dsimp only at hSw); first | (go_simp; done) | (go_simp; with_reducible rfl)
  try simp only [Act.put, List.setIfInBounds_toArray, List.set_cons_zero, List.set_cons_succ, List.getElem_toArray, List.getElem_cons_zero, List.getElem_cons_succ]
  refine wpAnyH_take (i := 13) (v := ?vt13x13) rfl (by kernel_rfl) (by kernel_rfl) (by kernel_rfl) (fun _ _ _ h => h) (Or.inl ⟨by rfl, ?ht13x13⟩) hHeld ?rt13x13
  case ht13x13 => intro w9 hSw; (try dsimp only at hSw); first | (go_simp; done) | (go_simp; with_reducible rfl)
  try simp only [Act.put, List.setIfInBounds_toArray, List.set_cons_zero, List.set_cons_succ, List.getElem_toArray, List.getElem_cons_zero, List.getElem_cons_succ]
  refine wpAnyH_take (i := 14) (v := ?vt14x14) rfl (by kernel_rfl) (by kernel_rfl) (by kernel_rfl) (fun _ _ _ h => h) (Or.inl ⟨by rfl, ?ht14x14⟩) hHeld ?rt14x14
  case ht14x14 => intro w9 hSw; (try dsimp only at hSw); first | (go_simp; done) | (go_simp; with_reducible rfl)
  try simp only [Act.put, List.setIfInBounds_toArray, List.set_cons_zero, List.set_cons_succ, List.getElem_toArray, List.getElem_cons_zero, List.getElem_cons_succ]
  refine wpAnyH_take (i := 15) (v := ?vt15x15) rfl (by kernel_rfl) (by kernel_rfl) (by kernel_rfl) (fun _ _ _ h => h) (Or.inl ⟨by rfl, ?ht15x15⟩) hHeld ?rt15x15
  case ht15x15 => intro w9 hSw; (try dsimp only at hSw); first | (go_simp; done) | (go_simp; with_reducible rfl)
  try simp only [Act.put, List.setIfInBounds_toArray, List.set_cons_zero, List.set_cons_succ, List.getElem_toArray, List.getElem_cons_zero, List.getElem_cons_succ]
  have ew : IntKind.i64.wrap ((Q.lg.length : Int) + 1) = (Q.lg.length : Int) + 1 := by simp [IntKind.wrap, IntKind.bits, IntKind.signed]; omega
  (try rw [ew])
  clear ew
  refine wpAnyH_ready (rs := [11]) (by kernel_rfl) (by simp) (AllReadyH.cons rfl (fun K hK => ?_) AllReadyH.nil)
  go_simp
  go_at_call 26
  have hts := I4.out.ts
  refine (l1Next ((Q.lg.length : Int) + 1) I4.out.src (by omega) (by omega) (by omega)).mono ?_
  rintro e Y1 ⟨k, rfl, k0, k1, t7, hd⟩
  have k2 := k1 (by omega)
  have I5 := hide (I4.out.on hd)
  clear hd hHeld I4 k1 hts
  refine hK.out _ _ I5.out.var (fun hHeld => ?_)
  clear hK K
  try simp only [Act.put, List.setIfInBounds_toArray, List.set_cons_zero, List.set_cons_succ, List.getElem_toArray, List.getElem_cons_zero, List.getElem_cons_succ]
  refine wpAnyH_ready (rs := [16]) (by kernel_rfl) (by simp) (AllReadyH.cons rfl (fun K hK => ?_) AllReadyH.nil)
  go_simp
  have I6 := hide (I5.out.low HV0.out ((below_alloc Y1 (.cells #[.int .i64 (Q.lg.length : Int), .int .i64 k, .int .i64 ((Q.lg.length : Int) + 1), .int .i64 (-1)] 2)).mono I5.out.fit))
  have hsY : w.heap.size + 1 < Y1.heap.size := I5.out.src.lt
  have HRd := hide (RdI_new (w.heap.size + 1) Y1 [(Q.lg.length : Int), k, (Q.lg.length : Int) + 1, -1] 2 hsY (by simp))
  clear hHeld I5
  refine hK.out _ _ I6.out.var (fun hHeld => ?_)
  clear hK K
  try simp only [Act.put, List.setIfInBounds_toArray, List.set_cons_zero, List.set_cons_succ, List.getElem_toArray, List.getElem_cons_zero, List.getElem_cons_succ]
  refine wpAnyH_ready (rs := [17]) (by kernel_rfl) (by simp) (AllReadyH.cons rfl (fun K hK => ?_) AllReadyH.nil)
  go_simp
  go_at_call 25
  have hts := I6.out.ts
  refine (l1Pick (xs := [(Q.lg.length : Int), k, (Q.lg.length : Int) + 1, -1]) I6.out.src (by omega) HRd.out (by simp) (by simp)).mono ?_
  rintro e Y2 ⟨i, hi, rfl, t8, hd⟩
  have hp := list4 (P := fun x => -1 ≤ x ∧ x ≤ 16) (a := (Q.lg.length : Int)) (b := k) (c := (Q.lg.length : Int) + 1) (d := -1) hi (by omega) (by omega) (by omega) (by omega)
  obtain ⟨P, hpx⟩ : ∃ p, ([(Q.lg.length : Int), k, (Q.lg.length : Int) + 1, -1] : List Int).getD i 0 = p := ⟨_, rfl⟩
  rw [hpx] at hp ⊢
  have I7 := hide (I6.out.on hd)
  clear hd hHeld I6 HRd hi hpx hts
  refine hK.out _ _ I7.out.var (fun hHeld => ?_)
  clear hK K
  try simp only [Act.put, List.setIfInBounds_toArray, List.set_cons_zero, List.set_cons_succ, List.getElem_toArray, List.getElem_cons_zero, List.getElem_cons_succ]
  refine wpAnyH_take (i := 18) (v := ?vt16x18) rfl (by kernel_rfl) (by kernel_rfl) (by kernel_rfl) (fun _ _ _ h => h) (Or.inl ⟨by rfl, ?ht16x18⟩) hHeld ?rt16x18
  case ht16x18 => intro w9 hSw; (try dsimp only at hSw); first | (go_simp; done) | (go_simp; with_reducible rfl)
  try simp only [Act.put, List.setIfInBounds_toArray, List.set_cons_zero, List.set_cons_succ, List.getElem_toArray, List.getElem_cons_zero, List.getElem_cons_succ]
  have ew : IntKind.i64.wrap (Q.si + P) = Q.si + P := by simp [IntKind.wrap, IntKind.bits, IntKind.signed]; omega
  (try rw [ew])
  clear ew
  obtain ⟨A, hA⟩ : ∃ A, Q.si + P = A := ⟨_, rfl⟩
  rw [hA]
  have hA0 : -1 ≤ A - Q.si ∧ A - Q.si ≤ 16 := by omega
  clear hA k0 k2 hp
  refine wpAnyH_take (i := 19) (v := ?vt17x19) rfl (by kernel_rfl) (by kernel_rfl) (by kernel_rfl) (fun _ _ _ h => h) (Or.inl ⟨by rfl, ?ht17x19⟩) hHeld ?rt17x19
  case ht17x19 => intro w9 hSw; (try dsimp only at hSw); first | (go_simp; done) | (go_simp; with_reducible rfl)
  try simp only [Act.put, List.setIfInBounds_toArray, List.set_cons_zero, List.set_cons_succ, List.getElem_toArray, List.getElem_cons_zero, List.getElem_cons_succ]
  refine wpAnyH_done (by kernel_rfl) ?_ _
  clear hHeld
  go_upto_region 5 with fail
  have KW : Hid (Calls Tryd.prog 42 #[.pointer (some ⟨RR, 0, none⟩)] Y2 fun e w' => e = .returned (.bool (rfF Q != 0)) ∧ Below Y2.heap.size Y2 w') := by
    obtain ⟨lo, hi2, l1, l2, iv⟩ := I7.out.mem
    exact l10WrongA Q I7.out.var iv.rdI iv.rdJ
  obtain ⟨Bw, hBw⟩ : ∃ x, (rfF Q != 0) = x := ⟨_, rfl⟩
  rw [hBw] at KW
  have HBw := hide hBw
  clear hBw
  go_wp2_with fail
  refine (KW.out).mono ?_
  rintro e w5 ⟨rfl, hb5⟩
  have I5 := hide (I7.out.low HV0.out (hb5.mono I7.out.fit))
  clear hb5 KW I7
  go_upto_if 37 with fail
  go_cut [9] from 38 to 42 (fun x wx => ∃ t : Int, x = .int .i64 t ∧ 0 ≤ t ∧ t ≤ 1000 ∧ Hid (Below w5.heap.size w5 wx))
  case first =>
    cases Bw with
    | false =>
      have hf : rfF Q = 0 := by simpa using HBw.out
      have KT : Hid (Calls Tryd.prog 43 #[.pointer (some ⟨RR, 0, none⟩), .int .i64 A] w5 fun e w'' => e = .returned (.tuple #[.int .i64 (tmV Q A), .int .i64 (tmC Q A)]) ∧ ∃ q, w'' = w5.drewN q) := by
        obtain ⟨lo, hi2, l1, l2, iv⟩ := I5.out.mem
        exact l10TermI Q A (rfF_iff.1 hf) I5.out.var ⟨_, _, _, rfl⟩ iv.rdJ
      have hT0 := tmV_nn (i := A) hf
      have hT1 := tmV_bd (i := A) hf
      generalize tmV Q A = T at KT hT0 hT1
      clear hf
      go_wp2_with fail
      refine (KT.out).mono ?_
      rintro e w6 ⟨rfl, nq, rfl⟩
      have HB6 := hide (below_drewN w5 nq)
      clear KT
      go_wp2
      go_meet
      case rel => exact ⟨T, rfl, hT0, by omega, HB6.out⟩
    | true =>
      go_wp2
      go_meet
      case rel => exact ⟨1, rfl, by decide, by decide, Below.refl _ _⟩
  case rest =>
    obtain ⟨T, rfl, hT0, hT1, HBc⟩ := hcut
    have I8 := hide (I5.out.low HV0.out (HBc.out.mono I5.out.fit))
    clear I5 HBc
    have hwA : IntKind.i64.wrap (A + 1) = A + 1 := by simp [IntKind.wrap, IntKind.bits, IntKind.signed]; omega
    go_wp2_with fail
    refine (l1Max_any 1 T _).mono ?_
    rintro e w6 ⟨rfl, rfl⟩
    obtain ⟨X, hX⟩ : ∃ X, (if T < 1 then 1 else T) = X := ⟨_, rfl⟩
    have hX0 : 0 ≤ X ∧ X ≤ 1000 := by
      rw [← hX]
      by_cases e : T < 1
      · rw [if_pos e]; omega
      · rw [if_neg e]; omega
    rw [hX]
    clear hX
    go_wp2_with fail
    have hts := I8.out.ts
    refine (l1Next 5 I8.out.src (by omega) (by omega) (by omega)).mono ?_
    rintro e w7 ⟨r5, rfl, k0, k1, t9, hd⟩
    have k2 := k1 (by omega)
    obtain ⟨n, rfl⟩ : ∃ n : Nat, r5 = (n : Int) := ⟨r5.toNat, (Int.toNat_of_nonneg k0).symm⟩
    have I9 := hide (I8.out.on hd)
    clear hd I8 k1 hts k0
    go_wp2_with fail
    have hts := I9.out.ts
    refine (l9Draw I9.out.src (by omega) (A + 1) X n (by omega) (by omega) (by omega) (by omega) (by omega)).mono ?_
    rintro e w8 ⟨vl, gs, rfl, hgl, hgs, hrow, t10, hd⟩
    have Ia := hide (I9.out.on hd)
    obtain ⟨b, hMb, hls⟩ := LsI.of (s := w.heap.size + 1) hrow hgl (by have := I9.out.src.lt; omega) hgs
    have hMb0 : M0 ≤ b := Nat.le_trans I9.out.fit hMb
    have hsb : w.heap.size + 1 < b := by have := I9.out.src.lt; omega
    have La := hide hls
    obtain ⟨aL, cL, eL, hLc, hLa⟩ := hls.shp
    subst eL
    clear hd I9 hrow hls hgs hgl hts hMb hwA
    go_wp2_with fail
    have hts := Ia.out.ts
    refine (l1ChanceE 3 Ia.out.src (by omega) (by omega) (by omega)).mono ?_
    rintro e w9 ⟨ch, rfl, t11, hd⟩
    have Ib := hide (Ia.out.on hd)
    have Lb := hide (La.out.wr hd.2.1 (by omega))
    clear hd Ia La hts
    cases ch with
    | true =>
      go_wp2
      go_loopw [11] (fun i wr => ∃ (k : Nat) (ts : List Oj), k ≤ n ∧ i = .int .i64 (k : Int) ∧ Hid (DaI (w.heap.size + 1) RR M0 (.slice ao bs.length c) bs 2404 w Q (.slice ay Q.sn.length cy) (.slice az Q.lg.length cz) t11 wr) ∧ Hid (LsI (w.heap.size + 1) (.slice aL n cL) b n ts wr)) (fun i _ => n - (RowKit.intOf i).toNat)
      case atStart => exact ⟨0, gs, Nat.zero_le _, rfl, Ib.out, Lb.out⟩
      case round =>
        obtain ⟨k, ts, hk, rfl, Ic, Lc⟩ := hrel
        clear Ib Lb
        by_cases hlt : k < n
        · skip
          obtain ⟨g0, g1, g2, g3, g4, g5⟩ := Ic.out.var
          have hkb : decide ((k : Int) < (n : Int)) = true := by simpa using hlt
          have hw1 : IntKind.i64.wrap (A - Q.si) = A - Q.si := by simp [IntKind.wrap, IntKind.bits, IntKind.signed]; omega
          have hw3 : IntKind.i64.wrap (A - Q.si + (k : Int)) = A - Q.si + (k : Int) := by simp [IntKind.wrap, IntKind.bits, IntKind.signed]; omega
          obtain ⟨J, hJ⟩ : ∃ J, A - Q.si + (k : Int) = J := ⟨_, rfl⟩
          have hw2 : IntKind.i64.wrap (A - Q.si + (k : Int)) = J := hw3.trans hJ
          clear hw3 hJ
          by_cases hJ0 : 0 ≤ J
          · skip
            have hJ0b : decide (0 ≤ J) = true := by simpa using hJ0
            by_cases hJ1 : J < (Q.lg.length : Int)
            · skip
              have hJ1b : decide (J < (Q.lg.length : Int)) = true := by simpa using hJ1
              obtain ⟨j, rfl⟩ : ∃ j : Nat, J = (j : Int) := ⟨J.toNat, (Int.toNat_of_nonneg hJ0).symm⟩
              have hjl : j < Q.lg.length := by omega
              obtain ⟨lo, hi2, l1, l2, iv⟩ := Ic.out.mem
              have hrj := iv.rdJ
              obtain ⟨ao9, c9, e9, _, hrd⟩ := hrj
              injection e9 with e9a _ e9c
              subst e9a
              subst e9c
              obtain ⟨bq, oq, V, hq0, hq1, hq2⟩ := hrd (by rintro e; rw [e] at hjl; exact absurd hjl (Nat.not_lt_zero _))
              subst hq0
              obtain ⟨y0, y1, y2, y3⟩ := hq2 j hjl
              have hx8 : (Q.lg.getD j oj0).2.2.length ≤ 8 := HQ.out.da _ (getD_memR hjl)
              have HDt := hide (y3.narrow (T := fun x => w.heap.size + 1 < x ∧ x ≠ b) (fun _ x hx => ⟨by have := hx.1; omega, by have := hx.2; omega⟩))
              generalize (Q.lg.getD j oj0).1 = d0 at y0
              generalize (Q.lg.getD j oj0).2.1 = d1 at y1
              generalize (Q.lg.getD j oj0).2.2 = dx at HDt hx8
              generalize V j = dv at y2 HDt
              obtain ⟨ad, cd, edv⟩ := HDt.out.shape
              subst edv
              obtain ⟨nd, hnd⟩ : ∃ nd, dx.length = nd := ⟨_, rfl⟩
              have HNd := hide hnd
              rw [hnd] at y2 HDt
              clear hnd
              clear hrd hq2 y3 iv hq1
              have hne : n ≠ 0 := by omega
              have eaL := hLa hne
              subst eaL
              have HLs := hide (Lc.out.set hlt (a := d0) (t := d1) HDt.out hx8)
              obtain ⟨VL, hVL⟩ := Lc.out.dat
              obtain ⟨x0, x1, x2, _⟩ := hVL k hlt
              have f0 := Lc.out.frz hne (k * 3)
              have f1 := Lc.out.frz hne (k * 3 + 1)
              have f2 := Lc.out.frz hne (k * 3 + 2)
              have HIs := hide (Ic.out.low HV0.out ((Wr.setCell (p := ⟨b, k * 3 + 2, none⟩) (Wr.setCell (p := ⟨b, k * 3 + 1, none⟩) (Wr.setCell (p := ⟨b, k * 3, none⟩) (Wr.refl (· = b) wr) rfl (.int .i64 d0)) rfl (.int .i64 d1)) rfl (.slice ad nd cd)).below Ic.out.fit (fun x e => by have e : x = b := e; omega)))
              clear hVL HDt
              go_wp2
              go_roundw
              case rel => exact ⟨k + 1, _, by omega, by go_num, HIs.out, HLs.out⟩
              case measure => simp [RowKit.intOf]; omega
            · skip
              have hJ1b : decide (J < (Q.lg.length : Int)) = false := by simpa using hJ1
              go_wp2
              go_roundw
              case rel => exact ⟨k + 1, ts, by omega, by go_num, Ic.out, Lc.out⟩
              case measure => simp [RowKit.intOf]; omega
          · skip
            have hJ0b : decide (0 ≤ J) = false := by simpa using hJ0
            go_wp2
            go_roundw
            case rel => exact ⟨k + 1, ts, by omega, by go_num, Ic.out, Lc.out⟩
            case measure => simp [RowKit.intOf]; omega
        · have hkn : k = n := by omega
          subst hkn
          have hkb : decide ((k : Int) < (k : Int)) = false := by simp
          clear hLa
          go_upto_region 15 with fail
          obtain ⟨g0, g1, g2, g3, g4, g5⟩ := Ic.out.var
          refine wp_region_held_drew (S := fun w' => w'.cell? ⟨RR, 0, none⟩ = some (.int .i64 Q.tm) ∧ w'.cell? ⟨RR, 1, none⟩ = some (.int .i64 Q.vt) ∧ w'.cell? ⟨RR, 2, none⟩ = some (.int .i64 Q.si) ∧ w'.cell? ⟨RR, 3, none⟩ = some (.int .i64 Q.st) ∧ w'.cell? ⟨RR, 4, none⟩ = some (.slice ay Q.sn.length cy) ∧ w'.cell? ⟨RR, 5, none⟩ = some (.slice az Q.lg.length cz)) (by kernel_rfl) ⟨g0, g1, g2, g3, g4, g5⟩ (fun _ => ?_)
          clear g0 g1 g2 g3 g4 g5
          refine forgetH (fun wx => DaI (w.heap.size + 1) RR M0 (.slice ao bs.length c) bs 2404 w Q (.slice ay Q.sn.length cy) (.slice az Q.lg.length cz) t11 wx ∧ LsI (w.heap.size + 1) (.slice aL k cL) b k ts wx) ⟨Ic.out.low HV0.out ((below_drewN wr 1).mono Ic.out.fit), Lc.out.later (below_drewN wr 1)⟩ ?_
          rintro Z0 ⟨i5, l5⟩
          have I5 := hide i5
          have L5 := hide l5
          clear i5 l5 Ic Lc
          have hHeld := I5.out.var
          refine wpAnyH_take (i := 0) (v := ?vt18x0) rfl (by kernel_rfl) (by kernel_rfl) (by kernel_rfl) (fun _ _ _ h => h) (Or.inl ⟨by rfl, ?ht18x0⟩) hHeld ?rt18x0
          case ht18x0 => intro w9 hSw; (try dsimp only at hSw); first | (go_simp; done) | (go_simp; with_reducible rfl)
          try simp only [Act.put, List.setIfInBounds_toArray, List.set_cons_zero, List.set_cons_succ, List.getElem_toArray, List.getElem_cons_zero]
          refine wpAnyH_take (i := 1) (v := ?vt19x1) rfl (by kernel_rfl) (by kernel_rfl) (by kernel_rfl) (fun _ _ _ h => h) (Or.inl ⟨by rfl, ?ht19x1⟩) hHeld ?rt19x1
          case ht19x1 => intro w9 hSw; (try dsimp only at hSw); first | (go_simp; done) | (go_simp; with_reducible rfl)
          try simp only [Act.put, List.setIfInBounds_toArray, List.set_cons_zero, List.set_cons_succ, List.getElem_toArray, List.getElem_cons_zero, List.getElem_cons_succ]
          refine wpAnyH_take (i := 2) (v := ?vt20x2) rfl (by kernel_rfl) (by kernel_rfl) (by kernel_rfl) (fun _ _ _ h => h) (Or.inl ⟨by rfl, ?ht20x2⟩) hHeld ?rt20x2
          case ht20x2 => intro w9 hSw; (try dsimp only at hSw); first | (go_simp; done) | (go_simp; with_reducible rfl)
          try simp only [Act.put, List.setIfInBounds_toArray, List.set_cons_zero, List.set_cons_succ, List.getElem_toArray, List.getElem_cons_zero, List.getElem_cons_succ]
          refine wpAnyH_take (i := 3) (v := ?vt21x3) rfl (by kernel_rfl) (by kernel_rfl) (by kernel_rfl) (fun _ _ _ h => h) (Or.inl ⟨by rfl, ?ht21x3⟩) hHeld ?rt21x3
          case ht21x3 => intro w9 hSw; (try dsimp only at hSw); first | (go_simp; done) | (go_simp; with_reducible rfl)
          try simp only [Act.put, List.setIfInBounds_toArray, List.set_cons_zero, List.set_cons_succ, List.getElem_toArray, List.getElem_cons_zero, List.getElem_cons_succ]
          refine wpAnyH_take (i := 4) (v := ?vt22x4) rfl (by kernel_rfl) (by kernel_rfl) (by kernel_rfl) (fun _ _ _ h => h) (Or.inl ⟨by rfl, ?ht22x4⟩) hHeld ?rt22x4
          case ht22x4 => intro w9 hSw; (try dsimp only at hSw); first | (go_simp; done) | (go_simp; with_reducible rfl)
          try simp only [Act.put, List.setIfInBounds_toArray, List.set_cons_zero, List.set_cons_succ, List.getElem_toArray, List.getElem_cons_zero, List.getElem_cons_succ]
          refine wpAnyH_take (i := 5) (v := ?vt23x5) rfl (by kernel_rfl) (by kernel_rfl) (by kernel_rfl) (fun _ _ _ h => h) (Or.inl ⟨by rfl, ?ht23x5⟩) hHeld ?rt23x5
          case ht23x5 => intro w9 hSw; (try dsimp only at hSw); first | (go_simp; done) | (go_simp; with_reducible rfl)
          try simp only [Act.put, List.setIfInBounds_toArray, List.set_cons_zero, List.set_cons_succ, List.getElem_toArray, List.getElem_cons_zero, List.getElem_cons_succ]
          refine wpAnyH_take (i := 6) (v := ?vt24x6) rfl (by kernel_rfl) (by kernel_rfl) (by kernel_rfl) (fun _ _ _ h => h) (Or.inl ⟨by rfl, ?ht24x6⟩) hHeld ?rt24x6
          case ht24x6 => intro w9 hSw; (try dsimp only at hSw); first | (go_simp; done) | (go_simp; with_reducible rfl)
          try simp only [Act.put, List.setIfInBounds_toArray, List.set_cons_zero, List.set_cons_succ, List.getElem_toArray, List.getElem_cons_zero, List.getElem_cons_succ]
          refine wpAnyH_take (i := 7) (v := ?vt25x7) rfl (by kernel_rfl) (by kernel_rfl) (by kernel_rfl) (fun _ _ _ h => h) (Or.inl ⟨by rfl, ?ht25x7⟩) hHeld ?rt25x7
          case ht25x7 => intro w9 hSw; (try dsimp only at hSw); first | (go_simp; done) | (go_simp; with_reducible rfl)
          try simp only [Act.put, List.setIfInBounds_toArray, List.set_cons_zero, List.set_cons_succ, List.getElem_toArray, List.getElem_cons_zero, List.getElem_cons_succ]
          have ew : IntKind.i64.wrap (T + 1) = T + 1 := by simp [IntKind.wrap, IntKind.bits, IntKind.signed]; omega
          (try rw [ew])
          clear ew
          refine wpAnyH_take (i := 10) (v := ?vt26x10) rfl (by kernel_rfl) (by kernel_rfl) (by kernel_rfl) (fun _ _ _ h => h) (Or.inl ⟨by rfl, ?ht26x10⟩) hHeld ?rt26x10
          case ht26x10 => intro w9 hSw; (try dsimp only at hSw); first | (go_simp; done) | (go_simp; with_reducible rfl)
          try simp only [Act.put, List.setIfInBounds_toArray, List.set_cons_zero, List.set_cons_succ, List.getElem_toArray, List.getElem_cons_zero, List.getElem_cons_succ]
          refine wpAnyH_ready (rs := [8]) (by kernel_rfl) (by simp) (AllReadyH.cons rfl (fun K hK => ?_) AllReadyH.nil)
          go_simp
          have hB6 := below_alloc Z0 (.cells #[.int .i64 T, .int .i64 T, .int .i64 T, .int .i64 (T + 1)] 2)
          have I6 := hide (I5.out.low HV0.out (hB6.mono I5.out.fit))
          have L6 := hide (L5.out.later hB6)
          have hsY : w.heap.size + 1 < Z0.heap.size := I5.out.src.lt
          have HRd := hide (RdI_new (w.heap.size + 1) Z0 [T, T, T, T + 1] 2 hsY (by simp))
          clear hHeld I5 L5 hB6
          refine hK.out _ _ I6.out.var (fun hHeld => ?_)
          clear hK K
          try simp only [Act.put, List.setIfInBounds_toArray, List.set_cons_zero, List.set_cons_succ, List.getElem_toArray, List.getElem_cons_zero, List.getElem_cons_succ]
          refine wpAnyH_ready (rs := [9]) (by kernel_rfl) (by simp) (AllReadyH.cons rfl (fun K hK => ?_) AllReadyH.nil)
          go_simp
          go_at_call 25
          have hts := I6.out.ts
          refine (l1Pick (xs := [T, T, T, T + 1]) I6.out.src (by omega) HRd.out (by simp) (by simp)).mono ?_
          rintro e Z1 ⟨i, hi, rfl, t6, hd⟩
          obtain ⟨pt, hpt⟩ : ∃ p, ([T, T, T, T + 1] : List Int).getD i 0 = p := ⟨_, rfl⟩
          rw [hpt]
          have I7 := hide (I6.out.on hd)
          have L7 := hide (L6.out.wr hd.2.1 (by omega))
          clear hd hHeld I6 L6 HRd hi hpt hts
          refine hK.out _ _ I7.out.var (fun hHeld => ?_)
          clear hK K
          try simp only [Act.put, List.setIfInBounds_toArray, List.set_cons_zero, List.set_cons_succ, List.getElem_toArray, List.getElem_cons_zero, List.getElem_cons_succ]
          refine wpAnyH_ready (rs := [11]) (by kernel_rfl) (by simp) (AllReadyH.cons rfl (fun K hK => ?_) AllReadyH.nil)
          go_simp
          go_at_call 47
          have HLen := hide L7.out.len
          refine (l9CopyOwn (L7.out.rdJ (by omega)) (by rw [L7.out.len]; omega) (fun i hi => by have := L7.out.lens i (by rw [← L7.out.len]; exact hi); omega)).mono ?_
          rintro e Z2 ⟨vz, rfl, hb8, hrow⟩
          have HRow := hide hrow
          have hz1 : w.heap.size < Z1.heap.size := by have := I7.out.src.lt; omega
          have I8 := hide (I7.out.low HV0.out (hb8.mono I7.out.fit))
          have HLe := hide L7.out.lens
          obtain ⟨a8, c8, e8⟩ := hrow.shape
          subst e8
          clear hb8 hrow hHeld I7 L7
          refine hK.out _ _ I8.out.var (fun hHeld => ?_)
          clear hK K
          try simp only [Act.put, List.setIfInBounds_toArray, List.set_cons_zero, List.set_cons_succ, List.getElem_toArray, List.getElem_cons_zero, List.getElem_cons_succ]
          obtain ⟨q0, q1, q2, q3, q4, q5⟩ := I8.out.res
          have f0 := I8.out.rfz 0
          have f1 := I8.out.rfz 1
          have f2 := I8.out.rfz 2
          have f3 := I8.out.rfz 3
          have f4 := I8.out.rfz 4
          have f5 := I8.out.rfz 5
          have hn0 : RR ≠ w.heap.size := by have := I8.out.old; have := I8.out.oth; omega
          have hw6 : Wr (fun x => x = w.heap.size) Z2 ((((((Z2.setCell ⟨w.heap.size, 0, none⟩ (.int .i64 Q.tm)).setCell ⟨w.heap.size, 1, none⟩ (.int .i64 Q.vt)).setCell ⟨w.heap.size, 2, none⟩ (.int .i64 Q.si)).setCell ⟨w.heap.size, 3, none⟩ (.int .i64 Q.st)).setCell ⟨w.heap.size, 4, none⟩ (.slice ay Q.sn.length cy)).setCell ⟨w.heap.size, 5, none⟩ (.slice az Q.lg.length cz)) := (Wr.setCell (p := ⟨w.heap.size, 5, none⟩) (Wr.setCell (p := ⟨w.heap.size, 4, none⟩) (Wr.setCell (p := ⟨w.heap.size, 3, none⟩) (Wr.setCell (p := ⟨w.heap.size, 2, none⟩) (Wr.setCell (p := ⟨w.heap.size, 1, none⟩) (Wr.setCell (p := ⟨w.heap.size, 0, none⟩) (Wr.refl (fun x => x = w.heap.size) Z2) rfl (.int .i64 Q.tm)) rfl (.int .i64 Q.vt)) rfl (.int .i64 Q.si)) rfl (.int .i64 Q.st)) rfl (.slice ay Q.sn.length cy)) rfl (.slice az Q.lg.length cz))
          refine wpAnyH_ready (rs := [12]) (by kernel_rfl) (by simp) (AllReadyH.cons rfl (fun K hK => ?_) AllReadyH.nil)
          go_simp
          refine hK.out _ _ (I8.out.var.wr hw6 hn0) (fun hHeldx => ?_)
          clear hK K
          try simp only [Act.put, List.setIfInBounds_toArray, List.set_cons_zero, List.set_cons_succ, List.getElem_toArray, List.getElem_cons_zero, List.getElem_cons_succ]
          refine wpAnyH_take (i := 13) (v := ?vx27x13) rfl (by kernel_rfl) (by kernel_rfl) (by kernel_rfl) (fun _ _ _ h => h) (Or.inl ⟨by rfl, ?hx27x13⟩) hHeldx ?rx27x13
          case hx27x13 => intro w9 hSw; (try dsimp only at hSw); first | (go_simp; done) | (go_simp; with_reducible rfl)
          try simp only [Act.put, List.setIfInBounds_toArray, List.set_cons_zero, List.set_cons_succ, List.getElem_toArray, List.getElem_cons_zero, List.getElem_cons_succ]
          refine wpAnyH_take (i := 14) (v := ?vx28x14) rfl (by kernel_rfl) (by kernel_rfl) (by kernel_rfl) (fun _ _ _ h => h) (Or.inl ⟨by rfl, ?hx28x14⟩) hHeldx ?rx28x14
          case hx28x14 => intro w9 hSw; (try dsimp only at hSw); first | (go_simp; done) | (go_simp; with_reducible rfl)
          try simp only [Act.put, List.setIfInBounds_toArray, List.set_cons_zero, List.set_cons_succ, List.getElem_toArray, List.getElem_cons_zero, List.getElem_cons_succ]
          refine wpAnyH_take (i := 15) (v := ?vx29x15) rfl (by kernel_rfl) (by kernel_rfl) (by kernel_rfl) (fun _ _ _ h => h) (Or.inl ⟨by rfl, ?hx29x15⟩) hHeldx ?rx29x15
          case hx29x15 => intro w9 hSw; (try dsimp only at hSw); first | (go_simp; done) | (go_simp; with_reducible rfl)
          try simp only [Act.put, List.setIfInBounds_toArray, List.set_cons_zero, List.set_cons_succ, List.getElem_toArray, List.getElem_cons_zero, List.getElem_cons_succ]
          refine wpAnyH_done (by kernel_rfl) ?_ _
          obtain ⟨lo, hi, l1, l2, iv⟩ := I8.out.mem
          have hvl := I8.out.fit
          have hol := I8.out.old
          have hot := I8.out.oth
          have hto := I8.out.top
          have hFin : IvR w.heap.size ((((((Z2.setCell ⟨w.heap.size, 0, none⟩ (.int .i64 Q.tm)).setCell ⟨w.heap.size, 1, none⟩ (.int .i64 Q.vt)).setCell ⟨w.heap.size, 2, none⟩ (.int .i64 Q.si)).setCell ⟨w.heap.size, 3, none⟩ (.int .i64 Q.st)).setCell ⟨w.heap.size, 4, none⟩ (.slice ay Q.sn.length cy)).setCell ⟨w.heap.size, 5, none⟩ (.slice az Q.lg.length cz)).heap.size ((((((Z2.setCell ⟨w.heap.size, 0, none⟩ (.int .i64 Q.tm)).setCell ⟨w.heap.size, 1, none⟩ (.int .i64 Q.vt)).setCell ⟨w.heap.size, 2, none⟩ (.int .i64 Q.si)).setCell ⟨w.heap.size, 3, none⟩ (.int .i64 Q.st)).setCell ⟨w.heap.size, 4, none⟩ (.slice ay Q.sn.length cy)).setCell ⟨w.heap.size, 5, none⟩ (.slice az Q.lg.length cz)) (.slice ay Q.sn.length cy) (.slice az Q.lg.length cz) Q.sn Q.lg := (iv.wr hw6 (fun b h1 h2 e => by have e : b = w.heap.size := e; omega)).up (by omega) (Nat.le_trans (Nat.le_trans l2 hvl) hw6.size)
          have hBel : Below w.heap.size w ((((((Z2.setCell ⟨w.heap.size, 0, none⟩ (.int .i64 Q.tm)).setCell ⟨w.heap.size, 1, none⟩ (.int .i64 Q.vt)).setCell ⟨w.heap.size, 2, none⟩ (.int .i64 Q.si)).setCell ⟨w.heap.size, 3, none⟩ (.int .i64 Q.st)).setCell ⟨w.heap.size, 4, none⟩ (.slice ay Q.sn.length cy)).setCell ⟨w.heap.size, 5, none⟩ (.slice az Q.lg.length cz)) := Below.trans I8.out.bel (hw6.below (by omega) (fun b e => by omega))
          have hRw := (HRow.out.drawn hw6 (by show ¬ Z1.heap.size ≤ w.heap.size; omega)).mono (fun b hb => by have hb : Z1.heap.size ≤ b := hb; show w.heap.size ≤ b; omega)
          go_wp2
          refine bodyPost_ret (v := .tuple #[.agg #[.int .i64 Q.tm, .int .i64 Q.vt, .int .i64 Q.si, .int .i64 Q.st, .slice ay Q.sn.length cy, .slice az Q.lg.length cz], .int .i64 A, .int .i64 pt, .slice a8 ts.length c8]) (by simp [results, Tryd.results13, go_sem, q0, q1, q2, q3, q4, q5]) rfl ⟨Q, _, _, _, A, pt, ts, rfl, hBel, hFin, hRw, by rw [HLen.out]; omega, fun i hi => HLe.out i (by rw [← HLen.out]; exact hi)⟩
    | false =>
      clear hLa
      go_upto_region 15 with fail
      obtain ⟨g0, g1, g2, g3, g4, g5⟩ := Ib.out.var
      refine wp_region_held_drew (S := fun w' => w'.cell? ⟨RR, 0, none⟩ = some (.int .i64 Q.tm) ∧ w'.cell? ⟨RR, 1, none⟩ = some (.int .i64 Q.vt) ∧ w'.cell? ⟨RR, 2, none⟩ = some (.int .i64 Q.si) ∧ w'.cell? ⟨RR, 3, none⟩ = some (.int .i64 Q.st) ∧ w'.cell? ⟨RR, 4, none⟩ = some (.slice ay Q.sn.length cy) ∧ w'.cell? ⟨RR, 5, none⟩ = some (.slice az Q.lg.length cz)) (by kernel_rfl) ⟨g0, g1, g2, g3, g4, g5⟩ (fun _ => ?_)
      clear g0 g1 g2 g3 g4 g5
      refine forgetH (fun wx => DaI (w.heap.size + 1) RR M0 (.slice ao bs.length c) bs 2404 w Q (.slice ay Q.sn.length cy) (.slice az Q.lg.length cz) t11 wx ∧ LsI (w.heap.size + 1) (.slice aL n cL) b n gs wx) ⟨Ib.out.low HV0.out ((below_drewN w9 1).mono Ib.out.fit), Lb.out.later (below_drewN w9 1)⟩ ?_
      rintro Z0 ⟨i5, l5⟩
      have I5 := hide i5
      have L5 := hide l5
      clear i5 l5 Ib Lb
      have hHeld := I5.out.var
      refine wpAnyH_take (i := 0) (v := ?vt30x0) rfl (by kernel_rfl) (by kernel_rfl) (by kernel_rfl) (fun _ _ _ h => h) (Or.inl ⟨by rfl, ?ht30x0⟩) hHeld ?rt30x0
      case ht30x0 => intro w9 hSw; (try dsimp only at hSw); first | (go_simp; done) | (go_simp; with_reducible rfl)
      try simp only [Act.put, List.setIfInBounds_toArray, List.set_cons_zero, List.set_cons_succ, List.getElem_toArray, List.getElem_cons_zero]
      refine wpAnyH_take (i := 1) (v := ?vt31x1) rfl (by kernel_rfl) (by kernel_rfl) (by kernel_rfl) (fun _ _ _ h => h) (Or.inl ⟨by rfl, ?ht31x1⟩) hHeld ?rt31x1
      case ht31x1 => intro w9 hSw; (try dsimp only at hSw); first | (go_simp; done) | (go_simp; with_reducible rfl)
      try simp only [Act.put, List.setIfInBounds_toArray, List.set_cons_zero, List.set_cons_succ, List.getElem_toArray, List.getElem_cons_zero, List.getElem_cons_succ]
      refine wpAnyH_take (i := 2) (v := ?vt32x2) rfl (by kernel_rfl) (by kernel_rfl) (by kernel_rfl) (fun _ _ _ h => h) (Or.inl ⟨by rfl, ?ht32x2⟩) hHeld ?rt32x2
      case ht32x2 => intro w9 hSw; (try dsimp only at hSw); first | (go_simp; done) | (go_simp; with_reducible rfl)
      try simp only [Act.put, List.setIfInBounds_toArray, List.set_cons_zero, List.set_cons_succ, List.getElem_toArray, List.getElem_cons_zero, List.getElem_cons_succ]
      refine wpAnyH_take (i := 3) (v := ?vt33x3) rfl (by kernel_rfl) (by kernel_rfl) (by kernel_rfl) (fun _ _ _ h => h) (Or.inl ⟨by rfl, ?ht33x3⟩) hHeld ?rt33x3
      case ht33x3 => intro w9 hSw; (try dsimp only at hSw); first | (go_simp; done) | (go_simp; with_reducible rfl)
      try simp only [Act.put, List.setIfInBounds_toArray, List.set_cons_zero, List.set_cons_succ, List.getElem_toArray, List.getElem_cons_zero, List.getElem_cons_succ]
      refine wpAnyH_take (i := 4) (v := ?vt34x4) rfl (by kernel_rfl) (by kernel_rfl) (by kernel_rfl) (fun _ _ _ h => h) (Or.inl ⟨by rfl, ?ht34x4⟩) hHeld ?rt34x4
      case ht34x4 => intro w9 hSw; (try dsimp only at hSw); first | (go_simp; done) | (go_simp; with_reducible rfl)
      try simp only [Act.put, List.setIfInBounds_toArray, List.set_cons_zero, List.set_cons_succ, List.getElem_toArray, List.getElem_cons_zero, List.getElem_cons_succ]
      refine wpAnyH_take (i := 5) (v := ?vt35x5) rfl (by kernel_rfl) (by kernel_rfl) (by kernel_rfl) (fun _ _ _ h => h) (Or.inl ⟨by rfl, ?ht35x5⟩) hHeld ?rt35x5
      case ht35x5 => intro w9 hSw; (try dsimp only at hSw); first | (go_simp; done) | (go_simp; with_reducible rfl)
      try simp only [Act.put, List.setIfInBounds_toArray, List.set_cons_zero, List.set_cons_succ, List.getElem_toArray, List.getElem_cons_zero, List.getElem_cons_succ]
      refine wpAnyH_take (i := 6) (v := ?vt36x6) rfl (by kernel_rfl) (by kernel_rfl) (by kernel_rfl) (fun _ _ _ h => h) (Or.inl ⟨by rfl, ?ht36x6⟩) hHeld ?rt36x6
      case ht36x6 => intro w9 hSw; (try dsimp only at hSw); first | (go_simp; done) | (go_simp; with_reducible rfl)
      try simp only [Act.put, List.setIfInBounds_toArray, List.set_cons_zero, List.set_cons_succ, List.getElem_toArray, List.getElem_cons_zero, List.getElem_cons_succ]
      refine wpAnyH_take (i := 7) (v := ?vt37x7) rfl (by kernel_rfl) (by kernel_rfl) (by kernel_rfl) (fun _ _ _ h => h) (Or.inl ⟨by rfl, ?ht37x7⟩) hHeld ?rt37x7
      case ht37x7 => intro w9 hSw; (try dsimp only at hSw); first | (go_simp; done) | (go_simp; with_reducible rfl)
      try simp only [Act.put, List.setIfInBounds_toArray, List.set_cons_zero, List.set_cons_succ, List.getElem_toArray, List.getElem_cons_zero, List.getElem_cons_succ]
      have ew : IntKind.i64.wrap (T + 1) = T + 1 := by simp [IntKind.wrap, IntKind.bits, IntKind.signed]; omega
      (try rw [ew])
      clear ew
      refine wpAnyH_take (i := 10) (v := ?vt38x10) rfl (by kernel_rfl) (by kernel_rfl) (by kernel_rfl) (fun _ _ _ h => h) (Or.inl ⟨by rfl, ?ht38x10⟩) hHeld ?rt38x10
      case ht38x10 => intro w9 hSw; (try dsimp only at hSw); first | (go_simp; done) | (go_simp; with_reducible rfl)
      try simp only [Act.put, List.setIfInBounds_toArray, List.set_cons_zero, List.set_cons_succ, List.getElem_toArray, List.getElem_cons_zero, List.getElem_cons_succ]
      refine wpAnyH_ready (rs := [8]) (by kernel_rfl) (by simp) (AllReadyH.cons rfl (fun K hK => ?_) AllReadyH.nil)
      go_simp
      have hB6 := below_alloc Z0 (.cells #[.int .i64 T, .int .i64 T, .int .i64 T, .int .i64 (T + 1)] 2)
      have I6 := hide (I5.out.low HV0.out (hB6.mono I5.out.fit))
      have L6 := hide (L5.out.later hB6)
      have hsY : w.heap.size + 1 < Z0.heap.size := I5.out.src.lt
      have HRd := hide (RdI_new (w.heap.size + 1) Z0 [T, T, T, T + 1] 2 hsY (by simp))
      clear hHeld I5 L5 hB6
      refine hK.out _ _ I6.out.var (fun hHeld => ?_)
      clear hK K
      try simp only [Act.put, List.setIfInBounds_toArray, List.set_cons_zero, List.set_cons_succ, List.getElem_toArray, List.getElem_cons_zero, List.getElem_cons_succ]
      refine wpAnyH_ready (rs := [9]) (by kernel_rfl) (by simp) (AllReadyH.cons rfl (fun K hK => ?_) AllReadyH.nil)
      go_simp
      go_at_call 25
      have hts := I6.out.ts
      refine (l1Pick (xs := [T, T, T, T + 1]) I6.out.src (by omega) HRd.out (by simp) (by simp)).mono ?_
      rintro e Z1 ⟨i, hi, rfl, t6, hd⟩
      obtain ⟨pt, hpt⟩ : ∃ p, ([T, T, T, T + 1] : List Int).getD i 0 = p := ⟨_, rfl⟩
      rw [hpt]
      have I7 := hide (I6.out.on hd)
      have L7 := hide (L6.out.wr hd.2.1 (by omega))
      clear hd hHeld I6 L6 HRd hi hpt hts
      refine hK.out _ _ I7.out.var (fun hHeld => ?_)
      clear hK K
      try simp only [Act.put, List.setIfInBounds_toArray, List.set_cons_zero, List.set_cons_succ, List.getElem_toArray, List.getElem_cons_zero, List.getElem_cons_succ]
      refine wpAnyH_ready (rs := [11]) (by kernel_rfl) (by simp) (AllReadyH.cons rfl (fun K hK => ?_) AllReadyH.nil)
      go_simp
      go_at_call 47
      have HLen := hide L7.out.len
      refine (l9CopyOwn (L7.out.rdJ (by omega)) (by rw [L7.out.len]; omega) (fun i hi => by have := L7.out.lens i (by rw [← L7.out.len]; exact hi); omega)).mono ?_
      rintro e Z2 ⟨vz, rfl, hb8, hrow⟩
      have HRow := hide hrow
      have hz1 : w.heap.size < Z1.heap.size := by have := I7.out.src.lt; omega
      have I8 := hide (I7.out.low HV0.out (hb8.mono I7.out.fit))
      have HLe := hide L7.out.lens
      obtain ⟨a8, c8, e8⟩ := hrow.shape
      subst e8
      clear hb8 hrow hHeld I7 L7
      refine hK.out _ _ I8.out.var (fun hHeld => ?_)
      clear hK K
      try simp only [Act.put, List.setIfInBounds_toArray, List.set_cons_zero, List.set_cons_succ, List.getElem_toArray, List.getElem_cons_zero, List.getElem_cons_succ]
      obtain ⟨q0, q1, q2, q3, q4, q5⟩ := I8.out.res
      have f0 := I8.out.rfz 0
      have f1 := I8.out.rfz 1
      have f2 := I8.out.rfz 2
      have f3 := I8.out.rfz 3
      have f4 := I8.out.rfz 4
      have f5 := I8.out.rfz 5
      have hn0 : RR ≠ w.heap.size := by have := I8.out.old; have := I8.out.oth; omega
      have hw6 : Wr (fun x => x = w.heap.size) Z2 ((((((Z2.setCell ⟨w.heap.size, 0, none⟩ (.int .i64 Q.tm)).setCell ⟨w.heap.size, 1, none⟩ (.int .i64 Q.vt)).setCell ⟨w.heap.size, 2, none⟩ (.int .i64 Q.si)).setCell ⟨w.heap.size, 3, none⟩ (.int .i64 Q.st)).setCell ⟨w.heap.size, 4, none⟩ (.slice ay Q.sn.length cy)).setCell ⟨w.heap.size, 5, none⟩ (.slice az Q.lg.length cz)) := (Wr.setCell (p := ⟨w.heap.size, 5, none⟩) (Wr.setCell (p := ⟨w.heap.size, 4, none⟩) (Wr.setCell (p := ⟨w.heap.size, 3, none⟩) (Wr.setCell (p := ⟨w.heap.size, 2, none⟩) (Wr.setCell (p := ⟨w.heap.size, 1, none⟩) (Wr.setCell (p := ⟨w.heap.size, 0, none⟩) (Wr.refl (fun x => x = w.heap.size) Z2) rfl (.int .i64 Q.tm)) rfl (.int .i64 Q.vt)) rfl (.int .i64 Q.si)) rfl (.int .i64 Q.st)) rfl (.slice ay Q.sn.length cy)) rfl (.slice az Q.lg.length cz))
      refine wpAnyH_ready (rs := [12]) (by kernel_rfl) (by simp) (AllReadyH.cons rfl (fun K hK => ?_) AllReadyH.nil)
      go_simp
      refine hK.out _ _ (I8.out.var.wr hw6 hn0) (fun hHeldx => ?_)
      clear hK K
      try simp only [Act.put, List.setIfInBounds_toArray, List.set_cons_zero, List.set_cons_succ, List.getElem_toArray, List.getElem_cons_zero, List.getElem_cons_succ]
      refine wpAnyH_take (i := 13) (v := ?vx39x13) rfl (by kernel_rfl) (by kernel_rfl) (by kernel_rfl) (fun _ _ _ h => h) (Or.inl ⟨by rfl, ?hx39x13⟩) hHeldx ?rx39x13
      case hx39x13 => intro w9 hSw; (try dsimp only at hSw); first | (go_simp; done) | (go_simp; with_reducible rfl)
      try simp only [Act.put, List.setIfInBounds_toArray, List.set_cons_zero, List.set_cons_succ, List.getElem_toArray, List.getElem_cons_zero, List.getElem_cons_succ]
      refine wpAnyH_take (i := 14) (v := ?vx40x14) rfl (by kernel_rfl) (by kernel_rfl) (by kernel_rfl) (fun _ _ _ h => h) (Or.inl ⟨by rfl, ?hx40x14⟩) hHeldx ?rx40x14
      case hx40x14 => intro w9 hSw; (try dsimp only at hSw); first | (go_simp; done) | (go_simp; with_reducible rfl)
      try simp only [Act.put, List.setIfInBounds_toArray, List.set_cons_zero, List.set_cons_succ, List.getElem_toArray, List.getElem_cons_zero, List.getElem_cons_succ]
      refine wpAnyH_take (i := 15) (v := ?vx41x15) rfl (by kernel_rfl) (by kernel_rfl) (by kernel_rfl) (fun _ _ _ h => h) (Or.inl ⟨by rfl, ?hx41x15⟩) hHeldx ?rx41x15
      case hx41x15 => intro w9 hSw; (try dsimp only at hSw); first | (go_simp; done) | (go_simp; with_reducible rfl)
      try simp only [Act.put, List.setIfInBounds_toArray, List.set_cons_zero, List.set_cons_succ, List.getElem_toArray, List.getElem_cons_zero, List.getElem_cons_succ]
      refine wpAnyH_done (by kernel_rfl) ?_ _
      obtain ⟨lo, hi, l1, l2, iv⟩ := I8.out.mem
      have hvl := I8.out.fit
      have hol := I8.out.old
      have hot := I8.out.oth
      have hto := I8.out.top
      have hFin : IvR w.heap.size ((((((Z2.setCell ⟨w.heap.size, 0, none⟩ (.int .i64 Q.tm)).setCell ⟨w.heap.size, 1, none⟩ (.int .i64 Q.vt)).setCell ⟨w.heap.size, 2, none⟩ (.int .i64 Q.si)).setCell ⟨w.heap.size, 3, none⟩ (.int .i64 Q.st)).setCell ⟨w.heap.size, 4, none⟩ (.slice ay Q.sn.length cy)).setCell ⟨w.heap.size, 5, none⟩ (.slice az Q.lg.length cz)).heap.size ((((((Z2.setCell ⟨w.heap.size, 0, none⟩ (.int .i64 Q.tm)).setCell ⟨w.heap.size, 1, none⟩ (.int .i64 Q.vt)).setCell ⟨w.heap.size, 2, none⟩ (.int .i64 Q.si)).setCell ⟨w.heap.size, 3, none⟩ (.int .i64 Q.st)).setCell ⟨w.heap.size, 4, none⟩ (.slice ay Q.sn.length cy)).setCell ⟨w.heap.size, 5, none⟩ (.slice az Q.lg.length cz)) (.slice ay Q.sn.length cy) (.slice az Q.lg.length cz) Q.sn Q.lg := (iv.wr hw6 (fun b h1 h2 e => by have e : b = w.heap.size := e; omega)).up (by omega) (Nat.le_trans (Nat.le_trans l2 hvl) hw6.size)
      have hBel : Below w.heap.size w ((((((Z2.setCell ⟨w.heap.size, 0, none⟩ (.int .i64 Q.tm)).setCell ⟨w.heap.size, 1, none⟩ (.int .i64 Q.vt)).setCell ⟨w.heap.size, 2, none⟩ (.int .i64 Q.si)).setCell ⟨w.heap.size, 3, none⟩ (.int .i64 Q.st)).setCell ⟨w.heap.size, 4, none⟩ (.slice ay Q.sn.length cy)).setCell ⟨w.heap.size, 5, none⟩ (.slice az Q.lg.length cz)) := Below.trans I8.out.bel (hw6.below (by omega) (fun b e => by omega))
      have hRw := (HRow.out.drawn hw6 (by show ¬ Z1.heap.size ≤ w.heap.size; omega)).mono (fun b hb => by have hb : Z1.heap.size ≤ b := hb; show w.heap.size ≤ b; omega)
      go_wp2
      refine bodyPost_ret (v := .tuple #[.agg #[.int .i64 Q.tm, .int .i64 Q.vt, .int .i64 Q.si, .int .i64 Q.st, .slice ay Q.sn.length cy, .slice az Q.lg.length cz], .int .i64 A, .int .i64 pt, .slice a8 gs.length c8]) (by simp [results, Tryd.results13, go_sem, q0, q1, q2, q3, q4, q5]) rfl ⟨Q, _, _, _, A, pt, gs, rfl, hBel, hFin, hRw, by rw [HLen.out]; omega, fun i hi => HLe.out i (by rw [← HLen.out]; exact hi)⟩
end Go.Proofs.YtncgpfapepminaaDoor
