/- Sg2 Cutw Ef0 in one text: what each says stands at its head below. -/
import Derived.Test.YtlmaopljihbdkaaGreatG20
import Derived.Test.YtlmaopljihbdkaaGreatG14
import Derived.Shelf.Abstract
import Derived.Shelf.RegionOpen
import Derived.WalkKit
import Derived.OwnWalkIn
import Derived.TacticsInMore
import Derived.LoopNIn
import Derived.LoopIn
import Derived.Maps.OwnIn
import Derived.Test.YtlmaopljihbdkaaGreatG01
import Derived.Test.YtlmaopljihbdkaaGreatG09
/- 'slices.AppendSeq' and 'slices.Collect' of puts that an iterator tells. -/
namespace Go.Proofs.YtlmaopljihbdkaaGreat
open Go.RowKit Go.Shelf
attribute [local go_sem] Oper.semAt_some

theorem Ku.below {D : Nat → Prop} {a b : World} {n : Nat} (h : Ku D a b) (hn : n ≤ a.heap.size) (hd : ∀ b, D b → n ≤ b) : Below n a b := ⟨h.os, h.tape, h.output, h.size, fun k hk => h.block k (by omega) (fun e => by have := hd k e; omega)⟩
theorem Inner.ku {P D : Nat → Prop} {w w' : World} {row : Option Nat} {k : Nat} {V : Nat → Value} {Bk : Nat → Nat} {X : Nat → List Int} (h : Inner P w row k V Bk X) (hw : Ku D w w') (hd : ∀ i, i < k → X i ≠ [] → ¬ D (Bk i)) : Inner P w' row k V Bk X :=
  ⟨fun i hi => (h.rd i hi).ku hw (fun hn b hb => hb ▸ hd i hi hn), fun i hi hn => by
    obtain ⟨h1, h2, h3, h4, h5⟩ := h.own i hi hn
    exact ⟨h1, Nat.lt_of_lt_of_le h2 hw.size, fun o => (hw.frozen h2 (hd i hi hn)).trans (h3 o), h4, h5⟩⟩
theorem ownsRow_ku {D : Nat → Prop} {w w' : World} {B e s : Nat} {v : Value} {n : Nat} {xs : List Value} (h : w.ownsRow B e s v n xs) (hw : Ku D w w') (hd : ∀ r, v.ownBlock = some r → ¬ D r) : w'.ownsRow B e s v n xs := by
  obtain ⟨h1, h2⟩ := h
  refine ⟨h1, ?_⟩
  rcases h2 with h2 | ⟨g, cap, cur, hv, hg, hh, r⟩
  · exact Or.inl h2
  · exact Or.inr ⟨g, cap, cur, hv, hg, by rw [hw.block g (Array.getElem?_eq_some_iff.1 hh).1 (hd g (by rw [hv]; rfl))]; exact hh, r⟩
theorem BuiltP.ku {P D : Nat → Prop} {w w' : World} {v : Value} {k : Nat} {ps : List (Int × List Int)} (h : BuiltP P w v k ps) (hw : Ku D w w') (hd : ∀ b, P b → ¬ D b) : BuiltP P w' v k ps := by
  obtain ⟨V, Bk, h1, h2, h3⟩ := h
  exact ⟨V, Bk, ownsRow_ku h1 hw (fun r hr => hd r (h2 r hr)), h2, h3.ku hw (fun i hi hn => hd _ (h3.own i hi hn).1)⟩
theorem boxed_ku {D : Nat → Prop} {w w' : World} {B : Nat} {t : TypeId} {v : Value} (h : Boxed w B t v) (hw : Ku D w w') (hd : ¬ D B) : Boxed w' B t v := (hw.block B h.lt hd).trans h
theorem Inner.push {P : Nat → Prop} {w2 w3 : World} {row : Option Nat} {k g bz : Nat} {V : Nat → Value} {Bk : Nat → Nat} {X : Nat → List Int} {z : Value} (h : Inner P w2 row k V Bk X) (hz : RdI (· = bz) w2 z (X k))
    (hz2 : X k ≠ [] → P bz ∧ bz < w2.heap.size ∧ (∀ o, w2.frozen? ⟨bz, o, none⟩ = false) ∧ row ≠ some bz ∧ ∀ i, i < k → X i ≠ [] → Bk i ≠ bz) (hg : w2.grownBy w3 row) (hat : row = some g ∨ g = w2.heap.size) :
    Inner P w3 (some g) (k + 1) (fun i => if i = k then z else V i) (fun i => if i = k then bz else Bk i) X := by
  have hk := Ku.of_grown hg
  refine ⟨fun i hi => ?_, fun i hi hn => ?_⟩
  · by_cases e : i = k
    · subst e
      simp only [if_true]
      exact hz.ku hk (fun hn b hb e2 => (hz2 hn).2.2.2.1 (by rw [← hb]; exact e2))
    · simp only [if_neg e]
      exact (h.rd i (by omega)).ku hk (fun hn b hb e2 => (h.own i (by omega) hn).2.2.2.1 (by rw [← hb]; exact e2))
  · by_cases e : i = k
    · subst e
      simp only [if_true]
      obtain ⟨k1, k2, k3, k4, k5⟩ := hz2 hn
      refine ⟨k1, Nat.lt_of_lt_of_le k2 hg.size, fun o => (hk.frozen k2 k4).trans (k3 o), fun e => ?_, fun j hj hnj ej => ?_⟩
      · injection e with e
        subst e
        rcases hat with h1 | h1
        · exact k4 h1
        · omega
      · by_cases e2 : j = i
        · exact e2
        · rw [if_neg e2] at ej
          exact absurd ej (k5 j (by omega) hnj)
    · simp only [if_neg e]
      obtain ⟨k1, k2, k3, k4, k5⟩ := h.own i (by omega) hn
      refine ⟨k1, Nat.lt_of_lt_of_le k2 hg.size, fun o => (hk.frozen k2 k4).trans (k3 o), fun e => ?_, fun j hj hnj ej => ?_⟩
      · injection e with e
        subst e
        rcases hat with h1 | h1
        · exact k4 h1
        · omega
      · by_cases e2 : j = k
        · subst e2
          rw [if_pos rfl] at ej
          exact absurd ej.symm ((hz2 hnj).2.2.2.2 i (by omega) hn)
        · rw [if_neg e2] at ej
          exact k5 j (by omega) hnj ej

theorem cell_no_loop {A : World} {b o : Nat} {v : Value} {q : Obj} (h : A.cell? ⟨b, o, none⟩ = some v) (hl : A.heap[b]? = some q) (hq : isMark q = true) : False := by
  cases q <;> simp [isMark] at hq <;> simp [World.cell?, hl] at h
theorem RdI.noloop {S : Nat → Prop} {w : World} {v : Value} {xs : List Int} {l : Nat} {q q' : Obj} (h : RdI S w v xs) (hl : w.heap[l]? = some q) (hq : isMark q = true) (hq' : isMark q' = true) : RdI S (w.putObj l q') v xs := by
  obtain ⟨ao, c, e1, e2, e3⟩ := h
  refine ⟨ao, c, e1, e2, fun hne => ?_⟩
  obtain ⟨b, off, f1, f2, f3⟩ := e3 hne
  exact ⟨b, off, f1, f2, fun t ht => (Ku.of_wr (wr_mark hl hq hq')).cell (f3 t ht) (fun e => by subst e; exact cell_no_loop (f3 t ht) hl hq)⟩
theorem BuiltP.noloop {P : Nat → Prop} {w : World} {v : Value} {k : Nat} {ps : List (Int × List Int)} {l : Nat} {q q' : Obj} (h : BuiltP P w v k ps) (hl : w.heap[l]? = some q) (hq : isMark q = true) (hq' : isMark q' = true) : BuiltP P (w.putObj l q') v k ps := by
  obtain ⟨V, Bk, h1, h2, h3⟩ := h
  refine ⟨V, Bk, ownsRow_ku h1 (Ku.of_wr (wr_mark hl hq hq')) (fun g hg e => ?_), h2, h3.ku (Ku.of_wr (wr_mark hl hq hq')) (fun i hi hn e => ?_)⟩
  · subst e
    rcases h1.2 with ⟨rfl, _⟩ | ⟨g', cap, cur, rfl, _, hh, _⟩
    · cases hg
    · have : g' = g := by simpa [Value.ownBlock] using hg
      subst this
      rw [hl] at hh
      cases hh
      cases hq
  · obtain ⟨ao, c, e1, e2, e3⟩ := h3.rd i hi
    obtain ⟨b, off, f1, f2, f3⟩ := e3 hn
    subst f2
    subst e
    exact cell_no_loop (f3 0 (List.length_pos_iff.2 hn)) hl hq
theorem boxed_noloop {w : World} {B : Nat} {t : TypeId} {v : Value} {l : Nat} {q q' : Obj} (h : Boxed w B t v) (hl : w.heap[l]? = some q) (hq : isMark q = true) (hq' : isMark q' = true) : Boxed (w.putObj l q') B t v :=
  boxed_ku h (Ku.of_wr (wr_mark hl hq hq')) (fun e => by subst e; rw [show w.heap[B]? = _ from h] at hl; cases hl; cases hq)
/-- What a loop that collects puts keeps in the variable at Bv. -/
def GotP (w : World) (Bv : Nat) (P : Nat → Prop) (qs : List (Int × List Int)) (D : Nat → Prop) (k : Nat) (W : World) : Prop :=
  ∃ u, (∀ b, D b ↔ b = Bv ∨ u.ownBlock = some b) ∧ Boxed W Bv 27 u ∧ BuiltP P W u k qs ∧ Below w.heap.size w W
theorem GotP.later {w A B : World} {Bv k : Nat} {P D : Nat → Prop} {qs : List (Int × List Int)} (h : GotP w Bv P qs D k A) (hb : Below A.heap.size A B) : GotP w Bv P qs D k B := by
  obtain ⟨u, h1, h2, h3, h4⟩ := h
  exact ⟨u, h1, (hb.block _ h2.lt).trans h2, h3.later hb, below_on h4 hb⟩
theorem GotP.noloop {w A : World} {Bv k l : Nat} {q q' : Obj} {P D : Nat → Prop} {qs : List (Int × List Int)} (h : GotP w Bv P qs D k A) (hl : A.heap[l]? = some q) (hq : isMark q = true) (hq' : isMark q' = true) (h3 : w.heap.size ≤ l) : GotP w Bv P qs D k (A.putObj l q') := by
  obtain ⟨u, k1, k2, k3, k4⟩ := h
  exact ⟨u, k1, boxed_noloop k2 hl hq hq', k3.noloop hl hq hq', k4.trans ((wr_mark hl hq hq').below k4.size (fun b e => by omega))⟩
theorem GotP.bound {w A : World} {Bv k : Nat} {P D : Nat → Prop} {qs : List (Int × List Int)} (h : GotP w Bv P qs D k A) : ∀ b, D b → b < A.heap.size ∧ (b = Bv ∨ P b) := by
  obtain ⟨u, k1, k2, k3, k4⟩ := h
  intro b hb
  rcases (k1 b).1 hb with rfl | e
  · exact ⟨k2.lt, .inl rfl⟩
  · obtain ⟨V, Bk, r1, r2, r3⟩ := k3
    exact ⟨(r1.lt b e).2, .inr (r2 b e)⟩

set_option maxRecDepth 100000 in
set_option maxHeartbeats 4000000 in
/-- 'slices.AppendSeq' of nothing and an iterator over puts: all that it tells. -/
theorem appendSeqP {w : World} {g : Nat} {lb : Array Value} {R : Nat → Prop} {qs : List (Int × List Int)} (eg : ∀ args w, (callFunc g args).run Tryz.prog w = .ok (.enter g args) w) (hseq : ∀ m, SeqG m Tryz.prog g lb R qs w) (hR : ∀ b, R b → b < w.heap.size) (hN : qs.length ≤ 1048576) :
    Calls Tryz.prog 124 #[.slice none 0 0, .func (.func g) #[] lb] w fun e w' => ∃ u, e = .returned u ∧ BuiltP (fun b => w.heap.size ≤ b) w' u qs.length qs ∧ Below w.heap.size w w' := by
  refine (callsIn_wide (n := 3)).1 ?_
  obtain ⟨i0, hi, hz0, hz1, hz2⟩ := info_parts Tryz.infoPut
  refine callsIn_of_wp_marks Tryz.func124 rfl trivial ?_ rfl
  simp only [Tryz.ntmps124, List.size_toArray, List.length_cons, List.length_nil, Nat.reduceAdd, Nat.reduceSub, Array.replicate_succ, Array.replicate_zero, List.push_toArray, List.append_toArray, List.nil_append, List.cons_append]
  obtain ⟨W0, hW0⟩ : ∃ W0, w.alloc (.cells #[.slice none 0 0] 27) = W0 := ⟨_, rfl⟩
  have hs0 : W0.heap.size = w.heap.size + 1 := by rw [← hW0]; simp
  have hb0 : Below w.heap.size w W0 := by rw [← hW0]; exact below_alloc _ _
  have hx0 : Boxed W0 w.heap.size 27 (.slice none 0 0) := by rw [← hW0]; exact Boxed.new w _ _
  gi_wp2
  clear hW0
  refine wpIn_rangeFunc_G (n := 3) 74 (gf := g) (lb := lb) rfl eg (hseq 2) hb0 rfl (GotP w w.heap.size (fun b => w.heap.size + 3 ≤ b) qs) (fun _ _ => False) (fun b => b = w.heap.size)
    (fun D k A B h hb => h.later hb) (fun D k A l' o o' hl' h hr ho ho' => h.noloop hr ho ho' (by omega)) (fun _ _ _ h _ => h) (fun _ _ _ _ _ _ h _ _ _ => h)
    (fun D k A h b hb => by have := h.bound b hb; omega) (fun b e hr => by have := hR b hr; omega) (fun b hr => by have := hR b hr; omega)
    ⟨.slice none 0 0, fun b => ⟨.inl, fun h => by rcases h with h | h; exact h; cases h⟩, hx0, BuiltP.nil _ _ _, hb0⟩
    (fun x v Bx => { tmps := #[.slice none 0 0, .func (.func g) #[] lb, .pointer (some ⟨w.heap.size, 0, none⟩), undef, .slice none 0 0, .pointer (some ⟨Bx, 0, none⟩), .func (.func g) #[] lb, .agg #[.int .i64 x, v], undef, undef, undef, undef, undef], defers := [] }) ?assign ?body ?done ?stop
  case assign =>
    rintro x v B K ⟨ao, n, c, rfl⟩ hK
    simp only [encP]
    gi_wp2
    exact hK
  case body =>
    rintro D k x v A B W ⟨u, hd, hu, ⟨V, Bk, hrow, hpr, hin⟩, hbl⟩ hAB hk hx hv hwr hsW hAs _ _
    obtain ⟨bz, hv1, hv2⟩ := hv
    obtain ⟨av, cv, rfl⟩ := hv1.shape
    have hAW : Ku (fun b => b = W0.heap.size + 1) A W := (Ku.of_below (below_on hAB (below_alloc _ _))).trans (Ku.of_wr hwr)
    have huW : Boxed W w.heap.size 27 u := boxed_ku hu hAW (by omega)
    have hrowW := ownsRow_ku hrow hAW (fun r hr => by have := hpr r hr; omega)
    have hinW := hin.ku hAW (fun i hi hn => by have := (hin.own i hi hn).1; omega)
    have hBW : Ku (fun b => b = W0.heap.size + 1) B W := (Ku.of_below (below_alloc _ _)).trans (Ku.of_wr hwr)
    have hsB := hAB.size
    have hvW : RdI (· = bz) W (.slice av (qs.getD k (0, [])).2.length cv) (qs.getD k (0, [])).2 := hv1.ku hBW (fun hn b hb => by have := (hv2 hn).1; omega)
    have hp0 : W.cell? ⟨B.heap.size, 0, none⟩ = some (.int .i64 x) := cell_wr hwr (by simp [go_sem]) (by omega)
    have hp1 : W.cell? ⟨B.heap.size, 1, none⟩ = some (.slice av (qs.getD k (0, [])).2.length cv) := cell_wr hwr (by simp [go_sem]) (by omega)
    have hbW : Below w.heap.size w W := hbl.trans (((below_on hAB (below_alloc _ _)).mono hbl.size).trans (hwr.below (by have := hbl.size; simp; omega) (fun b e => by omega)))
    obtain ⟨au, cu, rfl⟩ : ∃ au cu, u = .slice au k cu := by
      rcases hrow.2 with ⟨rfl, h0⟩ | ⟨g, cap, cur, rfl, _⟩
      · exact ⟨none, 0, by rw [h0]⟩
      · exact ⟨_, _, rfl⟩
    have hc := huW.cell
    have hf := huW.frozen
    obtain ⟨lv, hlv⟩ : ∃ l, (qs.getD k (0, [])).2.length = l := ⟨_, rfl⟩
    rw [hlv] at hp1 hvW
    have HX := hide hx
    have HD := hide hd
    have HV2 := hide hv2
    have HIN := hide hinW
    have HPR := hide hpr
    have HRW := hide hrowW
    have HVW := hide hvW
    have HBW := hide hbW
    have HBk := hide (fun i (hi : i < k) (hn : (qs.getD i (0, [])).2 ≠ []) => (hin.own i hi hn).2.1)
    have HU := hide huW
    have HSW := hide hsW
    have HKB := hide hBW
    have HRL := hide (fun r (hr : (Value.slice au k cu).ownBlock = some r) => (hrow.lt r hr).2)
    rw [hlv]
    clear hsW hx hd hv1 hv2 hinW hpr hrowW hvW hbW hin hrow hu hAB hwr hAW hBW hbl huW
    gi_wp2_with (first
      | (gi_at_builtin; refine wpListIn_append_own_at _ rfl _ _ 27 rfl 0 74 i0 (.agg #[.int .i64 0, .slice none 0 0]) 2 32 Tryz.underlying27 hi hz0 hz1 hz2 rfl (by decide) _ _ _ rfl (HRW.out.alloc _) ⟨W.heap.size, 0, none⟩ 1 1 [.int .i64 x, .slice av lv cv] rfl rfl (World.news_of_block (cs := #[.int .i64 x, .slice av lv cv]) (t := 74) (fr := (0, 0)) (World.alloc_heap_new W _)) cells2_one (by unfold maxLen; omega) (by omega) (by omega) ?_; intro v' w1 hown' hgrow _ hat; obtain ⟨g', cap', rfl⟩ := ownsRow_succ hown'; have hb1 := (HU.out.alloc (.cells #[.int .i64 x, .slice av lv cv] 74)).kept hgrow (by intro e; have h9 : w.heap.size + 3 ≤ w.heap.size := HPR.out _ e.symm; omega); have hc1 := hb1.cell; have hf1 := hb1.frozen)
      | gi_in)
    have hsW := HSW.out
    have hat' : (Value.slice au k cu).ownBlock = some g' ∨ g' = W.heap.size + 1 := by
      rcases hat with h | h
      · exact .inl h.symm
      · right
        simpa [Value.ownBlock] using h
    have hBA := below_alloc W (.cells #[.int .i64 x, .slice av lv cv] 74)
    have hpush := (HIN.out.later hBA).push (z := .slice av lv cv) (bz := bz) (by exact HVW.out.later hBA) (fun hn => by
      obtain ⟨j1, j2, j3⟩ := HV2.out hn
      refine ⟨by omega, by simp; omega, fun o => ?_, fun e => ?_, fun i hi hni e => ?_⟩
      · exact ((bcell hBA).2 _ _ (by omega)).trans ((HKB.out.frozen (by omega) (by omega)).trans (j3 o))
      · have := HRL.out _ e; omega
      · have := HBk.out i hi hni; omega) hgrow (by simpa using hat')
    have hset : Ku (fun b => b = w.heap.size) w1 (w1.setCell ⟨w.heap.size, 0, none⟩ (.slice (some ⟨g', 0, none⟩) (k + 1) cap')) := Ku.of_wr ((Wr.refl (fun b => b = w.heap.size) _).setCell (p := ⟨w.heap.size, 0, none⟩) rfl _)
    have hgb : w.heap.size + 3 ≤ g' := by
      rcases hat' with h | h
      · exact HPR.out _ h
      · omega
    have hKW : Ku D W (w1.setCell ⟨w.heap.size, 0, none⟩ (.slice (some ⟨g', 0, none⟩) (k + 1) cap')) := by
      refine ((Ku.of_below hBA).trans ((Ku.of_grown hgrow).mono fun b hb => (HD.out b).2 (.inr hb))).trans (hset.mono fun b hb => (HD.out b).2 (.inl hb))
    refine ⟨fun b => b = w.heap.size ∨ (Value.slice (some ⟨g', 0, none⟩) (k + 1) cap').ownBlock = some b, ⟨_, fun _ => Iff.rfl, hb1.set _, ⟨_, _, ?_, fun r hr => ?_, hpush.ku hset (fun i hi hn => ?_)⟩, HBW.out.trans (hKW.below (by have := HBW.out.size; omega) (fun b hb => ?_))⟩, hKW, fun b hb => ?_⟩
    · rw [cellsP_succ, ← HX.out]
      refine ownsRow_ku hown' hset (fun r hr e9 => ?_)
      have e : g' = r := by simpa [Value.ownBlock] using hr
      omega
    · injection hr with hr; subst hr; exact hgb
    · have := (hpush.own i hi hn).1; omega
    · rcases (HD.out b).1 hb with h | h
      · omega
      · have h9 : w.heap.size + 3 ≤ b := HPR.out _ h
        omega
    · rcases hb with hb | hb
      · exact .inl ((HD.out b).2 (.inl hb))
      · injection hb with hb
        subst hb
        rcases hat' with h | h
        · exact .inl ((HD.out _).2 (.inr h))
        · exact .inr (by simp only; omega)
  case done =>
    rintro D W ⟨u, hd, hu, hbu, hbl⟩ hK
    have hc := hu.cell
    gi_wp2
    refine ⟨by simp, .inl ⟨_, _, rfl, run_takeDeferred hK, ?_⟩⟩
    have hw := Ku.of_wr (wr_none (d' := none) hK)
    exact ⟨_, results_tmp rfl _ _ _, u, rfl, (hbu.ku hw (fun b h => by omega)).mono (fun b h _ => by omega), hbl.trans ((wr_none hK).below hbl.size (fun b e => by omega))⟩
  case stop =>
    rintro c W h _
    exact h.elim

set_option maxHeartbeats 4000000 in
/-- 'slices.Collect' of an iterator over puts. -/
theorem collectP {w : World} {g : Nat} {lb : Array Value} {R : Nat → Prop} {qs : List (Int × List Int)} (eg : ∀ args w, (callFunc g args).run Tryz.prog w = .ok (.enter g args) w) (hseq : ∀ m, SeqG m Tryz.prog g lb R qs w) (hR : ∀ b, R b → b < w.heap.size) (hN : qs.length ≤ 1048576) :
    Calls Tryz.prog 81 #[.func (.func g) #[] lb] w fun e w' => ∃ u, e = .returned u ∧ BuiltP (fun b => w.heap.size ≤ b) w' u qs.length qs ∧ Below w.heap.size w w' := by
  have HA := hide (appendSeqP eg hseq hR hN)
  clear hseq hR eg
  go_enter Tryz.func81, Tryz.ntmps81
  go_wp2_with fail
  refine HA.out.mono ?_
  rintro e w1 ⟨u, rfl, hb, hbl⟩
  obtain ⟨ao, c, rfl⟩ := hb.shape
  have HB := hide hb
  have HL := hide hbl
  clear hb hbl
  go_wp2
  go_ret
  exact ⟨_, rfl, HB.out, HL.out⟩
end Go.Proofs.YtlmaopljihbdkaaGreat
/- Parts of a reading. -/
namespace Go.Proofs.YtlmaopljihbdkaaGreat
open Go.RowKit

/-- A part of a reading, from the i-th on. -/
def slA (ao : Option Addr) (c i : Nat) : Option Addr := if c = i then ao else ao.map (fun x => x.add i)
theorem RdI.from {S : Nat → Prop} {w : World} {ao : Option Addr} {n c : Nat} {xs : List Int} (h : RdI S w (.slice ao n c) xs) (i : Nat) (hi : i ≤ n) : RdI S w (.slice (slA ao c i) (n - i) (c - i)) (xs.drop i) := by
  obtain ⟨ao', c', e1, e2, e3⟩ := h
  injection e1 with e1 e4 e5
  subst e1 e4
  have hl : (xs.drop i).length = xs.length - i := by simp
  refine ⟨slA ao c i, c', by rw [hl]; congr 1; omega, by rw [hl]; omega, fun hne => ?_⟩
  have hlt : i < xs.length := by
    have := List.length_pos_iff.2 hne
    rw [hl] at this; omega
  obtain ⟨b, off, f1, f2, f3⟩ := e3 (by rintro rfl; simp at hlt)
  refine ⟨b, off + i, ?_, f2, fun j hj => ?_⟩
  · unfold slA
    rw [if_neg (by omega), f1]
    simp [Addr.add_lit]
  · rw [hl] at hj
    rw [Nat.add_assoc, f3 (i + j) (by omega)]
    congr 2
    simp [List.getD, List.getElem?_drop]
theorem RdI.upto {S : Nat → Prop} {w : World} {ao : Option Addr} {n c : Nat} {xs : List Int} (h : RdI S w (.slice ao n c) xs) (m : Nat) (hm : m ≤ n) : RdI S w (.slice ao m c) (xs.take m) := by
  obtain ⟨ao', c', e1, e2, e3⟩ := h
  injection e1 with e1 e4 e5
  subst e1 e4
  have hl : (xs.take m).length = m := by simp; omega
  refine ⟨ao, c' + (xs.length - m), by rw [hl]; congr 1; omega, by rw [hl]; omega, fun hne => ?_⟩
  obtain ⟨b, off, f1, f2, f3⟩ := e3 (by rintro rfl; simp at hne)
  refine ⟨b, off, f1, f2, fun j hj => ?_⟩
  rw [hl] at hj
  rw [f3 j (by omega)]
  congr 2
  simp [List.getD, hj]
end Go.Proofs.YtlmaopljihbdkaaGreat
/- Chapter 10: 'toRaft' once more: the cap of its entries. -/
namespace Go.Proofs.YtlmaopljihbdkaaGreat
open Go.RowKit

/-- A cap that is no smaller than the length. -/
def capE : Value → Prop
  | .slice _ n c => n ≤ c
  | _ => True
theorem OwJ.capE {S : Nat → Prop} {w : World} {v : Value} {ts : List Oj} (h : OwJ S w v ts) : capE v := by
  obtain ⟨ao, c, rfl, hc⟩ := h.caps
  exact hc
theorem IvR.capE {lo hi : Nat} {w : World} {y z : Value} {xs : List Int} {ps : List Oj} (h : IvR lo hi w y z xs ps) : capE z := by
  obtain ⟨b, S, _, _, _, _, h5⟩ := h
  exact h5.capE
theorem toEnC {S : Nat → Prop} {w : World} {v : Value} {os : List Oj} (hv : RdJ S w v os) (hm : os.length ≤ 1048576) (hl : ∀ i, i < os.length → (os.getD i oj0).2.2.length ≤ 1048576) :
    Calls Tryz.prog 34 #[v] w fun e w' =>
      ∃ u, e = .returned u ∧ Below w.heap.size w w' ∧ OwJ (fun b => w.heap.size ≤ b ∧ b < w'.heap.size) w' u os ∧ capE u := by
  have fin : ∀ w', ToJ os w os.length w' → Below w.heap.size w w' ∧ OwJ (fun b => w.heap.size ≤ b ∧ b < w'.heap.size) w' (.slice (some ⟨w.heap.size, 0, none⟩) os.length os.length) os := by
    rintro w' ⟨h1, h2, h3, _, V, Bk, h5, h6⟩
    refine ⟨h1, _, os.length, w.heap.size, 0, V, Bk, rfl, by omega, fun _ => ⟨rfl, ⟨Nat.le_refl _, h2⟩, h3⟩, fun i hi => ?_⟩
    obtain ⟨k0, k1, k2⟩ := h6 i hi
    rw [Nat.zero_add]
    refine ⟨k0, k1, k2, h5.rd i hi, fun hn => ?_⟩
    obtain ⟨m1, m2, m3, m4, m5⟩ := h5.own i hi hn
    exact ⟨⟨m1, m2⟩, fun e => m4 (by rw [e]), m3, m5⟩
  obtain ⟨ao, c, rfl, _, h⟩ := hv
  by_cases hne : os = []
  · subst hne
    exact (toEn_none _ _ _).mono fun e w' ⟨he, hT⟩ => ⟨_, he, (fin w' hT).1, (fin w' hT).2, Nat.le_refl _⟩
  · obtain ⟨b, off, V, rfl, _, hc⟩ := h hne
    exact (toEn_cells os _ b off c V w rfl hm fun i hi => ⟨(hc i hi).1, (hc i hi).2.1, (hc i hi).2.2.1, hl i hi, S, (hc i hi).2.2.2⟩).mono fun e w' ⟨he, hT⟩ => ⟨_, he, (fin w' hT).1, (fin w' hT).2, Nat.le_refl _⟩

set_option maxHeartbeats 2000000 in
set_option maxRecDepth 4000 in
theorem toRaftC {S T : Nat → Prop} {w : World} {y z : Value} {xs : List Int} {ps : List Oj} (a b c d : Int) (hy : RdI S w y xs) (hz : RdJ T w z ps) (hm : xs.length ≤ 1048576) (hm' : ps.length ≤ 1048576) (hl' : ∀ i, i < ps.length → (ps.getD i oj0).2.2.length ≤ 1048576) :
    Calls Tryz.prog 8 #[.agg #[.int .i64 a, .int .i64 b, .int .i64 c, .int .i64 d, y, z]] w fun e w' =>
      ∃ y' z', e = .returned (.agg #[.int .i64 a, .int .i64 b, .int .i64 c, .int .i64 d, y', z']) ∧ Below w.heap.size w w' ∧ IvR w.heap.size w'.heap.size w' y' z' xs ps ∧ capE z' := by
  have HY := hide hy
  have HZ := hide hz
  have HL' := hide hl'
  have HM := hide hm
  obtain ⟨ay, cy, rfl⟩ := hy.shape
  obtain ⟨az, cz, rfl, _⟩ := hz.shape
  obtain ⟨l, hl⟩ : ∃ l, xs.length = l := ⟨_, rfl⟩
  obtain ⟨m, hme⟩ : ∃ m, ps.length = m := ⟨_, rfl⟩
  have HL := hide hl
  have HME := hide hme
  rw [hl] at HY ⊢
  rw [hme] at HZ ⊢
  have HM' := hide hm'
  clear hy hz hl' hm hm' hl hme
  go_enter Tryz.func8, Tryz.ntmps8
  go_wp2_with fail
  refine (toI' (((HY.out.later (below_alloc _ _)).later (below_alloc _ _)).later (below_alloc _ _)) HM.out).mono ?_
  rintro e w1 ⟨z1, rfl, hb, ho⟩
  obtain ⟨a1, c1, hz1⟩ := ho.shape
  rw [HL.out] at hz1
  subst hz1
  have v0 : w1.cell? ⟨w.heap.size + 1, 0, none⟩ = some (.int .i64 0) := cell_later hb (by simp [go_sem])
  have o0 : w1.cell? ⟨w.heap.size + 2, 0, none⟩ = some (.int .i64 a) := cell_later hb (by simp [go_sem])
  have f0 : w1.frozen? ⟨w.heap.size + 1, 0, none⟩ = false := ((bcell hb).2 _ _ (by simp)).trans (by simp [go_sem])
  have g0 : w1.frozen? ⟨w.heap.size + 2, 0, none⟩ = false := ((bcell hb).2 _ _ (by simp)).trans (by simp [go_sem])
  have v1 : w1.cell? ⟨w.heap.size + 1, 1, none⟩ = some (.int .i64 0) := cell_later hb (by simp [go_sem])
  have o1 : w1.cell? ⟨w.heap.size + 2, 1, none⟩ = some (.int .i64 b) := cell_later hb (by simp [go_sem])
  have f1 : w1.frozen? ⟨w.heap.size + 1, 1, none⟩ = false := ((bcell hb).2 _ _ (by simp)).trans (by simp [go_sem])
  have g1 : w1.frozen? ⟨w.heap.size + 2, 1, none⟩ = false := ((bcell hb).2 _ _ (by simp)).trans (by simp [go_sem])
  have v2 : w1.cell? ⟨w.heap.size + 1, 2, none⟩ = some (.int .i64 0) := cell_later hb (by simp [go_sem])
  have o2 : w1.cell? ⟨w.heap.size + 2, 2, none⟩ = some (.int .i64 c) := cell_later hb (by simp [go_sem])
  have f2 : w1.frozen? ⟨w.heap.size + 1, 2, none⟩ = false := ((bcell hb).2 _ _ (by simp)).trans (by simp [go_sem])
  have g2 : w1.frozen? ⟨w.heap.size + 2, 2, none⟩ = false := ((bcell hb).2 _ _ (by simp)).trans (by simp [go_sem])
  have v3 : w1.cell? ⟨w.heap.size + 1, 3, none⟩ = some (.int .i64 0) := cell_later hb (by simp [go_sem])
  have o3 : w1.cell? ⟨w.heap.size + 2, 3, none⟩ = some (.int .i64 d) := cell_later hb (by simp [go_sem])
  have f3 : w1.frozen? ⟨w.heap.size + 1, 3, none⟩ = false := ((bcell hb).2 _ _ (by simp)).trans (by simp [go_sem])
  have g3 : w1.frozen? ⟨w.heap.size + 2, 3, none⟩ = false := ((bcell hb).2 _ _ (by simp)).trans (by simp [go_sem])
  have v4 : w1.cell? ⟨w.heap.size + 1, 4, none⟩ = some (.slice none 0 0) := cell_later hb (by simp [go_sem])
  have o4 : w1.cell? ⟨w.heap.size + 2, 4, none⟩ = some (.slice none 0 0) := cell_later hb (by simp [go_sem])
  have f4 : w1.frozen? ⟨w.heap.size + 1, 4, none⟩ = false := ((bcell hb).2 _ _ (by simp)).trans (by simp [go_sem])
  have g4 : w1.frozen? ⟨w.heap.size + 2, 4, none⟩ = false := ((bcell hb).2 _ _ (by simp)).trans (by simp [go_sem])
  have v5 : w1.cell? ⟨w.heap.size + 1, 5, none⟩ = some (.slice none 0 0) := cell_later hb (by simp [go_sem])
  have o5 : w1.cell? ⟨w.heap.size + 2, 5, none⟩ = some (.slice none 0 0) := cell_later hb (by simp [go_sem])
  have f5 : w1.frozen? ⟨w.heap.size + 1, 5, none⟩ = false := ((bcell hb).2 _ _ (by simp)).trans (by simp [go_sem])
  have g5 : w1.frozen? ⟨w.heap.size + 2, 5, none⟩ = false := ((bcell hb).2 _ _ (by simp)).trans (by simp [go_sem])
  have k5 : w1.cell? ⟨w.heap.size, 5, none⟩ = some (.slice az m cz) := cell_later hb (by simp [go_sem])
  have hs1 := hb.size
  simp only [World.size_alloc] at hs1
  have HB := hide (below_on (below_on (below_on (below_alloc _ _) (below_alloc _ _)) (below_alloc _ _)) hb)
  have HO := hide ho
  clear hb ho
  go_wp2_with fail
  refine (toEnC (HZ.out.later (HB.out.setCell (p := ⟨w.heap.size + 2, 4, none⟩) (by simp) _)) HM'.out HL'.out).mono ?_
  rintro e w2 ⟨z2, rfl, hb, ho, hcp⟩
  obtain ⟨a2, c2, hz2⟩ := ho.shape
  rw [HME.out] at hz2
  subst hz2
  have HCp := hide hcp
  clear hcp
  have x0 : w2.cell? ⟨w.heap.size + 1, 0, none⟩ = some (.int .i64 0) := cell_later hb ((World.cell?_setCell_other _ _ _ _ (by simp)).trans v0)
  have y0 : w2.cell? ⟨w.heap.size + 2, 0, none⟩ = some (.int .i64 a) := cell_later hb ((World.cell?_setCell_other _ _ _ _ (by simp)).trans o0)
  have p0 : w2.frozen? ⟨w.heap.size + 1, 0, none⟩ = false := ((bcell hb).2 _ _ (by simp; omega)).trans (by rw [World.frozen?_setCell]; exact f0)
  have q0 : w2.frozen? ⟨w.heap.size + 2, 0, none⟩ = false := ((bcell hb).2 _ _ (by simp; omega)).trans (by rw [World.frozen?_setCell]; exact g0)
  have x1 : w2.cell? ⟨w.heap.size + 1, 1, none⟩ = some (.int .i64 0) := cell_later hb ((World.cell?_setCell_other _ _ _ _ (by simp)).trans v1)
  have y1 : w2.cell? ⟨w.heap.size + 2, 1, none⟩ = some (.int .i64 b) := cell_later hb ((World.cell?_setCell_other _ _ _ _ (by simp)).trans o1)
  have p1 : w2.frozen? ⟨w.heap.size + 1, 1, none⟩ = false := ((bcell hb).2 _ _ (by simp; omega)).trans (by rw [World.frozen?_setCell]; exact f1)
  have q1 : w2.frozen? ⟨w.heap.size + 2, 1, none⟩ = false := ((bcell hb).2 _ _ (by simp; omega)).trans (by rw [World.frozen?_setCell]; exact g1)
  have x2 : w2.cell? ⟨w.heap.size + 1, 2, none⟩ = some (.int .i64 0) := cell_later hb ((World.cell?_setCell_other _ _ _ _ (by simp)).trans v2)
  have y2 : w2.cell? ⟨w.heap.size + 2, 2, none⟩ = some (.int .i64 c) := cell_later hb ((World.cell?_setCell_other _ _ _ _ (by simp)).trans o2)
  have p2 : w2.frozen? ⟨w.heap.size + 1, 2, none⟩ = false := ((bcell hb).2 _ _ (by simp; omega)).trans (by rw [World.frozen?_setCell]; exact f2)
  have q2 : w2.frozen? ⟨w.heap.size + 2, 2, none⟩ = false := ((bcell hb).2 _ _ (by simp; omega)).trans (by rw [World.frozen?_setCell]; exact g2)
  have x3 : w2.cell? ⟨w.heap.size + 1, 3, none⟩ = some (.int .i64 0) := cell_later hb ((World.cell?_setCell_other _ _ _ _ (by simp)).trans v3)
  have y3 : w2.cell? ⟨w.heap.size + 2, 3, none⟩ = some (.int .i64 d) := cell_later hb ((World.cell?_setCell_other _ _ _ _ (by simp)).trans o3)
  have p3 : w2.frozen? ⟨w.heap.size + 1, 3, none⟩ = false := ((bcell hb).2 _ _ (by simp; omega)).trans (by rw [World.frozen?_setCell]; exact f3)
  have q3 : w2.frozen? ⟨w.heap.size + 2, 3, none⟩ = false := ((bcell hb).2 _ _ (by simp; omega)).trans (by rw [World.frozen?_setCell]; exact g3)
  have x4 : w2.cell? ⟨w.heap.size + 1, 4, none⟩ = some (.slice none 0 0) := cell_later hb ((World.cell?_setCell_other _ _ _ _ (by simp)).trans v4)
  have y4 : w2.cell? ⟨w.heap.size + 2, 4, none⟩ = some (.slice a1 l c1) := cell_later hb (World.cell?_setCell_same _ _ _ o4)
  have p4 : w2.frozen? ⟨w.heap.size + 1, 4, none⟩ = false := ((bcell hb).2 _ _ (by simp; omega)).trans (by rw [World.frozen?_setCell]; exact f4)
  have q4 : w2.frozen? ⟨w.heap.size + 2, 4, none⟩ = false := ((bcell hb).2 _ _ (by simp; omega)).trans (by rw [World.frozen?_setCell]; exact g4)
  have x5 : w2.cell? ⟨w.heap.size + 1, 5, none⟩ = some (.slice none 0 0) := cell_later hb ((World.cell?_setCell_other _ _ _ _ (by simp)).trans v5)
  have y5 : w2.cell? ⟨w.heap.size + 2, 5, none⟩ = some (.slice none 0 0) := cell_later hb ((World.cell?_setCell_other _ _ _ _ (by simp)).trans o5)
  have p5 : w2.frozen? ⟨w.heap.size + 1, 5, none⟩ = false := ((bcell hb).2 _ _ (by simp; omega)).trans (by rw [World.frozen?_setCell]; exact f5)
  have q5 : w2.frozen? ⟨w.heap.size + 2, 5, none⟩ = false := ((bcell hb).2 _ _ (by simp; omega)).trans (by rw [World.frozen?_setCell]; exact g5)
  have hs2 := hb.size
  simp only [World.size_setCell] at hs2
  have HB2 := hide (below_on (HB.out.setCell (p := ⟨w.heap.size + 2, 4, none⟩) (by simp) _) hb)
  have HO2 := hide ((HO.out.iv.wr (T := fun x => x = w.heap.size + 2) (Wr.setCell (p := ⟨w.heap.size + 2, 4, none⟩) (Wr.refl (fun x => x = w.heap.size + 2) _) rfl (.slice a1 l c1)) (fun b hb1 hb2 e => by simp at hb1; omega)).later hb)
  simp only [World.size_setCell] at ho
  have HJ := hide ho
  clear hb ho HB HO k5 v0 o0 f0 g0 v1 o1 f1 g1 v2 o2 f2 g2 v3 o3 f3 g3 v4 o4 f4 g4 v5 o5 f5 g5
  go_wp2
  refine bodyPost_ret (v := .agg #[.int .i64 a, .int .i64 b, .int .i64 c, .int .i64 d, .slice a1 l c1, .slice a2 m c2]) (by simp [results, Tryz.results8, go_sem, x0, x1, x2, x3, x4, x5]) rfl ⟨_, _, rfl, ?_, ?_, HCp.out⟩
  · repeat (first | refine Below.setCell ?_ (by first | (simp; done) | (simp; omega) | omega) _ | exact HB2.out)
  · refine IvR_made HO2.out HJ.out (by simp; omega) (by simp; omega) (Wr.mono (S := fun b => b < w.heap.size + 3) ?_ (fun b hb => by simp; omega))
    repeat (first | refine Wr.setCell ?_ (by first | (simp; done) | (simp; omega) | omega) _ | exact Wr.refl _ _)

end Go.Proofs.YtlmaopljihbdkaaGreat
