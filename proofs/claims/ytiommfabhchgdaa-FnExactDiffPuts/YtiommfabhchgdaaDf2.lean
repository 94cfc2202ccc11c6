/- Chapter 11: 'impl.DiffPuts', walked. -/
import Derived.Test.YtiommfabhchgdaaDf1
namespace Go.Proofs.Ytiommfabhchgdaa
open Go.RowKit Go.Maps Go.Shelf
attribute [local go_sem] Oper.semAt_some

theorem vF_zero {vs : List (Int × List Int)} (h : vF vs = 0) : hpF 60 vs = 0 := by
  unfold vF at h
  by_cases h0 : hpF 60 vs = 0
  · exact h0
  · rw [if_neg h0] at h; exact absurd h h0

set_option maxHeartbeats 2000000 in
set_option maxRecDepth 4000 in
theorem changedBlocksI (au : Option Addr) (n cu : Nat) (av : Option Addr) (m cv : Nat) (w : World) :
    Calls Try.prog 39 #[.slice au n cu, .slice av m cv] w fun e w' => e = .returned (.func (.func 69) #[] #[.pointer (some ⟨w.heap.size, 0, none⟩), .pointer (some ⟨w.heap.size + 1, 0, none⟩)]) ∧ w' = (w.alloc (.cells #[.slice au n cu] 27)).alloc (.cells #[.slice av m cv] 27) := by
  go_enter Try.func39, Try.ntmps39
  go_wp2
  go_ret
  exact ⟨rfl, rfl⟩

/-- What the loop of 'DiffPuts' keeps: the puts so far in the variable at Bv, the answer's variable at r0 as it was laid. -/
def DfI (w : World) (r0 Bv : Nat) (P : Nat → Prop) (qs : List (Int × List Int)) (D : Nat → Prop) (k : Nat) (W : World) : Prop :=
  k ≤ 12 ∧ ∃ u, (∀ b, D b ↔ b = Bv ∨ b = r0 ∨ u.ownBlock = some b) ∧ Boxed W Bv 27 u ∧ BuiltP P W u k qs ∧ Below w.heap.size w W ∧ W.cell? ⟨r0, 0, none⟩ = some (.int .i64 0) ∧ W.cell? ⟨r0, 1, none⟩ = some (.slice none 0 0) ∧ ∀ o, W.frozen? ⟨r0, o, none⟩ = false
theorem DfI.later {w A B : World} {r0 Bv k : Nat} {P D : Nat → Prop} {qs : List (Int × List Int)} (h : DfI w r0 Bv P qs D k A) (hb : Below A.heap.size A B) : DfI w r0 Bv P qs D k B := by
  obtain ⟨h0, u, h1, h2, h3, h4, h5, h6, h7⟩ := h
  exact ⟨h0, u, h1, (hb.block _ h2.lt).trans h2, h3.later hb, below_on h4 hb, cell_later hb h5, cell_later hb h6, fun o => ((bcell hb).2 _ _ (World.block_lt_of_cell? _ _ h5)).trans (h7 o)⟩
theorem DfI.wr {w A B : World} {r0 Bv k l : Nat} {P D : Nat → Prop} {qs : List (Int × List Int)} (h : DfI w r0 Bv P qs D k A) (hb : Wr (fun b => b = l) A B) (h1 : Bv ≠ l) (h2 : ∀ b, P b → b ≠ l) (h3 : w.heap.size ≤ l) (h4 : r0 ≠ l) : DfI w r0 Bv P qs D k B := by
  obtain ⟨k0, u, k1, k2, k3, k4, k5, k6, k7⟩ := h
  exact ⟨k0, u, k1, boxed_ku k2 (Ku.of_wr hb) h1, k3.ku (Ku.of_wr hb) h2, k4.trans (hb.below k4.size (fun b e => by omega)), cell_wr hb k5 h4, cell_wr hb k6 h4, fun o => (hb.frz _ _ (World.block_lt_of_cell? _ _ k5)).trans (k7 o)⟩
theorem DfI.bound {w A : World} {r0 Bv k : Nat} {P D : Nat → Prop} {qs : List (Int × List Int)} (h : DfI w r0 Bv P qs D k A) : ∀ b, D b → b < A.heap.size ∧ (b = Bv ∨ b = r0 ∨ P b) := by
  obtain ⟨k0, u, k1, k2, k3, k4, k5, _⟩ := h
  intro b hb
  rcases (k1 b).1 hb with rfl | rfl | e
  · exact ⟨k2.lt, .inl rfl⟩
  · exact ⟨World.block_lt_of_cell? _ _ k5, .inr (.inl rfl)⟩
  · obtain ⟨V, Bk, r1, r2, r3⟩ := k3
    exact ⟨(r1.lt b e).2, .inr (.inr (r2 b e))⟩

set_option maxRecDepth 100000 in
set_option maxHeartbeats 8000000 in
theorem implDiffPuts {S T : Nat → Prop} {w : World} {u v : Value} {vs ps : List (Int × List Int)} (hu : RdP S w u vs) (hv : RdP T w v ps) :
    Calls Try.prog 17 #[u, v] w (EndsP (dfC vs ps) (dfR vs ps) w) := by
  unfold EndsP
  obtain ⟨au, cu, rfl, _⟩ := hu.shape
  obtain ⟨av, cv, rfl, _⟩ := hv.shape
  obtain ⟨i0, hi, hz0, hz1, hz2⟩ := info_parts Try.infoPut
  have HF1 := hide (fun (w' : World) (hb : Below w.heap.size w w') => viewFaultP (hu.later hb))
  have HF2 := hide (fun (w' : World) (hb : Below w.heap.size w w') => viewFaultP (hv.later hb))
  have HU := hide (RdP_old hu)
  have HV := hide (RdP_old hv)
  have A0 := hide (below_alloc w (.cells #[.int .i64 0, .slice none 0 0] 29))
  obtain ⟨n, hn⟩ : ∃ n, vs.length = n := ⟨_, rfl⟩
  obtain ⟨m, hm⟩ : ∃ m, ps.length = m := ⟨_, rfl⟩
  rw [hn] at HF1 HU ⊢
  rw [hm] at HF2 HV ⊢
  obtain ⟨C, hC⟩ : ∃ C, dfC vs ps = C := ⟨_, rfl⟩
  obtain ⟨R, hR⟩ : ∃ R, dfR vs ps = R := ⟨_, rfl⟩
  have HC := hide hC
  have HR := hide hR
  rw [hC, hR]
  clear hu hv hn hm hC hR
  refine (callsIn_wide (n := 3)).1 ?_
  refine callsIn_of_wp_marks Try.func17 rfl trivial ?_ rfl
  simp only [Try.ntmps17, List.size_toArray, List.length_cons, List.length_nil, Nat.reduceAdd, Nat.reduceSub, Array.replicate_succ, Array.replicate_zero, List.push_toArray, List.append_toArray, List.nil_append, List.cons_append]
  gi_wp2
  refine ⟨trivial, (callsIn_wide.2 (HF1.out _ A0.out)).mono ?_⟩
  rintro e w1 ⟨rfl, hb1⟩
  have r0 : w1.cell? ⟨w.heap.size, 0, none⟩ = some (.int .i64 0) := cell_later hb1 (by simp [go_sem])
  have r1 : w1.cell? ⟨w.heap.size, 1, none⟩ = some (.slice none 0 0) := cell_later hb1 (by simp [go_sem])
  have rf : ∀ o, w1.frozen? ⟨w.heap.size, o, none⟩ = false := fun o => ((bcell hb1).2 _ _ (by simp)).trans (by simp [go_sem])
  have B1 := hide (below_on A0.out hb1)
  have hs1 : w.heap.size < w1.heap.size := World.block_lt_of_cell? _ _ r0
  clear hb1
  by_cases h1 : vF vs = 0
  · rw [h1]
    gi_wp2
    refine ⟨trivial, (callsIn_wide.2 (HF2.out _ B1.out)).mono ?_⟩
    rintro e w2 ⟨rfl, hb2⟩
    have q0 := cell_later hb2 r0
    have q1 := cell_later hb2 r1
    have qf : ∀ o, w2.frozen? ⟨w.heap.size, o, none⟩ = false := fun o => ((bcell hb2).2 _ _ hs1).trans (rf o)
    have B2 := hide (below_on B1.out hb2)
    have hs2 : w.heap.size < w2.heap.size := World.block_lt_of_cell? _ _ q0
    clear hb2 r0 r1 rf B1
    by_cases h2 : vF ps = 0
    · rw [h2]
      gi_wp2
      refine ⟨trivial, (callsIn_wide.2 (changedBlocksI au n cu av m cv _)).mono ?_⟩
      rintro e w3 ⟨rfl, hw3⟩
      have hb3 : Below w2.heap.size w2 w3 := by rw [hw3]; exact below_on (below_on (below_alloc _ _) (below_alloc _ _)) (below_alloc _ _)
      have hs3 : w3.heap.size = w2.heap.size + 3 := by rw [hw3]; simp
      have hx3 : Boxed w3 w2.heap.size 27 (.slice none 0 0) := by
        rw [hw3]
        exact (((below_on (below_alloc _ _) (below_alloc _ _)).block _ (by simp)).trans (Boxed.new w2 _ _))
      have hc1 : w3.cell? ⟨w2.heap.size + 1, 0, none⟩ = some (.slice au n cu) := by rw [hw3]; simp [go_sem]
      have hc2 : w3.cell? ⟨w2.heap.size + 2, 0, none⟩ = some (.slice av m cv) := by rw [hw3]; simp [go_sem]
      have t0 := cell_later hb3 q0
      have t1 := cell_later hb3 q1
      have tf : ∀ o, w3.frozen? ⟨w.heap.size, o, none⟩ = false := fun o => ((bcell hb3).2 _ _ hs2).trans (qf o)
      have B3 := hide (below_on B2.out hb3)
      have HSq := hide (fun k => diffSeq (S := fun b => b < w.heap.size) hc1 hc2 (HU.out.later B3.out) (HV.out.later B3.out) (vF_zero h1) (vF_zero h2) (fun b hb => by omega) k)
      obtain ⟨qs, hqs⟩ : ∃ qs, dfL vs ps = qs := ⟨_, rfl⟩
      have hCR : C = (if 12 < qs.length then 2 else 0) ∧ R = (if C = 0 then qs else []) := by
        constructor
        · rw [← HC.out]; unfold dfC; rw [if_pos h1, if_pos h2, hqs]
        · rw [← HR.out, ← HC.out]; unfold dfR; rw [hqs]
      have HCR := hide hCR
      have HF := hide tf
      rw [hqs] at HSq
      clear hb3 hw3 q0 q1 qf B2 hc1 hc2 hqs hCR HU HV HF1 HF2 HC HR tf
      gi_wp2
      rw [show w2.heap.size + 1 + 1 = w2.heap.size + 2 from rfl]
      refine wpIn_rangeFunc_G (n := 3) 57 (by decide) (gf := 69) rfl (enters_of Try.func69 (by kernel_rfl) rfl) (HSq.out 2) (Below.refl _ _) rfl (DfI w w.heap.size w2.heap.size (fun b => w2.heap.size + 5 ≤ b) qs)
        (fun c W => c = .ret ∧ 12 < qs.length ∧ W.cell? ⟨w.heap.size, 0, none⟩ = some (.int .i64 2) ∧ W.cell? ⟨w.heap.size, 1, none⟩ = some (.slice none 0 0) ∧ Below w.heap.size w W) (fun b => b = w2.heap.size ∨ b = w.heap.size)
        (fun D k A B h hb => h.later hb) (fun D k A B h hb => h.wr hb (by omega) (fun b h => by omega) (by omega) (by omega)) (fun c A B h hb => ⟨h.1, h.2.1, cell_later hb h.2.2.1, cell_later hb h.2.2.2.1, below_on h.2.2.2.2 hb⟩) (fun c A B h hb => ⟨h.1, h.2.1, cell_wr hb h.2.2.1 (by omega), cell_wr hb h.2.2.2.1 (by omega), h.2.2.2.2.trans (hb.below h.2.2.2.2.size (fun b e => by omega))⟩)
        (fun D k A h b hb => by have := h.bound b hb; omega) (fun b e hr => by omega) (fun b hr => by omega)
        ⟨by omega, .slice none 0 0, fun b => ⟨fun h => by rcases h with h | h; exact .inl h; exact .inr (.inl h), fun h => by rcases h with h | h | h; exact .inl h; exact .inr h; cases h⟩, hx3, BuiltP.nil _ _ _, B3.out, t0, t1, HF.out⟩
        (fun x v Bx => { tmps := #[.slice au n cu, .slice av m cv, undef, undef, .pointer (some ⟨w.heap.size, 0, none⟩), .int .i64 0, .int .i64 0, .pointer (some ⟨w2.heap.size, 0, none⟩), .pointer (some ⟨Bx, 0, none⟩), .slice au n cu, .int .i64 0, .int .i64 0, .bool false, undef, undef, .slice av m cv, .int .i64 0, .int .i64 0, .bool false, undef, undef, .slice au n cu, .slice av m cv, .func (.func 69) #[] #[.pointer (some ⟨w2.heap.size + 1, 0, none⟩), .pointer (some ⟨w2.heap.size + 2, 0, none⟩)], .agg #[.int .i64 x, v], undef, undef, undef, undef, undef, undef, undef, undef, undef, undef], defers := [] }) ?assign ?body ?done ?stop
      case assign =>
        rintro x v B K ⟨ao, n, c, rfl⟩ hK
        simp only [encP]
        gi_wp2
        exact hK
      case body =>
        rintro D k x v A B W ⟨hk12, u, hd, hu, ⟨V, Bk, hrow, hpr, hin⟩, hbl, a0, a1, af⟩ hAB hk hx hv hwr hsW hAs _
        obtain ⟨bz, hv1, hv2⟩ := hv
        obtain ⟨zv, cv', rfl⟩ := hv1.shape
        have hAW : Ku (fun b => b = w3.heap.size + 1) A W := (Ku.of_below (below_on hAB (below_alloc _ _))).trans (Ku.of_wr hwr)
        have huW : Boxed W w2.heap.size 27 u := boxed_ku hu hAW (by omega)
        have hrowW := ownsRow_ku hrow hAW (fun r hr => by have := hpr r hr; omega)
        have hinW := hin.ku hAW (fun i hi hn => by have := (hin.own i hi hn).1; omega)
        have hBW : Ku (fun b => b = w3.heap.size + 1) B W := (Ku.of_below (below_alloc _ _)).trans (Ku.of_wr hwr)
        have hsB := hAB.size
        have hvW : RdI (· = bz) W (.slice zv (qs.getD k (0, [])).2.length cv') (qs.getD k (0, [])).2 := hv1.ku hBW (fun hn b hb => by have := (hv2 hn).1; omega)
        have hp0 : W.cell? ⟨B.heap.size, 0, none⟩ = some (.int .i64 x) := cell_wr hwr (by simp [go_sem]) (by omega)
        have hp1 : W.cell? ⟨B.heap.size, 1, none⟩ = some (.slice zv (qs.getD k (0, [])).2.length cv') := cell_wr hwr (by simp [go_sem]) (by omega)
        have hbW : Below w.heap.size w W := hbl.trans (((below_on hAB (below_alloc _ _)).mono hbl.size).trans (hwr.below (by have := hbl.size; simp; omega) (fun b e => by omega)))
        have b0 := hAW.cell a0 (by omega)
        have b1 := hAW.cell a1 (by omega)
        have bf : ∀ o, W.frozen? ⟨w.heap.size, o, none⟩ = false := fun o => (hAW.frozen (k := w.heap.size) (o := o) (World.block_lt_of_cell? _ _ a0) (by omega)).trans (af o)
        have bf0 := bf 0
        have bf1 := bf 1
        obtain ⟨ur, cu', rfl⟩ : ∃ ur cu', u = .slice ur k cu' := by
          rcases hrow.2 with ⟨rfl, h0⟩ | ⟨g, cap, cur, rfl, _⟩
          · exact ⟨none, 0, by rw [h0]⟩
          · exact ⟨_, _, rfl⟩
        have hc := huW.cell
        have hf := huW.frozen
        obtain ⟨lv, hlv⟩ : ∃ l, (qs.getD k (0, [])).2.length = l := ⟨_, rfl⟩
        rw [hlv] at hp1 hvW
        have HX := hide hx
        have HD := hide hd
        have HV2 := hide hv2
        have HIN := hide hinW
        have HPR := hide hpr
        have HRW := hide hrowW
        have HVW := hide hvW
        have HBW := hide hbW
        have HBF := hide bf
        have HBk := hide (fun i (hi : i < k) (hn : (qs.getD i (0, [])).2 ≠ []) => (hin.own i hi hn).2.1)
        have HU := hide huW
        have HSW := hide hsW
        have HKB := hide hBW
        have HRL := hide (fun r (hr : (Value.slice ur k cu').ownBlock = some r) => (hrow.lt r hr).2)
        rw [hlv]
        clear hsW hx hd hv1 hv2 hinW hpr hrowW hvW hbW hin hrow hu hAB hwr hAW hBW hbl huW a0 a1 af bf
        by_cases h12 : k = 12
        · subst h12
          gi_wp2
          have hset : Ku (fun b => b = w.heap.size) W ((W.setCell ⟨w.heap.size, 0, none⟩ (.int .i64 2)).setCell ⟨w.heap.size, 1, none⟩ (.slice none 0 0)) := Ku.of_wr (((Wr.refl (fun b => b = w.heap.size) _).setCell (p := ⟨w.heap.size, 0, none⟩) rfl _).setCell (p := ⟨w.heap.size, 1, none⟩) rfl _)
          have hx1 := (World.cell?_setCell_other (W.setCell ⟨w.heap.size, 0, none⟩ (.int .i64 2)) ⟨w.heap.size, 1, none⟩ ⟨w.heap.size, 0, none⟩ (.slice none 0 0) (by simp)).trans (World.cell?_setCell_same W ⟨w.heap.size, 0, none⟩ (.int .i64 2) b0)
          have hx2 := World.cell?_setCell_same (W.setCell ⟨w.heap.size, 0, none⟩ (.int .i64 2)) ⟨w.heap.size, 1, none⟩ (.slice none 0 0) ((World.cell?_setCell_other W ⟨w.heap.size, 0, none⟩ ⟨w.heap.size, 1, none⟩ (.int .i64 2) (by simp)).trans b1)
          exact ⟨hset.mono (fun b hb => (HD.out b).2 (.inr (.inl hb))), by first | exact ⟨rfl, hk, hx1, hx2, HBW.out.trans (hset.below (by have := HBW.out.size; omega) (fun b e => by omega))⟩ | exact ⟨rfl, hx1, hx2, HBW.out.trans (hset.below (by have := HBW.out.size; omega) (fun b e => by omega))⟩⟩
        · have h12i : ¬ (k : Int) = 12 := by omega
          gi_wp2_with (first
            | (gi_at_builtin; refine wpListIn_append_own_at _ rfl _ _ 27 rfl 0 57 i0 (.agg #[.int .i64 0, .slice none 0 0]) 2 32 Try.underlying27 hi hz0 hz1 hz2 rfl (by decide) _ _ _ rfl (HRW.out.alloc _) ⟨W.heap.size, 0, none⟩ 1 1 [.int .i64 x, .slice zv lv cv'] rfl rfl (World.news_of_block (cs := #[.int .i64 x, .slice zv lv cv']) (t := 57) (fr := (0, 0)) (World.alloc_heap_new W _)) cells2_one (by unfold maxLen; omega) (by omega) (by omega) ?_; intro v' w4 hown' hgrow _ hat; obtain ⟨g', cap', rfl⟩ := ownsRow_succ hown'; have hb1 := (HU.out.alloc (.cells #[.int .i64 x, .slice zv lv cv'] 57)).kept hgrow (by intro e; have h9 : w2.heap.size + 5 ≤ w2.heap.size := HPR.out _ e.symm; omega); have hc1 := hb1.cell; have hf1 := hb1.frozen)
            | gi_in)
          have hsW := HSW.out
          have hat' : (Value.slice ur k cu').ownBlock = some g' ∨ g' = W.heap.size + 1 := by
            rcases hat with h | h
            · exact .inl h.symm
            · right
              simpa [Value.ownBlock] using h
          have hBA := below_alloc W (.cells #[.int .i64 x, .slice zv lv cv'] 57)
          have hpush := (HIN.out.later hBA).push (z := .slice zv lv cv') (bz := bz) (by exact HVW.out.later hBA) (fun hn => by
            obtain ⟨j1, j2, j3⟩ := HV2.out hn
            refine ⟨by omega, by simp; omega, fun o => ?_, fun e => ?_, fun i hi hni e => ?_⟩
            · exact ((bcell hBA).2 _ _ (by omega)).trans ((HKB.out.frozen (by omega) (by omega)).trans (j3 o))
            · have := HRL.out _ e; omega
            · have := HBk.out i hi hni; omega) hgrow (by simpa using hat')
          have hset : Ku (fun b => b = w2.heap.size) w4 (w4.setCell ⟨w2.heap.size, 0, none⟩ (.slice (some ⟨g', 0, none⟩) (k + 1) cap')) := Ku.of_wr ((Wr.refl (fun b => b = w2.heap.size) _).setCell (p := ⟨w2.heap.size, 0, none⟩) rfl _)
          have hgb : w2.heap.size + 5 ≤ g' := by
            rcases hat' with h | h
            · exact HPR.out _ h
            · omega
          have hKW0 : Ku (fun b => b = w2.heap.size ∨ (Value.slice ur k cu').ownBlock = some b) W (w4.setCell ⟨w2.heap.size, 0, none⟩ (.slice (some ⟨g', 0, none⟩) (k + 1) cap')) := by
            refine ((Ku.of_below hBA).trans ((Ku.of_grown hgrow).mono fun b hb => .inr hb)).trans (hset.mono fun b hb => .inl hb)
          have hKW : Ku D W (w4.setCell ⟨w2.heap.size, 0, none⟩ (.slice (some ⟨g', 0, none⟩) (k + 1) cap')) := hKW0.mono fun b hb => (HD.out b).2 (by rcases hb with h | h; exact .inl h; exact .inr (.inr h))
          have hr0 : ¬ (w.heap.size = w2.heap.size ∨ (Value.slice ur k cu').ownBlock = some w.heap.size) := by
            rintro (h | h)
            · omega
            · have h9 : w2.heap.size + 5 ≤ w.heap.size := HPR.out _ h
              omega
          refine ⟨fun b => b = w2.heap.size ∨ b = w.heap.size ∨ (Value.slice (some ⟨g', 0, none⟩) (k + 1) cap').ownBlock = some b, ⟨by omega, _, fun _ => Iff.rfl, hb1.set _, ⟨_, _, ?_, fun r hr => ?_, hpush.ku hset (fun i hi hn => ?_)⟩, HBW.out.trans (hKW.below (by have := HBW.out.size; omega) (fun b hb => ?_)), hKW0.cell b0 hr0, hKW0.cell b1 hr0, fun o => (hKW0.frozen (World.block_lt_of_cell? _ _ b0) hr0).trans (HBF.out o)⟩, hKW, fun b hb => ?_⟩
          · rw [cellsP_succ, ← HX.out]
            refine ownsRow_ku hown' hset (fun r hr e9 => ?_)
            have e : g' = r := by simpa [Value.ownBlock] using hr
            omega
          · injection hr with hr; subst hr; exact hgb
          · have := (hpush.own i hi hn).1; omega
          · rcases (HD.out b).1 hb with h | h | h
            · omega
            · omega
            · have h9 : w2.heap.size + 5 ≤ b := HPR.out _ h
              omega
          · rcases hb with hb | hb | hb
            · exact .inl ((HD.out b).2 (.inl hb))
            · exact .inl ((HD.out b).2 (.inr (.inl hb)))
            · injection hb with hb
              subst hb
              rcases hat' with h | h
              · exact .inl ((HD.out _).2 (.inr (.inr h)))
              · exact .inr (by simp only; omega)
      case done =>
        rintro D W ⟨hk12, u, hd, hu, hbu, hbl, a0, a1, af⟩ hK
        have hC0 : C = 0 := by rw [HCR.out.1, if_neg (by omega)]
        have hRq : R = qs := by rw [HCR.out.2, if_pos hC0]
        subst hC0
        subst hRq
        obtain ⟨ur, cu', rfl⟩ := hbu.shape
        have hc := hu.cell
        have f0 := af 0
        have f1 := af 1
        have HBu := hide hbu
        have HBl := hide hbl
        clear af hbu hbl hd
        gi_wp2
        obtain ⟨W5, hW5⟩ : ∃ W5, (W.setCell ⟨w.heap.size, 0, none⟩ (.int .i64 0)).setCell ⟨w.heap.size, 1, none⟩ (.slice ur R.length cu') = W5 := ⟨_, rfl⟩
        have hw5 : Wr (fun b => b = w.heap.size) W W5 := by rw [← hW5]; exact ((Wr.refl (fun b => b = w.heap.size) _).setCell (p := ⟨w.heap.size, 0, none⟩) rfl _).setCell (p := ⟨w.heap.size, 1, none⟩) rfl _
        have x0 : W5.cell? ⟨w.heap.size, 0, none⟩ = some (.int .i64 0) := by rw [← hW5]; exact (World.cell?_setCell_other _ _ _ _ (by simp)).trans (World.cell?_setCell_same _ _ _ a0)
        have x1 : W5.cell? ⟨w.heap.size, 1, none⟩ = some (.slice ur R.length cu') := by rw [← hW5]; exact World.cell?_setCell_same _ _ _ ((World.cell?_setCell_other _ _ _ _ (by simp)).trans a1)
        have hK5 : W5.heap[w3.heap.size]? = some (.deferred (some [])) := (hw5.block _ (Array.getElem?_eq_some_iff.1 hK).1 (by omega)).trans hK
        have hwn := wr_none (d' := none) hK5
        have y0 := cell_wr hwn x0 (by omega)
        have y1 := cell_wr hwn x1 (by omega)
        have hB5 := (HBl.out.trans (hw5.below HBl.out.size (fun b e => by omega))).trans (hwn.below (Nat.le_trans HBl.out.size hw5.size) (fun b e => by omega))
        have hP5 := ((HBu.out.ow rfl (by omega)).wr hw5 (fun b h e => by have := h.1; omega)).wr hwn (fun b h e => by have := h.1; omega)
        have hsz5 := Nat.le_trans hw5.size hwn.size
        rw [hs3] at hK5 hwn y0 y1 hB5 hP5 hsz5
        refine ⟨by simp, .inl ⟨_, _, rfl, (by first | exact run_takeDeferred hK5 | (rw [hW5]; exact run_takeDeferred hK5)), ?_⟩⟩
        exact ⟨.agg #[.int .i64 0, .slice ur R.length cu'], by simp [results, Try.results17, go_sem, y0, y1], _, rfl, hB5, hP5.mono fun b h => ⟨by have := h.1; omega, Nat.lt_of_lt_of_le h.2 hsz5⟩⟩
      case stop =>
        rintro c W ⟨rfl, hq12, a0, a1, hbl⟩ hK
        have hC2 : C = 2 := by rw [HCR.out.1, if_pos hq12]
        have hRn : R = [] := by rw [HCR.out.2, if_neg (by omega)]
        subst hC2
        subst hRn
        gi_wp2
        have hwn := wr_none (d' := none) hK
        have y0 := cell_wr hwn a0 (by omega)
        have y1 := cell_wr hwn a1 (by omega)
        have hB5 := hbl.trans (hwn.below hbl.size (fun b e => by omega))
        refine ⟨by simp, .inl ⟨_, _, rfl, run_takeDeferred hK, ?_⟩⟩
        exact ⟨.agg #[.int .i64 2, .slice none 0 0], by simp [results, Try.results17, go_sem, y0, y1], _, rfl, hB5, OwP_nil _ _⟩
    · have hC : C = vF ps ∧ R = [] := by
        have e : dfC vs ps = vF ps := by unfold dfC; rw [if_pos h1, if_neg h2]
        exact ⟨by rw [← HC.out, e], by rw [← HR.out]; unfold dfR; rw [e, if_neg h2]⟩
      obtain ⟨rfl, rfl⟩ := hC
      have h2b : (vF ps == 0) = false := by simpa using h2
      have f0 := qf 0
      have f1 := qf 1
      have HFn := hide (ret_putsA (r := w.heap.size) (x := .int .i64 (vF ps)) B2.out (Nat.le_refl _) (OwP_nil (fun _ => False) w2) (fun b hb => hb.elim))
      clear HF1 HF2
      have g0 : ((w2.setCell ⟨w.heap.size, 0, none⟩ (.int .i64 (vF ps))).setCell ⟨w.heap.size, 1, none⟩ (.slice none 0 0)).cell? ⟨w.heap.size, 0, none⟩ = some (.int .i64 (vF ps)) := (World.cell?_setCell_other _ _ _ _ (by simp)).trans (World.cell?_setCell_same _ _ _ q0)
      have g1 : ((w2.setCell ⟨w.heap.size, 0, none⟩ (.int .i64 (vF ps))).setCell ⟨w.heap.size, 1, none⟩ (.slice none 0 0)).cell? ⟨w.heap.size, 1, none⟩ = some (.slice none 0 0) := World.cell?_setCell_same _ _ _ ((World.cell?_setCell_other _ _ _ _ (by simp)).trans q1)
      gi_wp2
      exact ⟨.agg #[.int .i64 (vF ps), .slice none 0 0], by simp [results, Try.results17, go_sem, g0, g1], _, rfl, HFn.out.1, HFn.out.2⟩
  · have hC : C = vF vs ∧ R = [] := by
      have e : dfC vs ps = vF vs := by unfold dfC; rw [if_neg h1]
      exact ⟨by rw [← HC.out, e], by rw [← HR.out]; unfold dfR; rw [e, if_neg h1]⟩
    obtain ⟨rfl, rfl⟩ := hC
    have h2b : (vF vs == 0) = false := by simpa using h1
    have f0 := rf 0
    have f1 := rf 1
    have HFn := hide (ret_putsA (r := w.heap.size) (x := .int .i64 (vF vs)) B1.out (Nat.le_refl _) (OwP_nil (fun _ => False) w1) (fun b hb => hb.elim))
    have g0 : ((w1.setCell ⟨w.heap.size, 0, none⟩ (.int .i64 (vF vs))).setCell ⟨w.heap.size, 1, none⟩ (.slice none 0 0)).cell? ⟨w.heap.size, 0, none⟩ = some (.int .i64 (vF vs)) := (World.cell?_setCell_other _ _ _ _ (by simp)).trans (World.cell?_setCell_same _ _ _ r0)
    have g1 : ((w1.setCell ⟨w.heap.size, 0, none⟩ (.int .i64 (vF vs))).setCell ⟨w.heap.size, 1, none⟩ (.slice none 0 0)).cell? ⟨w.heap.size, 1, none⟩ = some (.slice none 0 0) := World.cell?_setCell_same _ _ _ ((World.cell?_setCell_other _ _ _ _ (by simp)).trans r1)
    clear HF1 HF2
    gi_wp2
    exact ⟨.agg #[.int .i64 (vF vs), .slice none 0 0], by simp [results, Try.results17, go_sem, g0, g1], _, rfl, HFn.out.1, HFn.out.2⟩
end Go.Proofs.Ytiommfabhchgdaa
