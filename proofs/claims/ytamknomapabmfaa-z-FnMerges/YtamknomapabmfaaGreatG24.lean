/- PlanC in one text: what each says stands at its head below. -/
import Derived.Test.YtamknomapabmfaaGreatG23
/- Chapter 3, the model's side: 'l3Append', walked. -/
namespace Go.Proofs.YtamknomapabmfaaGreat
open Go.RowKit

set_option maxHeartbeats 4000000 in
set_option maxRecDepth 4000 in
/-- 'spec.l3Append' of a header and puts that have no fault. -/
theorem l3Append {S T : Nat → Prop} {w : World} {bh o : Nat} {y v : Value} {s t : Int} {A : List Int} {qs : List (Int × List Int)} (hh : HdAt w bh o s t y) (hA : RdI S w y A) (hq : RdP T w v qs) (hhd : headF s t A = 0) (hs2 : s < 65000) (hqf : hpF 12 qs = 0) (hn : A.length + qs.length ≤ 24) :
    Calls Tryz.prog 68 #[.pointer (some ⟨bh, o, none⟩), v] w fun e w' => ∃ z, e = .returned z ∧ Below w.heap.size w w' ∧ BuiltT (w.heap.size ≤ ·) w' z (qs.length + 3) (apTs s t A qs) := by
  obtain ⟨⟨hs1, _, ht, ht'⟩, hl24, _⟩ := headF_zero hhd
  obtain ⟨_, hqA⟩ := hpF_zero hqf
  obtain ⟨i0, hi, hz0, hz1, hz2⟩ := info_parts Tryz.infoStep
  obtain ⟨j0, hj, jz0, jz1, jz2⟩ := info_parts Tryz.infoInt
  obtain ⟨ay, cy, rfl⟩ := hA.shape
  obtain ⟨av, cv, rfl, _⟩ := hq.shape
  have HHd := hide (fun (w' : World) (y' : Value) (L : List Int) (hL : L = A ++ qs.map Prod.fst) (h : RdI (fun _ => True) w' y' L) => l3Head (s + 1) t h (by rw [hL]; simp; omega) (by omega))
  have HPl := hide (packL_len (s := s + 1) (t := t) (xs := A ++ qs.map Prod.fst) (by simp; omega))
  have HSl := hide (fun (w' : World) (hb : Below w.heap.size w w') (r : Nat) (hr : r ≤ 24) => l3Slot (r : Int) w' (hh.later hb) ht ht' (by omega) (by omega))
  have HLi := hide (fun (w' : World) (hb : Below w.heap.size w w') => l1IntsOwn (hA.later hb) (by omega))
  have HTA := hide (apTs_at s t A qs)
  have HT0 := hide (apTs_0 s t A qs)
  have HT1 := hide (apTs_1 s t A qs)
  have HT2 := hide (apTs_2 s t A qs)
  generalize apTs s t A qs = ts at HTA HT0 HT1 HT2 ⊢
  obtain ⟨l, hl⟩ : ∃ l, A.length = l := ⟨_, rfl⟩
  obtain ⟨m, hm⟩ : ∃ m, qs.length = m := ⟨_, rfl⟩
  have HQ := hide hq
  have HM := hide hm
  have HL := hide hl
  have HqA := hide hqA
  have HHh := hide hh
  rw [hm] at HT0 HT1 HT2 hn ⊢
  rw [hl] at HLi HTA hl24 hn
  obtain ⟨LL, hLL⟩ : ∃ LL, A ++ qs.map Prod.fst = LL := ⟨_, rfl⟩
  have HLL := hide hLL
  rw [hLL] at HT1 HPl
  have hws : IntKind.i64.wrap (s + 1) = s + 1 := by simp [IntKind.wrap, IntKind.bits, IntKind.signed]; omega
  have A0 := hide (below_alloc w (.cells #[] 115))
  have HW : Hid (Below w.heap.size w (w.alloc (.cells #[] 115)) ∧ HdAt (w.alloc (.cells #[] 115)) bh o s t (.slice ay l cy) ∧ BuiltT (w.heap.size ≤ ·) (w.alloc (.cells #[] 115)) (.slice (some ⟨w.heap.size, 0, none⟩) 0 0) 0 ts) :=
    ⟨A0.out, by have := hh.later A0.out; rw [hl] at this; exact this, BuiltT.empty w _ (Nat.le_refl _) ts⟩
  clear hh hA hq hhd hqf hqA hl hm hLL A0
  go_enter Tryz.func68, Tryz.ntmps68
  go_upto_region 2 with fail
  refine forget (fun wx => Below w.heap.size w wx ∧ HdAt wx bh o s t (.slice ay l cy) ∧ BuiltT (w.heap.size ≤ ·) wx (.slice (some ⟨w.heap.size, 0, none⟩) 0 0) 0 ts) HW.out ?_
  clear HW
  rintro V ⟨hbV, hHd, hbu⟩
  have HBV := hide hbV
  have HBu := hide hbu
  have h0 := hHd.seq
  have h1 := hHd.start
  have h2 := hHd.addrs
  have hbl : bh < V.heap.size := World.block_lt_of_cell? _ _ h0
  clear hbV hHd hbu
  obtain ⟨W1, hW1⟩ : ∃ W1, V.drew = W1 := ⟨_, rfl⟩
  obtain ⟨W2, hW2⟩ : ∃ W2, (V.alloc (.cells #[.int .i64 0, .int .i64 0, .slice none 0 0] 102)).drew = W2 := ⟨_, rfl⟩
  have b1 : Below V.heap.size V W1 := by rw [← hW1]; exact below_drewN V 1
  have z1 : W1.heap.size = V.heap.size := by rw [← hW1]; rfl
  have b2 : Below V.heap.size V W2 := by rw [← hW2]; exact below_on (below_alloc V _) (below_drewN _ 1)
  have z2 : W2.heap.size = V.heap.size + 1 := by rw [← hW2]; show (V.alloc _).heap.size = _; simp
  have m0 : W2.cell? ⟨V.heap.size, 0, none⟩ = some (.int .i64 0) := by rw [← hW2]; show (V.alloc _).cell? _ = _; simp [go_sem]
  have m1 : W2.cell? ⟨V.heap.size, 1, none⟩ = some (.int .i64 0) := by rw [← hW2]; show (V.alloc _).cell? _ = _; simp [go_sem]
  have m2 : W2.cell? ⟨V.heap.size, 2, none⟩ = some (.slice none 0 0) := by rw [← hW2]; show (V.alloc _).cell? _ = _; simp [go_sem]
  have mf : ∀ o, W2.frozen? ⟨V.heap.size, o, none⟩ = false := by rw [← hW2]; intro o; show (V.alloc _).frozen? _ = _; simp [go_sem]
  have Q1 := hide (And.intro b1 z1)
  have Q2 := hide (And.intro (And.intro b2 z2) (And.intro m0 (And.intro m1 (And.intro m2 mf))))
  have HW1 := hide hW1
  have HW2 := hide hW2
  clear hW1 hW2 b1 b2 z1 z2 m0 m1 m2 mf
  go_wp2_with fail
  go_region_held3 (fun w' => w'.cell? ⟨bh, o, none⟩ = some (.int .i64 s) ∧ w'.cell? ⟨bh, o + 1, none⟩ = some (.int .i64 t) ∧ w'.cell? ⟨bh, o + 2, none⟩ = some (.slice ay l cy)) (simp [go_sem, *])
    (first
      | (go_at_call 30; rw [HW1.out]; refine (HLi.out W1 (below_on HBV.out Q1.out.1)).mono ?_; rintro e w4 ⟨z4, rfl, hb4, ho4⟩; obtain ⟨a4, k4, rfl⟩ := owns_shape ho4; have c0 := cell_later hb4 (cell_later Q1.out.1 h0); have c1 := cell_later hb4 (cell_later Q1.out.1 h1); have c3 := cell_later hb4 (cell_later Q1.out.1 h2); have HB4 := hide (below_on Q1.out.1 hb4); have HO4 := hide ho4; have hw4 : bh < w4.heap.size := World.block_lt_of_cell? _ _ c0; have hr4 : ¬ bh = w4.heap.size := (by omega); clear hb4 ho4)
      | (go_at_call 30; rw [HW2.out]; refine (HLi.out W2 (below_on HBV.out Q2.out.1.1)).mono ?_; rintro e w4 ⟨z4, rfl, hb4, ho4⟩; obtain ⟨a4, k4, rfl⟩ := owns_shape ho4; have c0 := cell_later hb4 (cell_later Q2.out.1.1 h0); have c1 := cell_later hb4 (cell_later Q2.out.1.1 h1); have c3 := cell_later hb4 (cell_later Q2.out.1.1 h2); have n0 := cell_later hb4 Q2.out.2.1; have n1 := cell_later hb4 Q2.out.2.2.1; have n2 := cell_later hb4 Q2.out.2.2.2.1; have nf0 := ((bcell hb4).2 _ 0 (by rw [Q2.out.1.2]; exact Nat.lt_succ_self _)).trans (Q2.out.2.2.2.2 0); have nf1 := ((bcell hb4).2 _ 1 (by rw [Q2.out.1.2]; exact Nat.lt_succ_self _)).trans (Q2.out.2.2.2.2 1); have nf2 := ((bcell hb4).2 _ 2 (by rw [Q2.out.1.2]; exact Nat.lt_succ_self _)).trans (Q2.out.2.2.2.2 2); have HNf : Hid (∀ o, w4.frozen? ⟨V.heap.size, o, none⟩ = false) := (fun o => ((bcell hb4).2 _ o (by rw [Q2.out.1.2]; exact Nat.lt_succ_self _)).trans (Q2.out.2.2.2.2 o)); have HB4 := hide (below_on Q2.out.1.1 hb4); have HO4 := hide ho4; have hw4 : V.heap.size < w4.heap.size := World.block_lt_of_cell? _ _ n0; clear hb4 ho4))
  case' _ =>
    clear c0 c1 c3
    obtain ⟨V5, hV5⟩ : ∃ V5, w4.alloc (.cells #[.int .i64 (s + 1), .int .i64 t, .slice a4 l k4] 102) = V5 := ⟨_, rfl⟩
    have HSt : Hid (ApAt w w4.heap.size (s + 1) t A l a4 k4 (.slice (some ⟨w.heap.size, 0, none⟩) 0 0) 0 ts V5) := by
      rw [← hV5]
      have hbA := below_alloc w4 (.cells #[.int .i64 (s + 1), .int .i64 t, .slice a4 l k4] 102)
      have q1 := HBV.out.size
      have q2 := HB4.out.size
      have q3 := Q1.out.2
      refine ⟨ownsRow_base (ownsRow_later HO4.out hbA) (by omega), below_on (below_on HBV.out HB4.out) hbA, HdAt_new _ _ _ _ _, by omega, by simp, fun o => by simp [go_sem], fun e => by have := (HO4.out.lt _ e).2; omega, ?_⟩
      exact ((HBu.out.mono (P' := fun b => w.heap.size ≤ b ∧ b ≠ w4.heap.size ∧ (Value.slice a4 l k4).ownBlock ≠ some b) (fun b hP hb => ⟨hP, by omega, fun e => by have := (HO4.out.lt _ e).1; omega⟩)).later HB4.out).later hbA
    obtain ⟨N, hN⟩ : ∃ N, w4.heap.size = N := ⟨_, rfl⟩
    rw [hN] at HSt
    rw [hV5]
    (try rw [hN])
    clear hV5 hN hw4 hr4
  rotate_left
  case' _ =>
    clear c0 c1 c3
    obtain ⟨V5, hV5⟩ : ∃ V5, ((w4.setCell ⟨V.heap.size, 0, none⟩ (.int .i64 (s + 1))).setCell ⟨V.heap.size, 1, none⟩ (.int .i64 t)).setCell ⟨V.heap.size, 2, none⟩ (.slice a4 l k4) = V5 := ⟨_, rfl⟩
    have HSt : Hid (ApAt w V.heap.size (s + 1) t A l a4 k4 (.slice (some ⟨w.heap.size, 0, none⟩) 0 0) 0 ts V5) := by
      rw [← hV5]
      have q1 := HBV.out.size
      have q2 := HB4.out.size
      have q3 := Q2.out.1.2
      have hne : (Value.slice a4 l k4).ownBlock ≠ some V.heap.size := fun e => by have := (HO4.out.lt _ e).1; omega
      refine ⟨ownsRow_base (ownsRow_wr1 (ownsRow_wr1 (ownsRow_wr1 HO4.out hne) hne) hne) (by omega), (((below_on HBV.out HB4.out).setCell (p := ⟨V.heap.size, 0, none⟩) q1 _).setCell (p := ⟨V.heap.size, 1, none⟩) q1 _).setCell (p := ⟨V.heap.size, 2, none⟩) q1 _, ⟨by simp [go_sem, n0], by simp [go_sem, n1], by simp [go_sem, n2]⟩, q1, by simp; omega, fun o => ?_, hne, ?_⟩
      · have := HNf.out o
        simp [go_sem, this]
      · have o1 := (HBu.out.mono (P' := fun b => w.heap.size ≤ b ∧ b ≠ V.heap.size ∧ (Value.slice a4 l k4).ownBlock ≠ some b) (fun b hP hb => ⟨hP, by omega, fun e => by have := (HO4.out.lt _ e).1; omega⟩)).later HB4.out
        refine o1.keep (by simp) (fun b hb hP => ?_)
        have hw : Wr (fun y => y = V.heap.size) w4 (((w4.setCell ⟨V.heap.size, 0, none⟩ (.int .i64 (s + 1))).setCell ⟨V.heap.size, 1, none⟩ (.int .i64 t)).setCell ⟨V.heap.size, 2, none⟩ (.slice a4 l k4)) := (((Wr.refl (fun y => y = V.heap.size) _).setCell (p := ⟨V.heap.size, 0, none⟩) rfl _).setCell (p := ⟨V.heap.size, 1, none⟩) rfl _).setCell (p := ⟨V.heap.size, 2, none⟩) rfl _
        exact hw.block b hb hP.2.1
    obtain ⟨N, hN⟩ : ∃ N, V.heap.size = N := ⟨_, rfl⟩
    rw [hN] at HSt
    rw [hV5]
    (try rw [hN])
    clear hV5 hN hw4 n0 n1 n2 nf0 nf1 nf2 HNf
  all_goals
    clear HB4 HO4 h0 h1 h2 hbl HBu HBV Q1 Q2 HW1 HW2 HLi
    go_wp2
    go_loopw [5, 7] (fun vo i wr => ∃ (k r : Nat) (ao : Option Addr) (c : Nat), k ≤ m ∧ l + k = r ∧ i = .int .i64 k ∧ Hid (∃ av cv, vo = .slice av k cv) ∧ Hid (ApAt w N (s + 1) t (A ++ (qs.map Prod.fst).take k) r ao c vo k ts wr)) (fun _ i _ => m - (intOf i).toNat)
    case atStart => exact ⟨0, l, a4, k4, Nat.zero_le _, rfl, rfl, ⟨_, _, rfl⟩, by have := HSt.out; simpa [Hid] using this⟩
    case round =>
      obtain ⟨k, r, ao, c, hk, hr, rfl, HSh, HS⟩ := hrel
      obtain ⟨ap, cp, rfl⟩ := HSh.out
      have hlt' := HS.out.lt
      have x2 := HS.out.hd.addrs
      simp only [Nat.zero_add] at x2
      have hr24 : r ≤ 24 := by omega
      by_cases hlt : k < m
      · obtain ⟨b2, off2, V2, rfl, q1, q2, q3⟩ := HQ.out.at (k := k) (by rw [HM.out]; exact hlt)
        obtain ⟨ao3, c3, rfl⟩ := q3.shape
        have HBw := hide HS.out.below
        have g1 := cell_later HBw.out q1
        have g2 := cell_later HBw.out q2
        have hw64 := (wordsF_zero (HqA.out k (by rw [HM.out]; exact hlt)).2).1
        have HCp := hide (fun (w' : World) (hb : Below w.heap.size w w') => l1Ints (q3.later hb) (by omega))
        have HTk := hide (HTA.out k (by rw [HM.out]; exact hlt))
        have HSk := hide (fun (w' : World) (hb : Below w.heap.size w w') => HSl.out w' hb r hr24)
        rw [show ((l : Int) + (k : Int)) = (r : Int) by omega] at HTk
        obtain ⟨x, hx⟩ : ∃ x, (qs.getD k (0, [])).1 = x := ⟨_, rfl⟩
        obtain ⟨ws, hws'⟩ : ∃ ws, (qs.getD k (0, [])).2 = ws := ⟨_, rfl⟩
        have HX := hide hx
        rw [hx] at g1
        rw [hws'] at g2 HCp HTk hw64
        obtain ⟨l3, hl3⟩ : ∃ l3, ws.length = l3 := ⟨_, rfl⟩
        have HL3 := hide hl3
        rw [hl3] at g2 HCp
        obtain ⟨p, hp⟩ : ∃ p, (t + (r : Int)) % 24 = p := ⟨_, rfl⟩
        have hp1 : 0 ≤ p ∧ p ≤ 23 := by omega
        rw [hp] at HTk HSk
        have hwp : IntKind.i64.wrap (2 + p) = 2 + p := by simp [IntKind.wrap, IntKind.bits, IntKind.signed]; omega
        have hk0 : (0 : Int) ≤ (k : Int) := Int.natCast_nonneg _
        have hk1 : (k : Int) < (m : Int) := by omega
        obtain ⟨V3, Bk3, hown3', hpr3, hin3⟩ := HS.out.out
        have HOw := hide hown3'
        have HPr := hide hpr3
        have HIn := hide hin3
        have hbw : b2 < w.heap.size := World.block_lt_of_cell? _ _ q1
        have hzw := HBw.out.size
        clear q1 q2 q3 hx hws' hl3 hp hown3' hpr3 hin3
        go_wp2_with fail
        go_region_held3 (fun w' => w'.cell? ⟨N, 2, none⟩ = some (.slice ao r c) ∧ w'.cell? ⟨b2, off2 + k * 2 + 1, none⟩ = some (.slice ao3 l3 c3)) (first | exact ⟨x2, g2⟩ | exact ⟨e0, e1⟩ | exact ⟨cell_later (below_alloc w1 _) e0, cell_later (below_alloc w1 _) e1⟩ | exact ⟨(farN _).trans x2, (farP _).trans g2⟩)
          (first
            | (refine step_append_lies _ (by rfl) _ _ _ (by rfl) 0 115 i0 (.agg #[.bool false, .int .i64 0, .slice none 0 0]) 3 40 Tryz.underlying86 hi hz0 hz1 hz2 rfl (by omega) _ k _ (by rfl) (ownsRow_later (ownsRow_later HOw.out HB1.out) (below_alloc w1 (.cells #[.bool false, .int .i64 (2 + p), .slice a1 l3 k1] 115))) ⟨w1.heap.size, 0, none⟩ 1 1 [.bool false, .int .i64 (2 + p), .slice a1 l3 k1] (by rfl) (by rfl) (World.news_of_block (cs := #[.bool false, .int .i64 (2 + p), .slice a1 l3 k1]) (t := 115) (fr := (0, 0)) (heap_alloc_new w1 _)) cells3_one (by omega) (by unfold maxLen; omega) (by omega) (Nat.zero_le _) (w1.heap.size + 1) (by simp) ?_; intro g cap w3 hown3 hgrow hat hlt3; have farN : ∀ o, w3.cell? ⟨N, o, none⟩ = wr.cell? ⟨N, o, none⟩ := fun o => (hgrow.cell_far ⟨N, o, none⟩ (by simp; omega) (fun e => (HPr.out _ e.symm).2.1 rfl)).trans (((bcell (below_alloc w1 _)).1 _ _ (by omega)).trans ((bcell HB1.out).1 _ _ hlt')); have farP : ∀ o, w3.cell? ⟨b2, o, none⟩ = wr.cell? ⟨b2, o, none⟩ := fun o => (hgrow.cell_far ⟨b2, o, none⟩ (by simp; omega) (fun e => by have := (HPr.out _ e.symm).1; dsimp only at this; omega)).trans (((bcell (below_alloc w1 _)).1 _ _ (by omega)).trans ((bcell HB1.out).1 _ _ (by omega))))
            | (go_at_call 30; refine (HCp.out _ (below_on HBw.out (below_drewN wr 1))).mono ?_; rintro e w1 ⟨z, rfl, hb1, ho1⟩; obtain ⟨a1, k1, hz1'⟩ := ho1.shape; rw [HL3.out] at hz1'; subst hz1'; have e0 := cell_later hb1 x2; have e1 := cell_later hb1 g2; have HB1 := hide (below_on (below_drewN wr 1) hb1); have HO1 := hide ho1; have hz1w : wr.heap.size ≤ w1.heap.size := hb1.size; have hbw2 : b2 < w1.heap.size := World.block_lt_of_cell? _ _ e1; clear hb1 ho1)
            | (go_at_call 82; refine (HSk.out _ (by first | exact below_on HBw.out (below_drewN wr 1) | exact below_on HBw.out HB1.out)).mono ?_; rintro e wq ⟨rfl, rfl⟩))
        all_goals
          have HS3 := hide (ApAt.put HS.out HIn.out HOw.out HPr.out HB1.out (by rw [HTk.out]; exact HO1.out.mono (Nat.le_refl _)) (below_alloc w1 (.cells #[.bool false, .int .i64 (2 + p), .slice a1 l3 k1] 115)) (by rw [HTk.out]; exact hown3) hgrow (by simpa using hat))
          have y2 := (farN 2).trans x2
          have y1 := (farP (off2 + k * 2)).trans g1
          have yf := HS3.out.fr 2
          have hlt3' := HS3.out.lt
          have hz3' := HS3.out.below.size
          clear hown3 hgrow hat farN farP x2 g1 g2 e0 e1
          have d2 : (w3.drew.alloc (.cells #[.int .i64 x] 2)).cell? ⟨N, 2, none⟩ = some (.slice ao r c) := cell_later (below_alloc w3.drew _) y2
          have e2 : (w3.alloc (.cells #[.int .i64 x] 2)).cell? ⟨N, 2, none⟩ = some (.slice ao r c) := cell_later (below_alloc w3 _) y2
          have HOa : Hid ((w3.drew.alloc (.cells #[.int .i64 x] 2)).ownsRow w.heap.size 2 1 (.slice ao r c) r ((A ++ (qs.map Prod.fst).take k).map (Value.int .i64))) := ownsRow_later (ownsRow_later HS3.out.own (below_drewN _ 1)) (below_alloc _ _)
          have HTake : Hid ((qs.map Prod.fst).take (k + 1) = (qs.map Prod.fst).take k ++ [x]) := by
            unfold Hid
            have hkl : k < (qs.map Prod.fst).length := by simp [HM.out]; exact hlt
            rw [List.take_succ_eq_append_getElem hkl, ← HX.out]
            simp [List.getD, HM.out, hlt]
          go_wp2_with fail
          go_region_law (refine step_append_lies _ (by rfl) _ _ _ (by rfl) w.heap.size 2 j0 (.int .i64 0) 1 8 Tryz.underlying24 hj jz0 jz1 jz2 rfl (by omega) (.slice ao r c) r _ (by rfl) HOa.out ⟨w3.heap.size, 0, none⟩ 1 1 [.int .i64 x] (by rfl) (by rfl) (World.news_of_block (cs := #[.int .i64 x]) (t := 2) (fr := (0, 0)) (heap_alloc_new w3.drew _)) (by simp [Value.oneCell']) (by omega) (by unfold maxLen; omega) (by omega) (by simp; omega) (w3.heap.size + 1) (by simp) ?_; intro g6 cap6 w6 hown6 hgrow6 hat6 hlt6; have s0 := (hgrow6.cell_far ⟨N, 2, none⟩ (by simp; omega) (fun e => HS3.out.ne e.symm)).trans d2; have s1 : w6.frozen? ⟨N, 2, none⟩ = false := (hgrow6.frozen_far ⟨N, 2, none⟩ (by simp; omega) (fun e => HS3.out.ne e.symm)).trans (((bcell (below_alloc w3.drew _)).2 _ _ (by simp; omega)).trans yf))
          all_goals
            have HS6 := hide (ApAt.addr HS3.out (below_on (below_drewN w3 1) (below_alloc w3.drew (.cells #[.int .i64 x] 2))) (x := x) hown6 hgrow6 (by simpa using hat6))
            rw [List.append_assoc, ← HTake.out] at HS6
            clear hown6 hgrow6 hat6 s0 s1 d2 e2 HOa
            go_wp2
            go_roundw
            case rel => exact ⟨k + 1, r + 1, _, _, hlt, by omega, by go_num, ⟨_, _, rfl⟩, HS6.out⟩
            case measure => simp [intOf]; omega
      · have hkm : k = m := by omega
        subst hkm
        have hLf : A ++ (qs.map Prod.fst).take k = LL := by rw [← HLL.out, List.take_of_length_le (by simp [HM.out])]
        rw [hLf] at HS
        have HBw := hide HS.out.below
        obtain ⟨V3, Bk3, hown3', hpr3, hin3⟩ := HS.out.out
        have HOw := hide hown3'
        have HPr := hide hpr3
        have HIn := hide hin3
        have HRd := hide ((ow_of_owns (by rw [← HLL.out]; simp [HL.out, HM.out]; omega) HS.out.own (by rw [← HLL.out]; simp [HL.out, HM.out]; omega)).rd.narrow (fun _ _ _ => trivial) : RdI (fun _ => True) wr (.slice ao r c) LL)
        have x0 := HS.out.hd.seq
        have x1 := HS.out.hd.start
        simp only [Nat.zero_add] at x1
        have HHk := hide (HHd.out wr _ LL HLL.out.symm HRd.out)
        rw [HPl.out] at HHk
        generalize (s + 1) % 2 = p at HHk HT1
        generalize packL (s + 1) t LL = ws at HHk HT1 HPl
        have hz0' := HS.out.below.size
        clear hown3' hpr3 hin3 hLf
        go_wp2_with fail
        refine HHk.out.mono ?_
        rintro e w5 ⟨g5, a4, k4, w4, rfl, hb4, ho4, rfl, rfl⟩
        have HB4 := hide hb4
        have HO4 := hide ho4
        have hz4 := hb4.size
        clear hb4 ho4
        go_wp2_with (at_builtin; refine wpList_append_lies _ rfl _ _ _ rfl 0 115 i0 (.agg #[.bool false, .int .i64 0, .slice none 0 0]) 3 40 Tryz.underlying86 hi hz0 hz1 hz2 rfl (by omega) _ k _ (by rfl) (ownsRow_later (ownsRow_later HOw.out HB4.out) (below_alloc w4 (.cells (nine p (.slice a4 64 k4)).toArray 115))) ⟨w4.heap.size, 0, none⟩ 3 3 (nine p (.slice a4 64 k4)) (by rfl) (by rfl) (World.news_of_block (cs := (nine p (.slice a4 64 k4)).toArray) (t := 115) (fr := (0, 0)) (heap_alloc_new w4 _)) cells9_one (by omega) (by unfold maxLen; omega) (by omega) (Nat.zero_le _) (w4.heap.size + 1) (by simp) ?_)
        intro g cap w6 hown6 hgrow hat hlt6
        have HS6 := hide (BuiltT.three (P' := (w.heap.size ≤ ·)) HIn.out HOw.out HPr.out HT0.out HT1.out HT2.out (fun b hb => hb.1) (fun b hb => by omega) HB4.out HO4.out (below_alloc w4 (.cells (nine p (.slice a4 64 k4)).toArray 115)) hown6 hgrow (by simpa using hat))
        have HB6 := hide ((below_on (below_on HBw.out HB4.out) (below_alloc w4 (.cells (nine p (.slice a4 64 k4)).toArray 115))).grown hgrow (by simp; omega) (fun r hr => (HPr.out r hr).1))
        clear hown6 hgrow hat
        go_wp2
        go_ret
        exact ⟨_, rfl, HB6.out, HS6.out⟩
end Go.Proofs.YtamknomapabmfaaGreat
