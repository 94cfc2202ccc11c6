/- Vw2 in one text: what each says stands at its head below. -/
import Derived.Test.YtlmaopljihbdkaaGreatG38
import Derived.Test.YtlmaopljihbdkaaGreatG20
namespace Go.Proofs.YtlmaopljihbdkaaGreat
open Go.RowKit Go.Maps
theorem viewTo_len_le (M : Int → List Int) (k : Nat) : (viewTo M k).length ≤ k := by simp only [viewTo, List.length_map]; exact keysTo_len M k
theorem viewTo_at (M : Int → List Int) : ∀ (j k : Nat), k < j → M (k : Int) ≠ [] → (viewTo M j).getD (viewTo M k).length (0, []) = ((k : Int), M (k : Int))
  | 0, k, h, _ => absurd h (Nat.not_lt_zero _)
  | j + 1, k, h, hn => by
    rw [viewTo_succ]
    by_cases e : k = j
    · subst e
      rw [if_neg hn, List.getD, List.getElem?_append_right (Nat.le_refl _)]
      simp
    · have ih := viewTo_at M j k (by omega) hn
      have hl : (viewTo M k).length < (viewTo M j).length := by
        have h2 : ∀ i, k < i → (viewTo M k).length < (viewTo M i).length := by
          intro i
          induction i with
          | zero => intro h; omega
          | succ i ihi =>
            intro h
            rw [viewTo_succ, List.length_append]
            by_cases e2 : k = i
            · subst e2; rw [if_neg hn]; simp
            · have := ihi (by omega); omega
        exact h2 j (by omega)
      rw [List.getD, List.getElem?_append_left hl]
      exact ih
structure VwAt (w V : World) (R : Nat) (L : List (Int × List Int)) (j : Nat) (ao : Option Addr) (c : Nat) (wr : World) : Prop where
  bu : BuiltP (R < ·) wr (.slice ao j c) j L
  below : Below R V wr
  lt : R < wr.heap.size
  h0 : wr.cell? ⟨R, 0, none⟩ = some (.int .i64 0)
  h1 : wr.cell? ⟨R, 1, none⟩ = some (.slice ao j c)
  hf : ∀ o, wr.frozen? ⟨R, o, none⟩ = false
theorem VwAt.later {w V : World} {R : Nat} {L : List (Int × List Int)} {j : Nat} {ao : Option Addr} {c : Nat} {wr w1 : World} (h : VwAt w V R L j ao c wr) (hb : Below wr.heap.size wr w1) : VwAt w V R L j ao c w1 :=
  ⟨h.bu.later hb, h.below.trans (hb.mono (Nat.le_of_lt h.lt)), Nat.lt_of_lt_of_le h.lt hb.size, cell_later hb h.h0, cell_later hb h.h1, fun o => ((bcell hb).2 _ _ h.lt).trans (h.hf o)⟩
theorem VwAt.step {w V wr w1 w3 : World} {R j c g cap : Nat} {L : List (Int × List Int)} {ao : Option Addr} {z : Value} {o : Obj} (h : VwAt w V R L j ao c wr) {Vf : Nat → Value} {Bk : Nat → Nat}
    (hin : Inner (R < ·) wr (Value.slice ao j c).ownBlock j Vf Bk (fun i => (L.getD i (0, [])).2)) (hr : wr.ownsRow 0 74 2 (.slice ao j c) j (cellsP L j Vf)) (hpr : ∀ r, (Value.slice ao j c).ownBlock = some r → R < r)
    (hb1 : Below wr.heap.size wr w1) (hz : OwI wr.heap.size w1 z (L.getD j (0, [])).2)
    (hown : w3.ownsRow 0 74 2 (.slice (some ⟨g, 0, none⟩) (j + 1) cap) (j + 1) (cellsP L j Vf ++ [.int .i64 (L.getD j (0, [])).1, z])) (hg : (w1.alloc o).grownBy w3 (Value.slice ao j c).ownBlock) (hat : (Value.slice ao j c).ownBlock = some g ∨ g = (w1.alloc o).heap.size) :
    VwAt w V R L (j + 1) (some ⟨g, 0, none⟩) cap (w3.setCell ⟨R, 1, none⟩ (.slice (some ⟨g, 0, none⟩) (j + 1) cap)) := by
  have hl := h.lt
  have hs1 := hb1.size
  have hB : Below (R + 1) wr w3 := ((hb1.mono (by omega)).trans ((below_alloc w1 o).mono (by omega))).grown hg (by simp; omega) (fun r hr' => hpr r hr')
  have hs := hB.size
  have hc : ∀ b o, b < R + 1 → w3.cell? ⟨b, o, none⟩ = wr.cell? ⟨b, o, none⟩ := fun b o hb => hB.cell (p := ⟨b, o, none⟩) hb
  have hz' : ∀ b o, b < R + 1 → w3.frozen? ⟨b, o, none⟩ = wr.frozen? ⟨b, o, none⟩ := fun b o hb => hB.frozen (p := ⟨b, o, none⟩) hb
  have hbu := BuiltP.step (P' := (R < ·)) (ps := L) hin hr hpr (fun _ h => h) (fun b hb => Nat.lt_of_lt_of_le hl hb) hb1 hz (below_alloc w1 o) hown hg hat
  refine ⟨hbu.set (fun b hb => by omega), ?_, by simp; omega, ?_, ?_, fun o => ?_⟩
  · exact (h.below.trans (hB.mono (by omega))).setCell (Nat.le_refl _) _
  · rw [World.cell?_setCell_other _ _ _ _ (by intro e; injection e with _ e; omega), hc _ _ (by omega)]; exact h.h0
  · exact World.cell?_setCell_same _ _ _ ((hc _ _ (by omega)).trans h.h1)
  · rw [World.frozen?_setCell, hz' _ _ (by omega)]; exact h.hf o
set_option maxHeartbeats 2000000 in
set_option maxRecDepth 4000 in
theorem specViewOf {S T : Nat → Prop} {w : World} {u v : Value} {xss : List (List Int)} {ps : List (Int × List Int)} (hu : RdII S w u xss) (hv : RdP T w v ps) (hs : Small xss ps) :
    Calls Tryz.prog 106 #[.agg #[u, v]] w (EndsP (lgF xss ps) (vwL xss ps) w) := by
  unfold EndsP vwL
  obtain ⟨ao, c, rfl, _⟩ := hu.shape
  obtain ⟨ao', c', rfl, _⟩ := hv.shape
  have HLg := hide (fun (w' : World) (hb : Below w.heap.size w w') => specLogOf (hu.later hb) (hv.later hb) hs)
  have HU := hide hu
  have HV := hide hv
  obtain ⟨n, hn⟩ : ∃ n, xss.length = n := ⟨_, rfl⟩
  obtain ⟨m, hm⟩ : ∃ m, ps.length = m := ⟨_, rfl⟩
  have A0 := hide (below_on (below_alloc w (.cells #[.slice ao n c, .slice ao' m c'] 59)) (below_alloc _ (.cells #[.int .i64 0, .slice none 0 0] 29)))
  unfold lgF at HLg ⊢
  by_cases h0 : inF xss ps = 0
  · obtain ⟨h66, hl24, hlg⟩ := lg_facts hs h0
    have HSI := hide (fun (L : Nat → Prop) (w' : World) (z : Value) (bd : Nat) (a : Int) (hb : Below w.heap.size w w') (hd0 : w'.cell? ⟨bd, 0, none⟩ = some (.slice ao xss.length c)) (hd1 : w'.cell? ⟨bd, 1, none⟩ = some (.slice ao' ps.length c')) (hz : RdP L w' z (lgP xss ps)) (h1 : 0 ≤ a) (h2 : a < 40) => l4Read a hd0 hd1 (HU.out.later hb) (HV.out.later hb) hs h66 hz (fun i hi => (hlg i hi).2) h1 h2)
    have HLn := hide (fun (a : Int) (h1 : 0 ≤ a) (h2 : a < 40) => rh_len hs h0 h1 h2)
    rw [if_pos h0]
    rw [h0] at HLg
    rw [h0]
    generalize lgP xss ps = lps at HLg HSI HLn hl24 ⊢
    generalize homeM xss ps 40 = M at HSI HLn ⊢
    obtain ⟨l, hl⟩ : ∃ l, lps.length = l := ⟨_, rfl⟩
    have HL := hide hl
    rw [hn, hm] at HLg HSI
    rw [hl] at hl24
    rw [hn, hm]
    clear hu hv hs hn hm HU HV h0 h66 hlg hl
    generalize lps.foldl putM M = M' at HSI HLn ⊢
    obtain ⟨rs, hrs⟩ : ∃ rs, viewTo M' 40 = rs := ⟨_, rfl⟩
    have HRS := hide hrs
    rw [hrs]
    clear hrs
    obtain ⟨lr, hlr⟩ : ∃ lr, rs.length = lr := ⟨_, rfl⟩
    have HLR := hide hlr
    clear hlr
    go_enter Tryz.func106, Tryz.ntmps106
    go_wp2_with fail
    refine (HLg.out _ A0.out).mono ?_
    rintro e w1 ⟨z1, rfl, hb1, ho1⟩
    obtain ⟨a1, k1, hz1⟩ := ho1.shape
    rw [HL.out] at hz1
    subst hz1
    have bR := below_alloc w1 (.cells #[.int .i64 0, .slice a1 l k1] 29)
    have b1R := below_on hb1 bR
    have q0 : w1.cell? ⟨w.heap.size + 1, 0, none⟩ = some (.int .i64 0) := cell_later hb1 (by simp [go_sem])
    have q1 : w1.cell? ⟨w.heap.size + 1, 1, none⟩ = some (.slice none 0 0) := cell_later hb1 (by simp [go_sem])
    have qf : ∀ o, w1.frozen? ⟨w.heap.size + 1, o, none⟩ = false := fun o => ((bcell hb1).2 _ _ (by simp)).trans (by simp [go_sem])
    have d0 : w1.cell? ⟨w.heap.size, 0, none⟩ = some (.slice ao n c) := cell_later hb1 (by simp [go_sem])
    have d1 : w1.cell? ⟨w.heap.size, 1, none⟩ = some (.slice ao' m c') := cell_later hb1 (by simp [go_sem])
    have hlt : w.heap.size + 1 < w1.heap.size := World.block_lt_of_cell? _ _ q0
    have HW : Hid (Below w.heap.size w (w1.alloc (.cells #[.int .i64 0, .slice a1 l k1] 29)) ∧ Var2 (w1.alloc (.cells #[.int .i64 0, .slice a1 l k1] 29)) w.heap.size (.slice ao n c) (.slice ao' m c') ∧ Var2 (w1.alloc (.cells #[.int .i64 0, .slice a1 l k1] 29)) (w.heap.size + 1) (.int .i64 0) (.slice none 0 0) ∧ (∀ o, (w1.alloc (.cells #[.int .i64 0, .slice a1 l k1] 29)).frozen? ⟨w.heap.size + 1, o, none⟩ = false) ∧ Var2 (w1.alloc (.cells #[.int .i64 0, .slice a1 l k1] 29)) w1.heap.size (.int .i64 0) (.slice a1 l k1) ∧ RdP (fun b => b < w1.heap.size) (w1.alloc (.cells #[.int .i64 0, .slice a1 l k1] 29)) (.slice a1 l k1) lps ∧ w1.heap.size < (w1.alloc (.cells #[.int .i64 0, .slice a1 l k1] 29)).heap.size) :=
      ⟨below_on A0.out b1R, ⟨cell_later bR d0, cell_later bR d1⟩, ⟨cell_later bR q0, cell_later bR q1⟩, fun o => ((bcell bR).2 _ _ hlt).trans (qf o), Var2_new _ _ _ _, (RdP_narrow ho1.rd (fun b hb => hb.2)).later bR, by simp⟩
    clear hb1 ho1 bR b1R q0 q1 qf d0 d1 HLg A0
    go_upto_region 4 with fail
    refine forget (fun wx => Below w.heap.size w wx ∧ Var2 wx w.heap.size (.slice ao n c) (.slice ao' m c') ∧ Var2 wx (w.heap.size + 1) (.int .i64 0) (.slice none 0 0) ∧ (∀ o, wx.frozen? ⟨w.heap.size + 1, o, none⟩ = false) ∧ Var2 wx w1.heap.size (.int .i64 0) (.slice a1 l k1) ∧ RdP (fun b => b < w1.heap.size) wx (.slice a1 l k1) lps ∧ w1.heap.size < wx.heap.size) HW.out ?_
    obtain ⟨H, hH⟩ : ∃ H, w1.heap.size = H := ⟨_, rfl⟩
    rw [hH] at hlt ⊢
    clear HW hH
    rintro V ⟨hbV, ⟨d0, d1⟩, ⟨q0, q1⟩, qf, ⟨r0, r1⟩, hR, hHl⟩
    have HBV := hide hbV
    have HQ0 := hide q0
    have HQ1 := hide q1
    have HQf := hide qf
    have HR := hide hR
    clear hbV q0 q1 qf hR
    have HVt := hide (viewTo_at M' 40)
    have HVs := hide (viewTo_succ M')
    have HVn := hide (viewTo_len_le M')
    rw [HRS.out] at HVt
    obtain ⟨i0, hi, hz0, hz1, hz2⟩ := info_parts Tryz.infoPut
    have HSt : Hid (VwAt w V V.heap.size rs 0 none 0 (V.alloc (.cells #[.int .i64 0, .slice none 0 0] 29))) :=
      ⟨BuiltP.nil _ _ _, below_alloc _ _, by simp, by simp [go_sem], by simp [go_sem], fun o => by simp [go_sem]⟩
    go_wp2
    obtain ⟨R, hRR⟩ : ∃ R, V.heap.size = R := ⟨_, rfl⟩
    have HRR := hide hRR
    rw [hRR] at HSt ⊢
    clear hRR
    go_loopw [5, 6] (fun i _ wr => ∃ (k j : Nat) (ao : Option Addr) (c : Nat), k ≤ 40 ∧ i = .int .i64 (k : Int) ∧ j = (viewTo M' k).length ∧ Hid (VwAt w V R rs j ao c wr)) (fun i _ _ => 40 - (RowKit.intOf i).toNat)
    case atStart => exact ⟨0, 0, none, 0, Nat.zero_le _, rfl, by simp [viewTo, keysTo], HSt.out⟩
    case round =>
      clear HSt
      obtain ⟨k, j, ao5, c5, hk, rfl, hj, HS⟩ := hrel
      have hlR := HS.out.lt
      have HBw : Hid (Below w.heap.size w wr) := HBV.out.trans (HS.out.below.mono (by have := HRR.out; have := HBV.out.size; omega))
      have hbVw : Below V.heap.size V wr := by rw [HRR.out]; exact HS.out.below
      have g0 := cell_later hbVw d0
      have g1 := cell_later hbVw d1
      have s0 := cell_later hbVw r0
      have s1 := cell_later hbVw r1
      have HRw := hide (HR.out.later hbVw)
      have HBVw := hide hbVw
      clear hbVw
      have h1 := HS.out.h1
      have hf1 := HS.out.hf 1
      have HJ := hide hj
      clear hj
      by_cases hlt : k < 40
      · have hk40 : (k : Int) < 40 := by omega
        have HRd := hide (HSI.out _ wr _ w.heap.size (k : Int) HBw.out g0 g1 HRw.out (by omega) hk40)
        have HAt := hide (HVt.out k hlt)
        have HSu := hide (HVs.out k)
        obtain ⟨ws, hws⟩ : ∃ ws, M' (k : Int) = ws := ⟨_, rfl⟩
        rw [hws] at HRd HAt HSu
        clear hws
        have hj40 : j ≤ 40 := by rw [HJ.out]; exact Nat.le_trans (HVn.out k) (by omega)
        go_wp2_with fail
        refine HRd.out.mono ?_
        rintro e w3 ⟨z3, rfl, hb3, ho3⟩
        obtain ⟨az, cz, rfl⟩ := ho3.shape
        obtain ⟨lw, hlw⟩ : ∃ lw, ws.length = lw := ⟨_, rfl⟩
        rw [hlw] at ho3 ⊢
        have HLw := hide hlw
        clear hlw
        by_cases hw0 : lw = 0
        · subst hw0
          have hwn : ws = [] := List.eq_nil_of_length_eq_zero HLw.out
          have HS3 := hide (HS.out.later hb3)
          have HJn : Hid (j = (viewTo M' (k + 1)).length) := by rw [Hid, HSu.out, if_pos hwn, List.append_nil]; exact HJ.out
          clear hb3 ho3 h1 hf1
          go_wp2
          go_roundw
          case rel => exact ⟨k + 1, j, ao5, c5, hlt, by go_num, HJn.out, HS3.out⟩
          case measure => simp [RowKit.intOf]; omega
        · have hwn : ws ≠ [] := by rintro rfl; exact hw0 HLw.out.symm
          have hw0' : (0 : Int) < (lw : Int) := by omega
          have HA := hide (HAt.out hwn)
          have hA2 : rs.getD j (0, []) = ((k : Int), ws) := by rw [HJ.out]; exact HA.out
          have HA2 := hide hA2
          have HJn : Hid (j + 1 = (viewTo M' (k + 1)).length) := by rw [Hid, HSu.out, if_neg hwn, List.length_append, ← HJ.out]; rfl
          obtain ⟨V2, Bk2, hown2, hpr, hin⟩ := HS.out.bu
          have HOw0 := hide hown2
          have HPr := hide hpr
          have HIn := hide hin
          have HB1 := hide hb3
          have HO1 := hide ho3
          have hzz := hb3.size
          have h13 := cell_later hb3 h1
          have f13 := ((bcell hb3).2 _ _ hlR).trans hf1
          clear hb3 ho3 hA2 hown2 hpr hin h1 hf1
          go_wp2_with (at_builtin; refine wpList_append_lies _ rfl _ _ _ rfl 0 74 i0 (.agg #[.int .i64 0, .slice none 0 0]) 2 32 Tryz.underlying27 hi hz0 hz1 hz2 rfl (by omega) _ j _ (by rfl) (ownsRow_later (ownsRow_later HOw0.out HB1.out) (below_alloc w3 (.cells #[.int .i64 (k : Int), .slice az lw cz] 74))) ⟨w3.heap.size, 0, none⟩ 1 1 [.int .i64 (k : Int), .slice az lw cz] (by rfl) (by rfl) (World.news_of_block (cs := #[.int .i64 (k : Int), .slice az lw cz]) (t := 74) (fr := (0, 0)) (heap_alloc_new w3 _)) cells2_one (by omega) (by unfold maxLen; omega) (by omega) (Nat.zero_le _) (w3.heap.size + 1) (by simp) ?_)
          intro g cap w4 hown3 hgrow hat hlt3
          have HSt := hide (HS.out.step HIn.out HOw0.out HPr.out HB1.out (by rw [HA2.out]; exact HO1.out) (by rw [HA2.out]; exact hown3) hgrow (by simpa using hat))
          have hR3 : R < w3.heap.size := by omega
          have y1 : w4.cell? ⟨R, 1, none⟩ = some (.slice ao5 j c5) := (hgrow.cell_far ⟨R, 1, none⟩ (by simp; omega) (fun e => by have := HPr.out _ e.symm; dsimp only at this; omega)).trans (cell_later (below_alloc _ _) h13)
          have yf : w4.frozen? ⟨R, 1, none⟩ = false := (hgrow.frozen_far ⟨R, 1, none⟩ (by simp; omega) (fun e => by have := HPr.out _ e.symm; dsimp only at this; omega)).trans (((bcell (below_alloc _ _)).2 _ _ hR3).trans f13)
          clear hown3 hgrow hat hlt3 h13 f13
          go_wp2
          go_roundw
          case rel => exact ⟨k + 1, j + 1, some ⟨g, 0, none⟩, cap, hlt, by go_num, HJn.out, HSt.out⟩
          case measure => simp [RowKit.intOf]; omega
      · have hk4 : k = 40 := by omega
        subst hk4
        have h0' := HS.out.h0
        have hVR := HRR.out
        have hjl : j = lr := by rw [HJ.out, HRS.out]; exact HLR.out
        subst hjl
        have v0 := cell_later HBVw.out HQ0.out
        have v1 := cell_later HBVw.out HQ1.out
        have hq5 : w.heap.size + 1 < V.heap.size := by omega
        have f0 := ((bcell HBVw.out).2 _ _ hq5).trans (HQf.out 0)
        have f1 := ((bcell HBVw.out).2 _ _ hq5).trans (HQf.out 1)
        have HFin := hide (ret_puts (x := .int .i64 0) HBw.out (r := w.heap.size + 1) (by omega) (HS.out.bu.ow HLR.out (by have := HVn.out 40; rw [HRS.out, HLR.out] at this; omega)) (fun b hb => ⟨by have := hb.1; omega, hb.2⟩))
        go_wp2
        exact bodyPost_ret (v := .agg #[.int .i64 0, .slice ao5 j c5]) (by simp [results, Tryz.results106, go_sem, v0, v1]) rfl ⟨_, rfl, HFin.out.1, HFin.out.2⟩
  · rw [if_neg h0]
    rw [hn, hm] at HLg
    rw [hn, hm]
    clear hu hv hs hn hm HU HV
    generalize lgP xss ps = lps at HLg
    generalize inF xss ps = z at HLg h0 ⊢
    obtain ⟨l, hl⟩ : ∃ l, lps.length = l := ⟨_, rfl⟩
    have HL := hide hl
    clear hl
    go_enter Tryz.func106, Tryz.ntmps106
    go_wp2_with fail
    refine (HLg.out _ A0.out).mono ?_
    rintro e w1 ⟨z1, rfl, hb1, ho1⟩
    obtain ⟨a1, k1, hz1⟩ := ho1.shape
    rw [HL.out] at hz1
    subst hz1
    have q0 : w1.cell? ⟨w.heap.size + 1, 0, none⟩ = some (.int .i64 0) := cell_later hb1 (by simp [go_sem])
    have q1 : w1.cell? ⟨w.heap.size + 1, 1, none⟩ = some (.slice none 0 0) := cell_later hb1 (by simp [go_sem])
    have f0 : w1.frozen? ⟨w.heap.size + 1, 0, none⟩ = false := ((bcell hb1).2 _ _ (by simp)).trans (by simp [go_sem])
    have f1 : w1.frozen? ⟨w.heap.size + 1, 1, none⟩ = false := ((bcell hb1).2 _ _ (by simp)).trans (by simp [go_sem])
    have hlt : w.heap.size + 1 < w1.heap.size := World.block_lt_of_cell? _ _ q0
    have HB := hide (below_on A0.out hb1)
    clear hb1 ho1
    go_wp2
    have BA := below_alloc ((w1.setCell ⟨w.heap.size + 1, 0, none⟩ (.int .i64 z)).setCell ⟨w.heap.size + 1, 1, none⟩ (.slice none 0 0)) (.cells #[.int .i64 z, .slice a1 l k1] 29)
    have m0 := cell_later BA (a := ⟨w.heap.size + 1, 0, none⟩) (v := .int .i64 z) (by simp [go_sem, q0])
    have m1 := cell_later BA (a := ⟨w.heap.size + 1, 1, none⟩) (v := .slice none 0 0) (by simp [go_sem, q1])
    exact bodyPost_ret (v := .agg #[.int .i64 z, .slice none 0 0]) (by simp [results, Tryz.results106, go_sem, m0, m1]) rfl ⟨_, rfl, ((HB.out.setCell (by simp) _).setCell (by simp) _).trans (BA.mono (by simp; omega)), OwP_nil _ _⟩
end Go.Proofs.YtlmaopljihbdkaaGreat
