/- Chapter 15: 'impl.historiesOf', walked. -/
import Derived.Test.YtebgonaiodblhaaOr1
import Derived.Deep.RegionLaw
namespace Go.Proofs.Ytebgonaiodblhaa
open Go.RowKit Go.Maps

theorem Try.infoDones : (Try.prog.info? 25).map (fun i => (i.zero, i.size, i.bytes)) = some (some (.slice none 0 0), 1, 24) := by kernel_rfl
theorem zeroIntD (w : World) : (zeroValue 3).run Try.prog w = .ok (.int .i64 0) w := by kernel_rfl
/-- The thread of each is a number of its kind. -/
def WfDn (xs : List Dn) : Prop := ∀ i, i < xs.length → (Lit.int .i64 (xs.getD i dn0).1).wf = true
theorem ownsRow_form {w : World} {M e s n : Nat} {v : Value} {xs : List Value} (h : w.ownsRow M e s v n xs) : ∃ ao c, v = .slice ao n c := by
  rcases h.2 with ⟨rfl, e⟩ | ⟨g, cap, cur, rfl, _⟩
  · exact ⟨none, 0, by rw [e]⟩
  · exact ⟨_, _, rfl⟩

theorem HsI.form {M : Nat} {w : World} {v : Value} {X : List (List Dn)} {V : Nat → Value} (h : HsI M w v X V) {j : Nat} (hj : j < X.length) :
    ∃ R c a l, v = .slice (some ⟨R, 0, none⟩) X.length c ∧ M ≤ R ∧ R < w.heap.size ∧ V j = .slice a (X.getD j []).length l ∧ w.cell? ⟨R, j, none⟩ = some (V j) ∧ w.frozen? ⟨R, j, none⟩ = false ∧ (V j).ownBlock ≠ some R := by
  obtain ⟨R, c, rfl, h1, h2⟩ := h.row.form (by omega)
  obtain ⟨a, l, e⟩ := ownsRow_form (h.inn j hj)
  exact ⟨R, c, a, l, rfl, h1, h2, e, by rw [h.row.cellAt j (by omega)]; simp [hj], h.row.frozenAt j, fun q => (h.far j hj R q).1 rfl⟩
theorem four_one (a b c d : Value) (ha : a.oneCell' = true) (hb : b.oneCell' = true) (hc : c.oneCell' = true) (hd : d.oneCell' = true) : ∀ u ∈ [a, b, c, d], u.oneCell' = true := by
  intro u hu
  simp only [List.mem_cons, List.not_mem_nil, or_false] at hu
  rcases hu with rfl | rfl | rfl | rfl <;> assumption

set_option maxHeartbeats 4000000 in
set_option maxRecDepth 4000 in
theorem historiesOf {S : Nat → Prop} {w : World} {u : Value} {xs : List Dn} (hu : RdDn S w u xs) (hm : xs.length ≤ 1048576) (hwf : WfDn xs) :
    Calls Try.prog 17 #[u] w fun e w' => ∃ v V, e = .returned v ∧ Below w.heap.size w w' ∧ HsI (w.heap.size + 1) w' v (hsF xs xs.length) V := by
  obtain ⟨i0, hi, hz0, hz1, hz2⟩ := info_parts Try.infoDone
  obtain ⟨i1, hi1, hy0, hy1, hy2⟩ := info_parts Try.infoDones
  have HU := hide hu
  have HW := hide hwf
  have HTl := hide (ts_len xs)
  have HXl := hide (hs_len xs)
  have HCl := hide (fun k => (hsK xs k).cnt)
  have HOld := hide (fun k => @hsF_old xs k)
  have HNew := hide (fun k => @hsF_new xs k)
  have HCle := hide (cntD_le xs)
  have H0 : Hid (hsF xs 0 = [] ∧ tsF xs 0 = []) := ⟨rfl, rfl⟩
  obtain ⟨au, cu, rfl⟩ := hu.shape
  obtain ⟨n, hn⟩ : ∃ n, xs.length = n := ⟨_, rfl⟩
  have HN := hide hn
  rw [hn] at HU hm ⊢
  clear hu hwf hn
  generalize hsF xs = X at *
  generalize tsF xs = T at *
  generalize cntD xs = C at *
  have hmm := @run_makeMap Try.prog
  have HM0 : Hid (PlAt (w.alloc (.map #[] 0)) w.heap.size 0 (T 0)) := ⟨_, World.ownsMap_made w Try.prog 2 asIs, fun a => ⟨by rw [H0.out.2]; rfl, fun h => by rw [H0.out.2] at h; cases h⟩⟩
  have HI0 : Hid (HsI (w.heap.size + 1) (w.alloc (.map #[] 0)) (.slice none 0 0) (X 0) (fun _ => .bool false)) := by rw [Hid, H0.out.1]; exact HsI.zero _ _ _
  have hL0 : (X 0).length = 0 := by rw [H0.out.1]; rfl
  have bM := hide (below_alloc w (.map #[] 0))
  go_enter Try.func17, Try.ntmps17
  go_wp2
  go_loopw [3, 12] (fun v i wr => ∃ (k : Nat) (p : Nat) (ao : Option Addr) (c : Nat), k ≤ n ∧ i = .int .i64 (k : Int) ∧ v = .slice ao p c ∧ Hid (p = (X k).length) ∧ Hid (Below w.heap.size w wr) ∧ Hid (PlAt wr w.heap.size k (T k)) ∧ Hid (∃ V, HsI (w.heap.size + 1) wr (.slice ao p c) (X k) V)) (fun _ i _ => n - (RowKit.intOf i).toNat)
  case atStart => exact ⟨0, 0, none, 0, Nat.zero_le _, rfl, rfl, hL0.symm, bM.out, HM0.out, _, HI0.out⟩
  case round =>
    clear HM0 bM HI0 hL0
    obtain ⟨k, p, ao, c, hk, rfl, rfl, HP, HB, HMk, HI⟩ := hrel
    by_cases hlt : k < n
    · obtain ⟨b, off, rfl, hA⟩ := HU.out.at (k := k) (by rw [HN.out]; exact hlt)
      have hA := hA.later HB.out
      have hwk := HW.out k (by rw [HN.out]; exact hlt)
      have HOk := hide (HOld.out k)
      have HNk := hide (HNew.out k)
      obtain ⟨d, hd⟩ : ∃ d, xs.getD k dn0 = d := ⟨_, rfl⟩
      rw [hd] at hA hwk HOk HNk
      clear hd
      have HDq : Hid (dnL d = [.int .i64 d.1, .int .i64 d.2.1, .int .i64 d.2.2.1, .int .i64 d.2.2.2]) := rfl
      obtain ⟨t, ht⟩ : ∃ t, d.1 = t := ⟨_, rfl⟩
      unfold DnAt at hA
      rw [ht] at hA hwk HOk HNk HDq
      obtain ⟨y, hy⟩ : ∃ y, d.2.1 = y := ⟨_, rfl⟩
      obtain ⟨z, hz⟩ : ∃ z, d.2.2.1 = z := ⟨_, rfl⟩
      obtain ⟨q, hq⟩ : ∃ q, d.2.2.2 = q := ⟨_, rfl⟩
      rw [hy, hz, hq] at hA HDq
      clear ht hy hz hq
      obtain ⟨g0, g1, g2, g3⟩ := hA
      have hkey : Hid (keyOf Try.prog 2 (.int .i64 t) = some (.int .i64 t)) := keyOf_int_mk Try.underlying2 hwk
      have hpk : p ≤ k := by have := HTl.out k; rw [HP.out, HXl.out k]; exact this
      have bW := hide (below_alloc wr (.cells #[.int .i64 t, .int .i64 y, .int .i64 z, .int .i64 q] 41))
      have hd0 : (wr.alloc (.cells #[.int .i64 t, .int .i64 y, .int .i64 z, .int .i64 q] 41)).cell? ⟨wr.heap.size, 0, none⟩ = some (.int .i64 t) := by simp [go_sem]
      have hd1 : (wr.alloc (.cells #[.int .i64 t, .int .i64 y, .int .i64 z, .int .i64 q] 41)).cell? ⟨wr.heap.size, 1, none⟩ = some (.int .i64 y) := by simp [go_sem]
      have hd2 : (wr.alloc (.cells #[.int .i64 t, .int .i64 y, .int .i64 z, .int .i64 q] 41)).cell? ⟨wr.heap.size, 2, none⟩ = some (.int .i64 z) := by simp [go_sem]
      have hd3 : (wr.alloc (.cells #[.int .i64 t, .int .i64 y, .int .i64 z, .int .i64 q] 41)).cell? ⟨wr.heap.size, 3, none⟩ = some (.int .i64 q) := by simp [go_sem]
      have hwsz := HB.out.size
      have hs0 : wr.heap.size < (wr.alloc (.cells #[.int .i64 t, .int .i64 y, .int .i64 z, .int .i64 q] 41)).heap.size := by simp
      obtain ⟨W, hW⟩ : ∃ W, wr.alloc (.cells #[.int .i64 t, .int .i64 y, .int .i64 z, .int .i64 q] 41) = W := ⟨_, rfl⟩
      rw [hW] at bW hd0 hd1 hd2 hd3 hs0
      have BW := hide (below_on HB.out bW.out)
      obtain ⟨V, hV⟩ := HI.out
      have hRD := hV.row.lt
      have HVW := hide (hV.later bW.out)
      clear hV
      have hML : w.heap.size < wr.heap.size := by obtain ⟨D, h1, _⟩ := HMk.out; exact h1.lt
      obtain ⟨D, hown, hD⟩ := HMk.out.later bW.out
      have HO := hide hown
      have HD := hide hD
      obtain ⟨v', p', hrun, hv'⟩ := hown.look_ok lawI64 Try.underlying60 (zeroIntD _) (zd := .held (.int .i64 0)) (zp := []) rfl hkey.out
      have hhas := (HD.out t).1
      rw [hhas] at hrun
      clear hhas hown hD
      obtain ⟨D0, hD0⟩ : ∃ D0, wr.heap.size = D0 := ⟨_, rfl⟩
      rw [hD0] at hd0 hd1 hd2 hd3 hs0 hRD hML
      by_cases hin : t ∈ T k
      · skip
        have htr : decide (t ∈ T k) = true := decide_eq_true hin
        rw [htr] at hrun
        have hvv : v' = .int .i64 (idxT t (T k)) := by rw [(HD.out t).2 hin] at hv'; injection hv' with h1; injection h1 with h2; injection h2
        subst hvv
        obtain ⟨hj1, hj2⟩ := idxT_in hin
        obtain ⟨eT, eX⟩ := HOk.out hin
        have HeT := hide eT
        have HeX := hide eX
        have HCk := hide (HCl.out k _ hj1)
        have hjp : idxT t (T k) < p := by rw [HP.out, HXl.out k]; exact hj1
        obtain ⟨j, hj⟩ : ∃ j, idxT t (T k) = j := ⟨_, rfl⟩
        rw [hj] at hrun hjp HeX HCk
        clear hin htr hj1 hj2 hj eT eX HOk HNk
        go_wp2_with fail
        (try rw [hW])
        (try rw [hD0])
        have HV9 := HVW
        have HP9 := HP
        have B9 := BW
        have HM9 : Hid (PlAt W w.heap.size k (T (k + 1))) := by rw [Hid, HeT.out]; exact ⟨D, HO.out, HD.out⟩
        have HPe : Hid (p = (X (k + 1)).length) := by rw [Hid, HeX.out, addD, List.length_set]; exact HP.out
        have hjX : j < (X k).length := by rw [← HP.out]; exact hjp
        have hljk : ((X k).getD j []).length ≤ k := by rw [HCk.out]; exact HCle.out _ _
        clear hrun
        obtain ⟨R, c0, a9, l9, hv9, hR1, hR2, hV9, hc9, hf9, hn9⟩ := HV9.out.form hjX
        injection hv9 with e1 e2 e3
        first | subst e1 | (injection e1 with e1; injection e1 with e1; have e1 := e1.symm; subst e1)
        subst e3
        rw [hV9] at hc9 hn9
        obtain ⟨lj, hlj⟩ : ∃ lj, ((X k).getD j []).length = lj := ⟨_, rfl⟩
        have HLj := hide hlj
        rw [hlj] at hV9 hc9 hljk hn9
        have HVj := hide hV9
        have hrow := HV9.out.inn j hjX
        rw [HLj.out, HVj.out] at hrow
        have HRow := hide hrow.drew
        clear hrow
        have HNr := hide hn9
        clear hV9 hlj hn9 e2
        have hjz : (0 : Int) ≤ (j : Int) := by omega
        have hjy : (j : Int) < ((p : Nat) : Int) := by omega
        have hbx : Below W.heap.size W ((W.alloc (.cells #[.int .i64 t, .int .i64 y, .int .i64 z, .int .i64 q] 41)).drew) := below_on (below_alloc W _) (below_drewN _ 1)
        go_region_law (first | (refine step_append_lies _ (by rfl) _ _ _ (by rfl) (w.heap.size + 1) 41 i0 (.agg #[.int .i64 0, .int .i64 0, .int .i64 0, .int .i64 0]) 4 32 Try.underlying25 hi hz0 hz1 hz2 rfl (by omega) (.slice a9 lj l9) lj _ (by rfl) (HRow.out.alloc (.cells #[.int .i64 t, .int .i64 y, .int .i64 z, .int .i64 q] 41)) ⟨W.heap.size, 0, none⟩ 1 1 [.int .i64 t, .int .i64 y, .int .i64 z, .int .i64 q] (by rfl) (by rfl) (World.news_of_block (cs := #[.int .i64 t, .int .i64 y, .int .i64 z, .int .i64 q]) (t := 41) (fr := (0, 0)) (heap_alloc_new W.drew _)) (four_one _ _ _ _ rfl rfl rfl rfl) (by omega) (by unfold maxLen; omega) (by omega) (by simp; omega) (W.heap.size + 1) (by simp) ?_; intro g cap w6 hown hgrow hat hlt3; have y1 : w6.cell? ⟨R, j, none⟩ = some (.slice a9 lj l9) := (hgrow.cell_far ⟨R, j, none⟩ (by simp; omega) (fun e => HNr.out e.symm)).trans (cell_later hbx hc9); have yf : w6.frozen? ⟨R, j, none⟩ = false := (hgrow.frozen_far ⟨R, j, none⟩ (by simp; omega) (fun e => HNr.out e.symm)).trans (((bcell hbx).2 _ _ hR2).trans hf9)))
        all_goals
          have hrow1 : ∀ r, (Value.slice a9 lj l9).ownBlock = some r → w.heap.size + 1 ≤ r := fun r hr => (HRow.out.lt r hr).1
          have HSt := hide (HsI.add HP9.out HLj.out (HV9.out.later hbx) hjX (by rw [HDq.out]; exact hown) (by rw [HVj.out]; exact hgrow) (by rw [HVj.out]; simpa using hat))
          rw [← HeX.out] at HSt
          have HPn := HPe
          have HMn := hide ((((HM9.out.later hbx).high hgrow (fun e => by have := hrow1 _ e; omega)).high (grown_setCell w6 ⟨R, j, none⟩ (.slice (some ⟨g, 0, none⟩) (lj + 1) cap)) (fun e => by injection e with e; dsimp only at e; omega)).mono (show _ ≤ k + 1 by omega))
          have HBn := hide (((below_on B9.out hbx).grown hgrow (by have := B9.out.size; simp; omega) (fun r hr => by have := hrow1 r hr; omega)).setCell (p := ⟨R, j, none⟩) (by show w.heap.size ≤ R; omega) (.slice (some ⟨g, 0, none⟩) (lj + 1) cap))
          clear hown hgrow hat hlt3 hrow1 y1 yf
          go_wp2
          go_roundw
          case rel => exact ⟨k + 1, _, _, _, hlt, by go_num, rfl, HPn.out, HBn.out, HMn.out, _, HSt.out⟩
          case measure => simp [RowKit.intOf]; omega
      · skip
        have htf : decide (t ∈ T k) = false := decide_eq_false hin
        rw [htf] at hrun
        obtain ⟨eT, eX⟩ := HNk.out hin
        rw [← HXl.out k, ← HP.out] at eX
        have HeT := hide eT
        have HeX := hide eX
        have HIn := hide hin
        clear hin htf eT eX HOk HNk
        have HRD := hide hRD
        clear hRD
        go_wp2_with (first | (at_mapUpdate; refine wpList_mapUpdate_own _ rfl _ _ _ 60 rfl 2 3 lawI64 Try.underlying60 _ w.heap.size k _ rfl HO.out (by unfold maxLen; omega) _ _ _ rfl rfl hkey.out _ [] (rfl : asIs _ = _) ?_; intro w1 hown1 hgrow1; have HM1 := hide (PlAt.put HO.out HD.out HIn.out (by rw [HP.out]; exact HXl.out k) hown1); have HV1 := hide (HVW.out.low hgrow1 (Nat.lt_succ_self _)); have HB1 := hide (BW.out.grown hgrow1 BW.out.size (fun r hr => by injection hr with hr; omega)); have hs1 : D0 < w1.heap.size := Nat.lt_of_lt_of_le hs0 hgrow1.size; have hfar1 : ∀ i v, W.cell? ⟨D0, i, none⟩ = some v → w1.cell? ⟨D0, i, none⟩ = some v := fun i v h => (hgrow1.cell_far ⟨D0, i, none⟩ hs0 (fun e => by injection e with e; dsimp only at e; omega)).trans h; have Hf1 := hide hfar1; have hor := HV1.out.row; rw [← HP.out] at hor; have HOr := hide (hor.alloc (.cells #[.slice none 0 0] 25)); have hwb := HB1.out.size; clear hor hown1 hgrow1 hrun hfar1) | (at_builtin; refine wpList_append_lies _ rfl _ _ _ rfl (w.heap.size + 1) 25 i1 (.slice none 0 0) 1 24 Try.underlying45 hi1 hy0 hy1 hy2 rfl (by omega) _ p _ (by rfl) HOr.out ⟨w1.heap.size, 0, none⟩ 1 1 [.slice none 0 0] (by rfl) (by rfl) (World.news_of_block (cs := #[.slice none 0 0]) (t := 25) (fr := (0, 0)) (heap_alloc_new w1 _)) (by simp [Value.oneCell']) (by omega) (by unfold maxLen; omega) (by omega) (by simp; omega) (w1.heap.size + 1) (by simp) ?_; intro g2 cap2 w3 hown3 hgrow3 hat3 hlt3))
        (try rw [hW])
        (try rw [hD0])
        have hfar1 := Hf1.out
        have hb1 := below_alloc w1 (.cells #[.slice none 0 0] 25)
        have HV3 := hide (HsI.push HP.out (HV1.out.later hb1) hown3 hgrow3 (by simpa using hat3))
        have hs3 : D0 < w3.heap.size := Nat.lt_of_lt_of_le (Nat.lt_of_lt_of_le hs1 hb1.size) hgrow3.size
        have HB3 := hide ((below_on HB1.out hb1).grown hgrow3 (by have := hb1.size; omega) (fun r hr => by have := (HRD.out r hr).1; omega))
        have HM3 := hide ((HM1.out.later hb1).high hgrow3 (fun e => by have := (HRD.out _ e).1; omega))
        have hfar3 : ∀ i v, w1.cell? ⟨D0, i, none⟩ = some v → w3.cell? ⟨D0, i, none⟩ = some v := fun i v h => (hgrow3.cell_far ⟨D0, i, none⟩ (Nat.lt_of_lt_of_le hs1 hb1.size) (fun e => by have := (HRD.out _ e.symm).2; dsimp only at this; omega)).trans (cell_later hb1 h)
        have hd0 := hfar3 _ _ (hfar1 _ _ hd0)
        have hd1 := hfar3 _ _ (hfar1 _ _ hd1)
        have hd2 := hfar3 _ _ (hfar1 _ _ hd2)
        have hd3 := hfar3 _ _ (hfar1 _ _ hd3)
        clear hfar1 hfar3 hown3 hgrow3 hat3 hlt3 hb1 hs0 hs1
        have HV9 := HV3
        have HP9 : Hid (p + 1 = (X k ++ [[]]).length) := by rw [Hid, List.length_append, ← HP.out]; rfl
        have B9 := HB3
        have HM9 : Hid (PlAt w3 w.heap.size (k + 1) (T (k + 1))) := by rw [Hid, HeT.out]; exact HM3.out
        have HPe : Hid (p + 1 = (X (k + 1)).length) := by rw [Hid, HeX.out, addD, List.length_set]; exact HP9.out
        have hjX : p < (X k ++ [[]]).length := by have := HP9.out; omega
        have hljk : ((X k ++ [[]]).getD p []).length ≤ k := by rw [HP.out, app_getD_last]; exact Nat.zero_le _
        clear HV1 HV3 HVW HM1 HM3 HB1 HB3 HO HD HOr bW BW HI HMk
        obtain ⟨j, hj⟩ : ∃ j, j = p := ⟨_, rfl⟩
        subst hj
        have hjy2 : (j : Int) < (j : Int) + 1 := by omega
        obtain ⟨R, c0, a9, l9, hv9, hR1, hR2, hV9, hc9, hf9, hn9⟩ := HV9.out.form hjX
        injection hv9 with e1 e2 e3
        first | subst e1 | (injection e1 with e1; injection e1 with e1; have e1 := e1.symm; subst e1)
        subst e3
        rw [hV9] at hc9 hn9
        obtain ⟨lj, hlj⟩ : ∃ lj, ((X k ++ [[]]).getD j []).length = lj := ⟨_, rfl⟩
        have HLj := hide hlj
        rw [hlj] at hV9 hc9 hljk hn9
        have HVj := hide hV9
        have hrow := HV9.out.inn j hjX
        rw [HLj.out, HVj.out] at hrow
        have HRow := hide hrow.drew
        clear hrow
        have HNr := hide hn9
        clear hV9 hlj hn9 e2
        have hjz : (0 : Int) ≤ (j : Int) := by omega
        have hjy : (j : Int) < (((j + 1) : Nat) : Int) := by omega
        have hbx : Below w3.heap.size w3 ((w3.alloc (.cells #[.int .i64 t, .int .i64 y, .int .i64 z, .int .i64 q] 41)).drew) := below_on (below_alloc w3 _) (below_drewN _ 1)
        go_region_law (first | (refine step_append_lies _ (by rfl) _ _ _ (by rfl) (w.heap.size + 1) 41 i0 (.agg #[.int .i64 0, .int .i64 0, .int .i64 0, .int .i64 0]) 4 32 Try.underlying25 hi hz0 hz1 hz2 rfl (by omega) (.slice a9 lj l9) lj _ (by rfl) (HRow.out.alloc (.cells #[.int .i64 t, .int .i64 y, .int .i64 z, .int .i64 q] 41)) ⟨w3.heap.size, 0, none⟩ 1 1 [.int .i64 t, .int .i64 y, .int .i64 z, .int .i64 q] (by rfl) (by rfl) (World.news_of_block (cs := #[.int .i64 t, .int .i64 y, .int .i64 z, .int .i64 q]) (t := 41) (fr := (0, 0)) (heap_alloc_new w3.drew _)) (four_one _ _ _ _ rfl rfl rfl rfl) (by omega) (by unfold maxLen; omega) (by omega) (by simp; omega) (w3.heap.size + 1) (by simp) ?_; intro g cap w6 hown hgrow hat hlt3; have y1 : w6.cell? ⟨R, j, none⟩ = some (.slice a9 lj l9) := (hgrow.cell_far ⟨R, j, none⟩ (by simp; omega) (fun e => HNr.out e.symm)).trans (cell_later hbx hc9); have yf : w6.frozen? ⟨R, j, none⟩ = false := (hgrow.frozen_far ⟨R, j, none⟩ (by simp; omega) (fun e => HNr.out e.symm)).trans (((bcell hbx).2 _ _ hR2).trans hf9)))
        all_goals
          have hrow1 : ∀ r, (Value.slice a9 lj l9).ownBlock = some r → w.heap.size + 1 ≤ r := fun r hr => (HRow.out.lt r hr).1
          have HSt := hide (HsI.add HP9.out HLj.out (HV9.out.later hbx) hjX (by rw [HDq.out]; exact hown) (by rw [HVj.out]; exact hgrow) (by rw [HVj.out]; simpa using hat))
          rw [← HeX.out] at HSt
          have HPn := HPe
          have HMn := hide ((((HM9.out.later hbx).high hgrow (fun e => by have := hrow1 _ e; omega)).high (grown_setCell w6 ⟨R, j, none⟩ (.slice (some ⟨g, 0, none⟩) (lj + 1) cap)) (fun e => by injection e with e; dsimp only at e; omega)).mono (show _ ≤ k + 1 by omega))
          have HBn := hide (((below_on B9.out hbx).grown hgrow (by have := B9.out.size; simp; omega) (fun r hr => by have := hrow1 r hr; omega)).setCell (p := ⟨R, j, none⟩) (by show w.heap.size ≤ R; omega) (.slice (some ⟨g, 0, none⟩) (lj + 1) cap))
          clear hown hgrow hat hlt3 hrow1 y1 yf
          go_wp2
          go_roundw
          case rel => exact ⟨k + 1, _, _, _, hlt, by go_num, rfl, HPn.out, HBn.out, HMn.out, _, HSt.out⟩
          case measure => simp [RowKit.intOf]; omega
    · have hkn : k = n := by omega
      subst hkn
      obtain ⟨V, hV⟩ := HI.out
      have HV := hide hV
      clear hV
      go_wp2
      go_ret
      exact ⟨_, V, rfl, HB.out, HV.out⟩
end Go.Proofs.Ytebgonaiodblhaa
