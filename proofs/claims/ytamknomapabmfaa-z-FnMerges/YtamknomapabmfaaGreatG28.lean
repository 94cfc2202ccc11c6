/- Run3 in one text: what each says stands at its head below. -/
import Derived.Test.YtamknomapabmfaaGreatG26
import Derived.Test.YtamknomapabmfaaGreatG27
/- Chapter 3, the model's draw 'l3Right', walked: a disk without a fault. -/
namespace Go.Proofs.YtamknomapabmfaaGreat
open Go.RowKit

theorem rdI_ltR {S : Nat → Prop} {w : World} {v : Value} {xs : List Int} (h : RdI S w v xs) : RdI (fun b => S b ∧ b < w.heap.size) w v xs := by
  obtain ⟨ao, c, e1, e2, e3⟩ := h
  refine ⟨ao, c, e1, e2, fun hne => ?_⟩
  obtain ⟨b, off, f1, f2, f3⟩ := e3 hne
  exact ⟨b, off, f1, ⟨f2, World.block_lt_of_cell? _ _ (f3 0 (List.length_pos_iff.2 hne))⟩, f3⟩
theorem RdII.ltR {S : Nat → Prop} {w : World} {v : Value} {xss : List (List Int)} (h : RdII S w v xss) : RdII (fun b => S b ∧ b < w.heap.size) w v xss := by
  obtain ⟨ao, c, e1, e2, e3⟩ := h
  refine ⟨ao, c, e1, e2, fun hne => ?_⟩
  obtain ⟨b, off, V, f1, f2, f3⟩ := e3 hne
  exact ⟨b, off, V, f1, ⟨f2, World.block_lt_of_cell? _ _ (f3 0 (List.length_pos_iff.2 hne)).1⟩, fun i hi => ⟨(f3 i hi).1, rdI_ltR (f3 i hi).2⟩⟩
theorem RdP.ltR {S : Nat → Prop} {w : World} {v : Value} {ps : List (Int × List Int)} (h : RdP S w v ps) : RdP (fun b => S b ∧ b < w.heap.size) w v ps := by
  obtain ⟨ao, c, e1, e2, e3⟩ := h
  refine ⟨ao, c, e1, e2, fun hne => ?_⟩
  obtain ⟨b, off, V, f1, f2, f3⟩ := e3 hne
  exact ⟨b, off, V, f1, ⟨f2, World.block_lt_of_cell? _ _ (f3 0 (List.length_pos_iff.2 hne)).1⟩, fun i hi => ⟨(f3 i hi).1, (f3 i hi).2.1, rdI_ltR (f3 i hi).2.2⟩⟩
/-- A variable of two cells, as it was laid. -/
structure VarP (P : Nat) (wr : World) : Prop where
  lt : P < wr.heap.size
  c0 : wr.cell? ⟨P, 0, none⟩ = some (.int .i64 0)
  c1 : wr.cell? ⟨P, 1, none⟩ = some (.slice none 0 0)
  of : ∀ o, wr.frozen? ⟨P, o, none⟩ = false
theorem VarP.later {P : Nat} {wr w' : World} (h : VarP P wr) (hb : Below wr.heap.size wr w') : VarP P w' :=
  ⟨Nat.lt_of_lt_of_le h.lt hb.size, cell_later hb h.c0, cell_later hb h.c1, fun o => ((bcell hb).2 _ _ h.lt).trans (h.of o)⟩
theorem VarP.drawn {P s : Nat} {wr w' : World} (h : VarP P wr) (hw : Wr (· = s) wr w') (hs : P ≠ s) : VarP P w' :=
  ⟨Nat.lt_of_lt_of_le h.lt hw.size, cell_wr hw h.c0 hs, cell_wr hw h.c1 hs, fun o => (hw.frz _ _ h.lt).trans (h.of o)⟩
theorem sound_fmt (q : Int) : Sound (fmtXs q) [] := by
  have hnil : wordsF [] = 0 := wF_ok (by simp) (by simp)
  unfold fmtXs
  by_cases h : 1 ≤ q ∧ q ≤ 65000
  · rw [if_pos h]
    refine ⟨by simp, by simp, fun i hi => ?_, fun i hi => absurd hi (Nat.not_lt_zero _), fun i hi => absurd hi (Nat.not_lt_zero _), fun i hi => absurd hi (Nat.not_lt_zero _)⟩
    have hp : wordsF (packL q 0 []) = 0 := packL_fault (headF_ok ⟨h.1, h.2, by omega, by omega⟩ (by simp) (fun i hi => absurd hi (Nat.not_lt_zero _)))
    rw [List.getD, List.getElem?_set]
    by_cases e : (q % 2).toNat = i
    · rw [if_pos e]
      by_cases e2 : (q % 2).toNat < (List.replicate 66 ([] : List Int)).length
      · rw [if_pos e2]; exact hp
      · rw [if_neg e2]; exact hnil
    · rw [if_neg e, List.getElem?_replicate]
      split
      · exact hnil
      · exact hnil
  · rw [if_neg h]; exact sound_nil

set_option linter.unusedSimpArgs false in
set_option maxHeartbeats 16000000 in
set_option maxRecDepth 4000 in
theorem l3Right_some {s : Nat} {sv : Value} {bs : List Nat} {w : World} {t : Nat} (hS : Src s sv bs w t) (ht : t ≤ 1000000) :
    Calls Tryz.prog 21 #[.pointer (some ⟨s, 0, none⟩)] w fun e w' => ∃ (ao : Option Addr) (n c : Nat) (ao' : Option Addr) (n' c' : Nat) (xss : List (List Int)) (ps : List (Int × List Int)), e = .returned (.agg #[.slice ao n c, .slice ao' n' c']) ∧ RdII (fun b => w.heap.size ≤ b) w' (.slice ao n c) xss ∧ RdP (fun b => w.heap.size ≤ b) w' (.slice ao' n' c') ps ∧ Sound xss ps ∧ ∃ t', Drawn 10000 s sv bs t t' w w' := by
  have HS := hide hS
  have hsl := hS.lt
  clear hS
  have fQ1 := Tryz.fldQ1
  have A0 := hide (below_alloc w (.cells #[.slice none 0 0, .slice none 0 0] 54))
  have r0 : (w.alloc (.cells #[.slice none 0 0, .slice none 0 0] 54)).cell? ⟨w.heap.size, 0, none⟩ = some (.slice none 0 0) := by simp [go_sem]
  have r1 : (w.alloc (.cells #[.slice none 0 0, .slice none 0 0] 54)).cell? ⟨w.heap.size, 1, none⟩ = some (.slice none 0 0) := by simp [go_sem]
  have rf : Hid (∀ o, (w.alloc (.cells #[.slice none 0 0, .slice none 0 0] 54)).frozen? ⟨w.heap.size, o, none⟩ = false) := fun o => by simp [go_sem]
  have D0 := hide ((Drawn.refl HS.out).later A0.out)
  have hz0 : w.heap.size < (w.alloc (.cells #[.slice none 0 0, .slice none 0 0] 54)).heap.size := by simp
  go_enter Tryz.func21, Tryz.ntmps21
  go_wp2_with fail
  generalize w.alloc (.cells #[.slice none 0 0, .slice none 0 0] 54) = W0 at A0 r0 r1 rf D0 hz0 ⊢
  refine (l1Next 9 D0.out.1 (by have := D0.out.2.2; omega) (by omega) (by omega)).mono ?_
  rintro e w1 ⟨r, rfl, ra, rb, t1, hd1⟩
  have rb' := rb (by omega)
  have D1 := hide (D0.out.on hd1)
  have z1 := hd1.2.1.size
  have p0 := cell_wr hd1.2.1 r0 (by omega)
  have p1 := cell_wr hd1.2.1 r1 (by omega)
  have pf : Hid (∀ o, w1.frozen? ⟨w.heap.size, o, none⟩ = false) := fun o => (hd1.2.1.frz _ _ hz0).trans (rf.out o)
  clear hd1 rb r0 r1 rf D0
  go_wp2_with fail
  refine (l3Format (1 + r) (by omega) _).mono ?_
  rintro e w2 ⟨u0, rfl, hb2, hD2, g, rfl⟩
  have bA := below_alloc w2 (.cells #[.slice (some ⟨g, 0, none⟩) 66 66, .slice none 0 0] 54)
  have hb3 := below_on hb2 bA
  have z2 := hb2.size
  have HRt : Hid (RightAt w w2.heap.size (.slice (some ⟨g, 0, none⟩) 66 66) (.slice none 0 0) (fmtXs (1 + r)) [] (w2.alloc (.cells #[.slice (some ⟨g, 0, none⟩) 66 66, .slice none 0 0] 54))) := by
    obtain ⟨S, T, k1, k2, _, k4, k5⟩ := hD2
    refine ⟨by simp; omega, ⟨by omega, by simp⟩, by simp [go_sem], by simp [go_sem], fun o => by simp [go_sem], cell_later hb3 p0, cell_later hb3 p1, fun o => ((bcell hb3).2 _ _ (by omega)).trans (pf.out o), ?_, ?_, sound_fmt _⟩
    · exact (k4.rd.later bA).monoR fun b hb => by have := k1 b hb; omega
    · exact (k5.rd.later bA).monoR fun b hb => by have := k2 b hb; omega
  have D3 := hide (D1.out.later hb3)
  clear hb2 hD2 bA hb3 p0 p1 pf D1
  generalize fmtXs (1 + r) = xs0 at HRt
  obtain ⟨D, hDe⟩ : ∃ D, w2.heap.size = D := ⟨_, rfl⟩
  rw [hDe] at HRt
  go_wp2_with fail
  generalize w2.alloc (.cells #[.slice (some ⟨g, 0, none⟩) 66 66, .slice none 0 0] 54) = W3 at HRt D3 ⊢
  refine (l1Next 6 D3.out.1 (by have := D3.out.2.2; omega) (by omega) (by omega)).mono ?_
  rintro e w4 ⟨r2, rfl, ra2, rb2, t4, hd4⟩
  have rb2' := rb2 (by omega)
  obtain ⟨K, rfl⟩ : ∃ K : Nat, r2 = (K : Int) := ⟨r2.toNat, (Int.toNat_of_nonneg ra2).symm⟩
  have HRt4 := hide (HRt.out.drawn hd4.2.1 hsl)
  have D4 := hide (D3.out.on hd4)
  clear hd4 rb2 HRt D3
  go_wp2
  go_loopw [4] (fun i wr => ∃ (K : Nat) (a1 : Option Addr) (n1 c1 : Nat) (a2 : Option Addr) (n2 c2 : Nat) (xss : List (List Int)) (ps : List (Int × List Int)) (t5 : Nat), K ≤ 5 ∧ i = .int .i64 (K : Int) ∧ Hid (RightAt w D (.slice a1 n1 c1) (.slice a2 n2 c2) xss ps wr) ∧ Hid (Drawn (2 + (5 - K) * 1001) s sv bs t t5 w wr)) (fun i _ => (RowKit.intOf i).toNat)
  case atStart => exact ⟨K, _, _, _, _, _, _, _, _, t4, by omega, rfl, HRt4.out, D4.out.mono (by omega)⟩
  case round =>
    obtain ⟨K, a1, n1, c1, a2, n2, c2, xss, ps, t5, hK5, rfl, HR, HD⟩ := hrel
    have hRo := HR.out.o
    by_cases hK0 : 0 < K
    · have hK0i : (0 : Int) < (K : Int) := by omega
      go_upto_region 5 with fail
      go_cut [5] from 16 to 19 (fun x wx => ∃ (P : Nat) (cd : Int) (az : Option Addr) (nz cz : Nat) (ts : List St) (t6 : Nat), x = .pointer (some ⟨P, 0, none⟩) ∧ Hid (RightAt w D (.slice a1 n1 c1) (.slice a2 n2 c2) xss ps wx) ∧ Hid (PlanAt w D P cd (.slice az nz cz) ts wx) ∧ Hid (RdII (fun b => w.heap.size < b ∧ b ≠ D ∧ b ≠ P) wx (.slice a1 n1 c1) xss ∧ RdP (fun b => w.heap.size < b ∧ b ≠ D ∧ b ≠ P) wx (.slice a2 n2 c2) ps) ∧ Hid (Drawn (2 + (5 - K) * 1001 + 1000) s sv bs t t6 w wx))
      case first =>
        have x0 := HR.out.c0
        have x1 := HR.out.c1
        refine wp_region_held_drew (S := fun w' => w'.cell? ⟨D, 0, none⟩ = some (.slice a1 n1 c1) ∧ w'.cell? ⟨D, 1, none⟩ = some (.slice a2 n2 c2)) (by kernel_rfl) ⟨x0, x1⟩ (fun hHeld0 => ?_)
        refine forgetH (fun wx => (wx.cell? ⟨D, 0, none⟩ = some (.slice a1 n1 c1) ∧ wx.cell? ⟨D, 1, none⟩ = some (.slice a2 n2 c2)) ∧ RightAt w D (.slice a1 n1 c1) (.slice a2 n2 c2) xss ps wx ∧ Drawn (2 + (5 - K) * 1001) s sv bs t t5 w wx) ⟨hHeld0, HR.out.later (below_drewN wr 1), HD.out.later (below_drewN wr 1)⟩ ?_
        clear hHeld0 x0 x1 HR HD
        rintro v0 ⟨hHeld, hR0, hD0⟩
        have HR := hide hR0
        have HD := hide hD0
        have HO := hide (And.intro hR0.rd.ltR hR0.rp.ltR)
        have hgr0 : v0.heap.size ≤ v0.heap.size := Nat.le_refl _
        clear hR0 hD0
        refine wpAnyH_take (i := 0) (v := ?v5x0) rfl (by kernel_rfl) (by kernel_rfl) (by kernel_rfl) (fun _ _ _ h => h) (Or.inl ⟨by rfl, ?h5x0⟩) hHeld ?r5x0
        case h5x0 => intro w9 hSw; (try dsimp only at hSw); first | (go_simp; done) | (go_simp; with_reducible rfl)
        try simp only [Act.put, List.setIfInBounds_toArray, List.set_cons_zero, List.set_cons_succ, List.getElem_toArray, List.getElem_cons_zero]
        refine wpAnyH_take (i := 1) (v := ?v5x1) rfl (by kernel_rfl) (by kernel_rfl) (by kernel_rfl) (fun _ _ _ h => h) (Or.inl ⟨by rfl, ?h5x1⟩) hHeld ?r5x1
        case h5x1 => intro w9 hSw; (try dsimp only at hSw); first | (go_simp; done) | (go_simp; with_reducible rfl)
        try simp only [Act.put, List.setIfInBounds_toArray, List.set_cons_zero, List.set_cons_succ, List.getElem_toArray, List.getElem_cons_zero, List.getElem_cons_succ]
        refine wpAnyH_ready (rs := [2, 4]) (by kernel_rfl) (by simp) (AllReadyH.cons rfl (fun K9 hK9 => ?_) (AllReadyH.cons rfl (fun K9 hK9 => ?_) (AllReadyH.nil)))
        · skip
          go_simp
          go_at_call 50
          refine (l3DrawPuts_some HD.out.1 (by have := HD.out.2.2; omega)).mono ?_
          rintro e v1 ⟨zp, qs, rfl, hql, hqb, tq, hdq⟩
          have HRn := hide (HR.out.drawn hdq.2.1 hsl)
          have HDn := hide (HD.out.on hdq)
          have hWq := hdq.2.1
          obtain ⟨ap, cp, hzp⟩ := BuiltP.shape hqb
          have HQ := hide (BuiltP.ow hqb rfl (by omega)).rd
          have HOn := hide (And.intro (HO.out.1.wr hWq (fun b hb e => by omega)) (HO.out.2.wr hWq (fun b hb e => by omega)))
          clear HO
          have HO := HOn
          clear HOn
          have hgr1 : v0.heap.size ≤ v1.heap.size := Nat.le_trans hgr0 hWq.size
          clear HR HD hqb hdq hWq
          have HR := HRn
          have HD := HDn
          clear HRn HDn
          generalize qs.length = lq at hzp hql
          subst hzp
          refine hK9.out _ _ ⟨HR.out.c0, HR.out.c1⟩ (fun hHeld => ?_)
          clear hK9 K9
          try simp only [Act.put, List.setIfInBounds_toArray, List.set_cons_zero, List.set_cons_succ, List.getElem_toArray, List.getElem_cons_zero, List.getElem_cons_succ]
          refine wpAnyH_ready (rs := [3, 4]) (by kernel_rfl) (by simp) (AllReadyH.cons rfl (fun K9 hK9 => ?_) (AllReadyH.cons rfl (fun K9 hK9 => ?_) (AllReadyH.nil)))
          · skip
            go_simp
            go_at_call 49
            refine (specPlanAppend HR.out.rd HR.out.rp HQ.out HR.out.so.small).mono ?_
            rintro e v2 ⟨zs, rfl, hbs, hos⟩
            have HWd := hide (ap_words xss ps qs)
            have HTs := hide hos.rd
            obtain ⟨as9, cs9, hzs, _⟩ := hos.rd.shape
            generalize apF xss ps qs = cd9
            generalize apT xss ps qs = ts9 at HWd HTs hzs
            have hszs := hbs.size
            have HRn := hide (HR.out.later hbs)
            have HDn := hide (HD.out.later hbs)
            have hRsz := HR.out.size
            have hlow := HR.out.o
            have HOn := hide (And.intro (HO.out.1.later hbs) (HO.out.2.later hbs))
            clear HO
            have HO := HOn
            clear HOn
            have hgr2 : v0.heap.size ≤ v2.heap.size := Nat.le_trans hgr1 hszs
            clear HR HD hbs hos
            have HR := HRn
            have HD := HDn
            clear HRn HDn
            generalize ts9.length = ls at hzs
            subst hzs
            have HTs2 : Hid (RdT (fun b => v1.heap.size ≤ b ∧ b < v2.heap.size) v2 (.slice as9 ls cs9) ts9) := HTs.out
            clear HTs
            refine hK9.out _ _ ⟨HR.out.c0, HR.out.c1⟩ (fun hHeld => ?_)
            clear hK9 K9
            try simp only [Act.put, List.setIfInBounds_toArray, List.set_cons_zero, List.set_cons_succ, List.getElem_toArray, List.getElem_cons_zero, List.getElem_cons_succ]
            refine wpAnyH_ready (rs := [4]) (by kernel_rfl) (by simp) (AllReadyH.cons rfl (fun K9 hK9 => ?_) (AllReadyH.nil))
            go_simp
            have hbv := below_alloc v2 (.cells #[.int .i64 0, .slice none 0 0] 88)
            have hRl := HR.out.later hbv
            refine hK9.out _ _ ⟨hRl.c0, hRl.c1⟩ (fun hHeld => ?_)
            clear hK9 K9
            try simp only [Act.put, List.setIfInBounds_toArray, List.set_cons_zero, List.set_cons_succ, List.getElem_toArray, List.getElem_cons_zero, List.getElem_cons_succ]
            have hVn : VarP v2.heap.size (v2.alloc (.cells #[.int .i64 0, .slice none 0 0] 88)) := ⟨by simp, by simp [go_sem], by simp [go_sem], fun o => by simp [go_sem]⟩
            have hDl := HD.out.later hbv
            have hOl := And.intro (HO.out.1.later hbv) (HO.out.2.later hbv)
            have hTl := HTs2.out.later hbv
            have hzv : v2.heap.size < (v2.alloc (.cells #[.int .i64 0, .slice none 0 0] 88)).heap.size := by simp
            have hRs0 := HR.out.size
            have hRo0 := HR.out.o
            generalize v2.alloc (.cells #[.int .i64 0, .slice none 0 0] 88) = v3 at *
            obtain ⟨hv, hhv⟩ : ∃ hv, v2.heap.size = hv := ⟨_, rfl⟩
            rw [hhv] at hVn ⊢
            have hvw : w.heap.size < hv ∧ hv ≠ D ∧ v0.heap.size ≤ hv := by omega
            have hgr3 : v0.heap.size ≤ v3.heap.size := by omega
            have HOn := hide hOl
            clear HO hOl
            have HO := HOn
            clear HOn
            have hfar : ∀ b, v1.heap.size ≤ b ∧ b < v2.heap.size → b ≠ hv := fun b hb e => by omega
            have HV := hide hVn
            clear HR HD hVn hbv
            have HR := hide hRl
            have HD := hide hDl
            clear hRl hDl
            have HTn := hide hTl
            clear HTs2 hTl
            have HTs2 := HTn
            clear HTn
            refine wpAnyH_ready (rs := [5]) (by kernel_rfl) (by simp) (AllReadyH.cons rfl (fun K9 hK9 => ?_) (AllReadyH.nil))
            have j0 := HV.out.c0
            have j1 := HV.out.c1
            have k0 := HV.out.of 0
            have k1 := HV.out.of 1
            have hvl := HV.out.lt
            have hPP := plan_put (x := cd9) HR.out ⟨hvw.1, hvw.2.1, hvl⟩ HV.out.c0 HV.out.c1 HV.out.of HTs2.out (fun b hb => ⟨by omega, hfar b hb⟩) (HO.out.1.monoR (fun b hb => ⟨hb.1.1, hb.1.2, by omega⟩)) (HO.out.2.monoR (fun b hb => ⟨hb.1.1, hb.1.2, by omega⟩)) HWd.out
            have hW9 : Wr (fun b => b = hv) v3 ((v3.setCell ⟨hv, 0, none⟩ (.int .i64 cd9)).setCell ⟨hv, 1, none⟩ (.slice as9 ls cs9)) := ((Wr.refl (fun b => b = hv) _).setCell (p := ⟨hv, 0, none⟩) rfl _).setCell (p := ⟨hv, 1, none⟩) rfl _
            have hDe := HD.out.onBelow HS.out (((Below.refl w.heap.size v3).setCell (p := ⟨hv, 0, none⟩) (by dsimp only; omega) (.int .i64 cd9)).setCell (p := ⟨hv, 1, none⟩) (by dsimp only; omega) (.slice as9 ls cs9))
            have hOe := And.intro ((HO.out.1.wr hW9 (fun b hb => by omega)).monoR (T := fun b => w.heap.size < b ∧ b ≠ D ∧ b ≠ hv) (fun b hb => ⟨hb.1.1, hb.1.2, by omega⟩)) ((HO.out.2.wr hW9 (fun b hb => by omega)).monoR (T := fun b => w.heap.size < b ∧ b ≠ D ∧ b ≠ hv) (fun b hb => ⟨hb.1.1, hb.1.2, by omega⟩))
            have HPP := hide hPP
            have HDe := hide hDe
            have HOe := hide hOe
            clear hPP hDe hOe hW9
            go_simp
            refine hK9.out _ _ ⟨HPP.out.2.c0, HPP.out.2.c1⟩ (fun _ => ?_)
            clear hK9 K9
            try simp only [Act.put, List.setIfInBounds_toArray, List.set_cons_zero, List.set_cons_succ, List.getElem_toArray, List.getElem_cons_zero, List.getElem_cons_succ]
            refine wpAnyH_done (by kernel_rfl) ?_ _
            go_wp2_with fail
            go_meet
            case rel => exact ⟨hv, cd9, as9, ls, cs9, ts9, _, rfl, HPP.out.2, HPP.out.1, HOe.out, HDe.out⟩
          · skip
            go_simp
            have hbv := below_alloc v1 (.cells #[.int .i64 0, .slice none 0 0] 88)
            have hRl := HR.out.later hbv
            refine hK9.out _ _ ⟨hRl.c0, hRl.c1⟩ (fun hHeld => ?_)
            clear hK9 K9
            try simp only [Act.put, List.setIfInBounds_toArray, List.set_cons_zero, List.set_cons_succ, List.getElem_toArray, List.getElem_cons_zero, List.getElem_cons_succ]
            have hVn : VarP v1.heap.size (v1.alloc (.cells #[.int .i64 0, .slice none 0 0] 88)) := ⟨by simp, by simp [go_sem], by simp [go_sem], fun o => by simp [go_sem]⟩
            have hDl := HD.out.later hbv
            have hOl := And.intro (HO.out.1.later hbv) (HO.out.2.later hbv)
            have hQl := HQ.out.later hbv
            have hzv : v1.heap.size < (v1.alloc (.cells #[.int .i64 0, .slice none 0 0] 88)).heap.size := by simp
            have hRs0 := HR.out.size
            have hRo0 := HR.out.o
            generalize v1.alloc (.cells #[.int .i64 0, .slice none 0 0] 88) = v2 at *
            obtain ⟨hv, hhv⟩ : ∃ hv, v1.heap.size = hv := ⟨_, rfl⟩
            rw [hhv] at hVn ⊢
            have hvw : w.heap.size < hv ∧ hv ≠ D ∧ v0.heap.size ≤ hv := by omega
            have hgr2 : v0.heap.size ≤ v2.heap.size := by omega
            have HOn := hide hOl
            clear HO hOl
            have HO := HOn
            clear HOn
            have HV := hide hVn
            clear HR HD hVn hbv
            have HR := hide hRl
            have HD := hide hDl
            clear hRl hDl
            have HQn := hide hQl
            clear HQ hQl
            have HQ := HQn
            clear HQn
            refine wpAnyH_ready (rs := [3]) (by kernel_rfl) (by simp) (AllReadyH.cons rfl (fun K9 hK9 => ?_) (AllReadyH.nil))
            go_simp
            go_at_call 49
            refine (specPlanAppend HR.out.rd HR.out.rp HQ.out HR.out.so.small).mono ?_
            rintro e v3 ⟨zs, rfl, hbs, hos⟩
            have HWd := hide (ap_words xss ps qs)
            have HTs := hide hos.rd
            obtain ⟨as9, cs9, hzs, _⟩ := hos.rd.shape
            generalize apF xss ps qs = cd9
            generalize apT xss ps qs = ts9 at HWd HTs hzs
            have hszs := hbs.size
            have HRn := hide (HR.out.later hbs)
            have HDn := hide (HD.out.later hbs)
            have HVn := hide (HV.out.later hbs)
            have hvlt := HV.out.lt
            clear HV
            have HV := HVn
            clear HVn
            have hfar : ∀ b, v2.heap.size ≤ b → b ≠ hv := fun b hb e => by omega
            have hRsz := HR.out.size
            have hlow := HR.out.o
            have HOn := hide (And.intro (HO.out.1.later hbs) (HO.out.2.later hbs))
            clear HO
            have HO := HOn
            clear HOn
            have hgr3 : v0.heap.size ≤ v3.heap.size := Nat.le_trans hgr2 hszs
            clear HR HD hbs hos
            have HR := HRn
            have HD := HDn
            clear HRn HDn
            generalize ts9.length = ls at hzs
            subst hzs
            have HTs2 : Hid (RdT (fun b => v2.heap.size ≤ b ∧ b < v3.heap.size) v3 (.slice as9 ls cs9) ts9) := HTs.out
            clear HTs
            refine hK9.out _ _ ⟨HR.out.c0, HR.out.c1⟩ (fun hHeld => ?_)
            clear hK9 K9
            try simp only [Act.put, List.setIfInBounds_toArray, List.set_cons_zero, List.set_cons_succ, List.getElem_toArray, List.getElem_cons_zero, List.getElem_cons_succ]
            refine wpAnyH_ready (rs := [5]) (by kernel_rfl) (by simp) (AllReadyH.cons rfl (fun K9 hK9 => ?_) (AllReadyH.nil))
            have j0 := HV.out.c0
            have j1 := HV.out.c1
            have k0 := HV.out.of 0
            have k1 := HV.out.of 1
            have hvl := HV.out.lt
            have hPP := plan_put (x := cd9) HR.out ⟨hvw.1, hvw.2.1, hvl⟩ HV.out.c0 HV.out.c1 HV.out.of HTs2.out (fun b hb => ⟨by omega, hfar b hb.1⟩) (HO.out.1.monoR (fun b hb => ⟨hb.1.1, hb.1.2, by omega⟩)) (HO.out.2.monoR (fun b hb => ⟨hb.1.1, hb.1.2, by omega⟩)) HWd.out
            have hW9 : Wr (fun b => b = hv) v3 ((v3.setCell ⟨hv, 0, none⟩ (.int .i64 cd9)).setCell ⟨hv, 1, none⟩ (.slice as9 ls cs9)) := ((Wr.refl (fun b => b = hv) _).setCell (p := ⟨hv, 0, none⟩) rfl _).setCell (p := ⟨hv, 1, none⟩) rfl _
            have hDe := HD.out.onBelow HS.out (((Below.refl w.heap.size v3).setCell (p := ⟨hv, 0, none⟩) (by dsimp only; omega) (.int .i64 cd9)).setCell (p := ⟨hv, 1, none⟩) (by dsimp only; omega) (.slice as9 ls cs9))
            have hOe := And.intro ((HO.out.1.wr hW9 (fun b hb => by omega)).monoR (T := fun b => w.heap.size < b ∧ b ≠ D ∧ b ≠ hv) (fun b hb => ⟨hb.1.1, hb.1.2, by omega⟩)) ((HO.out.2.wr hW9 (fun b hb => by omega)).monoR (T := fun b => w.heap.size < b ∧ b ≠ D ∧ b ≠ hv) (fun b hb => ⟨hb.1.1, hb.1.2, by omega⟩))
            have HPP := hide hPP
            have HDe := hide hDe
            have HOe := hide hOe
            clear hPP hDe hOe hW9
            go_simp
            refine hK9.out _ _ ⟨HPP.out.2.c0, HPP.out.2.c1⟩ (fun _ => ?_)
            clear hK9 K9
            try simp only [Act.put, List.setIfInBounds_toArray, List.set_cons_zero, List.set_cons_succ, List.getElem_toArray, List.getElem_cons_zero, List.getElem_cons_succ]
            refine wpAnyH_done (by kernel_rfl) ?_ _
            go_wp2_with fail
            go_meet
            case rel => exact ⟨hv, cd9, as9, ls, cs9, ts9, _, rfl, HPP.out.2, HPP.out.1, HOe.out, HDe.out⟩
        · skip
          go_simp
          have hbv := below_alloc v0 (.cells #[.int .i64 0, .slice none 0 0] 88)
          have hRl := HR.out.later hbv
          refine hK9.out _ _ ⟨hRl.c0, hRl.c1⟩ (fun hHeld => ?_)
          clear hK9 K9
          try simp only [Act.put, List.setIfInBounds_toArray, List.set_cons_zero, List.set_cons_succ, List.getElem_toArray, List.getElem_cons_zero, List.getElem_cons_succ]
          have hVn : VarP v0.heap.size (v0.alloc (.cells #[.int .i64 0, .slice none 0 0] 88)) := ⟨by simp, by simp [go_sem], by simp [go_sem], fun o => by simp [go_sem]⟩
          have hDl := HD.out.later hbv
          have hOl := And.intro (HO.out.1.later hbv) (HO.out.2.later hbv)
          have hzv : v0.heap.size < (v0.alloc (.cells #[.int .i64 0, .slice none 0 0] 88)).heap.size := by simp
          have hRs0 := HR.out.size
          have hRo0 := HR.out.o
          generalize v0.alloc (.cells #[.int .i64 0, .slice none 0 0] 88) = v1 at *
          obtain ⟨hv, hhv⟩ : ∃ hv, v0.heap.size = hv := ⟨_, rfl⟩
          rw [hhv] at hVn ⊢
          have hvw : w.heap.size < hv ∧ hv ≠ D ∧ v0.heap.size ≤ hv := by omega
          have hgr1 : v0.heap.size ≤ v1.heap.size := by omega
          have HOn := hide hOl
          clear HO hOl
          have HO := HOn
          clear HOn
          have HV := hide hVn
          clear HR HD hVn hbv
          have HR := hide hRl
          have HD := hide hDl
          clear hRl hDl
          refine wpAnyH_ready (rs := [2]) (by kernel_rfl) (by simp) (AllReadyH.cons rfl (fun K9 hK9 => ?_) (AllReadyH.nil))
          go_simp
          go_at_call 50
          refine (l3DrawPuts_some HD.out.1 (by have := HD.out.2.2; omega)).mono ?_
          rintro e v2 ⟨zp, qs, rfl, hql, hqb, tq, hdq⟩
          have HRn := hide (HR.out.drawn hdq.2.1 hsl)
          have HDn := hide (HD.out.on hdq)
          have hWq := hdq.2.1
          obtain ⟨ap, cp, hzp⟩ := BuiltP.shape hqb
          have HQ := hide (BuiltP.ow hqb rfl (by omega)).rd
          have HVn := hide (HV.out.drawn hWq (by omega))
          clear HV
          have HV := HVn
          clear HVn
          have HOn := hide (And.intro (HO.out.1.wr hWq (fun b hb e => by omega)) (HO.out.2.wr hWq (fun b hb e => by omega)))
          clear HO
          have HO := HOn
          clear HOn
          have hgr2 : v0.heap.size ≤ v2.heap.size := Nat.le_trans hgr1 hWq.size
          clear HR HD hqb hdq hWq
          have HR := HRn
          have HD := HDn
          clear HRn HDn
          generalize qs.length = lq at hzp hql
          subst hzp
          refine hK9.out _ _ ⟨HR.out.c0, HR.out.c1⟩ (fun hHeld => ?_)
          clear hK9 K9
          try simp only [Act.put, List.setIfInBounds_toArray, List.set_cons_zero, List.set_cons_succ, List.getElem_toArray, List.getElem_cons_zero, List.getElem_cons_succ]
          refine wpAnyH_ready (rs := [3]) (by kernel_rfl) (by simp) (AllReadyH.cons rfl (fun K9 hK9 => ?_) (AllReadyH.nil))
          go_simp
          go_at_call 49
          refine (specPlanAppend HR.out.rd HR.out.rp HQ.out HR.out.so.small).mono ?_
          rintro e v3 ⟨zs, rfl, hbs, hos⟩
          have HWd := hide (ap_words xss ps qs)
          have HTs := hide hos.rd
          obtain ⟨as9, cs9, hzs, _⟩ := hos.rd.shape
          generalize apF xss ps qs = cd9
          generalize apT xss ps qs = ts9 at HWd HTs hzs
          have hszs := hbs.size
          have HRn := hide (HR.out.later hbs)
          have HDn := hide (HD.out.later hbs)
          have HVn := hide (HV.out.later hbs)
          have hvlt := HV.out.lt
          clear HV
          have HV := HVn
          clear HVn
          have hfar : ∀ b, v2.heap.size ≤ b → b ≠ hv := fun b hb e => by omega
          have hRsz := HR.out.size
          have hlow := HR.out.o
          have HOn := hide (And.intro (HO.out.1.later hbs) (HO.out.2.later hbs))
          clear HO
          have HO := HOn
          clear HOn
          have hgr3 : v0.heap.size ≤ v3.heap.size := Nat.le_trans hgr2 hszs
          clear HR HD hbs hos
          have HR := HRn
          have HD := HDn
          clear HRn HDn
          generalize ts9.length = ls at hzs
          subst hzs
          have HTs2 : Hid (RdT (fun b => v2.heap.size ≤ b ∧ b < v3.heap.size) v3 (.slice as9 ls cs9) ts9) := HTs.out
          clear HTs
          refine hK9.out _ _ ⟨HR.out.c0, HR.out.c1⟩ (fun hHeld => ?_)
          clear hK9 K9
          try simp only [Act.put, List.setIfInBounds_toArray, List.set_cons_zero, List.set_cons_succ, List.getElem_toArray, List.getElem_cons_zero, List.getElem_cons_succ]
          refine wpAnyH_ready (rs := [5]) (by kernel_rfl) (by simp) (AllReadyH.cons rfl (fun K9 hK9 => ?_) (AllReadyH.nil))
          have j0 := HV.out.c0
          have j1 := HV.out.c1
          have k0 := HV.out.of 0
          have k1 := HV.out.of 1
          have hvl := HV.out.lt
          have hPP := plan_put (x := cd9) HR.out ⟨hvw.1, hvw.2.1, hvl⟩ HV.out.c0 HV.out.c1 HV.out.of HTs2.out (fun b hb => ⟨by omega, hfar b hb.1⟩) (HO.out.1.monoR (fun b hb => ⟨hb.1.1, hb.1.2, by omega⟩)) (HO.out.2.monoR (fun b hb => ⟨hb.1.1, hb.1.2, by omega⟩)) HWd.out
          have hW9 : Wr (fun b => b = hv) v3 ((v3.setCell ⟨hv, 0, none⟩ (.int .i64 cd9)).setCell ⟨hv, 1, none⟩ (.slice as9 ls cs9)) := ((Wr.refl (fun b => b = hv) _).setCell (p := ⟨hv, 0, none⟩) rfl _).setCell (p := ⟨hv, 1, none⟩) rfl _
          have hDe := HD.out.onBelow HS.out (((Below.refl w.heap.size v3).setCell (p := ⟨hv, 0, none⟩) (by dsimp only; omega) (.int .i64 cd9)).setCell (p := ⟨hv, 1, none⟩) (by dsimp only; omega) (.slice as9 ls cs9))
          have hOe := And.intro ((HO.out.1.wr hW9 (fun b hb => by omega)).monoR (T := fun b => w.heap.size < b ∧ b ≠ D ∧ b ≠ hv) (fun b hb => ⟨hb.1.1, hb.1.2, by omega⟩)) ((HO.out.2.wr hW9 (fun b hb => by omega)).monoR (T := fun b => w.heap.size < b ∧ b ≠ D ∧ b ≠ hv) (fun b hb => ⟨hb.1.1, hb.1.2, by omega⟩))
          have HPP := hide hPP
          have HDe := hide hDe
          have HOe := hide hOe
          clear hPP hDe hOe hW9
          go_simp
          refine hK9.out _ _ ⟨HPP.out.2.c0, HPP.out.2.c1⟩ (fun _ => ?_)
          clear hK9 K9
          try simp only [Act.put, List.setIfInBounds_toArray, List.set_cons_zero, List.set_cons_succ, List.getElem_toArray, List.getElem_cons_zero, List.getElem_cons_succ]
          refine wpAnyH_done (by kernel_rfl) ?_ _
          go_wp2_with fail
          go_meet
          case rel => exact ⟨hv, cd9, as9, ls, cs9, ts9, _, rfl, HPP.out.2, HPP.out.1, HOe.out, HDe.out⟩
      case rest =>
        obtain ⟨P, cd, az, nz, cz, ts, t6, rfl, HR6, HP6, HRr, HD6⟩ := hcut
        clear HR HD
        have hP := HP6.out.p
        have hRo := HR6.out.o
        go_wp2_with fail
        refine (l1Chance 3 HD6.out.1 (by have := HD6.out.2.2; omega) (by omega) (by omega)).mono ?_
        rintro e w7 ⟨ch, rfl, t7, hd7⟩
        have HR7 := hide (HR6.out.drawn hd7.2.1 hsl)
        have HP7 := hide (HP6.out.drawn hd7.2.1 hsl)
        have HRa := hide (HRr.out.1.wr hd7.2.1 (fun b hb e => by omega))
        have HRb := hide (HRr.out.2.wr hd7.2.1 (fun b hb e => by omega))
        have HD7 : Hid (Drawn (2 + (5 - (K - 1)) * 1001) s sv bs t t7 w w7) := (HD6.out.on hd7).mono (by rw [show 5 - (K - 1) = (5 - K) + 1 from (by omega)]; omega)
        clear hd7 HR6 HP6 HRr HD6
        have x0 := HR7.out.c0
        have x1 := HR7.out.c1
        have y0 := HP7.out.c0
        have y1 := HP7.out.c1
        have q0 := HP7.out.of 0
        have q1 := HP7.out.of 1
        cases ch with
        | true =>
          have HPi := hide (specPlanInstall HR7.out.rd HR7.out.rp HR7.out.so.small)
          have HWd := hide (pn_words HR7.out.so.small)
          generalize pnT xss ps = ts' at HPi HWd
          generalize pnF xss ps = cd' at HPi
          go_wp2_with fail
          refine HPi.out.mono ?_
          rintro e w8 ⟨z8, rfl, hb8, ho8⟩
          obtain ⟨a8, c8, hz8, _⟩ := ho8.rd.shape
          have HPR : Hid (PlanAt w D P cd' z8 ts' ((w8.setCell ⟨P, 0, none⟩ (.int .i64 cd')).setCell ⟨P, 1, none⟩ z8) ∧ RightAt w D (.slice a1 n1 c1) (.slice a2 n2 c2) xss ps ((w8.setCell ⟨P, 0, none⟩ (.int .i64 cd')).setCell ⟨P, 1, none⟩ z8)) :=
            plan_put (HR7.out.later hb8) ⟨hP.1, hP.2.1, Nat.lt_of_lt_of_le HP7.out.p.2.2 hb8.size⟩ (cell_later hb8 y0) (cell_later hb8 y1) (fun o => ((bcell hb8).2 _ _ HP7.out.p.2.2).trans (HP7.out.of o)) ho8.rd (fun b hb => by have := HR7.out.size; have := HR7.out.o; have := HP7.out.p; omega) (HRa.out.later hb8) (HRb.out.later hb8) HWd.out
          have HD8 : Hid (Drawn (2 + (5 - (K - 1)) * 1001) s sv bs t t7 w ((w8.setCell ⟨P, 0, none⟩ (.int .i64 cd')).setCell ⟨P, 1, none⟩ z8)) := HD7.out.onBelow HS.out (((hb8.mono HR7.out.size).setCell (p := ⟨P, 0, none⟩) (by dsimp only; omega) _).setCell (p := ⟨P, 1, none⟩) (by dsimp only; omega) _)
          have m0 := cell_later hb8 y0
          have m1 := cell_later hb8 y1
          have f0 := ((bcell hb8).2 _ _ HP7.out.p.2.2).trans q0
          have f1 := ((bcell hb8).2 _ _ HP7.out.p.2.2).trans q1
          generalize ts'.length = l8 at hz8
          subst hz8
          clear hb8 ho8 HR7 HP7 HRa HRb HD7 x0 x1 y0 y1 q0 q1 HPi HWd
          go_upto_region 8 with fail
          generalize (w8.setCell ⟨P, 0, none⟩ (.int .i64 cd')).setCell ⟨P, 1, none⟩ (.slice a8 l8 c8) = W8 at HPR HD8 ⊢
          clear m0 m1 f0 f1
          have HR9 := hide HPR.out.2
          have HP9 := hide HPR.out.1
          clear HPR
          have x0 := HR9.out.c0
          have x1 := HR9.out.c1
          have e0 := HR9.out.of 0
          have e1 := HR9.out.of 1
          have y0 := HP9.out.c0
          have y1 := HP9.out.c1
          have hRo9 := HR9.out.o
          have HRn := hide (l3Run_some HR9.out.rd HR9.out.rp HP9.out.rd HR9.out.so HP9.out.words)
          obtain ⟨cx, hcx⟩ : ∃ cx : Int, cd' = cx := ⟨_, rfl⟩
          rw [hcx] at y0
          by_cases hcd : cx = 0
          · subst hcd
            go_wp2_with fail
            refine HRn.out.mono ?_
            rintro e wa ⟨xx, b1, l1, d1, b2, l2, d2, yss, qs, rfl, hba, hra, hrb, hso⟩
            have hza := hba.size
            have HRe : Hid (RightAt w D (.slice b1 l1 d1) (.slice b2 l2 d2) yss qs ((wa.setCell ⟨D, 0, none⟩ (.slice b1 l1 d1)).setCell ⟨D, 1, none⟩ (.slice b2 l2 d2))) := by
              have hW : Wr (fun b => b = D) wa ((wa.setCell ⟨D, 0, none⟩ (.slice b1 l1 d1)).setCell ⟨D, 1, none⟩ (.slice b2 l2 d2)) := ((Wr.refl (fun b => b = D) _).setCell (p := ⟨D, 0, none⟩) rfl _).setCell (p := ⟨D, 1, none⟩) rfl _
              have hl := HR9.out.later hba
              exact ⟨by simp; omega, ⟨hRo9.1, by simp; omega⟩, by simp [go_sem, hl.c0], by simp [go_sem, hl.c1], fun o => by rw [World.frozen?_setCell, World.frozen?_setCell]; exact hl.of o, cell_wr hW hl.r0 (by omega), cell_wr hW hl.r1 (by omega), fun o => by rw [World.frozen?_setCell, World.frozen?_setCell]; exact hl.rf o,
                (hra.wr hW (fun b hb => by omega)).monoR fun b hb => by omega, (hrb.wr hW (fun b hb => by omega)).monoR fun b hb => by omega, hso⟩
            have HDa : Hid (Drawn (2 + (5 - (K - 1)) * 1001) s sv bs t t7 w ((wa.setCell ⟨D, 0, none⟩ (.slice b1 l1 d1)).setCell ⟨D, 1, none⟩ (.slice b2 l2 d2))) := HD8.out.onBelow HS.out (((hba.mono HR9.out.size).setCell (p := ⟨D, 0, none⟩) (by dsimp only; omega) _).setCell (p := ⟨D, 1, none⟩) (by dsimp only; omega) _)
            have m0 := cell_later hba x0
            have m1 := cell_later hba x1
            have f0 := ((bcell hba).2 _ _ hRo9.2).trans e0
            have f1 := ((bcell hba).2 _ _ hRo9.2).trans e1
            obtain ⟨K', rfl⟩ : ∃ K', K = K' + 1 := ⟨K - 1, by omega⟩
            clear hba hra hrb hso
            go_wp2
            go_roundw
            case rel => exact ⟨K', b1, l1, d1, b2, l2, d2, yss, qs, t7, by omega, by go_num, HRe.out, by unfold Hid; simpa using HDa.out⟩
            case measure => simp [RowKit.intOf]
          · have hcb : (cx == 0) = false := by simpa using hcd
            obtain ⟨K', rfl⟩ : ∃ K', K = K' + 1 := ⟨K - 1, by omega⟩
            go_wp2
            go_roundw
            case rel => exact ⟨K', a1, n1, c1, a2, n2, c2, xss, ps, t7, by omega, by go_num, HR9.out, by unfold Hid; simpa using HD8.out⟩
            case measure => simp [RowKit.intOf]
        | false =>
          have HR9 := HR7
          have HP9 := HP7
          have HD8 := HD7
          clear HR7 HP7 HD7 HRa HRb x0 x1 y0 y1 q0 q1
          have x0 := HR9.out.c0
          have x1 := HR9.out.c1
          have e0 := HR9.out.of 0
          have e1 := HR9.out.of 1
          have y0 := HP9.out.c0
          have y1 := HP9.out.c1
          have hRo9 := HR9.out.o
          have HRn := hide (l3Run_some HR9.out.rd HR9.out.rp HP9.out.rd HR9.out.so HP9.out.words)
          obtain ⟨cx, hcx⟩ : ∃ cx : Int, cd = cx := ⟨_, rfl⟩
          rw [hcx] at y0
          by_cases hcd : cx = 0
          · subst hcd
            go_wp2_with fail
            refine HRn.out.mono ?_
            rintro e wa ⟨xx, b1, l1, d1, b2, l2, d2, yss, qs, rfl, hba, hra, hrb, hso⟩
            have hza := hba.size
            have HRe : Hid (RightAt w D (.slice b1 l1 d1) (.slice b2 l2 d2) yss qs ((wa.setCell ⟨D, 0, none⟩ (.slice b1 l1 d1)).setCell ⟨D, 1, none⟩ (.slice b2 l2 d2))) := by
              have hW : Wr (fun b => b = D) wa ((wa.setCell ⟨D, 0, none⟩ (.slice b1 l1 d1)).setCell ⟨D, 1, none⟩ (.slice b2 l2 d2)) := ((Wr.refl (fun b => b = D) _).setCell (p := ⟨D, 0, none⟩) rfl _).setCell (p := ⟨D, 1, none⟩) rfl _
              have hl := HR9.out.later hba
              exact ⟨by simp; omega, ⟨hRo9.1, by simp; omega⟩, by simp [go_sem, hl.c0], by simp [go_sem, hl.c1], fun o => by rw [World.frozen?_setCell, World.frozen?_setCell]; exact hl.of o, cell_wr hW hl.r0 (by omega), cell_wr hW hl.r1 (by omega), fun o => by rw [World.frozen?_setCell, World.frozen?_setCell]; exact hl.rf o,
                (hra.wr hW (fun b hb => by omega)).monoR fun b hb => by omega, (hrb.wr hW (fun b hb => by omega)).monoR fun b hb => by omega, hso⟩
            have HDa : Hid (Drawn (2 + (5 - (K - 1)) * 1001) s sv bs t t7 w ((wa.setCell ⟨D, 0, none⟩ (.slice b1 l1 d1)).setCell ⟨D, 1, none⟩ (.slice b2 l2 d2))) := HD8.out.onBelow HS.out (((hba.mono HR9.out.size).setCell (p := ⟨D, 0, none⟩) (by dsimp only; omega) _).setCell (p := ⟨D, 1, none⟩) (by dsimp only; omega) _)
            have m0 := cell_later hba x0
            have m1 := cell_later hba x1
            have f0 := ((bcell hba).2 _ _ hRo9.2).trans e0
            have f1 := ((bcell hba).2 _ _ hRo9.2).trans e1
            obtain ⟨K', rfl⟩ : ∃ K', K = K' + 1 := ⟨K - 1, by omega⟩
            clear hba hra hrb hso
            go_wp2
            go_roundw
            case rel => exact ⟨K', b1, l1, d1, b2, l2, d2, yss, qs, t7, by omega, by go_num, HRe.out, by unfold Hid; simpa using HDa.out⟩
            case measure => simp [RowKit.intOf]
          · have hcb : (cx == 0) = false := by simpa using hcd
            obtain ⟨K', rfl⟩ : ∃ K', K = K' + 1 := ⟨K - 1, by omega⟩
            go_wp2
            go_roundw
            case rel => exact ⟨K', a1, n1, c1, a2, n2, c2, xss, ps, t7, by omega, by go_num, HR9.out, by unfold Hid; simpa using HD8.out⟩
            case measure => simp [RowKit.intOf]
    · have hKz : K = 0 := by omega
      subst hKz
      have x0 := HR.out.c0
      have x1 := HR.out.c1
      have s0 := HR.out.r0
      have s1 := HR.out.r1
      have t0 := HR.out.rf 0
      have t1 := HR.out.rf 1
      have HE : Hid (RdII (fun b => w.heap.size ≤ b) ((wr.setCell ⟨w.heap.size, 0, none⟩ (.slice a1 n1 c1)).setCell ⟨w.heap.size, 1, none⟩ (.slice a2 n2 c2)) (.slice a1 n1 c1) xss ∧ RdP (fun b => w.heap.size ≤ b) ((wr.setCell ⟨w.heap.size, 0, none⟩ (.slice a1 n1 c1)).setCell ⟨w.heap.size, 1, none⟩ (.slice a2 n2 c2)) (.slice a2 n2 c2) ps) := by
        have hW : Wr (fun b => b = w.heap.size) wr ((wr.setCell ⟨w.heap.size, 0, none⟩ (.slice a1 n1 c1)).setCell ⟨w.heap.size, 1, none⟩ (.slice a2 n2 c2)) := ((Wr.refl (fun b => b = w.heap.size) _).setCell (p := ⟨w.heap.size, 0, none⟩) rfl _).setCell (p := ⟨w.heap.size, 1, none⟩) rfl _
        exact ⟨(HR.out.rd.wr hW (fun b hb => by omega)).monoR fun b hb => by omega, (HR.out.rp.wr hW (fun b hb => by omega)).monoR fun b hb => by omega⟩
      have HDe : Hid (Drawn 10000 s sv bs t t5 w ((wr.setCell ⟨w.heap.size, 0, none⟩ (.slice a1 n1 c1)).setCell ⟨w.heap.size, 1, none⟩ (.slice a2 n2 c2))) := (HD.out.onBelow HS.out (((Below.refl w.heap.size wr).setCell (p := ⟨w.heap.size, 0, none⟩) (Nat.le_refl _) _).setCell (p := ⟨w.heap.size, 1, none⟩) (Nat.le_refl _) _)).mono (by omega)
      go_wp2
      refine bodyPost_ret (v := .agg #[.slice a1 n1 c1, .slice a2 n2 c2]) (by simp [results, Tryz.results21, go_sem, s0, s1]) rfl ⟨a1, n1, c1, a2, n2, c2, xss, ps, rfl, HE.out.1, HE.out.2, HR.out.so, t5, HDe.out⟩
end Go.Proofs.YtamknomapabmfaaGreat
