/- PlanI2 Puts3 PlanD in one text: what each says stands at its head below. -/
import Derived.Test.YtamknomapabmfaaGreatG23
import Derived.Test.YtamknomapabmfaaGreatG21
import Derived.Test.YtamknomapabmfaaGreatG05
import Derived.Test.YtamknomapabmfaaGreatG16
import Derived.Test.YtamknomapabmfaaGreatG24
/- Chapter 3: 'PlanInstall' of the program and of the model, walked. -/
namespace Go.Proofs.YtamknomapabmfaaGreat
open Go.RowKit

/-- The code of 'PlanInstall', and its steps. -/
def pnF (xss : List (List Int)) (ps : List (Int × List Int)) : Int := if inF xss ps = 0 then (if inS xss ps = 65000 then 10 else 0) else inF xss ps
def pnT (xss : List (List Int)) (ps : List (Int × List Int)) : List St := if inF xss ps = 0 ∧ inS xss ps ≠ 65000 ∧ (inA xss ps).length ≠ 0 then insTs xss ps (inS xss ps) (inT xss ps) (inA xss ps) else []

theorem head_next {s t : Int} {n : Int} (h1 : 1 ≤ s) (h2 : s < 65000) : headF (s + 1) ((t + n) % 24) [] = 0 :=
  headF_ok ⟨by omega, by omega, by omega, by omega⟩ (by simp) (fun i hi => absurd hi (Nat.not_lt_zero _))

set_option maxHeartbeats 2000000 in
set_option maxRecDepth 4000 in
theorem specPlanInstall {S T : Nat → Prop} {w : World} {u v : Value} {xss : List (List Int)} {ps : List (Int × List Int)} (hu : RdII S w u xss) (hv : RdP T w v ps) (hs : Small xss ps) :
    Calls Tryz.prog 51 #[.agg #[u, v]] w (EndsT (pnF xss ps) (pnT xss ps) w) := by
  unfold EndsT pnF pnT
  obtain ⟨ao, c, rfl, _⟩ := hu.shape
  obtain ⟨ao', c', rfl, _⟩ := hv.shape
  have HIn := hide (fun (w' : World) (hb : Below w.heap.size w w') => specHeaderIn (hu.later hb) (hv.later hb) hs)
  have HU := hide hu
  have HV := hide hv
  have HS := hide hs
  obtain ⟨n, hn⟩ : ∃ n, xss.length = n := ⟨_, rfl⟩
  obtain ⟨m, hm⟩ : ∃ m, ps.length = m := ⟨_, rfl⟩
  have A0 := hide (below_on (below_alloc w (.cells #[.slice ao n c, .slice ao' m c'] 54)) (below_alloc _ (.cells #[.int .i64 0, .slice none 0 0] 88)))
  rw [hn] at HU
  rw [hm] at HV
  by_cases h0 : inF xss ps = 0
  · obtain ⟨_, h66, hhd⟩ := in_ok h0
    obtain ⟨⟨hs1, hs2, _, _⟩, hA24, _⟩ := headF_zero hhd
    rw [if_pos h0]
    rw [h0] at HIn
    have HLI := hide (fun (w' : World) (S3 : Nat → Prop) (bh : Nat) (y : Value) (hb : Below w.heap.size w w') (hd0 : w'.cell? ⟨w.heap.size, 0, none⟩ = some (.slice ao n c)) (hd1 : w'.cell? ⟨w.heap.size, 1, none⟩ = some (.slice ao' m c')) (hh : HdAt w' bh 1 (inS xss ps) (inT xss ps) y) (hA : RdI S3 w' y (inA xss ps)) (hlt : inS xss ps < 65000) => l3Install hd0 hd1 (HU.out.later hb) (HV.out.later hb) HS.out h66 hh hA hhd hlt)
    have HTL := hide (insTs_len xss ps (inS xss ps) (inT xss ps) (inA xss ps))
    generalize insTs xss ps (inS xss ps) (inT xss ps) (inA xss ps) = ts at HTL HLI ⊢
    have h00 : inF xss ps = 0 := h0
    generalize inS xss ps = s at HIn HLI hs1 hs2 ⊢
    generalize inT xss ps = t at HIn HLI
    generalize inA xss ps = A at HIn HTL HLI hA24 ⊢
    obtain ⟨l, hl⟩ : ∃ l, A.length = l := ⟨_, rfl⟩
    have HL := hide hl
    rw [hl] at hA24 HTL HLI
    rw [hn, hm] at HIn
    rw [hn, hm, hl]
    have H00 := hide h00
    obtain ⟨cc, hcc⟩ : ∃ cc : Int, (if s = 65000 then (10 : Int) else 0) = cc := ⟨_, rfl⟩
    obtain ⟨rs, hrs⟩ : ∃ rs : List St, (if inF xss ps = 0 ∧ s ≠ 65000 ∧ l ≠ 0 then ts else []) = rs := ⟨_, rfl⟩
    rw [hcc, hrs]
    have HCC := hide hcc
    have HRS := hide hrs
    clear hu hv hs hn hm h0 h00 h66 hhd hl hcc hrs
    go_enter Tryz.func51, Tryz.ntmps51
    go_wp2_with fail
    refine (HIn.out _ A0.out).mono ?_
    rintro e w1 ⟨z1, rfl, hb1, ho1⟩
    obtain ⟨a1, k1, hz1'⟩ := ho1.shape
    rw [HL.out] at hz1'
    subst hz1'
    have bR := below_alloc w1 (.cells #[.int .i64 0, .int .i64 s, .int .i64 t, .slice a1 l k1] 104)
    have b1' := below_on hb1 bR
    have HW : Hid (Below w.heap.size w (w1.alloc (.cells #[.int .i64 0, .int .i64 s, .int .i64 t, .slice a1 l k1] 104)) ∧ Var2 (w1.alloc (.cells #[.int .i64 0, .int .i64 s, .int .i64 t, .slice a1 l k1] 104)) w.heap.size (.slice ao n c) (.slice ao' m c') ∧ Var2 (w1.alloc (.cells #[.int .i64 0, .int .i64 s, .int .i64 t, .slice a1 l k1] 104)) (w.heap.size + 1) (.int .i64 0) (.slice none 0 0) ∧ (∀ o, (w1.alloc (.cells #[.int .i64 0, .int .i64 s, .int .i64 t, .slice a1 l k1] 104)).frozen? ⟨w.heap.size + 1, o, none⟩ = false) ∧ HdAt (w1.alloc (.cells #[.int .i64 0, .int .i64 s, .int .i64 t, .slice a1 l k1] 104)) w1.heap.size 1 s t (.slice a1 l k1) ∧ RdI (fun _ => True) (w1.alloc (.cells #[.int .i64 0, .int .i64 s, .int .i64 t, .slice a1 l k1] 104)) (.slice a1 l k1) A) :=
      ⟨below_on A0.out b1', ⟨cell_later b1' (by simp [go_sem]), cell_later b1' (by simp [go_sem])⟩, ⟨cell_later b1' (by simp [go_sem]), cell_later b1' (by simp [go_sem])⟩, fun o => ((bcell b1').2 _ _ (by simp)).trans (by simp [go_sem]), ⟨by simp [go_sem], by simp [go_sem], by simp [go_sem]⟩, (ho1.rd.later bR).narrow (fun _ _ _ => trivial)⟩
    have hsz : w.heap.size + 1 < w1.heap.size := by have := hb1.size; simp at this; omega
    clear hb1 ho1 bR b1' HIn A0
    go_upto_region 4 with fail
    refine forget (fun wx => Below w.heap.size w wx ∧ Var2 wx w.heap.size (.slice ao n c) (.slice ao' m c') ∧ Var2 wx (w.heap.size + 1) (.int .i64 0) (.slice none 0 0) ∧ (∀ o, wx.frozen? ⟨w.heap.size + 1, o, none⟩ = false) ∧ HdAt wx w1.heap.size 1 s t (.slice a1 l k1) ∧ RdI (fun _ => True) wx (.slice a1 l k1) A) HW.out ?_
    obtain ⟨H, hH⟩ : ∃ H, w1.heap.size = H := ⟨_, rfl⟩
    rw [hH] at hsz ⊢
    clear HW hH
    rintro V ⟨hbV, ⟨d0, d1⟩, ⟨q0, q1⟩, qf, hHd, hRA⟩
    have HBV := hide hbV
    have HD0 := hide d0
    have HD1 := hide d1
    have HHd := hide hHd
    have HRA := hide hRA
    have h0 := hHd.seq
    have h2 := hHd.addrs
    have hHl : H < V.heap.size := World.block_lt_of_cell? _ _ h0
    have f0 := qf 0
    have f1 := qf 1
    have HQf := hide qf
    clear hbV hHd hRA d0 d1 qf
    by_cases h65 : s = 65000
    · have e1 : cc = 10 := by rw [← HCC.out, if_pos h65]
      have e2 : rs = [] := by rw [← HRS.out, if_neg (fun h => h.2.1 h65)]
      subst e1 e2 h65
      go_wp2
      exact bodyPost_ret (v := .agg #[.int .i64 10, .slice none 0 0]) (by simp [results, Tryz.results51, go_sem, q0, q1]) rfl ⟨_, rfl, (HBV.out.setCell (by simp) _).setCell (by simp) _, OwT_nil _ _⟩
    · have e1 : cc = 0 := by rw [← HCC.out, if_neg h65]
      have h65' : ¬ 65000 ≤ s := by omega
      subst e1
      by_cases hl0 : l = 0
      · have e2 : rs = [] := by rw [← HRS.out, if_neg (fun h => h.2.2 hl0)]
        subst e2 hl0
        go_wp2
        exact bodyPost_ret (v := .agg #[.int .i64 0, .slice none 0 0]) (by simp [results, Tryz.results51, go_sem, q0, q1]) rfl ⟨_, rfl, (HBV.out.setCell (by simp) _).setCell (by simp) _, OwT_nil _ _⟩
      · have e2 : rs = ts := by rw [← HRS.out, if_pos ⟨H00.out, h65, hl0⟩]
        subst e2
        have hl0' : ¬ (l : Int) = 0 := by omega
        have HSt := hide (HLI.out V _ H _ HBV.out HD0.out HD1.out HHd.out HRA.out (by omega))
        go_wp2_with fail
        refine HSt.out.mono ?_
        rintro e w6 ⟨z6, rfl, hb6, ho6⟩
        obtain ⟨a6, k6, rfl⟩ := ho6.shape
        have v0 := cell_later hb6 q0
        have v1 := cell_later hb6 q1
        have g0 := ((bcell hb6).2 _ _ (by omega)).trans f0
        have g1 := ((bcell hb6).2 _ _ (by omega)).trans f1
        have HFin := hide (ret_steps (x := .int .i64 0) (below_on HBV.out hb6) (r := w.heap.size + 1) (by omega) (ho6.ow HTL.out (by omega)) (fun b hb => ⟨by have := hb.1; omega, hb.2⟩))
        clear hb6 ho6 q0 q1 f0 f1 h0 h2
        go_wp2
        exact bodyPost_ret (v := .agg #[.int .i64 0, .slice a6 (l + 3) k6]) (by simp [results, Tryz.results51, go_sem, v0, v1]) rfl ⟨_, rfl, HFin.out.1, HFin.out.2⟩
  · rw [if_neg h0, if_neg (fun h => h0 h.1)]
    rw [hn, hm] at HIn
    rw [hn, hm]
    clear hu hv hs hn hm HU HV
    generalize inF xss ps = z at HIn h0 ⊢
    go_enter Tryz.func51, Tryz.ntmps51
    go_wp2_with fail
    refine (HIn.out _ A0.out).mono ?_
    rintro e w1 ⟨z1, rfl, hb1, ho1⟩
    obtain ⟨a1, k1, rfl⟩ := ho1.shape
    have q0 : w1.cell? ⟨w.heap.size + 1, 0, none⟩ = some (.int .i64 0) := cell_later hb1 (by simp [go_sem])
    have q1 : w1.cell? ⟨w.heap.size + 1, 1, none⟩ = some (.slice none 0 0) := cell_later hb1 (by simp [go_sem])
    have f0 : w1.frozen? ⟨w.heap.size + 1, 0, none⟩ = false := ((bcell hb1).2 _ _ (by simp)).trans (by simp [go_sem])
    have f1 : w1.frozen? ⟨w.heap.size + 1, 1, none⟩ = false := ((bcell hb1).2 _ _ (by simp)).trans (by simp [go_sem])
    have hlt : w.heap.size + 1 < w1.heap.size := World.block_lt_of_cell? _ _ q0
    have HB := hide (below_on A0.out hb1)
    generalize (inA xss ps).length = l
    generalize inS xss ps = s
    generalize inT xss ps = t
    clear hb1 ho1
    go_wp2
    have BA := below_alloc ((w1.setCell ⟨w.heap.size + 1, 0, none⟩ (.int .i64 z)).setCell ⟨w.heap.size + 1, 1, none⟩ (.slice none 0 0)) (.cells #[.int .i64 z, .int .i64 s, .int .i64 t, .slice a1 l k1] 104)
    have m0 := cell_later BA (a := ⟨w.heap.size + 1, 0, none⟩) (v := .int .i64 z) (by simp [go_sem, q0])
    have m1 := cell_later BA (a := ⟨w.heap.size + 1, 1, none⟩) (v := .slice none 0 0) (by simp [go_sem, q1])
    exact bodyPost_ret (v := .agg #[.int .i64 z, .slice none 0 0]) (by simp [results, Tryz.results51, go_sem, m0, m1]) rfl ⟨_, rfl, ((HB.out.setCell (by simp) _).setCell (by simp) _).trans (BA.mono (by simp; omega)), OwT_nil _ _⟩

theorem totS_most {ts : List St} {B : Nat} (h : ∀ i, i < ts.length → (ts.getD i st0).2.2.length ≤ B) : ∀ i, i ≤ ts.length → totS ts i ≤ i * (B + 2) := by
  intro i
  induction i with
  | zero => intro _; rw [totS_zero]; omega
  | succ i ih =>
    intro hi
    rw [totS_succ ts i (by omega), Nat.succ_mul]
    have := ih (by omega)
    have := h i (by omega)
    omega
theorem pn_bound {xss : List (List Int)} {ps : List (Int × List Int)} (hs : Small xss ps) : totS (pnT xss ps) (pnT xss ps).length ≤ 1073741824 := by
  unfold pnT
  split
  · rename_i h
    obtain ⟨_, h66, hhd⟩ := in_ok h.1
    obtain ⟨_, hA24, _⟩ := headF_zero hhd
    have hl := insTs_len xss ps (inS xss ps) (inT xss ps) (inA xss ps)
    have := totS_most (ts := insTs xss ps (inS xss ps) (inT xss ps) (inA xss ps)) (B := 1048576) (fun i hi => by
      rw [hl] at hi
      by_cases h1 : i < (inA xss ps).length
      · rw [insTs_at _ _ _ _ _ _ h1]; exact slotW_len hs h66 _ _
      · have : i = (inA xss ps).length ∨ i = (inA xss ps).length + 1 ∨ i = (inA xss ps).length + 2 := by omega
        rcases this with rfl | rfl | rfl
        · rw [insTs_0]; simp
        · rw [insTs_1, packL_len (by simp)]; omega
        · rw [insTs_2]; simp) _ (Nat.le_refl _)
    rw [hl] at this ⊢
    have h2 : ((inA xss ps).length + 3) * (1048576 + 2) ≤ 27 * (1048576 + 2) := Nat.mul_le_mul_right _ (by omega)
    omega
  · simp [totS]
end Go.Proofs.YtamknomapabmfaaGreat
/- Chapter 3, the model's side: 'l3Puts', walked. -/
namespace Go.Proofs.YtamknomapabmfaaGreat
open Go.RowKit

set_option maxHeartbeats 1000000 in
set_option maxRecDepth 4000 in
theorem l3Puts {T : Nat → Prop} {w : World} {v : Value} {ps : List (Int × List Int)} (hv : RdP T w v ps) :
    Calls Tryz.prog 67 #[v] w fun e w' => e = .returned (.int .i64 (hpF 12 ps)) ∧ ∃ q, w' = w.drewN q := by
  obtain ⟨ao, c, rfl, hm'⟩ := hv.shape
  have HV := hide hv
  obtain ⟨m, hm⟩ : ∃ m, ps.length = m := ⟨_, rfl⟩
  have HM := hide hm
  rw [hm] at HV hm' ⊢
  clear hv hm
  by_cases h70 : 12 < m
  · have HZ := hide (show hpF 12 ps = 2 by unfold hpF; rw [if_pos (by rw [HM.out]; exact h70)])
    go_enter Tryz.func67, Tryz.ntmps67
    go_wp2
    go_ret
    exact ⟨ret_int HZ.out.symm, 0, rfl⟩
  · have HE := hide (show hpF 12 ps = firstP 40 ps by unfold hpF; rw [if_neg (by rw [HM.out]; exact h70)])
    go_enter Tryz.func67, Tryz.ntmps67
    go_wp2
    go_loopw [3] (fun i wr => ∃ j : Nat, j ≤ m ∧ i = .int .i64 j ∧ Hid (firstP 40 ps = firstP 40 (ps.drop j)) ∧ Hid (∃ q, wr = w.drewN q)) (fun i _ => m - (intOf i).toNat)
    case atStart => exact ⟨0, Nat.zero_le _, rfl, by simp [Hid], ⟨0, rfl⟩⟩
    case round =>
      obtain ⟨j, hj, rfl, HG, HB2⟩ := hrel
      by_cases hlt2 : j < m
      · obtain ⟨b2, off2, V2, rfl, q1, q2, q3⟩ := HV.out.at (k := j) (by rw [HM.out]; exact hlt2)
        have g1 := (drewN_cell HB2.out _).trans q1
        have g2 := (drewN_cell HB2.out _).trans q2
        have R2 : Hid (RdI T wr V2 (ps.getD j (0, [])).2) := by obtain ⟨q, rfl⟩ := HB2; exact q3
        obtain ⟨x, hx⟩ : ∃ x, (ps.getD j (0, [])).1 = x := ⟨_, rfl⟩
        have HX := hide hx
        rw [hx] at g1
        clear q1 q2 q3 hx
        by_cases hat : 0 ≤ x ∧ x < 40
        · obtain ⟨ha1, ha2⟩ := hat
          by_cases hw : wordsF (ps.getD j (0, [])).2 = 0
          · have HF2 := hide (HG.out.trans (firstP_ok (by rw [HM.out]; exact hlt2) (by rw [HX.out]; exact ⟨ha1, ha2⟩) hw))
            have HW := hide hw
            clear hw
            go_wp2_with fail
            refine (l2Home_yes x ha1 (by omega) _).mono ?_
            rintro e w1 ⟨rfl, rfl⟩
            go_wp2_with fail
            refine (l1Words R2.out).mono ?_
            rintro e w' ⟨he, hq⟩
            rw [HW.out] at he
            subst he
            have HB3 := hide (drewN_on HB2.out hq)
            clear hq
            go_wp2
            go_roundw
            case rel => exact ⟨j + 1, by omega, by go_num, HF2.out, HB3.out⟩
            case measure => simp [intOf]; omega
          · have HF2 := hide (HE.out.trans (HG.out.trans (firstP_no (by rw [HM.out]; exact hlt2) (by rw [HX.out]; exact ⟨ha1, ha2⟩) hw)))
            obtain ⟨z, hz⟩ : ∃ z, wordsF (ps.getD j (0, [])).2 = z := ⟨_, rfl⟩
            have HW := hide hz
            rw [hz] at hw
            clear hz
            go_wp2_with fail
            refine (l2Home_yes x ha1 (by omega) _).mono ?_
            rintro e w1 ⟨rfl, rfl⟩
            go_wp2_with fail
            refine (l1Words R2.out).mono ?_
            rintro e w' ⟨he, hq⟩
            rw [HW.out] at he
            subst he
            have HB3 := hide (drewN_on HB2.out hq)
            clear hq
            go_wp2
            go_ret
            exact ⟨ret_int (by rw [HF2.out, HW.out]), HB3.out⟩
        · have HZ := hide (HE.out.trans (HG.out.trans (firstP_at (n := 40) (by rw [HM.out]; exact hlt2) (by rw [HX.out]; exact hat))))
          have HA := hide (show x < 0 ∨ 39 < x by omega)
          clear hat
          go_wp2_with fail
          refine (l2Home_no x HA.out _).mono ?_
          rintro e w1 ⟨rfl, rfl⟩
          go_wp2
          go_ret
          exact ⟨ret_int HZ.out.symm, HB2.out⟩
      · have HZ := hide (HE.out.trans (HG.out.trans (firstP_end (by rw [HM.out]; omega))))
        go_wp2
        go_ret
        exact ⟨ret_int HZ.out.symm, HB2.out⟩
end Go.Proofs.YtamknomapabmfaaGreat
/- Chapter 3, the model's side: 'PlanAppend', walked. -/
namespace Go.Proofs.YtamknomapabmfaaGreat
open Go.RowKit

set_option maxHeartbeats 3000000 in
set_option maxRecDepth 4000 in
theorem specPlanAppend {S T S1 : Nat → Prop} {w : World} {u v y : Value} {xss : List (List Int)} {ps qs : List (Int × List Int)} (hu : RdII S w u xss) (hv : RdP T w v ps) (hy : RdP S1 w y qs) (hs : Small xss ps) :
    Calls Tryz.prog 49 #[.agg #[u, v], y] w (EndsT (apF xss ps qs) (apT xss ps qs) w) := by
  unfold EndsT apF apT
  obtain ⟨ao, c, rfl, _⟩ := hu.shape
  obtain ⟨ao', c', rfl, _⟩ := hv.shape
  obtain ⟨aq, cq, rfl, hqm⟩ := hy.shape
  have HIn := hide (fun (w' : World) (hb : Below w.heap.size w w') => specHeaderIn (hu.later hb) (hv.later hb) hs)
  have HPF : Hid (∀ w', Below w.heap.size w w' → Calls Tryz.prog 67 #[.slice aq qs.length cq] w' fun e w'' => e = .returned (.int .i64 (hpF 12 qs)) ∧ ∃ q, w'' = w'.drewN q) := fun w' hb => l3Puts (hy.later hb)
  have HQ := hide hy
  obtain ⟨n, hn⟩ : ∃ n, xss.length = n := ⟨_, rfl⟩
  obtain ⟨m, hm⟩ : ∃ m, ps.length = m := ⟨_, rfl⟩
  obtain ⟨k, hk⟩ : ∃ k, qs.length = k := ⟨_, rfl⟩
  have HK := hide hk
  have A0 := hide (below_on (below_alloc w (.cells #[.slice ao n c, .slice ao' m c'] 54)) (below_alloc _ (.cells #[.int .i64 0, .slice none 0 0] 88)))
  by_cases h0 : inF xss ps = 0
  · by_cases hq : hpF 12 qs = 0
    · obtain ⟨_, h66, hhd⟩ := in_ok h0
      obtain ⟨⟨hs1, hs2, ht1, ht2⟩, hA24, hA39⟩ := headF_zero hhd
      obtain ⟨hq12, hqA⟩ := hpF_zero hq
      rw [if_pos h0, if_pos hq]
      rw [h0] at HIn
      rw [hq] at HPF
      have HLA := hide (fun (w' : World) (bh o : Nat) (y' : Value) (hb : Below w.heap.size w w') (hh : HdAt w' bh o (inS xss ps) (inT xss ps) y') (hA : RdI (fun _ => True) w' y' (inA xss ps)) (h1 : inS xss ps < 65000) (h2 : (inA xss ps).length + qs.length ≤ 24) => l3Append hh hA (hy.later hb) hhd h1 hq h2)
      have HTL := hide (apTs_len (inS xss ps) (inT xss ps) (inA xss ps) qs)
      generalize apTs (inS xss ps) (inT xss ps) (inA xss ps) qs = ts at HTL HLA ⊢
      have H00 := hide (And.intro h0 hq)
      generalize inS xss ps = s at HIn HLA hs1 hs2 ⊢
      generalize inT xss ps = t at HIn HLA ht1 ht2
      generalize inA xss ps = A at HIn HLA hA24 ⊢
      obtain ⟨l, hl⟩ : ∃ l, A.length = l := ⟨_, rfl⟩
      have HL := hide hl
      rw [hl] at hA24 HLA
      rw [hk] at HPF HQ HTL HLA hq12
      rw [hn, hm] at HIn
      rw [hn, hm, hl, hk]
      obtain ⟨cc, hcc⟩ : ∃ cc : Int, (if s = 65000 then (10 : Int) else if k = 0 then 0 else if 24 < l + k then 8 else 0) = cc := ⟨_, rfl⟩
      obtain ⟨rs, hrs⟩ : ∃ rs : List St, (if inF xss ps = 0 ∧ hpF 12 qs = 0 ∧ s ≠ 65000 ∧ k ≠ 0 ∧ l + k ≤ 24 then ts else []) = rs := ⟨_, rfl⟩
      rw [hcc, hrs]
      have HCC := hide hcc
      have HRS := hide hrs
      clear hu hv hy hs hn hm hk hqm h0 hq h66 hhd hl hA39 hqA hcc hrs
      go_enter Tryz.func49, Tryz.ntmps49
      go_wp2_with fail
      refine (HIn.out _ A0.out).mono ?_
      rintro e w1 ⟨z1, rfl, hb1, ho1⟩
      obtain ⟨a1, k1, hz1'⟩ := ho1.shape
      rw [HL.out] at hz1'
      subst hz1'
      have bR := below_alloc w1 (.cells #[.int .i64 0, .int .i64 s, .int .i64 t, .slice a1 l k1] 104)
      have b1' := below_on hb1 bR
      have HB1 := hide (below_on A0.out b1')
      have d0 : w1.cell? ⟨w.heap.size + 1, 0, none⟩ = some (.int .i64 0) := cell_later hb1 (by simp [go_sem])
      have d1 : w1.cell? ⟨w.heap.size + 1, 1, none⟩ = some (.slice none 0 0) := cell_later hb1 (by simp [go_sem])
      have df : Hid (∀ o, w1.frozen? ⟨w.heap.size + 1, o, none⟩ = false) := fun o => ((bcell hb1).2 _ _ (by simp)).trans (by simp [go_sem])
      have hlt1 : w.heap.size + 1 < w1.heap.size := World.block_lt_of_cell? _ _ d0
      have HRA := hide (ho1.rd.later bR)
      clear hb1 ho1 bR b1'
      go_wp2_with fail
      refine (HPF.out _ HB1.out).mono ?_
      rintro e w2 ⟨rfl, qd, rfl⟩
      have bR := below_alloc w1 (.cells #[.int .i64 0, .int .i64 s, .int .i64 t, .slice a1 l k1] 104)
      have bD := below_drewN (w1.alloc (.cells #[.int .i64 0, .int .i64 s, .int .i64 t, .slice a1 l k1] 104)) qd
      have b12 := below_on bR bD
      have HW : Hid (Below w.heap.size w ((w1.alloc (.cells #[.int .i64 0, .int .i64 s, .int .i64 t, .slice a1 l k1] 104)).drewN qd) ∧ Var2 ((w1.alloc (.cells #[.int .i64 0, .int .i64 s, .int .i64 t, .slice a1 l k1] 104)).drewN qd) (w.heap.size + 1) (.int .i64 0) (.slice none 0 0) ∧ (∀ o, ((w1.alloc (.cells #[.int .i64 0, .int .i64 s, .int .i64 t, .slice a1 l k1] 104)).drewN qd).frozen? ⟨w.heap.size + 1, o, none⟩ = false) ∧ HdAt ((w1.alloc (.cells #[.int .i64 0, .int .i64 s, .int .i64 t, .slice a1 l k1] 104)).drewN qd) w1.heap.size 1 s t (.slice a1 l k1) ∧ RdI (fun _ => True) ((w1.alloc (.cells #[.int .i64 0, .int .i64 s, .int .i64 t, .slice a1 l k1] 104)).drewN qd) (.slice a1 l k1) A) :=
        ⟨below_on HB1.out bD, ⟨cell_later b12 d0, cell_later b12 d1⟩, fun o => ((bcell b12).2 _ _ hlt1).trans (df.out o), ⟨cell_later bD (by simp [go_sem]), cell_later bD (by simp [go_sem]), cell_later bD (by simp [go_sem])⟩, (HRA.out.later bD).narrow (fun _ _ _ => trivial)⟩
      clear bR bD b12 HIn A0 HPF HB1 HRA d0 d1 df
      go_upto_region 7 with fail
      refine forget (fun wx => Below w.heap.size w wx ∧ Var2 wx (w.heap.size + 1) (.int .i64 0) (.slice none 0 0) ∧ (∀ o, wx.frozen? ⟨w.heap.size + 1, o, none⟩ = false) ∧ HdAt wx w1.heap.size 1 s t (.slice a1 l k1) ∧ RdI (fun _ => True) wx (.slice a1 l k1) A) HW.out ?_
      obtain ⟨H, hH⟩ : ∃ H, w1.heap.size = H := ⟨_, rfl⟩
      rw [hH] at hlt1 ⊢
      clear HW hH
      rintro V ⟨hbV, ⟨q0, q1⟩, qf, hHd, hRA⟩
      have HBV := hide hbV
      have HQf := hide qf
      have HHd := hide hHd
      have HRA := hide hRA
      have h0 := hHd.seq
      have h2 := hHd.addrs
      have hHl : H < V.heap.size := World.block_lt_of_cell? _ _ h0
      have f0 := qf 0
      have f1 := qf 1
      clear hbV hHd hRA qf
      by_cases h65 : s = 65000
      · have e1 : cc = 10 := by rw [← HCC.out, if_pos h65]
        have e2 : rs = [] := by rw [← HRS.out, if_neg (fun h => h.2.2.1 h65)]
        subst e1 e2 h65
        go_wp2
        exact bodyPost_ret (v := .agg #[.int .i64 10, .slice none 0 0]) (by simp [results, Tryz.results49, go_sem, q0, q1]) rfl ⟨_, rfl, (HBV.out.setCell (by simp) _).setCell (by simp) _, OwT_nil _ _⟩
      · have h65' : ¬ 65000 ≤ s := by omega
        by_cases hk0 : k = 0
        · have e1 : cc = 0 := by rw [← HCC.out, if_neg h65, if_pos hk0]
          have e2 : rs = [] := by rw [← HRS.out, if_neg (fun h => h.2.2.2.1 hk0)]
          subst e1 e2 hk0
          go_wp2
          exact bodyPost_ret (v := .agg #[.int .i64 0, .slice none 0 0]) (by simp [results, Tryz.results49, go_sem, q0, q1]) rfl ⟨_, rfl, (HBV.out.setCell (by simp) _).setCell (by simp) _, OwT_nil _ _⟩
        · have hk0' : ¬ (k : Int) = 0 := by omega
          have hwr : IntKind.i64.wrap ((l : Int) + (k : Int)) = (l : Int) + (k : Int) := by simp [IntKind.wrap, IntKind.bits, IntKind.signed]; omega
          by_cases h24 : 24 < l + k
          · have e1 : cc = 8 := by rw [← HCC.out, if_neg h65, if_neg hk0, if_pos h24]
            have e2 : rs = [] := by rw [← HRS.out, if_neg (fun h => by have := h.2.2.2.2; omega)]
            subst e1 e2
            have h24' : (24 : Int) < (l : Int) + (k : Int) := by omega
            go_wp2
            exact bodyPost_ret (v := .agg #[.int .i64 8, .slice none 0 0]) (by simp [results, Tryz.results49, go_sem, q0, q1]) rfl ⟨_, rfl, (HBV.out.setCell (by simp) _).setCell (by simp) _, OwT_nil _ _⟩
          · have e1 : cc = 0 := by rw [← HCC.out, if_neg h65, if_neg hk0, if_neg h24]
            have e2 : rs = ts := by rw [← HRS.out, if_pos ⟨H00.out.1, H00.out.2, h65, hk0, by omega⟩]
            subst e1 e2
            have h24' : ¬ (24 : Int) < (l : Int) + (k : Int) := by omega
            have HSt := hide (HLA.out V H 1 _ HBV.out HHd.out HRA.out (by omega) (by omega))
            go_wp2_with fail
            refine HSt.out.mono ?_
            rintro e w6 ⟨z6, rfl, hb6, ho6⟩
            obtain ⟨a6, k6, rfl⟩ := ho6.shape
            have v0 := cell_later hb6 q0
            have v1 := cell_later hb6 q1
            have hq5 : w.heap.size + 1 < V.heap.size := World.block_lt_of_cell? _ _ q0
            have g0 := ((bcell hb6).2 _ _ hq5).trans f0
            have g1 := ((bcell hb6).2 _ _ hq5).trans f1
            have HFin := hide (ret_steps (x := .int .i64 0) (below_on HBV.out hb6) (r := w.heap.size + 1) (by omega) (ho6.ow HTL.out (by omega)) (fun b hb => ⟨by have := hb.1; omega, hb.2⟩))
            clear hb6 ho6 q0 q1 f0 f1 h0 h2
            go_wp2
            exact bodyPost_ret (v := .agg #[.int .i64 0, .slice a6 (k + 3) k6]) (by simp [results, Tryz.results49, go_sem, v0, v1]) rfl ⟨_, rfl, HFin.out.1, HFin.out.2⟩
    · rw [if_pos h0, if_neg hq, if_neg (fun h => hq h.2.1)]
      rw [h0] at HIn
      rw [hn, hm] at HIn
      rw [hk] at HPF
      rw [hn, hm, hk]
      clear hu hv hy hs hn hm hk HQ h0
      generalize hpF 12 qs = z at HPF hq ⊢
      generalize (inA xss ps).length = l at HIn
      generalize inA xss ps = A at HIn
      generalize inS xss ps = s at HIn
      generalize inT xss ps = t at HIn
      obtain ⟨l, hl⟩ : ∃ l, A.length = l := ⟨_, rfl⟩
      have HL := hide hl
      clear hl
      go_enter Tryz.func49, Tryz.ntmps49
      go_wp2_with fail
      refine (HIn.out _ A0.out).mono ?_
      rintro e w1 ⟨z1, rfl, hb1, ho1⟩
      obtain ⟨a1, k1, hz1'⟩ := ho1.shape
      rw [HL.out] at hz1'
      subst hz1'
      have bR := below_alloc w1 (.cells #[.int .i64 0, .int .i64 s, .int .i64 t, .slice a1 l k1] 104)
      have HB1 := hide (below_on A0.out (below_on hb1 bR))
      have d0 : w1.cell? ⟨w.heap.size + 1, 0, none⟩ = some (.int .i64 0) := cell_later hb1 (by simp [go_sem])
      have d1 : w1.cell? ⟨w.heap.size + 1, 1, none⟩ = some (.slice none 0 0) := cell_later hb1 (by simp [go_sem])
      have df : Hid (∀ o, w1.frozen? ⟨w.heap.size + 1, o, none⟩ = false) := fun o => ((bcell hb1).2 _ _ (by simp)).trans (by simp [go_sem])
      have hlt1 : w.heap.size + 1 < w1.heap.size := World.block_lt_of_cell? _ _ d0
      clear hb1 ho1 bR
      go_wp2_with fail
      refine (HPF.out _ HB1.out).mono ?_
      rintro e w2 ⟨rfl, qd, rfl⟩
      have hb2 := below_drewN (w1.alloc (.cells #[.int .i64 0, .int .i64 s, .int .i64 t, .slice a1 l k1] 104)) qd
      have b12 := below_on (below_alloc w1 (.cells #[.int .i64 0, .int .i64 s, .int .i64 t, .slice a1 l k1] 104)) hb2
      have q0 := cell_later b12 d0
      have q1 := cell_later b12 d1
      have f0 := ((bcell b12).2 _ _ hlt1).trans (df.out 0)
      have f1 := ((bcell b12).2 _ _ hlt1).trans (df.out 1)
      have HB2 := hide (below_on HB1.out hb2)
      clear hb2 b12 d0 d1 df
      go_wp2
      exact bodyPost_ret (v := .agg #[.int .i64 z, .slice none 0 0]) (by simp [results, Tryz.results49, go_sem, q0, q1]) rfl ⟨_, rfl, (HB2.out.setCell (by simp) _).setCell (by simp) _, OwT_nil _ _⟩
  · rw [if_neg h0, if_neg (fun h => h0 h.1)]
    rw [hn, hm] at HIn
    rw [hn, hm, hk]
    clear hu hv hy hs hn hm hk HQ HPF
    generalize inF xss ps = z at HIn h0 ⊢
    go_enter Tryz.func49, Tryz.ntmps49
    go_wp2_with fail
    refine (HIn.out _ A0.out).mono ?_
    rintro e w1 ⟨z1, rfl, hb1, ho1⟩
    obtain ⟨a1, k1, rfl⟩ := ho1.shape
    have q0 : w1.cell? ⟨w.heap.size + 1, 0, none⟩ = some (.int .i64 0) := cell_later hb1 (by simp [go_sem])
    have q1 : w1.cell? ⟨w.heap.size + 1, 1, none⟩ = some (.slice none 0 0) := cell_later hb1 (by simp [go_sem])
    have f0 : w1.frozen? ⟨w.heap.size + 1, 0, none⟩ = false := ((bcell hb1).2 _ _ (by simp)).trans (by simp [go_sem])
    have f1 : w1.frozen? ⟨w.heap.size + 1, 1, none⟩ = false := ((bcell hb1).2 _ _ (by simp)).trans (by simp [go_sem])
    have hlt : w.heap.size + 1 < w1.heap.size := World.block_lt_of_cell? _ _ q0
    have HB := hide (below_on A0.out hb1)
    generalize (inA xss ps).length = l
    generalize inS xss ps = s
    generalize inT xss ps = t
    clear hb1 ho1
    go_wp2
    have BA := below_alloc ((w1.setCell ⟨w.heap.size + 1, 0, none⟩ (.int .i64 z)).setCell ⟨w.heap.size + 1, 1, none⟩ (.slice none 0 0)) (.cells #[.int .i64 z, .int .i64 s, .int .i64 t, .slice a1 l k1] 104)
    have m0 := cell_later BA (a := ⟨w.heap.size + 1, 0, none⟩) (v := .int .i64 z) (by simp [go_sem, q0])
    have m1 := cell_later BA (a := ⟨w.heap.size + 1, 1, none⟩) (v := .slice none 0 0) (by simp [go_sem, q1])
    exact bodyPost_ret (v := .agg #[.int .i64 z, .slice none 0 0]) (by simp [results, Tryz.results49, go_sem, m0, m1]) rfl ⟨_, rfl, ((HB.out.setCell (by simp) _).setCell (by simp) _).trans (BA.mono (by simp; omega)), OwT_nil _ _⟩

end Go.Proofs.YtamknomapabmfaaGreat
