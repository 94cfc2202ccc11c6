/- Chapter 3: 'PlanInstall' of the model, walked. -/
import Derived.Test.YtaccllclihbpfabInst3b
import Derived.Test.YtaccllclihbpfabPlanI2
namespace Go.Proofs.Ytaccllclihbpfab
open Go.RowKit

set_option maxHeartbeats 2000000 in
set_option maxRecDepth 4000 in
theorem specPlanInstall {S T : Nat → Prop} {w : World} {u v : Value} {xss : List (List Int)} {ps : List (Int × List Int)} (hu : RdII S w u xss) (hv : RdP T w v ps) (hs : Small xss ps) :
    Calls Try.prog 27 #[.agg #[u, v]] w (EndsT (pnF xss ps) (pnT xss ps) w) := by
  unfold EndsT pnF pnT
  obtain ⟨ao, c, rfl, _⟩ := hu.shape
  obtain ⟨ao', c', rfl, _⟩ := hv.shape
  have HIn := hide (fun (w' : World) (hb : Below w.heap.size w w') => specHeaderIn (hu.later hb) (hv.later hb) hs)
  have HU := hide hu
  have HV := hide hv
  have HS := hide hs
  obtain ⟨n, hn⟩ : ∃ n, xss.length = n := ⟨_, rfl⟩
  obtain ⟨m, hm⟩ : ∃ m, ps.length = m := ⟨_, rfl⟩
  have A0 := hide (below_on (below_alloc w (.cells #[.slice ao n c, .slice ao' m c'] 43)) (below_alloc _ (.cells #[.int .i64 0, .slice none 0 0] 39)))
  rw [hn] at HU
  rw [hm] at HV
  by_cases h0 : inF xss ps = 0
  · obtain ⟨_, h66, hhd⟩ := in_ok h0
    obtain ⟨⟨hs1, hs2, _, _⟩, hA24, _⟩ := headF_zero hhd
    rw [if_pos h0]
    rw [h0] at HIn
    have HLI := hide (fun (w' : World) (S3 : Nat → Prop) (bh : Nat) (y : Value) (hb : Below w.heap.size w w') (hd0 : w'.cell? ⟨w.heap.size, 0, none⟩ = some (.slice ao n c)) (hd1 : w'.cell? ⟨w.heap.size, 1, none⟩ = some (.slice ao' m c')) (hh : HdAt w' bh 1 (inS xss ps) (inT xss ps) y) (hA : RdI S3 w' y (inA xss ps)) (hlt : inS xss ps < 65000) => l3Install hd0 hd1 (HU.out.later hb) (HV.out.later hb) HS.out h66 hh hA hhd hlt)
    have HTL := hide (insTs_len xss ps (inS xss ps) (inT xss ps) (inA xss ps))
    generalize insTs xss ps (inS xss ps) (inT xss ps) (inA xss ps) = ts at HTL HLI ⊢
    have h00 : inF xss ps = 0 := h0
    generalize inS xss ps = s at HIn HLI hs1 hs2 ⊢
    generalize inT xss ps = t at HIn HLI
    generalize inA xss ps = A at HIn HTL HLI hA24 ⊢
    obtain ⟨l, hl⟩ : ∃ l, A.length = l := ⟨_, rfl⟩
    have HL := hide hl
    rw [hl] at hA24 HTL HLI
    rw [hn, hm] at HIn
    rw [hn, hm, hl]
    have H00 := hide h00
    obtain ⟨cc, hcc⟩ : ∃ cc : Int, (if s = 65000 then (10 : Int) else 0) = cc := ⟨_, rfl⟩
    obtain ⟨rs, hrs⟩ : ∃ rs : List St, (if inF xss ps = 0 ∧ s ≠ 65000 ∧ l ≠ 0 then ts else []) = rs := ⟨_, rfl⟩
    rw [hcc, hrs]
    have HCC := hide hcc
    have HRS := hide hrs
    clear hu hv hs hn hm h0 h00 h66 hhd hl hcc hrs
    go_enter Try.func27, Try.ntmps27
    go_wp2_with fail
    refine (HIn.out _ A0.out).mono ?_
    rintro e w1 ⟨z1, rfl, hb1, ho1⟩
    obtain ⟨a1, k1, hz1'⟩ := ho1.shape
    rw [HL.out] at hz1'
    subst hz1'
    have bR := below_alloc w1 (.cells #[.int .i64 0, .int .i64 s, .int .i64 t, .slice a1 l k1] 92)
    have b1' := below_on hb1 bR
    have HW : Hid (Below w.heap.size w (w1.alloc (.cells #[.int .i64 0, .int .i64 s, .int .i64 t, .slice a1 l k1] 92)) ∧ Var2 (w1.alloc (.cells #[.int .i64 0, .int .i64 s, .int .i64 t, .slice a1 l k1] 92)) w.heap.size (.slice ao n c) (.slice ao' m c') ∧ Var2 (w1.alloc (.cells #[.int .i64 0, .int .i64 s, .int .i64 t, .slice a1 l k1] 92)) (w.heap.size + 1) (.int .i64 0) (.slice none 0 0) ∧ (∀ o, (w1.alloc (.cells #[.int .i64 0, .int .i64 s, .int .i64 t, .slice a1 l k1] 92)).frozen? ⟨w.heap.size + 1, o, none⟩ = false) ∧ HdAt (w1.alloc (.cells #[.int .i64 0, .int .i64 s, .int .i64 t, .slice a1 l k1] 92)) w1.heap.size 1 s t (.slice a1 l k1) ∧ RdI (fun _ => True) (w1.alloc (.cells #[.int .i64 0, .int .i64 s, .int .i64 t, .slice a1 l k1] 92)) (.slice a1 l k1) A) :=
      ⟨below_on A0.out b1', ⟨cell_later b1' (by simp [go_sem]), cell_later b1' (by simp [go_sem])⟩, ⟨cell_later b1' (by simp [go_sem]), cell_later b1' (by simp [go_sem])⟩, fun o => ((bcell b1').2 _ _ (by simp)).trans (by simp [go_sem]), ⟨by simp [go_sem], by simp [go_sem], by simp [go_sem]⟩, (ho1.rd.later bR).narrow (fun _ _ _ => trivial)⟩
    have hsz : w.heap.size + 1 < w1.heap.size := by have := hb1.size; simp at this; omega
    clear hb1 ho1 bR b1' HIn A0
    go_upto_region 4 with fail
    refine forget (fun wx => Below w.heap.size w wx ∧ Var2 wx w.heap.size (.slice ao n c) (.slice ao' m c') ∧ Var2 wx (w.heap.size + 1) (.int .i64 0) (.slice none 0 0) ∧ (∀ o, wx.frozen? ⟨w.heap.size + 1, o, none⟩ = false) ∧ HdAt wx w1.heap.size 1 s t (.slice a1 l k1) ∧ RdI (fun _ => True) wx (.slice a1 l k1) A) HW.out ?_
    obtain ⟨H, hH⟩ : ∃ H, w1.heap.size = H := ⟨_, rfl⟩
    rw [hH] at hsz ⊢
    clear HW hH
    rintro V ⟨hbV, ⟨d0, d1⟩, ⟨q0, q1⟩, qf, hHd, hRA⟩
    have HBV := hide hbV
    have HD0 := hide d0
    have HD1 := hide d1
    have HHd := hide hHd
    have HRA := hide hRA
    have h0 := hHd.seq
    have h2 := hHd.addrs
    have hHl : H < V.heap.size := World.block_lt_of_cell? _ _ h0
    have f0 := qf 0
    have f1 := qf 1
    have HQf := hide qf
    clear hbV hHd hRA d0 d1 qf
    by_cases h65 : s = 65000
    · have e1 : cc = 10 := by rw [← HCC.out, if_pos h65]
      have e2 : rs = [] := by rw [← HRS.out, if_neg (fun h => h.2.1 h65)]
      subst e1 e2 h65
      go_wp2
      exact bodyPost_ret (v := .agg #[.int .i64 10, .slice none 0 0]) (by simp [results, Try.results27, go_sem, q0, q1]) rfl ⟨_, rfl, (HBV.out.setCell (by simp) _).setCell (by simp) _, OwT_nil _ _⟩
    · have e1 : cc = 0 := by rw [← HCC.out, if_neg h65]
      have h65' : ¬ 65000 ≤ s := by omega
      subst e1
      by_cases hl0 : l = 0
      · have e2 : rs = [] := by rw [← HRS.out, if_neg (fun h => h.2.2 hl0)]
        subst e2 hl0
        go_wp2
        exact bodyPost_ret (v := .agg #[.int .i64 0, .slice none 0 0]) (by simp [results, Try.results27, go_sem, q0, q1]) rfl ⟨_, rfl, (HBV.out.setCell (by simp) _).setCell (by simp) _, OwT_nil _ _⟩
      · have e2 : rs = ts := by rw [← HRS.out, if_pos ⟨H00.out, h65, hl0⟩]
        subst e2
        have hl0' : ¬ (l : Int) = 0 := by omega
        have HSt := hide (HLI.out V _ H _ HBV.out HD0.out HD1.out HHd.out HRA.out (by omega))
        go_wp2_with fail
        refine HSt.out.mono ?_
        rintro e w6 ⟨z6, rfl, hb6, ho6⟩
        obtain ⟨a6, k6, rfl⟩ := ho6.shape
        have v0 := cell_later hb6 q0
        have v1 := cell_later hb6 q1
        have g0 := ((bcell hb6).2 _ _ (by omega)).trans f0
        have g1 := ((bcell hb6).2 _ _ (by omega)).trans f1
        have HFin := hide (ret_steps (x := .int .i64 0) (below_on HBV.out hb6) (r := w.heap.size + 1) (by omega) (ho6.ow HTL.out (by omega)) (fun b hb => ⟨by have := hb.1; omega, hb.2⟩))
        clear hb6 ho6 q0 q1 f0 f1 h0 h2
        go_wp2
        exact bodyPost_ret (v := .agg #[.int .i64 0, .slice a6 (l + 3) k6]) (by simp [results, Try.results27, go_sem, v0, v1]) rfl ⟨_, rfl, HFin.out.1, HFin.out.2⟩
  · rw [if_neg h0, if_neg (fun h => h0 h.1)]
    rw [hn, hm] at HIn
    rw [hn, hm]
    clear hu hv hs hn hm HU HV
    generalize inF xss ps = z at HIn h0 ⊢
    go_enter Try.func27, Try.ntmps27
    go_wp2_with fail
    refine (HIn.out _ A0.out).mono ?_
    rintro e w1 ⟨z1, rfl, hb1, ho1⟩
    obtain ⟨a1, k1, rfl⟩ := ho1.shape
    have q0 : w1.cell? ⟨w.heap.size + 1, 0, none⟩ = some (.int .i64 0) := cell_later hb1 (by simp [go_sem])
    have q1 : w1.cell? ⟨w.heap.size + 1, 1, none⟩ = some (.slice none 0 0) := cell_later hb1 (by simp [go_sem])
    have f0 : w1.frozen? ⟨w.heap.size + 1, 0, none⟩ = false := ((bcell hb1).2 _ _ (by simp)).trans (by simp [go_sem])
    have f1 : w1.frozen? ⟨w.heap.size + 1, 1, none⟩ = false := ((bcell hb1).2 _ _ (by simp)).trans (by simp [go_sem])
    have hlt : w.heap.size + 1 < w1.heap.size := World.block_lt_of_cell? _ _ q0
    have HB := hide (below_on A0.out hb1)
    generalize (inA xss ps).length = l
    generalize inS xss ps = s
    generalize inT xss ps = t
    clear hb1 ho1
    go_wp2
    have BA := below_alloc ((w1.setCell ⟨w.heap.size + 1, 0, none⟩ (.int .i64 z)).setCell ⟨w.heap.size + 1, 1, none⟩ (.slice none 0 0)) (.cells #[.int .i64 z, .int .i64 s, .int .i64 t, .slice a1 l k1] 92)
    have m0 := cell_later BA (a := ⟨w.heap.size + 1, 0, none⟩) (v := .int .i64 z) (by simp [go_sem, q0])
    have m1 := cell_later BA (a := ⟨w.heap.size + 1, 1, none⟩) (v := .slice none 0 0) (by simp [go_sem, q1])
    exact bodyPost_ret (v := .agg #[.int .i64 z, .slice none 0 0]) (by simp [results, Try.results27, go_sem, m0, m1]) rfl ⟨_, rfl, ((HB.out.setCell (by simp) _).setCell (by simp) _).trans (BA.mono (by simp; omega)), OwT_nil _ _⟩

theorem totS_most {ts : List St} {B : Nat} (h : ∀ i, i < ts.length → (ts.getD i st0).2.2.length ≤ B) : ∀ i, i ≤ ts.length → totS ts i ≤ i * (B + 2) := by
  intro i
  induction i with
  | zero => intro _; rw [totS_zero]; omega
  | succ i ih =>
    intro hi
    rw [totS_succ ts i (by omega), Nat.succ_mul]
    have := ih (by omega)
    have := h i (by omega)
    omega
theorem pn_bound {xss : List (List Int)} {ps : List (Int × List Int)} (hs : Small xss ps) : totS (pnT xss ps) (pnT xss ps).length ≤ 1073741824 := by
  unfold pnT
  split
  · rename_i h
    obtain ⟨_, h66, hhd⟩ := in_ok h.1
    obtain ⟨_, hA24, _⟩ := headF_zero hhd
    have hl := insTs_len xss ps (inS xss ps) (inT xss ps) (inA xss ps)
    have := totS_most (ts := insTs xss ps (inS xss ps) (inT xss ps) (inA xss ps)) (B := 1048576) (fun i hi => by
      rw [hl] at hi
      by_cases h1 : i < (inA xss ps).length
      · rw [insTs_at _ _ _ _ _ _ h1]; exact slotW_len hs h66 _ _
      · have : i = (inA xss ps).length ∨ i = (inA xss ps).length + 1 ∨ i = (inA xss ps).length + 2 := by omega
        rcases this with rfl | rfl | rfl
        · rw [insTs_0]; simp
        · rw [insTs_1, packL_len (by simp)]; omega
        · rw [insTs_2]; simp) _ (Nat.le_refl _)
    rw [hl] at this ⊢
    have h2 : ((inA xss ps).length + 3) * (1048576 + 2) ≤ 27 * (1048576 + 2) := Nat.mul_le_mul_right _ (by omega)
    omega
  · simp [totS]
end Go.Proofs.Ytaccllclihbpfab
