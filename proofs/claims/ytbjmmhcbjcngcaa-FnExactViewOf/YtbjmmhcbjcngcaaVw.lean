/- Chapter 4: ViewOf of the program and of the model, walked. -/
import Derived.Test.YtbjmmhcbjcngcaaView
import Derived.Test.YtbjmmhcbjcngcaaSeen4
namespace Go.Proofs.Ytbjmmhcbjcngcaa
open Go.RowKit Go.Maps

/-- What is seen on a disk. -/
def vwL (xss : List (List Int)) (ps : List (Int × List Int)) : List (Int × List Int) := if inF xss ps = 0 then viewTo ((lgP xss ps).foldl putM (homeM xss ps 40)) 40 else []

set_option maxHeartbeats 2000000 in
set_option maxRecDepth 4000 in
theorem implViewOf {S T : Nat → Prop} {w : World} {u v : Value} {xss : List (List Int)} {ps : List (Int × List Int)} (hu : RdII S w u xss) (hv : RdP T w v ps) (hs : Small xss ps) :
    Calls Try.prog 7 #[.agg #[u, v]] w (EndsP (lgF xss ps) (vwL xss ps) w) := by
  unfold EndsP vwL
  obtain ⟨ao, c, rfl, _⟩ := hu.shape
  obtain ⟨ao', c', rfl, _⟩ := hv.shape
  have HLg := hide (fun (w' : World) (hb : Below w.heap.size w w') => implLogOf (hu.later hb) (hv.later hb) hs)
  have HU := hide hu
  have HV := hide hv
  obtain ⟨n, hn⟩ : ∃ n, xss.length = n := ⟨_, rfl⟩
  obtain ⟨m, hm⟩ : ∃ m, ps.length = m := ⟨_, rfl⟩
  have A0 := hide (below_on (below_alloc w (.cells #[.slice ao n c, .slice ao' m c'] 32)) (below_alloc _ (.cells #[.int .i64 0, .slice none 0 0] 29)))
  unfold lgF at HLg ⊢
  by_cases h0 : inF xss ps = 0
  · obtain ⟨h66, hl24, hlg⟩ := lg_facts hs h0
    have HSI := hide (fun (L : Nat → Prop) (w' : World) (z : Value) (hb : Below w.heap.size w w') (hz : RdP L w' z (lgP xss ps)) (hL : ∀ b, L b → b < w'.heap.size) => seenIn (HU.out.later hb) (HV.out.later hb) hs h66 hz hL (fun i hi => (hlg i hi).1) hl24)
    have HLn := hide (fun (a : Int) (h1 : 0 ≤ a) (h2 : a < 40) => rh_len hs h0 h1 h2)
    rw [if_pos h0]
    rw [h0] at HLg
    rw [h0]
    generalize lgP xss ps = lps at HLg HSI HLn hl24 ⊢
    generalize homeM xss ps 40 = M at HSI HLn ⊢
    obtain ⟨l, hl⟩ : ∃ l, lps.length = l := ⟨_, rfl⟩
    have HL := hide hl
    rw [hn, hm] at HLg HSI
    rw [hl] at HSI hl24
    rw [hn, hm]
    clear hu hv hs hn hm HU HV h0 h66 hlg hl
    generalize lps.foldl putM M = M' at HSI HLn ⊢
    obtain ⟨rs, hrs⟩ : ∃ rs, viewTo M' 40 = rs := ⟨_, rfl⟩
    have HRS := hide hrs
    rw [hrs]
    clear hrs
    obtain ⟨lr, hlr⟩ : ∃ lr, rs.length = lr := ⟨_, rfl⟩
    have HLR := hide hlr
    clear hlr
    go_enter Try.func7, Try.ntmps7
    go_wp2_with fail
    refine (HLg.out _ A0.out).mono ?_
    rintro e w1 ⟨z1, rfl, hb1, ho1⟩
    obtain ⟨a1, k1, hz1⟩ := ho1.shape
    rw [HL.out] at hz1
    subst hz1
    have bR := below_alloc w1 (.cells #[.int .i64 0, .slice a1 l k1] 29)
    have b1R := below_on hb1 bR
    have q0 : w1.cell? ⟨w.heap.size + 1, 0, none⟩ = some (.int .i64 0) := cell_later hb1 (by simp [go_sem])
    have q1 : w1.cell? ⟨w.heap.size + 1, 1, none⟩ = some (.slice none 0 0) := cell_later hb1 (by simp [go_sem])
    have qf : ∀ o, w1.frozen? ⟨w.heap.size + 1, o, none⟩ = false := fun o => ((bcell hb1).2 _ _ (by simp)).trans (by simp [go_sem])
    have d0 : w1.cell? ⟨w.heap.size, 0, none⟩ = some (.slice ao n c) := cell_later hb1 (by simp [go_sem])
    have d1 : w1.cell? ⟨w.heap.size, 1, none⟩ = some (.slice ao' m c') := cell_later hb1 (by simp [go_sem])
    have hlt : w.heap.size + 1 < w1.heap.size := World.block_lt_of_cell? _ _ q0
    have HW : Hid (Below w.heap.size w (w1.alloc (.cells #[.int .i64 0, .slice a1 l k1] 29)) ∧ Var2 (w1.alloc (.cells #[.int .i64 0, .slice a1 l k1] 29)) w.heap.size (.slice ao n c) (.slice ao' m c') ∧ Var2 (w1.alloc (.cells #[.int .i64 0, .slice a1 l k1] 29)) (w.heap.size + 1) (.int .i64 0) (.slice none 0 0) ∧ (∀ o, (w1.alloc (.cells #[.int .i64 0, .slice a1 l k1] 29)).frozen? ⟨w.heap.size + 1, o, none⟩ = false) ∧ Var2 (w1.alloc (.cells #[.int .i64 0, .slice a1 l k1] 29)) w1.heap.size (.int .i64 0) (.slice a1 l k1) ∧ RdP (fun b => b < w1.heap.size) (w1.alloc (.cells #[.int .i64 0, .slice a1 l k1] 29)) (.slice a1 l k1) lps ∧ w1.heap.size < (w1.alloc (.cells #[.int .i64 0, .slice a1 l k1] 29)).heap.size) :=
      ⟨below_on A0.out b1R, ⟨cell_later bR d0, cell_later bR d1⟩, ⟨cell_later bR q0, cell_later bR q1⟩, fun o => ((bcell bR).2 _ _ hlt).trans (qf o), Var2_new _ _ _ _, (RdP_narrow ho1.rd (fun b hb => hb.2)).later bR, by simp⟩
    clear hb1 ho1 bR b1R q0 q1 qf d0 d1 HLg A0
    go_upto_region 4 with fail
    refine forget (fun wx => Below w.heap.size w wx ∧ Var2 wx w.heap.size (.slice ao n c) (.slice ao' m c') ∧ Var2 wx (w.heap.size + 1) (.int .i64 0) (.slice none 0 0) ∧ (∀ o, wx.frozen? ⟨w.heap.size + 1, o, none⟩ = false) ∧ Var2 wx w1.heap.size (.int .i64 0) (.slice a1 l k1) ∧ RdP (fun b => b < w1.heap.size) wx (.slice a1 l k1) lps ∧ w1.heap.size < wx.heap.size) HW.out ?_
    obtain ⟨H, hH⟩ : ∃ H, w1.heap.size = H := ⟨_, rfl⟩
    rw [hH] at hlt ⊢
    clear HW hH
    rintro V ⟨hbV, ⟨d0, d1⟩, ⟨q0, q1⟩, qf, ⟨r0, r1⟩, hR, hHl⟩
    have HBV := hide hbV
    have HQ0 := hide q0
    have HQ1 := hide q1
    have HQf := hide qf
    have HSn := hide (HSI.out _ V _ hbV hR (fun b hb => by omega))
    clear hbV q0 q1 qf hR
    go_wp2_with fail
    refine HSn.out.mono ?_
    rintro e w3 ⟨B, rfl, hB, hb3, hs3⟩
    have HVi := hide (seenView hs3 (by omega) HLn.out)
    rw [HRS.out] at HVi
    have HB3 := hide hb3
    clear hs3 hb3
    go_wp2_with fail
    refine HVi.out.mono ?_
    rintro e w4 ⟨z4, rfl, hb4, ho4⟩
    obtain ⟨a4, k4, hz4⟩ := ho4.shape
    rw [HLR.out] at hz4
    subst hz4
    have hb34 := below_on HB3.out hb4
    have v0 := cell_later hb34 HQ0.out
    have v1 := cell_later hb34 HQ1.out
    have hq5 : w.heap.size + 1 < V.heap.size := by omega
    have f0 := ((bcell hb34).2 _ _ hq5).trans (HQf.out 0)
    have f1 := ((bcell hb34).2 _ _ hq5).trans (HQf.out 1)
    have HFin := hide (ret_puts (x := .int .i64 0) (below_on HBV.out hb34) (r := w.heap.size + 1) (by omega) ho4 (fun b hb => ⟨by have := hb.1; have := HB3.out.size; omega, hb.2⟩))
    clear hb4 ho4 hb34
    go_wp2
    exact bodyPost_ret (v := .agg #[.int .i64 0, .slice a4 lr k4]) (by simp [results, Try.results7, go_sem, v0, v1]) rfl ⟨_, rfl, HFin.out.1, HFin.out.2⟩
  · rw [if_neg h0]
    rw [hn, hm] at HLg
    rw [hn, hm]
    clear hu hv hs hn hm HU HV
    generalize lgP xss ps = lps at HLg
    generalize inF xss ps = z at HLg h0 ⊢
    obtain ⟨l, hl⟩ : ∃ l, lps.length = l := ⟨_, rfl⟩
    have HL := hide hl
    clear hl
    go_enter Try.func7, Try.ntmps7
    go_wp2_with fail
    refine (HLg.out _ A0.out).mono ?_
    rintro e w1 ⟨z1, rfl, hb1, ho1⟩
    obtain ⟨a1, k1, hz1⟩ := ho1.shape
    rw [HL.out] at hz1
    subst hz1
    have q0 : w1.cell? ⟨w.heap.size + 1, 0, none⟩ = some (.int .i64 0) := cell_later hb1 (by simp [go_sem])
    have q1 : w1.cell? ⟨w.heap.size + 1, 1, none⟩ = some (.slice none 0 0) := cell_later hb1 (by simp [go_sem])
    have f0 : w1.frozen? ⟨w.heap.size + 1, 0, none⟩ = false := ((bcell hb1).2 _ _ (by simp)).trans (by simp [go_sem])
    have f1 : w1.frozen? ⟨w.heap.size + 1, 1, none⟩ = false := ((bcell hb1).2 _ _ (by simp)).trans (by simp [go_sem])
    have hlt : w.heap.size + 1 < w1.heap.size := World.block_lt_of_cell? _ _ q0
    have HB := hide (below_on A0.out hb1)
    clear hb1 ho1
    go_wp2
    have BA := below_alloc ((w1.setCell ⟨w.heap.size + 1, 0, none⟩ (.int .i64 z)).setCell ⟨w.heap.size + 1, 1, none⟩ (.slice none 0 0)) (.cells #[.int .i64 z, .slice a1 l k1] 29)
    have m0 := cell_later BA (a := ⟨w.heap.size + 1, 0, none⟩) (v := .int .i64 z) (by simp [go_sem, q0])
    have m1 := cell_later BA (a := ⟨w.heap.size + 1, 1, none⟩) (v := .slice none 0 0) (by simp [go_sem, q1])
    exact bodyPost_ret (v := .agg #[.int .i64 z, .slice none 0 0]) (by simp [results, Try.results7, go_sem, m0, m1]) rfl ⟨_, rfl, ((HB.out.setCell (by simp) _).setCell (by simp) _).trans (BA.mono (by simp; omega)), OwP_nil _ _⟩
end Go.Proofs.Ytbjmmhcbjcngcaa
