/- Chapter 4: 'ReadHome' of the program, walked; what stands last in a log. -/
import Derived.Test.YtbohmnfnhggekaaSeen2
import Derived.Test.YtbohmnfnhggekaaLog
namespace Go.Proofs.Ytbohmnfnhggekaa
open Go.RowKit Go.Maps

theorem foldl_len {qs : List (Int × List Int)} {M : Int → List Int} {a : Int} {C : Nat} (hM : (M a).length ≤ C) (hq : ∀ i, i < qs.length → (qs.getD i (0, [])).2.length ≤ C) : (qs.foldl putM M a).length ≤ C := by
  have h : ∀ k, k ≤ qs.length → ((qs.take k).foldl putM M a).length ≤ C := by
    intro k
    induction k with
    | zero => intro _; simpa using hM
    | succ k ih =>
      intro hk
      rw [foldl_take putM (0, []) M qs k (by omega)]
      unfold putM
      split
      · exact hq k (by omega)
      · exact ih (by omega)
  have := h qs.length (Nat.le_refl _)
  simpa using this
theorem foldl_none {qs : List (Int × List Int)} {M : Int → List Int} {a : Int} (hq : ∀ i, i < qs.length → (qs.getD i (0, [])).1 ≠ a) : qs.foldl putM M a = M a := by
  have h : ∀ k, k ≤ qs.length → (qs.take k).foldl putM M a = M a := by
    intro k
    induction k with
    | zero => intro _; rfl
    | succ k ih =>
      intro hk
      rw [foldl_take putM (0, []) M qs k (by omega)]
      unfold putM
      rw [if_neg (fun e => hq k (by omega) e.symm)]
      exact ih (by omega)
  have := h qs.length (Nat.le_refl _)
  simpa using this
theorem foldl_last {qs : List (Int × List Int)} {M : Int → List Int} {a : Int} {i : Nat} (hi : i < qs.length) (ha : (qs.getD i (0, [])).1 = a) (hq : ∀ j, i < j → j < qs.length → (qs.getD j (0, [])).1 ≠ a) : qs.foldl putM M a = (qs.getD i (0, [])).2 := by
  have h : ∀ k, i < k → k ≤ qs.length → (qs.take k).foldl putM M a = (qs.getD i (0, [])).2 := by
    intro k
    induction k with
    | zero => intro h; omega
    | succ k ih =>
      intro h hk
      rw [foldl_take putM (0, []) M qs k (by omega)]
      unfold putM
      by_cases e : i = k
      · subst e; rw [if_pos ha.symm]
      · rw [if_neg (fun e' => hq k (by omega) (by omega) e'.symm)]
        exact ih (by omega) (by omega)
  have := h qs.length hi (Nat.le_refl _)
  simpa using this

/-- The code of 'ReadHome', and its words. -/
def rhF (xss : List (List Int)) (ps : List (Int × List Int)) (a : Int) : Int := if inF xss ps = 0 then (if 0 ≤ a ∧ a < 40 then 0 else 3) else inF xss ps
def rhXs (xss : List (List Int)) (ps : List (Int × List Int)) (a : Int) : List Int := if inF xss ps = 0 ∧ 0 ≤ a ∧ a < 40 then (lgP xss ps).foldl putM (homeM xss ps 40) a else []

/-- What is known of the log of a disk that has a header. -/
theorem lg_facts {xss : List (List Int)} {ps : List (Int × List Int)} (hs : Small xss ps) (h0 : inF xss ps = 0) :
    xss.length = 66 ∧ (lgP xss ps).length ≤ 24 ∧ ∀ i, i < (lgP xss ps).length → (0 ≤ ((lgP xss ps).getD i (0, [])).1 ∧ ((lgP xss ps).getD i (0, [])).1 < 40) ∧ ((lgP xss ps).getD i (0, [])).2.length ≤ 1048576 := by
  obtain ⟨_, h66, hhd⟩ := in_ok h0
  obtain ⟨_, hA24, hA39⟩ := headF_zero hhd
  unfold lgP
  rw [if_pos h0]
  refine ⟨h66, by rw [logPs_len]; exact hA24, fun i hi => ?_⟩
  rw [logPs_len] at hi
  rw [logPs_at _ _ _ _ _ hi]
  have := hA39 i hi
  exact ⟨⟨this.1, by dsimp only; omega⟩, slotW_len hs h66 _ _⟩
theorem rh_len {xss : List (List Int)} {ps : List (Int × List Int)} (hs : Small xss ps) (h0 : inF xss ps = 0) {a : Int} (h1 : 0 ≤ a) (h2 : a < 40) : ((lgP xss ps).foldl putM (homeM xss ps 40) a).length ≤ 1048576 := by
  obtain ⟨h66, _, h⟩ := lg_facts hs h0
  refine foldl_len ?_ (fun i hi => (h i hi).2)
  unfold homeM
  rw [if_pos (by omega)]
  exact blkTo_len hs _ (Nat.le_refl _) (by omega) (by rw [h66]; omega)
theorem rh_bound {xss : List (List Int)} {ps : List (Int × List Int)} (hs : Small xss ps) (a : Int) : (rhXs xss ps a).length ≤ 1048576 := by
  unfold rhXs
  split
  · rename_i h; exact rh_len hs h.1 h.2.1 h.2.2
  · simp

set_option maxHeartbeats 2000000 in
set_option maxRecDepth 4000 in
theorem implReadHome {S T : Nat → Prop} {w : World} {u v : Value} {xss : List (List Int)} {ps : List (Int × List Int)} (a : Int) (hu : RdII S w u xss) (hv : RdP T w v ps) (hs : Small xss ps) :
    Calls Try.prog 15 #[.agg #[u, v], .int .i64 a] w (EndsI (rhF xss ps a) (rhXs xss ps a) w) := by
  unfold EndsI rhF rhXs
  obtain ⟨ao, c, rfl, _⟩ := hu.shape
  obtain ⟨ao', c', rfl, _⟩ := hv.shape
  have HLg := hide (fun (w' : World) (hb : Below w.heap.size w w') => implLogOf (hu.later hb) (hv.later hb) hs)
  have HU := hide hu
  have HV := hide hv
  obtain ⟨n, hn⟩ : ∃ n, xss.length = n := ⟨_, rfl⟩
  obtain ⟨m, hm⟩ : ∃ m, ps.length = m := ⟨_, rfl⟩
  have A0 := hide (below_on (below_alloc w (.cells #[.slice ao n c, .slice ao' m c'] 32)) (below_alloc _ (.cells #[.int .i64 0, .slice none 0 0] 41)))
  by_cases h0 : inF xss ps = 0
  · obtain ⟨h66, hl24, hlg⟩ := lg_facts hs h0
    have HSI := hide (fun (L : Nat → Prop) (w' : World) (z : Value) (hb : Below w.heap.size w w') (hz : RdP L w' z (lgP xss ps)) (hL : ∀ b, L b → b < w'.heap.size) => seenIn (HU.out.later hb) (HV.out.later hb) hs h66 hz hL (fun i hi => (hlg i hi).1) hl24)
    have HLn := hide (fun (h1 : 0 ≤ a) (h2 : a < 40) => rh_len hs h0 h1 h2)
    rw [if_pos h0]
    unfold lgF at HLg
    rw [h0] at HLg
    have H0 := hide h0
    generalize lgP xss ps = lps at HLg HSI HLn hl24 ⊢
    generalize homeM xss ps 40 = M at HSI HLn ⊢
    obtain ⟨l, hl⟩ : ∃ l, lps.length = l := ⟨_, rfl⟩
    have HL := hide hl
    rw [hn, hm] at HLg HSI
    rw [hl] at HSI
    rw [hn, hm]
    clear hu hv hs hn hm HU HV h0 h66 hlg hl
    by_cases ha : 0 ≤ a ∧ a < 40
    · obtain ⟨ha1, ha2⟩ := ha
      have hkey : Hid (keyOf Try.prog 2 (.int .i64 a) = some (.int .i64 a)) := keyOf_int_mk Try.underlying2 (WalkArith.wf_i64 (by omega))
      have HLn' := hide (HLn.out ha1 ha2)
      rw [if_pos ⟨ha1, ha2⟩, if_pos ⟨H0.out, ha1, ha2⟩]
      obtain ⟨rs, hrs⟩ : ∃ rs, lps.foldl putM M a = rs := ⟨_, rfl⟩
      have HRS := hide hrs
      rw [hrs] at HLn' ⊢
      clear hrs HLn
      go_enter Try.func15, Try.ntmps15
      go_wp2_with fail
      refine (HLg.out _ A0.out).mono ?_
      rintro e w1 ⟨z1, rfl, hb1, ho1⟩
      obtain ⟨a1, k1, hz1⟩ := ho1.shape
      rw [HL.out] at hz1
      subst hz1
      have bR := below_alloc w1 (.cells #[.int .i64 0, .slice a1 l k1] 29)
      have b1R := below_on hb1 bR
      have q0 : w1.cell? ⟨w.heap.size + 1, 0, none⟩ = some (.int .i64 0) := cell_later hb1 (by simp [go_sem])
      have q1 : w1.cell? ⟨w.heap.size + 1, 1, none⟩ = some (.slice none 0 0) := cell_later hb1 (by simp [go_sem])
      have qf : ∀ o, w1.frozen? ⟨w.heap.size + 1, o, none⟩ = false := fun o => ((bcell hb1).2 _ _ (by simp)).trans (by simp [go_sem])
      have d0 : w1.cell? ⟨w.heap.size, 0, none⟩ = some (.slice ao n c) := cell_later hb1 (by simp [go_sem])
      have d1 : w1.cell? ⟨w.heap.size, 1, none⟩ = some (.slice ao' m c') := cell_later hb1 (by simp [go_sem])
      have hlt : w.heap.size + 1 < w1.heap.size := World.block_lt_of_cell? _ _ q0
      have HW : Hid (Below w.heap.size w (w1.alloc (.cells #[.int .i64 0, .slice a1 l k1] 29)) ∧ Var2 (w1.alloc (.cells #[.int .i64 0, .slice a1 l k1] 29)) w.heap.size (.slice ao n c) (.slice ao' m c') ∧ Var2 (w1.alloc (.cells #[.int .i64 0, .slice a1 l k1] 29)) (w.heap.size + 1) (.int .i64 0) (.slice none 0 0) ∧ (∀ o, (w1.alloc (.cells #[.int .i64 0, .slice a1 l k1] 29)).frozen? ⟨w.heap.size + 1, o, none⟩ = false) ∧ Var2 (w1.alloc (.cells #[.int .i64 0, .slice a1 l k1] 29)) w1.heap.size (.int .i64 0) (.slice a1 l k1) ∧ RdP (fun b => b < w1.heap.size) (w1.alloc (.cells #[.int .i64 0, .slice a1 l k1] 29)) (.slice a1 l k1) lps ∧ w1.heap.size < (w1.alloc (.cells #[.int .i64 0, .slice a1 l k1] 29)).heap.size) :=
        ⟨below_on A0.out b1R, ⟨cell_later bR d0, cell_later bR d1⟩, ⟨cell_later bR q0, cell_later bR q1⟩, fun o => ((bcell bR).2 _ _ hlt).trans (qf o), Var2_new _ _ _ _, (RdP_narrow ho1.rd (fun b hb => hb.2)).later bR, by simp⟩
      clear hb1 ho1 bR b1R q0 q1 qf d0 d1 HLg A0
      go_upto_region 4 with fail
      refine forget (fun wx => Below w.heap.size w wx ∧ Var2 wx w.heap.size (.slice ao n c) (.slice ao' m c') ∧ Var2 wx (w.heap.size + 1) (.int .i64 0) (.slice none 0 0) ∧ (∀ o, wx.frozen? ⟨w.heap.size + 1, o, none⟩ = false) ∧ Var2 wx w1.heap.size (.int .i64 0) (.slice a1 l k1) ∧ RdP (fun b => b < w1.heap.size) wx (.slice a1 l k1) lps ∧ w1.heap.size < wx.heap.size) HW.out ?_
      obtain ⟨H, hH⟩ : ∃ H, w1.heap.size = H := ⟨_, rfl⟩
      rw [hH] at hlt ⊢
      clear HW hH
      rintro V ⟨hbV, ⟨d0, d1⟩, ⟨q0, q1⟩, qf, ⟨r0, r1⟩, hR, hHl⟩
      have HBV := hide hbV
      have HQ0 := hide q0
      have HQ1 := hide q1
      have HQf := hide qf
      have HSn := hide (HSI.out _ V _ hbV hR (fun b hb => by omega))
      clear hbV q0 q1 qf hR
      go_wp2_with fail
      refine (isHome_yes a ha1 ha2 _).mono ?_
      rintro e w' ⟨rfl, hw'⟩
      have hw2 := hw'.symm
      subst hw2
      clear hw'
      go_wp2_with fail
      refine HSn.out.mono ?_
      rintro e w3 ⟨B, rfl, hB, hb3, hs3⟩
      obtain ⟨D, hown, hD⟩ := hs3
      obtain ⟨v3, hat, hr3⟩ := hD a ha1 ha2
      rw [HRS.out] at hr3
      obtain ⟨v', p', hrun, hv'⟩ := hown.lookup lawI64 Try.underlying55 (zeroWords w3) (zd := .held (.slice none 0 0)) (zp := []) rfl hkey.out
      have hvv : v' = v3 := by
        rw [hat] at hv'
        injection hv' with h1
        injection h1 with h2
        injection h2
      subst hvv
      obtain ⟨a3, k3, rfl⟩ := hr3.shape
      have HCp := hide (copyWords hr3 HLn'.out)
      have HB3 := hide hb3
      clear hown hD hat hv' hr3 hb3
      go_wp2_with fail
      refine HCp.out.mono ?_
      rintro e w4 ⟨z4, rfl, hb4, ho4⟩
      obtain ⟨a4, k4, rfl⟩ := ho4.shape
      have hb34 := below_on HB3.out hb4
      have v0 := cell_later hb34 HQ0.out
      have v1 := cell_later hb34 HQ1.out
      have hq5 : w.heap.size + 1 < V.heap.size := by omega
      have f0 := ((bcell hb34).2 _ _ hq5).trans (HQf.out 0)
      have f1 := ((bcell hb34).2 _ _ hq5).trans (HQf.out 1)
      have HB4 := hide (below_on HBV.out hb34)
      have HO4 := hide ho4
      have hz3 := HB3.out.size
      clear hb4 ho4 hb34 hrun
      have HFin := hide (ret_ints (x := .int .i64 0) HB4.out (r := w.heap.size + 1) (by omega) HO4.out (by omega))
      go_wp2
      exact bodyPost_ret (v := .agg #[.int .i64 0, .slice a4 rs.length k4]) (by simp [results, Try.results15, go_sem, v0, v1]) rfl ⟨_, rfl, HFin.out.1, HFin.out.2⟩
    · have HA := hide ha
      rw [if_neg ha, if_neg (fun h => ha h.2)]
      clear ha HSI HLn
      go_enter Try.func15, Try.ntmps15
      go_wp2_with fail
      refine (HLg.out _ A0.out).mono ?_
      rintro e w1 ⟨z1, rfl, hb1, ho1⟩
      obtain ⟨a1, k1, hz1⟩ := ho1.shape
      rw [HL.out] at hz1
      subst hz1
      have q0 : w1.cell? ⟨w.heap.size + 1, 0, none⟩ = some (.int .i64 0) := cell_later hb1 (by simp [go_sem])
      have q1 : w1.cell? ⟨w.heap.size + 1, 1, none⟩ = some (.slice none 0 0) := cell_later hb1 (by simp [go_sem])
      have f0 : w1.frozen? ⟨w.heap.size + 1, 0, none⟩ = false := ((bcell hb1).2 _ _ (by simp)).trans (by simp [go_sem])
      have f1 : w1.frozen? ⟨w.heap.size + 1, 1, none⟩ = false := ((bcell hb1).2 _ _ (by simp)).trans (by simp [go_sem])
      have hlt : w.heap.size + 1 < w1.heap.size := World.block_lt_of_cell? _ _ q0
      have HB := hide (below_on A0.out hb1)
      clear hb1 ho1
      go_wp2_with fail
      refine (isHome_no a HA.out _).mono ?_
      rintro e w' ⟨rfl, hw'⟩
      have hw2 := hw'.symm
      subst hw2
      clear hw'
      go_wp2
      have BA := below_alloc ((w1.setCell ⟨w.heap.size + 1, 0, none⟩ (.int .i64 3)).setCell ⟨w.heap.size + 1, 1, none⟩ (.slice none 0 0)) (.cells #[.int .i64 0, .slice a1 l k1] 29)
      have m0 := cell_later BA (a := ⟨w.heap.size + 1, 0, none⟩) (v := .int .i64 3) (by simp [go_sem, q0])
      have m1 := cell_later BA (a := ⟨w.heap.size + 1, 1, none⟩) (v := .slice none 0 0) (by simp [go_sem, q1])
      exact bodyPost_ret (v := .agg #[.int .i64 3, .slice none 0 0]) (by simp [results, Try.results15, go_sem, m0, m1]) rfl ⟨_, rfl, ((HB.out.setCell (by simp) _).setCell (by simp) _).trans (BA.mono (by simp; omega)), OwI_nil _ _⟩
  · rw [if_neg h0, if_neg (fun h => h0 h.1)]
    unfold lgF at HLg
    rw [hn, hm] at HLg
    rw [hn, hm]
    clear hu hv hs hn hm HU HV
    generalize lgP xss ps = lps at HLg
    generalize inF xss ps = z at HLg h0 ⊢
    obtain ⟨l, hl⟩ : ∃ l, lps.length = l := ⟨_, rfl⟩
    have HL := hide hl
    clear hl
    go_enter Try.func15, Try.ntmps15
    go_wp2_with fail
    refine (HLg.out _ A0.out).mono ?_
    rintro e w1 ⟨z1, rfl, hb1, ho1⟩
    obtain ⟨a1, k1, hz1⟩ := ho1.shape
    rw [HL.out] at hz1
    subst hz1
    have q0 : w1.cell? ⟨w.heap.size + 1, 0, none⟩ = some (.int .i64 0) := cell_later hb1 (by simp [go_sem])
    have q1 : w1.cell? ⟨w.heap.size + 1, 1, none⟩ = some (.slice none 0 0) := cell_later hb1 (by simp [go_sem])
    have f0 : w1.frozen? ⟨w.heap.size + 1, 0, none⟩ = false := ((bcell hb1).2 _ _ (by simp)).trans (by simp [go_sem])
    have f1 : w1.frozen? ⟨w.heap.size + 1, 1, none⟩ = false := ((bcell hb1).2 _ _ (by simp)).trans (by simp [go_sem])
    have hlt : w.heap.size + 1 < w1.heap.size := World.block_lt_of_cell? _ _ q0
    have HB := hide (below_on A0.out hb1)
    clear hb1 ho1
    go_wp2
    have BA := below_alloc ((w1.setCell ⟨w.heap.size + 1, 0, none⟩ (.int .i64 z)).setCell ⟨w.heap.size + 1, 1, none⟩ (.slice none 0 0)) (.cells #[.int .i64 z, .slice a1 l k1] 29)
    have m0 := cell_later BA (a := ⟨w.heap.size + 1, 0, none⟩) (v := .int .i64 z) (by simp [go_sem, q0])
    have m1 := cell_later BA (a := ⟨w.heap.size + 1, 1, none⟩) (v := .slice none 0 0) (by simp [go_sem, q1])
    exact bodyPost_ret (v := .agg #[.int .i64 z, .slice none 0 0]) (by simp [results, Try.results15, go_sem, m0, m1]) rfl ⟨_, rfl, ((HB.out.setCell (by simp) _).setCell (by simp) _).trans (BA.mono (by simp; omega)), OwI_nil _ _⟩
end Go.Proofs.Ytbohmnfnhggekaa
