/- Chapter 4, the model's side: 'l4Last', 'l4Read' and 'ReadHome', walked. -/
import Derived.Test.YtbohmnfnhggekaaSeen3
import Derived.Test.YtbohmnfnhggekaaLog2
import Derived.Test.YtbohmnfnhggekaaBlockAt2
namespace Go.Proofs.Ytbohmnfnhggekaa
open Go.RowKit

set_option maxHeartbeats 1000000 in
set_option maxRecDepth 4000 in
theorem l4Last {S : Nat → Prop} {w : World} {v : Value} {qs : List (Int × List Int)} (a : Int) (hv : RdP S w v qs) :
    Calls Try.prog 43 #[v, .int .i64 a] w fun e w' => w' = w ∧ ((e = .returned (.int .i64 (-1)) ∧ ∀ j, j < qs.length → (qs.getD j (0, [])).1 ≠ a) ∨ ∃ i : Nat, e = .returned (.int .i64 (i : Int)) ∧ i < qs.length ∧ (qs.getD i (0, [])).1 = a ∧ ∀ j, i < j → j < qs.length → (qs.getD j (0, [])).1 ≠ a) := by
  obtain ⟨ao, c, rfl, hm⟩ := hv.shape
  have HV := hide hv
  obtain ⟨n, hn⟩ : ∃ n, qs.length = n := ⟨_, rfl⟩
  have HN := hide hn
  rw [hn] at HV hm ⊢
  clear hv hn
  have hw0 : IntKind.i64.wrap ((n : Int) - 1) = (n : Int) - 1 := by simp [IntKind.wrap, IntKind.bits, IntKind.signed]; omega
  go_enter Try.func43, Try.ntmps43
  go_wp2
  go_loopw [5] (fun i wr => ∃ k : Nat, k ≤ n ∧ i = .int .i64 ((k : Int) - 1) ∧ Hid (∀ j, k ≤ j → j < n → (qs.getD j (0, [])).1 ≠ a) ∧ wr = w) (fun i _ => (intOf i + 1).toNat)
  case atStart => exact ⟨n, Nat.le_refl _, rfl, fun j h1 h2 => by omega, rfl⟩
  case round =>
    obtain ⟨k, hk, rfl, HA, rfl⟩ := hrel
    by_cases hk0 : k = 0
    · subst hk0
      have HR : Hid (∀ j, j < n → (qs.getD j (0, [])).1 ≠ a) := fun j hj => HA.out j (Nat.zero_le _) hj
      go_wp2
      go_ret
      exact ⟨rfl, Or.inl ⟨rfl, HR.out⟩⟩
    · obtain ⟨i, rfl⟩ : ∃ i, k = i + 1 := ⟨k - 1, by omega⟩
      have e1 : ((i + 1 : Nat) : Int) - 1 = (i : Int) := by omega
      rw [e1]
      obtain ⟨b, off, V, rfl, q1, _, _⟩ := HV.out.at (k := i) (by rw [HN.out]; omega)
      obtain ⟨x, hx⟩ : ∃ x, (qs.getD i (0, [])).1 = x := ⟨_, rfl⟩
      have HX := hide hx
      rw [hx] at q1
      have hi0 : (0 : Int) ≤ (i : Int) := Int.natCast_nonneg _
      have hi1 : (i : Int) < (n : Int) := by omega
      have hwi : IntKind.i64.wrap ((i : Int) - 1) = (i : Int) - 1 := by simp [IntKind.wrap, IntKind.bits, IntKind.signed]; omega
      clear hx e1
      by_cases hxa : x = a
      · subst hxa
        have HR : Hid (∀ j, i < j → j < n → (qs.getD j (0, [])).1 ≠ x) := fun j h1 h2 => HA.out j h1 h2
        go_wp2
        go_ret
        exact ⟨rfl, Or.inr ⟨i, rfl, by omega, HX.out, HR.out⟩⟩
      · have HA2 : Hid (∀ j, i ≤ j → j < n → (qs.getD j (0, [])).1 ≠ a) := by
          intro j h1 h2
          by_cases e : j = i
          · subst e; rw [HX.out]; exact hxa
          · exact HA.out j (by omega) h2
        go_wp2
        go_roundw
        case rel => exact ⟨i, by omega, by first | rfl | go_num, HA2.out, by simp⟩
        case measure => simp [intOf]; try omega

set_option maxHeartbeats 1000000 in
set_option maxRecDepth 4000 in
theorem l4Read {S T L : Nat → Prop} {w : World} {bd : Nat} {ao ao' : Option Addr} {c c' : Nat} {z : Value} {xss : List (List Int)} {ps lps : List (Int × List Int)} (a : Int) (hd0 : w.cell? ⟨bd, 0, none⟩ = some (.slice ao xss.length c)) (hd1 : w.cell? ⟨bd, 1, none⟩ = some (.slice ao' ps.length c')) (hu : RdII S w (.slice ao xss.length c) xss) (hv : RdP T w (.slice ao' ps.length c') ps) (hs : Small xss ps) (h66 : xss.length = 66) (hz : RdP L w z lps) (hzl : ∀ i, i < lps.length → (lps.getD i (0, [])).2.length ≤ 1048576) (ha1 : 0 ≤ a) (ha2 : a < 40) :
    Calls Try.prog 22 #[.pointer (some ⟨bd, 0, none⟩), z, .int .i64 a] w fun e w' => ∃ y, e = .returned y ∧ Below w.heap.size w w' ∧ OwI w.heap.size w' y (lps.foldl putM (homeM xss ps 40) a) := by
  obtain ⟨az, cz, rfl, _⟩ := hz.shape
  obtain ⟨_, _, _, hm63⟩ := hv.shape
  have HLa := hide (l4Last a hz)
  have HAt := hide (l1At_cells xss ps xss.length ps.length bd ao ao' c c' w (26 + a) rfl rfl hm63 hd0 hd1 hu hv (by omega) (by rw [h66]; omega))
  have HBl := hide (blkTo_len hs (at_ := 26 + a) ps.length (Nat.le_refl _) (by omega) (by rw [h66]; omega))
  have HNo := hide (fun (h : ∀ j, j < lps.length → (lps.getD j (0, [])).1 ≠ a) => (foldl_none (M := homeM xss ps 40) h).trans (by unfold homeM; rw [if_pos (by omega)] : homeM xss ps 40 a = blkTo xss ps (26 + a) ps.length))
  have HYes := hide (fun (i : Nat) (h1 : i < lps.length) (h2 : (lps.getD i (0, [])).1 = a) (h3 : ∀ j, i < j → j < lps.length → (lps.getD j (0, [])).1 ≠ a) => foldl_last (M := homeM xss ps 40) h1 h2 h3)
  have HZ := hide hz
  have HZl := hide hzl
  obtain ⟨rs, hrs⟩ : ∃ rs, lps.foldl putM (homeM xss ps 40) a = rs := ⟨_, rfl⟩
  rw [hrs] at HNo HYes ⊢
  generalize blkTo xss ps (26 + a) ps.length = bs at HAt HBl HNo
  obtain ⟨l, hl⟩ : ∃ l, lps.length = l := ⟨_, rfl⟩
  have HL := hide hl
  rw [hl] at HLa HZ HZl HNo HYes ⊢
  have hwa : IntKind.i64.wrap (26 + a) = 26 + a := by simp [IntKind.wrap, IntKind.bits, IntKind.signed]; omega
  clear hd0 hd1 hu hv hs h66 hz hzl hrs hl
  go_enter Try.func22, Try.ntmps22
  go_wp2_with fail
  refine HLa.out.mono ?_
  rintro e w' ⟨hw', hres⟩
  have hw2 := hw'.symm
  subst hw2
  clear hw'
  rcases hres with ⟨rfl, hno⟩ | ⟨i, rfl, hi, hia, hil⟩
  · have hrs := HNo.out hno
    subst hrs
    clear hno
    go_wp2_with fail
    refine HAt.out.mono ?_
    rintro e w1 ⟨z1, rfl, ⟨q, rfl⟩, hr1⟩
    have HCp := hide (l1Ints hr1 HBl.out)
    obtain ⟨a1, k1, rfl⟩ := hr1.shape
    clear hr1
    go_wp2_with fail
    refine HCp.out.mono ?_
    rintro e w2 ⟨z2, rfl, hb2, ho2⟩
    have HB2 := hide (below_on (below_drewN w q) hb2)
    have HO2 := hide ho2
    clear hb2 ho2
    go_wp2
    go_ret
    exact ⟨_, rfl, HB2.out, HO2.out⟩
  · have hrs := HYes.out i hi hia hil
    obtain ⟨b, off, V, rfl, _, q2, q3⟩ := HZ.out.at (k := i) (by rw [HL.out]; exact hi)
    rw [← hrs] at q3
    have HCp := hide (l1Ints q3 (by rw [hrs]; exact HZl.out i hi))
    obtain ⟨a3, c3, rfl⟩ := q3.shape
    have hi0 : (0 : Int) ≤ (i : Int) := Int.natCast_nonneg _
    have hi1 : (i : Int) < (l : Int) := by omega
    clear hrs q3 hia hil
    go_wp2_with fail
    refine HCp.out.mono ?_
    rintro e w2 ⟨z2, rfl, hb2, ho2⟩
    have HB2 := hide hb2
    have HO2 := hide ho2
    clear hb2 ho2
    go_wp2
    go_ret
    exact ⟨_, rfl, HB2.out, HO2.out⟩

set_option maxHeartbeats 2000000 in
set_option maxRecDepth 4000 in
theorem specReadHome {S T : Nat → Prop} {w : World} {u v : Value} {xss : List (List Int)} {ps : List (Int × List Int)} (a : Int) (hu : RdII S w u xss) (hv : RdP T w v ps) (hs : Small xss ps) :
    Calls Try.prog 14 #[.agg #[u, v], .int .i64 a] w (EndsI (rhF xss ps a) (rhXs xss ps a) w) := by
  unfold EndsI rhF rhXs
  obtain ⟨ao, c, rfl, _⟩ := hu.shape
  obtain ⟨ao', c', rfl, _⟩ := hv.shape
  have HLg := hide (fun (w' : World) (hb : Below w.heap.size w w') => specLogOf (hu.later hb) (hv.later hb) hs)
  have HU := hide hu
  have HV := hide hv
  obtain ⟨n, hn⟩ : ∃ n, xss.length = n := ⟨_, rfl⟩
  obtain ⟨m, hm⟩ : ∃ m, ps.length = m := ⟨_, rfl⟩
  have A0 := hide (below_on (below_alloc w (.cells #[.slice ao n c, .slice ao' m c'] 32)) (below_alloc _ (.cells #[.int .i64 0, .slice none 0 0] 41)))
  by_cases h0 : inF xss ps = 0
  · obtain ⟨h66, hl24, hlg⟩ := lg_facts hs h0
    have HSI := hide (fun (L : Nat → Prop) (w' : World) (z : Value) (bd : Nat) (hb : Below w.heap.size w w') (hd0 : w'.cell? ⟨bd, 0, none⟩ = some (.slice ao xss.length c)) (hd1 : w'.cell? ⟨bd, 1, none⟩ = some (.slice ao' ps.length c')) (hz : RdP L w' z (lgP xss ps)) (h1 : 0 ≤ a) (h2 : a < 40) => l4Read a hd0 hd1 (HU.out.later hb) (HV.out.later hb) hs h66 hz (fun i hi => (hlg i hi).2) h1 h2)
    have HLn := hide (fun (h1 : 0 ≤ a) (h2 : a < 40) => rh_len hs h0 h1 h2)
    rw [if_pos h0]
    unfold lgF at HLg
    rw [h0] at HLg
    have H0 := hide h0
    generalize lgP xss ps = lps at HLg HSI HLn hl24 ⊢
    generalize homeM xss ps 40 = M at HSI HLn ⊢
    obtain ⟨l, hl⟩ : ∃ l, lps.length = l := ⟨_, rfl⟩
    have HL := hide hl
    rw [hn, hm] at HLg HSI
    rw [hn, hm]
    clear hu hv hs hn hm HU HV h0 h66 hlg hl
    by_cases ha : 0 ≤ a ∧ a < 40
    · obtain ⟨ha1, ha2⟩ := ha
      rw [if_pos ⟨ha1, ha2⟩, if_pos ⟨H0.out, ha1, ha2⟩]
      obtain ⟨rs, hrs⟩ : ∃ rs, lps.foldl putM M a = rs := ⟨_, rfl⟩
      have HRS := hide hrs
      rw [hrs]
      clear hrs HLn
      go_enter Try.func14, Try.ntmps14
      go_wp2_with fail
      refine (HLg.out _ A0.out).mono ?_
      rintro e w1 ⟨z1, rfl, hb1, ho1⟩
      obtain ⟨a1, k1, hz1⟩ := ho1.shape
      rw [HL.out] at hz1
      subst hz1
      have bR := below_alloc w1 (.cells #[.int .i64 0, .slice a1 l k1] 29)
      have b1R := below_on hb1 bR
      have q0 : w1.cell? ⟨w.heap.size + 1, 0, none⟩ = some (.int .i64 0) := cell_later hb1 (by simp [go_sem])
      have q1 : w1.cell? ⟨w.heap.size + 1, 1, none⟩ = some (.slice none 0 0) := cell_later hb1 (by simp [go_sem])
      have qf : ∀ o, w1.frozen? ⟨w.heap.size + 1, o, none⟩ = false := fun o => ((bcell hb1).2 _ _ (by simp)).trans (by simp [go_sem])
      have d0 : w1.cell? ⟨w.heap.size, 0, none⟩ = some (.slice ao n c) := cell_later hb1 (by simp [go_sem])
      have d1 : w1.cell? ⟨w.heap.size, 1, none⟩ = some (.slice ao' m c') := cell_later hb1 (by simp [go_sem])
      have hlt : w.heap.size + 1 < w1.heap.size := World.block_lt_of_cell? _ _ q0
      have HW : Hid (Below w.heap.size w (w1.alloc (.cells #[.int .i64 0, .slice a1 l k1] 29)) ∧ Var2 (w1.alloc (.cells #[.int .i64 0, .slice a1 l k1] 29)) w.heap.size (.slice ao n c) (.slice ao' m c') ∧ Var2 (w1.alloc (.cells #[.int .i64 0, .slice a1 l k1] 29)) (w.heap.size + 1) (.int .i64 0) (.slice none 0 0) ∧ (∀ o, (w1.alloc (.cells #[.int .i64 0, .slice a1 l k1] 29)).frozen? ⟨w.heap.size + 1, o, none⟩ = false) ∧ Var2 (w1.alloc (.cells #[.int .i64 0, .slice a1 l k1] 29)) w1.heap.size (.int .i64 0) (.slice a1 l k1) ∧ RdP (fun b => b < w1.heap.size) (w1.alloc (.cells #[.int .i64 0, .slice a1 l k1] 29)) (.slice a1 l k1) lps ∧ w1.heap.size < (w1.alloc (.cells #[.int .i64 0, .slice a1 l k1] 29)).heap.size) :=
        ⟨below_on A0.out b1R, ⟨cell_later bR d0, cell_later bR d1⟩, ⟨cell_later bR q0, cell_later bR q1⟩, fun o => ((bcell bR).2 _ _ hlt).trans (qf o), Var2_new _ _ _ _, (RdP_narrow ho1.rd (fun b hb => hb.2)).later bR, by simp⟩
      clear hb1 ho1 bR b1R q0 q1 qf d0 d1 HLg A0
      go_upto_region 4 with fail
      refine forget (fun wx => Below w.heap.size w wx ∧ Var2 wx w.heap.size (.slice ao n c) (.slice ao' m c') ∧ Var2 wx (w.heap.size + 1) (.int .i64 0) (.slice none 0 0) ∧ (∀ o, wx.frozen? ⟨w.heap.size + 1, o, none⟩ = false) ∧ Var2 wx w1.heap.size (.int .i64 0) (.slice a1 l k1) ∧ RdP (fun b => b < w1.heap.size) wx (.slice a1 l k1) lps ∧ w1.heap.size < wx.heap.size) HW.out ?_
      obtain ⟨H, hH⟩ : ∃ H, w1.heap.size = H := ⟨_, rfl⟩
      rw [hH] at hlt ⊢
      clear HW hH
      rintro V ⟨hbV, ⟨d0, d1⟩, ⟨q0, q1⟩, qf, ⟨r0, r1⟩, hR, hHl⟩
      have HBV := hide hbV
      have HQ0 := hide q0
      have HQ1 := hide q1
      have HQf := hide qf
      have HSn := hide (HSI.out _ V _ w.heap.size hbV d0 d1 hR ha1 ha2)
      rw [HRS.out] at HSn
      clear hbV q0 q1 qf hR
      go_wp2_with fail
      refine (l2Home_yes a ha1 (by omega) _).mono ?_
      rintro e w' ⟨rfl, hw'⟩
      have hw2 := hw'.symm
      subst hw2
      clear hw'
      go_wp2_with fail
      refine HSn.out.mono ?_
      rintro e w4 ⟨z4, rfl, hb34, ho4⟩
      obtain ⟨a4, k4, rfl⟩ := ho4.shape
      have v0 := cell_later hb34 HQ0.out
      have v1 := cell_later hb34 HQ1.out
      have hq5 : w.heap.size + 1 < V.heap.size := by omega
      have f0 := ((bcell hb34).2 _ _ hq5).trans (HQf.out 0)
      have f1 := ((bcell hb34).2 _ _ hq5).trans (HQf.out 1)
      have HB4 := hide (below_on HBV.out hb34)
      have HO4 := hide ho4
      clear ho4 hb34
      have HFin := hide (ret_ints (x := .int .i64 0) HB4.out (r := w.heap.size + 1) (by omega) HO4.out (by omega))
      go_wp2
      exact bodyPost_ret (v := .agg #[.int .i64 0, .slice a4 rs.length k4]) (by simp [results, Try.results14, go_sem, v0, v1]) rfl ⟨_, rfl, HFin.out.1, HFin.out.2⟩
    · have HA := hide ha
      rw [if_neg ha, if_neg (fun h => ha h.2)]
      clear ha HSI HLn
      go_enter Try.func14, Try.ntmps14
      go_wp2_with fail
      refine (HLg.out _ A0.out).mono ?_
      rintro e w1 ⟨z1, rfl, hb1, ho1⟩
      obtain ⟨a1, k1, hz1⟩ := ho1.shape
      rw [HL.out] at hz1
      subst hz1
      have q0 : w1.cell? ⟨w.heap.size + 1, 0, none⟩ = some (.int .i64 0) := cell_later hb1 (by simp [go_sem])
      have q1 : w1.cell? ⟨w.heap.size + 1, 1, none⟩ = some (.slice none 0 0) := cell_later hb1 (by simp [go_sem])
      have f0 : w1.frozen? ⟨w.heap.size + 1, 0, none⟩ = false := ((bcell hb1).2 _ _ (by simp)).trans (by simp [go_sem])
      have f1 : w1.frozen? ⟨w.heap.size + 1, 1, none⟩ = false := ((bcell hb1).2 _ _ (by simp)).trans (by simp [go_sem])
      have hlt : w.heap.size + 1 < w1.heap.size := World.block_lt_of_cell? _ _ q0
      have HB := hide (below_on A0.out hb1)
      clear hb1 ho1
      go_wp2_with fail
      refine (l2Home_no a (by have := HA.out; omega) _).mono ?_
      rintro e w' ⟨rfl, hw'⟩
      have hw2 := hw'.symm
      subst hw2
      clear hw'
      go_wp2
      have BA := below_alloc ((w1.setCell ⟨w.heap.size + 1, 0, none⟩ (.int .i64 3)).setCell ⟨w.heap.size + 1, 1, none⟩ (.slice none 0 0)) (.cells #[.int .i64 0, .slice a1 l k1] 29)
      have m0 := cell_later BA (a := ⟨w.heap.size + 1, 0, none⟩) (v := .int .i64 3) (by simp [go_sem, q0])
      have m1 := cell_later BA (a := ⟨w.heap.size + 1, 1, none⟩) (v := .slice none 0 0) (by simp [go_sem, q1])
      exact bodyPost_ret (v := .agg #[.int .i64 3, .slice none 0 0]) (by simp [results, Try.results14, go_sem, m0, m1]) rfl ⟨_, rfl, ((HB.out.setCell (by simp) _).setCell (by simp) _).trans (BA.mono (by simp; omega)), OwI_nil _ _⟩
  · rw [if_neg h0, if_neg (fun h => h0 h.1)]
    unfold lgF at HLg
    rw [hn, hm] at HLg
    rw [hn, hm]
    clear hu hv hs hn hm HU HV
    generalize lgP xss ps = lps at HLg
    generalize inF xss ps = z at HLg h0 ⊢
    obtain ⟨l, hl⟩ : ∃ l, lps.length = l := ⟨_, rfl⟩
    have HL := hide hl
    clear hl
    go_enter Try.func14, Try.ntmps14
    go_wp2_with fail
    refine (HLg.out _ A0.out).mono ?_
    rintro e w1 ⟨z1, rfl, hb1, ho1⟩
    obtain ⟨a1, k1, hz1⟩ := ho1.shape
    rw [HL.out] at hz1
    subst hz1
    have q0 : w1.cell? ⟨w.heap.size + 1, 0, none⟩ = some (.int .i64 0) := cell_later hb1 (by simp [go_sem])
    have q1 : w1.cell? ⟨w.heap.size + 1, 1, none⟩ = some (.slice none 0 0) := cell_later hb1 (by simp [go_sem])
    have f0 : w1.frozen? ⟨w.heap.size + 1, 0, none⟩ = false := ((bcell hb1).2 _ _ (by simp)).trans (by simp [go_sem])
    have f1 : w1.frozen? ⟨w.heap.size + 1, 1, none⟩ = false := ((bcell hb1).2 _ _ (by simp)).trans (by simp [go_sem])
    have hlt : w.heap.size + 1 < w1.heap.size := World.block_lt_of_cell? _ _ q0
    have HB := hide (below_on A0.out hb1)
    clear hb1 ho1
    go_wp2
    have BA := below_alloc ((w1.setCell ⟨w.heap.size + 1, 0, none⟩ (.int .i64 z)).setCell ⟨w.heap.size + 1, 1, none⟩ (.slice none 0 0)) (.cells #[.int .i64 z, .slice a1 l k1] 29)
    have m0 := cell_later BA (a := ⟨w.heap.size + 1, 0, none⟩) (v := .int .i64 z) (by simp [go_sem, q0])
    have m1 := cell_later BA (a := ⟨w.heap.size + 1, 1, none⟩) (v := .slice none 0 0) (by simp [go_sem, q1])
    exact bodyPost_ret (v := .agg #[.int .i64 z, .slice none 0 0]) (by simp [results, Try.results14, go_sem, m0, m1]) rfl ⟨_, rfl, ((HB.out.setCell (by simp) _).setCell (by simp) _).trans (BA.mono (by simp; omega)), OwI_nil _ _⟩
end Go.Proofs.Ytbohmnfnhggekaa
