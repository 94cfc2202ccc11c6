/- Bn1 in one text: what each says stands at its head below. -/
import Derived.Test.YtncgpfapepminaaGreatDoorG38
import Derived.Test.YtncgpfapepminaaGreatDoorG21
import Derived.Test.YtncgpfapepminaaGreatDoorG16
/- Chapter 15, draws: 'spec.DrawInstallRaft', walked. Made by program (genbn.py). -/
namespace Go.Proofs.YtncgpfapepminaaGreatDoor
open Go.RowKit

theorem RdI.inside {S : Nat → Prop} {w : World} {v : Value} {xs : List Int} (h : RdI S w v xs) : RdI (fun b => S b ∧ b < w.heap.size) w v xs := by
  obtain ⟨ao, c, h1, h2, h3⟩ := h
  refine ⟨ao, c, h1, h2, fun hne => ?_⟩
  obtain ⟨b, off, e, hb, hc⟩ := h3 hne
  have h1 := hc 0 (List.length_pos_iff.2 hne)
  exact ⟨b, off, e, ⟨hb, World.block_lt_of_cell? _ _ h1⟩, hc⟩

set_option maxRecDepth 4000 in
theorem l10WrongI {S T : Nat → Prop} {w : World} {bk : Nat} {y z : Value} (r : Rf) (hv : Var6 w bk (.int .i64 r.tm) (.int .i64 r.vt) (.int .i64 r.si) (.int .i64 r.st) y z) (hy : RdI S w y r.sn) (hz : RdJ T w z r.lg) :
    Calls Tryz.prog 16 #[.pointer (some ⟨bk, 0, none⟩)] w fun e w' => e = .returned (.bool (rfF r != 0)) ∧ Below w.heap.size w w' := by
  have H := hide (l10Fault r hv hy hz)
  generalize rfF r = f at H ⊢
  clear hv hy hz
  go_enter Tryz.func16, Tryz.ntmps16
  go_wp2_with fail
  refine (H.out).mono ?_
  rintro e w1 ⟨rfl, hb⟩
  have HB := hide hb
  clear hb
  go_wp2
  go_ret
  exact ⟨by simp, HB.out⟩

set_option linter.unusedSimpArgs false in
set_option maxHeartbeats 8000000 in
set_option maxRecDepth 4000 in
/-- 'DrawInstallRaft': a store of new memory, right or bent, an index, a term and data. -/
theorem drawInstallRaft {v : Value} {bs : List Nat} {w : World} (hv : RdB w.heap.size w v bs) (hbl : bs.length ≤ 1048576) :
    Calls Tryz.prog 5 #[v] w fun e w' => ∃ (Q : Rf) (y z u : Value) (p t : Int) (xs : List Int), e = .returned (.tuple #[.agg #[.int .i64 Q.tm, .int .i64 Q.vt, .int .i64 Q.si, .int .i64 Q.st, y, z], .int .i64 p, .int .i64 t, u]) ∧ Below w.heap.size w w' ∧ IvR w.heap.size w'.heap.size w' y z Q.sn Q.lg ∧ RdI (w.heap.size ≤ ·) w' u xs := by
  have B0 := below_alloc w (.cells #[.int .i64 0, .int .i64 0, .int .i64 0, .int .i64 0, .slice none 0 0, .slice none 0 0] 27)
  have HV := hide (show RdB (w.alloc (.cells #[.int .i64 0, .int .i64 0, .int .i64 0, .int .i64 0, .slice none 0 0, .slice none 0 0] 27)).heap.size (w.alloc (.cells #[.int .i64 0, .int .i64 0, .int .i64 0, .int .i64 0, .slice none 0 0, .slice none 0 0] 27)) v bs from hv.laterH B0)
  have R0 := hide (Var6_new w (.int .i64 0) (.int .i64 0) (.int .i64 0) (.int .i64 0) (.slice none 0 0) (.slice none 0 0) 27)
  have F0 : Hid (∀ o, (w.alloc (.cells #[.int .i64 0, .int .i64 0, .int .i64 0, .int .i64 0, .slice none 0 0, .slice none 0 0] 27)).frozen? ⟨w.heap.size, o, none⟩ = false) := fun o => by simp [go_sem]
  have hs0 : (w.alloc (.cells #[.int .i64 0, .int .i64 0, .int .i64 0, .int .i64 0, .slice none 0 0, .slice none 0 0] 27)).heap.size = w.heap.size + 1 := by simp
  obtain ⟨W0, hW0⟩ : ∃ x, w.alloc (.cells #[.int .i64 0, .int .i64 0, .int .i64 0, .int .i64 0, .slice none 0 0, .slice none 0 0] 27) = x := ⟨_, rfl⟩
  rw [hW0] at B0 HV R0 F0 hs0
  have HB0 := hide B0
  obtain ⟨i0, hi, hz0, hz1, hz2⟩ := info_parts Tryz.infoU8
  obtain ⟨j0, ji, jz0, jz1, jz2⟩ := info_parts Tryz.infoInt
  obtain ⟨ao, c, hve, _⟩ := hv.src
  subst hve
  clear B0 hv
  go_enter Tryz.func5, Tryz.ntmps5
  go_upto_region 1 with fail
  (try rw [hW0])
  clear hW0
  go_wp2_with fail
  refine (drawCompactRaft HV.out hbl).mono ?_
  rintro e w1 ⟨Q, y, z, u, p, xs, rfl, hQ, hb1, hiv, hp, hu, hxl⟩
  obtain ⟨ay, cy, az, cz, ey, ez⟩ := hiv.shape
  subst ey
  subst ez
  obtain ⟨au, cu, eu⟩ := hu.shape
  subst eu
  have HQ := hide hQ
  have hzw1 := hb1.size
  have I2 : Hid (CmI w.heap.size w1.heap.size w Q (.slice ay Q.sn.length cy) (.slice az Q.lg.length cz) (w1.alloc (.cells #[.int .i64 Q.tm, .int .i64 Q.vt, .int .i64 Q.si, .int .i64 Q.st, .slice ay Q.sn.length cy, .slice az Q.lg.length cz] 27))) := by
    have hb := below_alloc w1 (.cells #[.int .i64 Q.tm, .int .i64 Q.vt, .int .i64 Q.si, .int .i64 Q.st, .slice ay Q.sn.length cy, .slice az Q.lg.length cz] 27)
    exact ⟨Below.trans (Below.trans HB0.out (hb1.mono (by omega))) (hb.mono (by omega)), (R0.out.later hb1).later hb, fun o => ((bcell hb).2 _ _ (by omega)).trans (((bcell hb1).2 _ _ (by omega)).trans (F0.out o)), Var6_new w1 (.int .i64 Q.tm) (.int .i64 Q.vt) (.int .i64 Q.si) (.int .i64 Q.st) (.slice ay Q.sn.length cy) (.slice az Q.lg.length cz) 27, ⟨W0.heap.size, w1.heap.size, by omega, Nat.le_refl _, hiv.later hb⟩, by omega⟩
  have HV2 := hide ((HV.out.laterH hb1).laterH (below_alloc w1 (.cells #[.int .i64 Q.tm, .int .i64 Q.vt, .int .i64 Q.si, .int .i64 Q.st, .slice ay Q.sn.length cy, .slice az Q.lg.length cz] 27)))
  have U2 : Hid (RdI (fun b => w.heap.size < b ∧ b < w1.heap.size) (w1.alloc (.cells #[.int .i64 Q.tm, .int .i64 Q.vt, .int .i64 Q.si, .int .i64 Q.st, .slice ay Q.sn.length cy, .slice az Q.lg.length cz] 27)) (.slice au xs.length cu) xs) := (hu.inside.narrow (fun _ b hb => ⟨by have := hb.1; omega, hb.2⟩)).later (below_alloc w1 (.cells #[.int .i64 Q.tm, .int .i64 Q.vt, .int .i64 Q.si, .int .i64 Q.st, .slice ay Q.sn.length cy, .slice az Q.lg.length cz] 27))
  clear hQ hiv hu hb1 R0 F0 HB0 HV
  go_upto_region 2 with fail
  obtain ⟨W2, hW2⟩ : ∃ x, w1.alloc (.cells #[.int .i64 Q.tm, .int .i64 Q.vt, .int .i64 Q.si, .int .i64 Q.st, .slice ay Q.sn.length cy, .slice az Q.lg.length cz] 27) = x := ⟨_, rfl⟩
  rw [hW2] at I2 HV2 U2
  (try rw [hW2])
  clear hW2
  obtain ⟨RR, hRR⟩ : ∃ x, w1.heap.size = x := ⟨_, rfl⟩
  rw [hRR] at I2 U2 hzw1
  (try rw [hRR])
  clear hRR
  have hRl := I2.out.var.lt
  have bA := below_alloc W2 (.cells #[.int .u8 5] 5)
  obtain ⟨a2, c2, e2, hsrc⟩ := (HV2.out.later bA).src
  injection e2 with e3 _ _
  subst e3
  have HS := hide hsrc
  have HOw := hide (ownsRow_fullF W2 [.int .u8 5] 5 (by simp))
  have HBA := hide bA
  clear bA hsrc
  go_wp2_with (at_builtin; refine wpList_append_any _ rfl _ _ 22 rfl W2.heap.size 5 i0 (.int .u8 0) 1 1 Tryz.underlying22 hi hz0 hz1 hz2 rfl (by decide) _ 1 _ (by rfl) HOw.out ao bs.length _ (u8s bs) (by rfl) (by simp [u8s]) HS.out (u8s_one _) (by unfold maxLen; omega) (by omega) (by simp) ?_; intro v' w3 hown hgrow)
  have hB3 : Below W2.heap.size W2 w3 := HBA.out.grown hgrow (by simp) (fun r hr => by simp [Value.ownBlock] at hr; omega)
  have HRB : Hid (RdB w3.heap.size w3 v' (5 :: bs)) := rdB_of_owns hown (by simp; omega) (by omega) (fun z hz => by
    rcases List.mem_cons.1 hz with rfl | hz
    · omega
    · exact HV2.out.small z hz)
  have I3 := hide (I2.out.later hB3)
  have U3 := hide (U2.out.later hB3)
  obtain ⟨a3, c3, hv3⟩ := owns_shapeR hown
  subst hv3
  have hz3 := hB3.size
  clear hown hgrow hB3 I2 U2 HV2 HS HOw HBA
  go_wp2_with fail
  refine (l1Source HRB.out).mono ?_
  rintro e w4 ⟨rfl, hb4, hz4, hS4⟩
  have I4 := hide (I3.out.later hb4)
  have U4 := hide (U3.out.later hb4)
  have HS4 := hide hS4
  obtain ⟨s, hs⟩ : ∃ s, w3.heap.size = s := ⟨_, rfl⟩
  rw [hs] at HS4 hz4 hz3 ⊢
  have hRs : RR < s := by omega
  clear hb4 hS4 hs I3 U3 HRB
  have KW : Hid (Calls Tryz.prog 16 #[.pointer (some ⟨RR, 0, none⟩)] w4 fun e w' => e = .returned (.bool (rfF Q != 0)) ∧ Below w4.heap.size w4 w') := by
    obtain ⟨lo, hi2, l1, l2, iv⟩ := I4.out.mem
    exact l10WrongI Q I4.out.var iv.rdI iv.rdJ
  have hq1 := HQ.out.tm
  by_cases hf : rfF Q = 0
  · skip
    rw [hf] at KW
    go_wp2_with fail
    refine (KW.out).mono ?_
    rintro e w5 ⟨rfl, hb5⟩
    have I5 := hide (I4.out.later hb5)
    have U5 := hide (U4.out.later hb5)
    have S5 := hide (HS4.out.later hb5)
    clear hb5 I4 U4 HS4 KW
    go_wp2_with fail
    have KT : Hid (Calls Tryz.prog 17 #[.pointer (some ⟨RR, 0, none⟩), .int .i64 p] w5 fun e w' => e = .returned (.tuple #[.int .i64 (tmV Q p), .int .i64 (tmC Q p)]) ∧ ∃ q, w' = w5.drewN q) := by
      obtain ⟨lo, hi2, l1, l2, iv⟩ := I5.out.mem
      exact l10TermI Q p (rfF_iff.1 hf) I5.out.var ⟨_, _, _, rfl⟩ iv.rdJ
    generalize tmV Q p = T at KT
    refine (KT.out).mono ?_
    rintro e w6 ⟨rfl, nq, rfl⟩
    have I6 := hide (I5.out.later (below_drewN w5 nq))
    have U6 := hide (U5.out.later (below_drewN w5 nq))
    have S6 := hide (S5.out.later (below_drewN w5 nq))
    clear I5 U5 S5 KT
    go_upto_region 6 with fail
    obtain ⟨g0, g1, g2, g3, g4, g5⟩ := I6.out.var
    refine wp_region_held_drew (S := fun w' => w'.cell? ⟨RR, 0, none⟩ = some (.int .i64 Q.tm) ∧ w'.cell? ⟨RR, 1, none⟩ = some (.int .i64 Q.vt) ∧ w'.cell? ⟨RR, 2, none⟩ = some (.int .i64 Q.si) ∧ w'.cell? ⟨RR, 3, none⟩ = some (.int .i64 Q.st) ∧ w'.cell? ⟨RR, 4, none⟩ = some (.slice ay Q.sn.length cy) ∧ w'.cell? ⟨RR, 5, none⟩ = some (.slice az Q.lg.length cz)) (by kernel_rfl) ⟨g0, g1, g2, g3, g4, g5⟩ (fun _ => ?_)
    clear g0 g1 g2 g3 g4 g5
    refine forgetH (fun wx => CmI w.heap.size RR w Q (.slice ay Q.sn.length cy) (.slice az Q.lg.length cz) wx ∧ RdI (fun b => w.heap.size < b ∧ b < RR) wx (.slice au xs.length cu) xs ∧ ∃ t, Src s (.slice a3 (1 + bs.length) c3) (5 :: bs) wx t ∧ t ≤ 10) ⟨I6.out.later (below_drewN (w5.drewN nq) 1), U6.out.later (below_drewN (w5.drewN nq) 1), _, S6.out.later (below_drewN (w5.drewN nq) 1), by omega⟩ ?_
    rintro Y0 ⟨i5, u5, t5, s5, ht5⟩
    have I5 := hide i5
    have U5 := hide u5
    have S5 := hide s5
    clear i5 u5 s5 I6 U6 S6
    have hHeld := I5.out.var
    refine wpAnyH_take (i := 0) (v := ?vt1x0) rfl (by kernel_rfl) (by kernel_rfl) (by kernel_rfl) (fun _ _ _ h => h) (Or.inl ⟨by rfl, ?ht1x0⟩) hHeld ?rt1x0
    case ht1x0 => intro w9 hSw; (try dsimp only at hSw); first | (go_simp; done) | (go_simp; with_reducible rfl)
    try simp only [Act.put, List.setIfInBounds_toArray, List.set_cons_zero, List.set_cons_succ, List.getElem_toArray, List.getElem_cons_zero]
    refine wpAnyH_take (i := 1) (v := ?vt2x1) rfl (by kernel_rfl) (by kernel_rfl) (by kernel_rfl) (fun _ _ _ h => h) (Or.inl ⟨by rfl, ?ht2x1⟩) hHeld ?rt2x1
    case ht2x1 => intro w9 hSw; (try dsimp only at hSw); first | (go_simp; done) | (go_simp; with_reducible rfl)
    try simp only [Act.put, List.setIfInBounds_toArray, List.set_cons_zero, List.set_cons_succ, List.getElem_toArray, List.getElem_cons_zero, List.getElem_cons_succ]
    refine wpAnyH_take (i := 2) (v := ?vt3x2) rfl (by kernel_rfl) (by kernel_rfl) (by kernel_rfl) (fun _ _ _ h => h) (Or.inl ⟨by rfl, ?ht3x2⟩) hHeld ?rt3x2
    case ht3x2 => intro w9 hSw; (try dsimp only at hSw); first | (go_simp; done) | (go_simp; with_reducible rfl)
    try simp only [Act.put, List.setIfInBounds_toArray, List.set_cons_zero, List.set_cons_succ, List.getElem_toArray, List.getElem_cons_zero, List.getElem_cons_succ]
    refine wpAnyH_take (i := 3) (v := ?vt4x3) rfl (by kernel_rfl) (by kernel_rfl) (by kernel_rfl) (fun _ _ _ h => h) (Or.inl ⟨by rfl, ?ht4x3⟩) hHeld ?rt4x3
    case ht4x3 => intro w9 hSw; (try dsimp only at hSw); first | (go_simp; done) | (go_simp; with_reducible rfl)
    try simp only [Act.put, List.setIfInBounds_toArray, List.set_cons_zero, List.set_cons_succ, List.getElem_toArray, List.getElem_cons_zero, List.getElem_cons_succ]
    refine wpAnyH_take (i := 4) (v := ?vt5x4) rfl (by kernel_rfl) (by kernel_rfl) (by kernel_rfl) (fun _ _ _ h => h) (Or.inl ⟨by rfl, ?ht5x4⟩) hHeld ?rt5x4
    case ht5x4 => intro w9 hSw; (try dsimp only at hSw); first | (go_simp; done) | (go_simp; with_reducible rfl)
    try simp only [Act.put, List.setIfInBounds_toArray, List.set_cons_zero, List.set_cons_succ, List.getElem_toArray, List.getElem_cons_zero, List.getElem_cons_succ]
    refine wpAnyH_take (i := 5) (v := ?vt6x5) rfl (by kernel_rfl) (by kernel_rfl) (by kernel_rfl) (fun _ _ _ h => h) (Or.inl ⟨by rfl, ?ht6x5⟩) hHeld ?rt6x5
    case ht6x5 => intro w9 hSw; (try dsimp only at hSw); first | (go_simp; done) | (go_simp; with_reducible rfl)
    try simp only [Act.put, List.setIfInBounds_toArray, List.set_cons_zero, List.set_cons_succ, List.getElem_toArray, List.getElem_cons_zero, List.getElem_cons_succ]
    refine wpAnyH_take (i := 6) (v := ?vt7x6) rfl (by kernel_rfl) (by kernel_rfl) (by kernel_rfl) (fun _ _ _ h => h) (Or.inl ⟨by rfl, ?ht7x6⟩) hHeld ?rt7x6
    case ht7x6 => intro w9 hSw; (try dsimp only at hSw); first | (go_simp; done) | (go_simp; with_reducible rfl)
    try simp only [Act.put, List.setIfInBounds_toArray, List.set_cons_zero, List.set_cons_succ, List.getElem_toArray, List.getElem_cons_zero, List.getElem_cons_succ]
    refine wpAnyH_take (i := 7) (v := ?vt8x7) rfl (by kernel_rfl) (by kernel_rfl) (by kernel_rfl) (fun _ _ _ h => h) (Or.inl ⟨by rfl, ?ht8x7⟩) hHeld ?rt8x7
    case ht8x7 => intro w9 hSw; (try dsimp only at hSw); first | (go_simp; done) | (go_simp; with_reducible rfl)
    try simp only [Act.put, List.setIfInBounds_toArray, List.set_cons_zero, List.set_cons_succ, List.getElem_toArray, List.getElem_cons_zero, List.getElem_cons_succ]
    refine wpAnyH_take (i := 8) (v := ?vt9x8) rfl (by kernel_rfl) (by kernel_rfl) (by kernel_rfl) (fun _ _ _ h => h) (Or.inl ⟨by rfl, ?ht9x8⟩) hHeld ?rt9x8
    case ht9x8 => intro w9 hSw; (try dsimp only at hSw); first | (go_simp; done) | (go_simp; with_reducible rfl)
    try simp only [Act.put, List.setIfInBounds_toArray, List.set_cons_zero, List.set_cons_succ, List.getElem_toArray, List.getElem_cons_zero, List.getElem_cons_succ]
    have ew : IntKind.i64.wrap (Q.tm + 1) = Q.tm + 1 := by simp [IntKind.wrap, IntKind.bits, IntKind.signed]; omega
    (try rw [ew])
    clear ew
    refine wpAnyH_take (i := 11) (v := ?vt10x11) rfl (by kernel_rfl) (by kernel_rfl) (by kernel_rfl) (fun _ _ _ h => h) (Or.inl ⟨by rfl, ?ht10x11⟩) hHeld ?rt10x11
    case ht10x11 => intro w9 hSw; (try dsimp only at hSw); first | (go_simp; done) | (go_simp; with_reducible rfl)
    try simp only [Act.put, List.setIfInBounds_toArray, List.set_cons_zero, List.set_cons_succ, List.getElem_toArray, List.getElem_cons_zero, List.getElem_cons_succ]
    refine wpAnyH_ready (rs := [9]) (by kernel_rfl) (by simp) (AllReadyH.cons rfl (fun K hK => ?_) AllReadyH.nil)
    go_simp
    have hB6 := below_alloc Y0 (.cells #[.int .i64 T, .int .i64 Q.tm, .int .i64 (Q.tm + 1), .int .i64 1] 2)
    have I6 := hide (I5.out.later hB6)
    have U6 := hide (U5.out.later hB6)
    have S6 := hide (S5.out.later hB6)
    have hsY : s < Y0.heap.size := S5.out.lt
    have HRd := hide (RdI_new s Y0 [T, Q.tm, Q.tm + 1, 1] 2 hsY (by simp))
    clear hHeld I5 U5 S5 hB6
    refine hK.out _ _ I6.out.var (fun hHeld => ?_)
    clear hK K
    try simp only [Act.put, List.setIfInBounds_toArray, List.set_cons_zero, List.set_cons_succ, List.getElem_toArray, List.getElem_cons_zero, List.getElem_cons_succ]
    refine wpAnyH_ready (rs := [10]) (by kernel_rfl) (by simp) (AllReadyH.cons rfl (fun K hK => ?_) AllReadyH.nil)
    go_simp
    go_at_call 18
    refine (l1Pick (xs := [T, Q.tm, Q.tm + 1, 1]) S6.out (by omega) HRd.out (by simp) (by simp)).mono ?_
    rintro e Y1 ⟨i, hi, rfl, t6, hd⟩
    obtain ⟨tt, htt⟩ : ∃ p, ([T, Q.tm, Q.tm + 1, 1] : List Int).getD i 0 = p := ⟨_, rfl⟩
    rw [htt]
    have I7 := hide (I6.out.wr hd.2.1 (fun b e => by have e : b = s := e; omega))
    have U7 := hide (U6.out.wr hd.2.1 (fun _ b hb e => by have e : b = s := e; have := hb.2; omega))
    clear hd hHeld I6 U6 S6 HRd hi htt
    refine hK.out _ _ I7.out.var (fun hHeld => ?_)
    clear hK K
    try simp only [Act.put, List.setIfInBounds_toArray, List.set_cons_zero, List.set_cons_succ, List.getElem_toArray, List.getElem_cons_zero, List.getElem_cons_succ]
    obtain ⟨q0, q1, q2, q3, q4, q5⟩ := I7.out.res
    have f0 := I7.out.rfz 0
    have f1 := I7.out.rfz 1
    have f2 := I7.out.rfz 2
    have f3 := I7.out.rfz 3
    have f4 := I7.out.rfz 4
    have f5 := I7.out.rfz 5
    have hn0 : RR ≠ w.heap.size := by have := I7.out.ge; omega
    have hw6 : Wr (fun x => x = w.heap.size) Y1 ((((((Y1.setCell ⟨w.heap.size, 0, none⟩ (.int .i64 Q.tm)).setCell ⟨w.heap.size, 1, none⟩ (.int .i64 Q.vt)).setCell ⟨w.heap.size, 2, none⟩ (.int .i64 Q.si)).setCell ⟨w.heap.size, 3, none⟩ (.int .i64 Q.st)).setCell ⟨w.heap.size, 4, none⟩ (.slice ay Q.sn.length cy)).setCell ⟨w.heap.size, 5, none⟩ (.slice az Q.lg.length cz)) := (Wr.setCell (p := ⟨w.heap.size, 5, none⟩) (Wr.setCell (p := ⟨w.heap.size, 4, none⟩) (Wr.setCell (p := ⟨w.heap.size, 3, none⟩) (Wr.setCell (p := ⟨w.heap.size, 2, none⟩) (Wr.setCell (p := ⟨w.heap.size, 1, none⟩) (Wr.setCell (p := ⟨w.heap.size, 0, none⟩) (Wr.refl (fun x => x = w.heap.size) Y1) rfl (.int .i64 Q.tm)) rfl (.int .i64 Q.vt)) rfl (.int .i64 Q.si)) rfl (.int .i64 Q.st)) rfl (.slice ay Q.sn.length cy)) rfl (.slice az Q.lg.length cz))
    refine wpAnyH_ready (rs := [12]) (by kernel_rfl) (by simp) (AllReadyH.cons rfl (fun K hK => ?_) AllReadyH.nil)
    go_simp
    refine hK.out _ _ (I7.out.var.wr hw6 hn0) (fun hHeldx => ?_)
    clear hK K
    try simp only [Act.put, List.setIfInBounds_toArray, List.set_cons_zero, List.set_cons_succ, List.getElem_toArray, List.getElem_cons_zero, List.getElem_cons_succ]
    refine wpAnyH_take (i := 13) (v := ?vu11x13) rfl (by kernel_rfl) (by kernel_rfl) (by kernel_rfl) (fun _ _ _ h => h) (Or.inl ⟨by rfl, ?hu11x13⟩) hHeldx ?ru11x13
    case hu11x13 => intro w9 hSw; (try dsimp only at hSw); first | (go_simp; done) | (go_simp; with_reducible rfl)
    try simp only [Act.put, List.setIfInBounds_toArray, List.set_cons_zero, List.set_cons_succ, List.getElem_toArray, List.getElem_cons_zero, List.getElem_cons_succ]
    refine wpAnyH_take (i := 14) (v := ?vu12x14) rfl (by kernel_rfl) (by kernel_rfl) (by kernel_rfl) (fun _ _ _ h => h) (Or.inl ⟨by rfl, ?hu12x14⟩) hHeldx ?ru12x14
    case hu12x14 => intro w9 hSw; (try dsimp only at hSw); first | (go_simp; done) | (go_simp; with_reducible rfl)
    try simp only [Act.put, List.setIfInBounds_toArray, List.set_cons_zero, List.set_cons_succ, List.getElem_toArray, List.getElem_cons_zero, List.getElem_cons_succ]
    refine wpAnyH_take (i := 15) (v := ?vu13x15) rfl (by kernel_rfl) (by kernel_rfl) (by kernel_rfl) (fun _ _ _ h => h) (Or.inl ⟨by rfl, ?hu13x15⟩) hHeldx ?ru13x15
    case hu13x15 => intro w9 hSw; (try dsimp only at hSw); first | (go_simp; done) | (go_simp; with_reducible rfl)
    try simp only [Act.put, List.setIfInBounds_toArray, List.set_cons_zero, List.set_cons_succ, List.getElem_toArray, List.getElem_cons_zero, List.getElem_cons_succ]
    refine wpAnyH_done (by kernel_rfl) ?_ _
    obtain ⟨lo, hi, l1, l2, iv⟩ := I7.out.mem
    have hvl := I7.out.var.lt
    have hFin : IvR w.heap.size ((((((Y1.setCell ⟨w.heap.size, 0, none⟩ (.int .i64 Q.tm)).setCell ⟨w.heap.size, 1, none⟩ (.int .i64 Q.vt)).setCell ⟨w.heap.size, 2, none⟩ (.int .i64 Q.si)).setCell ⟨w.heap.size, 3, none⟩ (.int .i64 Q.st)).setCell ⟨w.heap.size, 4, none⟩ (.slice ay Q.sn.length cy)).setCell ⟨w.heap.size, 5, none⟩ (.slice az Q.lg.length cz)).heap.size ((((((Y1.setCell ⟨w.heap.size, 0, none⟩ (.int .i64 Q.tm)).setCell ⟨w.heap.size, 1, none⟩ (.int .i64 Q.vt)).setCell ⟨w.heap.size, 2, none⟩ (.int .i64 Q.si)).setCell ⟨w.heap.size, 3, none⟩ (.int .i64 Q.st)).setCell ⟨w.heap.size, 4, none⟩ (.slice ay Q.sn.length cy)).setCell ⟨w.heap.size, 5, none⟩ (.slice az Q.lg.length cz)) (.slice ay Q.sn.length cy) (.slice az Q.lg.length cz) Q.sn Q.lg := (iv.wr hw6 (fun b h1 h2 e => by have e : b = w.heap.size := e; omega)).up (by omega) (Nat.le_trans (Nat.le_trans l2 (Nat.le_of_lt hvl)) hw6.size)
    have hBel : Below w.heap.size w ((((((Y1.setCell ⟨w.heap.size, 0, none⟩ (.int .i64 Q.tm)).setCell ⟨w.heap.size, 1, none⟩ (.int .i64 Q.vt)).setCell ⟨w.heap.size, 2, none⟩ (.int .i64 Q.si)).setCell ⟨w.heap.size, 3, none⟩ (.int .i64 Q.st)).setCell ⟨w.heap.size, 4, none⟩ (.slice ay Q.sn.length cy)).setCell ⟨w.heap.size, 5, none⟩ (.slice az Q.lg.length cz)) := Below.trans I7.out.bel (hw6.below (by omega) (fun b e => by omega))
    have hRd := U7.out.wr hw6 (fun _ b hb e => by have e : b = w.heap.size := e; have := hb.1; omega)
    go_wp2
    refine bodyPost_ret (v := .tuple #[.agg #[.int .i64 Q.tm, .int .i64 Q.vt, .int .i64 Q.si, .int .i64 Q.st, .slice ay Q.sn.length cy, .slice az Q.lg.length cz], .int .i64 p, .int .i64 tt, .slice au xs.length cu]) (by simp [results, Tryz.results5, go_sem, q0, q1, q2, q3, q4, q5]) rfl ⟨Q, _, _, _, p, tt, xs, rfl, hBel, hFin, hRd.narrow (fun _ b hb => by have := hb.1; show w.heap.size ≤ b; omega)⟩
  · skip
    have hfb : (rfF Q != 0) = true := by simpa using hf
    rw [hfb] at KW
    go_wp2_with fail
    refine (KW.out).mono ?_
    rintro e w5 ⟨rfl, hb5⟩
    have Ia := hide (I4.out.later hb5)
    have Ua := hide (U4.out.later hb5)
    have Sa := hide (HS4.out.later hb5)
    clear hb5 I4 U4 HS4 KW
    go_upto_region 6 with fail
    obtain ⟨g0, g1, g2, g3, g4, g5⟩ := Ia.out.var
    refine wp_region_held_drew (S := fun w' => w'.cell? ⟨RR, 0, none⟩ = some (.int .i64 Q.tm) ∧ w'.cell? ⟨RR, 1, none⟩ = some (.int .i64 Q.vt) ∧ w'.cell? ⟨RR, 2, none⟩ = some (.int .i64 Q.si) ∧ w'.cell? ⟨RR, 3, none⟩ = some (.int .i64 Q.st) ∧ w'.cell? ⟨RR, 4, none⟩ = some (.slice ay Q.sn.length cy) ∧ w'.cell? ⟨RR, 5, none⟩ = some (.slice az Q.lg.length cz)) (by kernel_rfl) ⟨g0, g1, g2, g3, g4, g5⟩ (fun _ => ?_)
    clear g0 g1 g2 g3 g4 g5
    refine forgetH (fun wx => CmI w.heap.size RR w Q (.slice ay Q.sn.length cy) (.slice az Q.lg.length cz) wx ∧ RdI (fun b => w.heap.size < b ∧ b < RR) wx (.slice au xs.length cu) xs ∧ ∃ t, Src s (.slice a3 (1 + bs.length) c3) (5 :: bs) wx t ∧ t ≤ 10) ⟨Ia.out.later (below_drewN w5 1), Ua.out.later (below_drewN w5 1), _, Sa.out.later (below_drewN w5 1), by omega⟩ ?_
    rintro Y0 ⟨i5, u5, t5, s5, ht5⟩
    have I5 := hide i5
    have U5 := hide u5
    have S5 := hide s5
    clear i5 u5 s5 Ia Ua Sa
    have hHeld := I5.out.var
    refine wpAnyH_take (i := 0) (v := ?vt14x0) rfl (by kernel_rfl) (by kernel_rfl) (by kernel_rfl) (fun _ _ _ h => h) (Or.inl ⟨by rfl, ?ht14x0⟩) hHeld ?rt14x0
    case ht14x0 => intro w9 hSw; (try dsimp only at hSw); first | (go_simp; done) | (go_simp; with_reducible rfl)
    try simp only [Act.put, List.setIfInBounds_toArray, List.set_cons_zero, List.set_cons_succ, List.getElem_toArray, List.getElem_cons_zero]
    refine wpAnyH_take (i := 1) (v := ?vt15x1) rfl (by kernel_rfl) (by kernel_rfl) (by kernel_rfl) (fun _ _ _ h => h) (Or.inl ⟨by rfl, ?ht15x1⟩) hHeld ?rt15x1
    case ht15x1 => intro w9 hSw; (try dsimp only at hSw); first | (go_simp; done) | (go_simp; with_reducible rfl)
    try simp only [Act.put, List.setIfInBounds_toArray, List.set_cons_zero, List.set_cons_succ, List.getElem_toArray, List.getElem_cons_zero, List.getElem_cons_succ]
    refine wpAnyH_take (i := 2) (v := ?vt16x2) rfl (by kernel_rfl) (by kernel_rfl) (by kernel_rfl) (fun _ _ _ h => h) (Or.inl ⟨by rfl, ?ht16x2⟩) hHeld ?rt16x2
    case ht16x2 => intro w9 hSw; (try dsimp only at hSw); first | (go_simp; done) | (go_simp; with_reducible rfl)
    try simp only [Act.put, List.setIfInBounds_toArray, List.set_cons_zero, List.set_cons_succ, List.getElem_toArray, List.getElem_cons_zero, List.getElem_cons_succ]
    refine wpAnyH_take (i := 3) (v := ?vt17x3) rfl (by kernel_rfl) (by kernel_rfl) (by kernel_rfl) (fun _ _ _ h => h) (Or.inl ⟨by rfl, ?ht17x3⟩) hHeld ?rt17x3
    case ht17x3 => intro w9 hSw; (try dsimp only at hSw); first | (go_simp; done) | (go_simp; with_reducible rfl)
    try simp only [Act.put, List.setIfInBounds_toArray, List.set_cons_zero, List.set_cons_succ, List.getElem_toArray, List.getElem_cons_zero, List.getElem_cons_succ]
    refine wpAnyH_take (i := 4) (v := ?vt18x4) rfl (by kernel_rfl) (by kernel_rfl) (by kernel_rfl) (fun _ _ _ h => h) (Or.inl ⟨by rfl, ?ht18x4⟩) hHeld ?rt18x4
    case ht18x4 => intro w9 hSw; (try dsimp only at hSw); first | (go_simp; done) | (go_simp; with_reducible rfl)
    try simp only [Act.put, List.setIfInBounds_toArray, List.set_cons_zero, List.set_cons_succ, List.getElem_toArray, List.getElem_cons_zero, List.getElem_cons_succ]
    refine wpAnyH_take (i := 5) (v := ?vt19x5) rfl (by kernel_rfl) (by kernel_rfl) (by kernel_rfl) (fun _ _ _ h => h) (Or.inl ⟨by rfl, ?ht19x5⟩) hHeld ?rt19x5
    case ht19x5 => intro w9 hSw; (try dsimp only at hSw); first | (go_simp; done) | (go_simp; with_reducible rfl)
    try simp only [Act.put, List.setIfInBounds_toArray, List.set_cons_zero, List.set_cons_succ, List.getElem_toArray, List.getElem_cons_zero, List.getElem_cons_succ]
    refine wpAnyH_take (i := 6) (v := ?vt20x6) rfl (by kernel_rfl) (by kernel_rfl) (by kernel_rfl) (fun _ _ _ h => h) (Or.inl ⟨by rfl, ?ht20x6⟩) hHeld ?rt20x6
    case ht20x6 => intro w9 hSw; (try dsimp only at hSw); first | (go_simp; done) | (go_simp; with_reducible rfl)
    try simp only [Act.put, List.setIfInBounds_toArray, List.set_cons_zero, List.set_cons_succ, List.getElem_toArray, List.getElem_cons_zero, List.getElem_cons_succ]
    refine wpAnyH_take (i := 7) (v := ?vt21x7) rfl (by kernel_rfl) (by kernel_rfl) (by kernel_rfl) (fun _ _ _ h => h) (Or.inl ⟨by rfl, ?ht21x7⟩) hHeld ?rt21x7
    case ht21x7 => intro w9 hSw; (try dsimp only at hSw); first | (go_simp; done) | (go_simp; with_reducible rfl)
    try simp only [Act.put, List.setIfInBounds_toArray, List.set_cons_zero, List.set_cons_succ, List.getElem_toArray, List.getElem_cons_zero, List.getElem_cons_succ]
    refine wpAnyH_take (i := 8) (v := ?vt22x8) rfl (by kernel_rfl) (by kernel_rfl) (by kernel_rfl) (fun _ _ _ h => h) (Or.inl ⟨by rfl, ?ht22x8⟩) hHeld ?rt22x8
    case ht22x8 => intro w9 hSw; (try dsimp only at hSw); first | (go_simp; done) | (go_simp; with_reducible rfl)
    try simp only [Act.put, List.setIfInBounds_toArray, List.set_cons_zero, List.set_cons_succ, List.getElem_toArray, List.getElem_cons_zero, List.getElem_cons_succ]
    have ew : IntKind.i64.wrap (Q.tm + 1) = Q.tm + 1 := by simp [IntKind.wrap, IntKind.bits, IntKind.signed]; omega
    (try rw [ew])
    clear ew
    refine wpAnyH_take (i := 11) (v := ?vt23x11) rfl (by kernel_rfl) (by kernel_rfl) (by kernel_rfl) (fun _ _ _ h => h) (Or.inl ⟨by rfl, ?ht23x11⟩) hHeld ?rt23x11
    case ht23x11 => intro w9 hSw; (try dsimp only at hSw); first | (go_simp; done) | (go_simp; with_reducible rfl)
    try simp only [Act.put, List.setIfInBounds_toArray, List.set_cons_zero, List.set_cons_succ, List.getElem_toArray, List.getElem_cons_zero, List.getElem_cons_succ]
    refine wpAnyH_ready (rs := [9]) (by kernel_rfl) (by simp) (AllReadyH.cons rfl (fun K hK => ?_) AllReadyH.nil)
    go_simp
    have hB6 := below_alloc Y0 (.cells #[.int .i64 1, .int .i64 Q.tm, .int .i64 (Q.tm + 1), .int .i64 1] 2)
    have I6 := hide (I5.out.later hB6)
    have U6 := hide (U5.out.later hB6)
    have S6 := hide (S5.out.later hB6)
    have hsY : s < Y0.heap.size := S5.out.lt
    have HRd := hide (RdI_new s Y0 [1, Q.tm, Q.tm + 1, 1] 2 hsY (by simp))
    clear hHeld I5 U5 S5 hB6
    refine hK.out _ _ I6.out.var (fun hHeld => ?_)
    clear hK K
    try simp only [Act.put, List.setIfInBounds_toArray, List.set_cons_zero, List.set_cons_succ, List.getElem_toArray, List.getElem_cons_zero, List.getElem_cons_succ]
    refine wpAnyH_ready (rs := [10]) (by kernel_rfl) (by simp) (AllReadyH.cons rfl (fun K hK => ?_) AllReadyH.nil)
    go_simp
    go_at_call 18
    refine (l1Pick (xs := [1, Q.tm, Q.tm + 1, 1]) S6.out (by omega) HRd.out (by simp) (by simp)).mono ?_
    rintro e Y1 ⟨i, hi, rfl, t6, hd⟩
    obtain ⟨tt, htt⟩ : ∃ p, ([1, Q.tm, Q.tm + 1, 1] : List Int).getD i 0 = p := ⟨_, rfl⟩
    rw [htt]
    have I7 := hide (I6.out.wr hd.2.1 (fun b e => by have e : b = s := e; omega))
    have U7 := hide (U6.out.wr hd.2.1 (fun _ b hb e => by have e : b = s := e; have := hb.2; omega))
    clear hd hHeld I6 U6 S6 HRd hi htt
    refine hK.out _ _ I7.out.var (fun hHeld => ?_)
    clear hK K
    try simp only [Act.put, List.setIfInBounds_toArray, List.set_cons_zero, List.set_cons_succ, List.getElem_toArray, List.getElem_cons_zero, List.getElem_cons_succ]
    obtain ⟨q0, q1, q2, q3, q4, q5⟩ := I7.out.res
    have f0 := I7.out.rfz 0
    have f1 := I7.out.rfz 1
    have f2 := I7.out.rfz 2
    have f3 := I7.out.rfz 3
    have f4 := I7.out.rfz 4
    have f5 := I7.out.rfz 5
    have hn0 : RR ≠ w.heap.size := by have := I7.out.ge; omega
    have hw6 : Wr (fun x => x = w.heap.size) Y1 ((((((Y1.setCell ⟨w.heap.size, 0, none⟩ (.int .i64 Q.tm)).setCell ⟨w.heap.size, 1, none⟩ (.int .i64 Q.vt)).setCell ⟨w.heap.size, 2, none⟩ (.int .i64 Q.si)).setCell ⟨w.heap.size, 3, none⟩ (.int .i64 Q.st)).setCell ⟨w.heap.size, 4, none⟩ (.slice ay Q.sn.length cy)).setCell ⟨w.heap.size, 5, none⟩ (.slice az Q.lg.length cz)) := (Wr.setCell (p := ⟨w.heap.size, 5, none⟩) (Wr.setCell (p := ⟨w.heap.size, 4, none⟩) (Wr.setCell (p := ⟨w.heap.size, 3, none⟩) (Wr.setCell (p := ⟨w.heap.size, 2, none⟩) (Wr.setCell (p := ⟨w.heap.size, 1, none⟩) (Wr.setCell (p := ⟨w.heap.size, 0, none⟩) (Wr.refl (fun x => x = w.heap.size) Y1) rfl (.int .i64 Q.tm)) rfl (.int .i64 Q.vt)) rfl (.int .i64 Q.si)) rfl (.int .i64 Q.st)) rfl (.slice ay Q.sn.length cy)) rfl (.slice az Q.lg.length cz))
    refine wpAnyH_ready (rs := [12]) (by kernel_rfl) (by simp) (AllReadyH.cons rfl (fun K hK => ?_) AllReadyH.nil)
    go_simp
    refine hK.out _ _ (I7.out.var.wr hw6 hn0) (fun hHeldx => ?_)
    clear hK K
    try simp only [Act.put, List.setIfInBounds_toArray, List.set_cons_zero, List.set_cons_succ, List.getElem_toArray, List.getElem_cons_zero, List.getElem_cons_succ]
    refine wpAnyH_take (i := 13) (v := ?vu24x13) rfl (by kernel_rfl) (by kernel_rfl) (by kernel_rfl) (fun _ _ _ h => h) (Or.inl ⟨by rfl, ?hu24x13⟩) hHeldx ?ru24x13
    case hu24x13 => intro w9 hSw; (try dsimp only at hSw); first | (go_simp; done) | (go_simp; with_reducible rfl)
    try simp only [Act.put, List.setIfInBounds_toArray, List.set_cons_zero, List.set_cons_succ, List.getElem_toArray, List.getElem_cons_zero, List.getElem_cons_succ]
    refine wpAnyH_take (i := 14) (v := ?vu25x14) rfl (by kernel_rfl) (by kernel_rfl) (by kernel_rfl) (fun _ _ _ h => h) (Or.inl ⟨by rfl, ?hu25x14⟩) hHeldx ?ru25x14
    case hu25x14 => intro w9 hSw; (try dsimp only at hSw); first | (go_simp; done) | (go_simp; with_reducible rfl)
    try simp only [Act.put, List.setIfInBounds_toArray, List.set_cons_zero, List.set_cons_succ, List.getElem_toArray, List.getElem_cons_zero, List.getElem_cons_succ]
    refine wpAnyH_take (i := 15) (v := ?vu26x15) rfl (by kernel_rfl) (by kernel_rfl) (by kernel_rfl) (fun _ _ _ h => h) (Or.inl ⟨by rfl, ?hu26x15⟩) hHeldx ?ru26x15
    case hu26x15 => intro w9 hSw; (try dsimp only at hSw); first | (go_simp; done) | (go_simp; with_reducible rfl)
    try simp only [Act.put, List.setIfInBounds_toArray, List.set_cons_zero, List.set_cons_succ, List.getElem_toArray, List.getElem_cons_zero, List.getElem_cons_succ]
    refine wpAnyH_done (by kernel_rfl) ?_ _
    obtain ⟨lo, hi, l1, l2, iv⟩ := I7.out.mem
    have hvl := I7.out.var.lt
    have hFin : IvR w.heap.size ((((((Y1.setCell ⟨w.heap.size, 0, none⟩ (.int .i64 Q.tm)).setCell ⟨w.heap.size, 1, none⟩ (.int .i64 Q.vt)).setCell ⟨w.heap.size, 2, none⟩ (.int .i64 Q.si)).setCell ⟨w.heap.size, 3, none⟩ (.int .i64 Q.st)).setCell ⟨w.heap.size, 4, none⟩ (.slice ay Q.sn.length cy)).setCell ⟨w.heap.size, 5, none⟩ (.slice az Q.lg.length cz)).heap.size ((((((Y1.setCell ⟨w.heap.size, 0, none⟩ (.int .i64 Q.tm)).setCell ⟨w.heap.size, 1, none⟩ (.int .i64 Q.vt)).setCell ⟨w.heap.size, 2, none⟩ (.int .i64 Q.si)).setCell ⟨w.heap.size, 3, none⟩ (.int .i64 Q.st)).setCell ⟨w.heap.size, 4, none⟩ (.slice ay Q.sn.length cy)).setCell ⟨w.heap.size, 5, none⟩ (.slice az Q.lg.length cz)) (.slice ay Q.sn.length cy) (.slice az Q.lg.length cz) Q.sn Q.lg := (iv.wr hw6 (fun b h1 h2 e => by have e : b = w.heap.size := e; omega)).up (by omega) (Nat.le_trans (Nat.le_trans l2 (Nat.le_of_lt hvl)) hw6.size)
    have hBel : Below w.heap.size w ((((((Y1.setCell ⟨w.heap.size, 0, none⟩ (.int .i64 Q.tm)).setCell ⟨w.heap.size, 1, none⟩ (.int .i64 Q.vt)).setCell ⟨w.heap.size, 2, none⟩ (.int .i64 Q.si)).setCell ⟨w.heap.size, 3, none⟩ (.int .i64 Q.st)).setCell ⟨w.heap.size, 4, none⟩ (.slice ay Q.sn.length cy)).setCell ⟨w.heap.size, 5, none⟩ (.slice az Q.lg.length cz)) := Below.trans I7.out.bel (hw6.below (by omega) (fun b e => by omega))
    have hRd := U7.out.wr hw6 (fun _ b hb e => by have e : b = w.heap.size := e; have := hb.1; omega)
    go_wp2
    refine bodyPost_ret (v := .tuple #[.agg #[.int .i64 Q.tm, .int .i64 Q.vt, .int .i64 Q.si, .int .i64 Q.st, .slice ay Q.sn.length cy, .slice az Q.lg.length cz], .int .i64 p, .int .i64 tt, .slice au xs.length cu]) (by simp [results, Tryz.results5, go_sem, q0, q1, q2, q3, q4, q5]) rfl ⟨Q, _, _, _, p, tt, xs, rfl, hBel, hFin, hRd.narrow (fun _ b hb => by have := hb.1; show w.heap.size ≤ b; omega)⟩
end Go.Proofs.YtncgpfapepminaaGreatDoor
