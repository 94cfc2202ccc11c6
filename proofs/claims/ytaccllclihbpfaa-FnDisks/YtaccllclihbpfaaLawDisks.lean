/- The law 'FnDisks', walked. -/
import Derived.Test.YtaccllclihbpfaaDraw11
import Derived.Test.YtaccllclihbpfaaLw
import Derived.Test.YtaccllclihbpfaaMath1
import Derived.Test.YtaccllclihbpfaaCrash
import Derived.Test.YtaccllclihbpfaaCrash2
import Derived.Test.YtaccllclihbpfaaNewDisk
import Derived.Test.YtaccllclihbpfaaDiskFault
namespace Go.Proofs.Ytaccllclihbpfaa
open Go.RowKit

theorem field_disk0 (x y z : Value) (w : World) : (Instr.field 32 (.agg #[x, y, z]) 0).run Try.prog w = .ok x w := by
  simp [Instr.field, run_underlying Try.underlying32, asAgg, part, isAgg, run_underlying Try.underlying2]
theorem field_list1 (x y : Value) (w : World) : (Instr.field 39 (.agg #[x, y]) 1).run Try.prog w = .ok y w := by
  simp [Instr.field, run_underlying Try.underlying39, asAgg, part, isAgg, run_underlying Try.underlying28]

theorem RdII.any {S : Nat → Prop} {w : World} {v : Value} {xss : List (List Int)} (h : RdII S w v xss) : RdII (fun _ => True) w v xss := h.keep (fun _ _ => rfl) (fun _ _ => trivial)
theorem RdI.any {S : Nat → Prop} {w : World} {v : Value} {xs : List Int} (h : RdI S w v xs) : RdI (fun _ => True) w v xs := h.narrow (fun _ _ _ => trivial)
theorem OwD.rows {B : Nat} {w : World} {u v : Value} {xss : List (List Int)} {ps : List (Int × List Int)} (h : OwD B w u v xss ps) : RdII (fun _ => True) w u xss := by
  obtain ⟨S, T, h1, h2, h3, h4, h5⟩ := h
  exact h4.rd.any
theorem OwD.putsRd {B : Nat} {w : World} {u v : Value} {xss : List (List Int)} {ps : List (Int × List Int)} (h : OwD B w u v xss ps) : RdP (fun _ => True) w v ps := by
  obtain ⟨S, T, h1, h2, h3, h4, h5⟩ := h
  exact h5.rd.keep (fun _ _ => rfl) (fun _ _ => trivial)

/-- What the law has at hand: the disk in D, what was crashed in C, what was flushed in F. -/
structure DsAt (w : World) (D C F : Nat) (u y z cu cv fu fv : Value) (cc fc : Int) (xss : List (List Int)) (ps : List (Int × List Int)) (qs : List Int) (cxs fxs : List (List Int)) (wr : World) : Prop where
  below : Below w.heap.size w wr
  d0 : wr.cell? ⟨D, 0, none⟩ = some u
  d1 : wr.cell? ⟨D, 1, none⟩ = some y
  c0 : wr.cell? ⟨C, 0, none⟩ = some (.int .i64 cc)
  c1 : wr.cell? ⟨C, 1, none⟩ = some cu
  c2 : wr.cell? ⟨C, 2, none⟩ = some cv
  f0 : wr.cell? ⟨F, 0, none⟩ = some (.int .i64 fc)
  f1 : wr.cell? ⟨F, 1, none⟩ = some fu
  f2 : wr.cell? ⟨F, 2, none⟩ = some fv
  hu : RdII (fun _ => True) wr u xss
  hy : RdP (fun _ => True) wr y ps
  hz : RdI (fun _ => True) wr z qs
  hc : RdII (fun _ => True) wr cu cxs
  hf : RdII (fun _ => True) wr fu fxs
theorem DsAt.later {w : World} {D C F : Nat} {u y z cu cv fu fv : Value} {cc fc : Int} {xss : List (List Int)} {ps : List (Int × List Int)} {qs : List Int} {cxs fxs : List (List Int)} {wr w6 : World} (H : DsAt w D C F u y z cu cv fu fv cc fc xss ps qs cxs fxs wr) (hb : Below wr.heap.size wr w6) :
    DsAt w D C F u y z cu cv fu fv cc fc xss ps qs cxs fxs w6 :=
  ⟨below_on H.below hb, cell_later hb H.d0, cell_later hb H.d1, cell_later hb H.c0, cell_later hb H.c1, cell_later hb H.c2, cell_later hb H.f0, cell_later hb H.f1, cell_later hb H.f2, H.hu.later hb, H.hy.later hb, H.hz.later hb, H.hc.later hb, H.hf.later hb⟩

theorem flush_len {xss : List (List Int)} {ps : List (Int × List Int)} (h : diskF xss ps = 0) : flushXs xss ps = keepTo xss ps (fun _ => 1) ps.length := by unfold flushXs; rw [if_pos h]
theorem crash_zero {xss : List (List Int)} {ps : List (Int × List Int)} {qs : List Int} (h : crashF xss ps qs = 0) : diskF xss ps = 0 ∧ picksF qs = 0 := by
  unfold crashF at h
  split at h
  · rename_i h0; exact ⟨h0, h⟩
  · rename_i h0; exact absurd h h0

theorem rd56 (w : World) (t : TypeId) : RdI (fun _ => True) (w.alloc (.cells #[.int .i64 5, .int .i64 6] t)) (.slice (some ⟨w.heap.size, 0, none⟩) 2 2) [5, 6] := by
  refine ⟨_, 0, by simp, by simp, fun _ => ⟨w.heap.size, 0, rfl, trivial, fun i hi => ?_⟩⟩
  have : i = 0 ∨ i = 1 := by simp at hi; omega
  rcases this with rfl | rfl <;> simp [go_sem]

set_option maxHeartbeats 16000000 in
set_option maxRecDepth 4000 in
theorem lawDisks {w : World} {v : Value} {bs : List Nat} (hv : RdB (w.heap.size + 1) w v bs) (hbs : bs.length ≤ 1048576) :
    Calls Try.prog 3 #[v] w fun e w' => e = .returned (.bool true) ∧ Below w.heap.size w w' := by
  have HV := hide hv
  obtain ⟨ab, cb, rfl, h2, h3⟩ := hv
  clear h2 h3
  have fdD := field_disk0
  have fdI := field_list1
  go_enter Try.func3, Try.ntmps3
  go_wp2_with fail
  refine (lwBig ab bs.length cb w (by omega)).mono ?_
  rintro e wx ⟨he, hwx⟩
  rw [decide_eq_false (by omega)] at he
  rw [he, hwx]
  clear he hwx
  go_wp2_with fail
  refine (drawCrash HV.out).mono ?_
  rintro e w1 ⟨u, y, z, xss, ps, qs, rfl, hb1, hsm, hql, hu, hy, hz⟩
  obtain ⟨au, cu, rfl, hn63⟩ := hu.shape
  obtain ⟨ay, cy, rfl, hm63⟩ := hy.shape
  obtain ⟨az, cz, rfl⟩ := hz.shape
  have HSm := hide hsm
  have HC := hide (fun (w' : World) (hb : Below w1.heap.size w1 w') => implCrash (hu.later hb) (hy.later hb) (hz.later hb) hsm)
  have HF := hide (fun (w' : World) (hb : Below w1.heap.size w1 w') => implFlush (hu.later hb) (hy.later hb) hsm)
  have HU := hide hu
  have HY := hide hy
  have HZ := hide hz
  have HB1 := hide hb1
  obtain ⟨n, hn⟩ : ∃ n, xss.length = n := ⟨_, rfl⟩
  obtain ⟨m, hm⟩ : ∃ m, ps.length = m := ⟨_, rfl⟩
  obtain ⟨l, hl⟩ : ∃ l, qs.length = l := ⟨_, rfl⟩
  have HN := hide hn
  have HM := hide hm
  have HL := hide hl
  rw [hn] at HU HC HF ⊢
  rw [hm] at HY HC HF ⊢
  rw [hl] at HZ HC hql ⊢
  rw [hn] at hn63
  rw [hm] at hm63
  clear hsm hu hy hz hb1 hn hm hl HV
  go_wp2_with fail
  refine (HC.out _ (below_alloc _ _)).mono ?_
  rintro e w2 ⟨cu2, cv2, rfl, hb2, ho2⟩
  obtain ⟨ac, kc, ac', kc', rfl, rfl⟩ := ho2.shape
  have hb2' := below_on (below_alloc w1 (.cells #[.slice au n cu, .slice ay m cy] 27)) hb2
  have d0 := cell_later hb2 (show (w1.alloc (.cells #[.slice au n cu, .slice ay m cy] 27)).cell? ⟨w1.heap.size, 0, none⟩ = some (.slice au n cu) by simp [go_sem])
  have d1 := cell_later hb2 (show (w1.alloc (.cells #[.slice au n cu, .slice ay m cy] 27)).cell? ⟨w1.heap.size, 1, none⟩ = some (.slice ay m cy) by simp [go_sem])
  have HB2 := hide hb2'
  have HRc := hide ho2.rows
  clear hb2 hb2' ho2
  have hlt2 := World.block_lt_of_cell? _ _ d0
  have hc0 : (([] : List (Int × List Int)).length) = 0 := rfl
  rw [hc0]
  clear hc0
  go_wp2_with fail
  refine (HF.out _ (below_on HB2.out (below_alloc _ _))).mono ?_
  rintro e w3 ⟨fu2, fv2, rfl, hb3, ho3⟩
  obtain ⟨af, kf, af', kf', rfl, rfl⟩ := ho3.shape
  have hc0 : (([] : List (Int × List Int)).length) = 0 := rfl
  rw [hc0]
  clear hc0
  have hbF := below_alloc w3 (.cells #[.int .i64 (diskF xss ps), .slice af (flushXs xss ps).length kf, .slice af' 0 kf'] 32)
  have hb23 := below_on (below_on (below_alloc w2 (.cells #[.int .i64 (crashF xss ps qs), .slice ac (crashXs xss ps qs).length kc, .slice ac' 0 kc'] 32)) hb3) hbF
  have hb3F := below_on hb3 hbF
  have HA : Hid (DsAt w w1.heap.size w2.heap.size w3.heap.size (.slice au n cu) (.slice ay m cy) (.slice az l cz) (.slice ac (crashXs xss ps qs).length kc) (.slice ac' 0 kc') (.slice af (flushXs xss ps).length kf) (.slice af' 0 kf') (crashF xss ps qs) (diskF xss ps) xss ps qs (crashXs xss ps qs) (flushXs xss ps) (w3.alloc (.cells #[.int .i64 (diskF xss ps), .slice af (flushXs xss ps).length kf, .slice af' 0 kf'] 32))) := by
    have hb13 := below_on HB2.out hb23
    exact ⟨below_on HB1.out hb13, cell_later hb23 d0, cell_later hb23 d1, cell_later hb3F (by simp [go_sem]), cell_later hb3F (by simp [go_sem]), cell_later hb3F (by simp [go_sem]), by simp [go_sem], by simp [go_sem], by simp [go_sem], HU.out.later hb13, HY.out.later hb13, HZ.out.later hb13, HRc.out.later hb23, ho3.rows.later hbF⟩
  clear hb3 ho3 hbF hb23 hb3F d0 d1 HC HF HB1 HB2 HRc HU HY HZ
  go_upto_region 6 with fail
  obtain ⟨D, hD⟩ : ∃ D, w1.heap.size = D := ⟨_, rfl⟩
  obtain ⟨C, hC⟩ : ∃ C, w2.heap.size = C := ⟨_, rfl⟩
  obtain ⟨F, hF⟩ : ∃ F, w3.heap.size = F := ⟨_, rfl⟩
  rw [hD, hC, hF] at HA
  rw [hD, hC, hF]
  refine forget' (fun wx => DsAt w D C F (.slice au n cu) (.slice ay m cy) (.slice az l cz) (.slice ac (crashXs xss ps qs).length kc) (.slice ac' 0 kc') (.slice af (flushXs xss ps).length kf) (.slice af' 0 kf') (crashF xss ps qs) (diskF xss ps) xss ps qs (crashXs xss ps qs) (flushXs xss ps) wx) HA.out ?_
  clear HA hD hC hF hlt2
  rintro V hV
  have HA := hide hV
  clear hV
  by_cases hcz : crashF xss ps qs = 0
  · obtain ⟨hdz, hpz⟩ := crash_zero hcz
    have HS := hide (diskF_zero hdz)
    have hn70 : n ≤ 70 := by have := HS.out.rows; rw [HN.out] at this; exact this
    have hm200 : m ≤ 200 := by have := HS.out.puts; rw [HM.out] at this; exact this
    have HCx : Hid (crashXs xss ps qs = keepTo xss ps (pkOf false qs) ps.length) := by unfold Hid crashXs; rw [if_pos hcz]
    have HFx := hide (flush_len hdz)
    have hcl : (crashXs xss ps qs).length = n := by rw [HCx.out, keepTo_len]; exact HN.out
    have hfl : (flushXs xss ps).length = n := by rw [HFx.out, keepTo_len]; exact HN.out
    rw [hcl, hfl, hcz, hdz] at HA
    have HW := hide (fun (a : Nat) (ha : a < n) => (keep_want HS.out hpz (by rw [HN.out]; exact ha) ps.length (Nat.le_refl _)).1)
    have HLs := hide (fun (a : Nat) (ha : a < n) => keep_last HS.out (by rw [HN.out]; exact ha : a < xss.length) ps.length (Nat.le_refl _))
    rw [← HCx.out] at HW
    rw [← HFx.out] at HLs
    rw [HM.out] at HW HLs
    have HCL := hide hcl
    have HFL := hide hfl
    have HDz := hide hdz
    clear hcz hdz hpz hcl hfl HCx HFx
    generalize crashXs xss ps qs = cxs at HA HW HCL
    generalize flushXs xss ps = fxs at HA HLs HFL
    have d0 := HA.out.d0
    have d1 := HA.out.d1
    have c0 := HA.out.c0
    have c1 := HA.out.c1
    have c2 := HA.out.c2
    have f0 := HA.out.f0
    have f1 := HA.out.f1
    have f2 := HA.out.f2
    go_wp2
    clear d0 d1 c0 c1 c2 f0 f1 f2
    go_loopw [7] (fun i wr => ∃ a : Nat, a ≤ n ∧ i = .int .i64 a ∧ Hid (DsAt w D C F (.slice au n cu) (.slice ay m cy) (.slice az l cz) (.slice ac n kc) (.slice ac' 0 kc') (.slice af n kf) (.slice af' 0 kf') 0 0 xss ps qs cxs fxs wr)) (fun i _ => n - (intOf i).toNat)
    case atStart => exact ⟨0, Nat.zero_le _, rfl, HA.out⟩
    case round =>
      clear HA
      obtain ⟨a, ha, rfl, HA⟩ := hrel
      have d0 := HA.out.d0
      by_cases hlt : a < n
      · obtain ⟨b, off, Vr, rfl, q1, q2⟩ := HA.out.hu.at (k := a) (by rw [HN.out]; exact hlt)
        have HR0 := hide q2.any
        have ha0 : (0 : Int) ≤ (a : Int) := Int.natCast_nonneg _
        have ha1 : (a : Int) < (n : Int) := by omega
        clear q2
        go_wp2
        clear q1 d0
        go_loopw [8, 9, 10] (fun vw vl i wr => ∃ k : Nat, k ≤ m ∧ i = .int .i64 k ∧ Hid (RdI (fun _ => True) wr vw (wantTo xss ps qs a k)) ∧ Hid (RdI (fun _ => True) wr vl (blkTo xss ps (a : Int) k)) ∧ Hid (DsAt w D C F (.slice (some ⟨b, off, none⟩) n cu) (.slice ay m cy) (.slice az l cz) (.slice ac n kc) (.slice ac' 0 kc') (.slice af n kf) (.slice af' 0 kf') 0 0 xss ps qs cxs fxs wr)) (fun _ _ i _ => m - (intOf i).toNat)
        case atStart => exact ⟨0, Nat.zero_le _, rfl, HR0.out, by unfold blkTo; rw [Int.toNat_natCast]; exact HR0.out, HA.out⟩
        case round =>
          clear HA HR0
          obtain ⟨k, hk, rfl, HWt, HLt, HA⟩ := hrel
          have HWl := hide HWt.out
          obtain ⟨aw, kw, rfl⟩ := HWt.out.shape
          obtain ⟨al, kl, rfl⟩ := HLt.out.shape
          obtain ⟨lw, hlw⟩ : ∃ lw, (wantTo xss ps qs a k).length = lw := ⟨_, rfl⟩
          obtain ⟨ll, hll⟩ : ∃ ll, (blkTo xss ps (a : Int) k).length = ll := ⟨_, rfl⟩
          rw [hlw] at HWt ⊢
          rw [hll] at HLt ⊢
          clear hlw hll HWl
          have d1 := HA.out.d1
          by_cases hkm : k < m
          · obtain ⟨bp, offp, Vp, rfl, p1, p2, pR⟩ := HA.out.hy.at (k := k) (by rw [HM.out]; exact hkm)
            have HRp := hide pR.any
            obtain ⟨av, kv, hVp⟩ := pR.shape
            have hk0 : (0 : Int) ≤ (k : Int) := Int.natCast_nonneg _
            have hk1 : (k : Int) < (m : Int) := by omega
            obtain ⟨x, hx⟩ : ∃ x, (ps.getD k (0, [])).1 = x := ⟨_, rfl⟩
            rw [hx] at p1
            clear pR
            by_cases hxa : x = (a : Int)
            · subst hxa
              obtain ⟨lv, hlv⟩ : ∃ lv, (ps.getD k (0, [])).2.length = lv := ⟨_, rfl⟩
              rw [hlv] at hVp
              subst hVp
              clear hlv
              have HL1 : Hid (RdI (fun _ => True) wr (.slice av lv kv) (blkTo xss ps (a : Int) (k + 1))) := by
                unfold Hid blkTo; rw [if_pos hx]; exact HRp.out
              by_cases hkl : k < l
              · obtain ⟨bz, offz, rfl, z1⟩ := HA.out.hz.at (k := k) (by rw [HL.out]; exact hkl)
                have hkl1 : (k : Int) < (l : Int) := by omega
                obtain ⟨pk, hpk⟩ : ∃ pk, qs.getD k 0 = pk := ⟨_, rfl⟩
                rw [hpk] at z1
                have HW1 : Hid (wantTo xss ps qs a (k + 1) = tearXs (wantTo xss ps qs a k) (ps.getD k (0, [])).2 pk) := by
                  unfold Hid; rw [← hpk]; show (if _ then _ else _) = _; rw [if_pos hx, if_pos (by rw [HL.out]; exact hkl)]
                have HTr := hide (specTear pk (HWt.out.drewN 1) (HRp.out.drewN 1))
                obtain ⟨ts, hts⟩ : ∃ ts, tearXs (wantTo xss ps qs a k) (ps.getD k (0, [])).2 pk = ts := ⟨_, rfl⟩
                rw [hts] at HTr HW1
                clear hts
                clear hx hpk
                go_wp2_with fail
                go_region_held3 (fun w' => w'.cell? ⟨D, 1, none⟩ = some (.slice (some ⟨bp, offp, none⟩) m cy) ∧ w'.cell? ⟨bp, offp + k * 2 + 1, none⟩ = some (.slice av lv kv) ∧ w'.cell? ⟨bz, offz + k, none⟩ = some (.int .i64 pk)) (first | exact ⟨d1, p2, z1⟩ | exact ⟨e0, e1, e2⟩)
                  (first | (go_at_call 15; refine HTr.out.mono ?_; rintro e w5 ⟨zt, rfl, hb5, ho5⟩; obtain ⟨at_, kt, rfl⟩ := ho5.shape; have e0 := cell_later hb5 d1; have e1 := cell_later hb5 p2; have e2 := cell_later hb5 z1; have HB5 := hide (below_on (below_drewN wr 1) hb5); have HO5 := hide ho5.rd.any; clear hb5 ho5))
                have HA5 := hide (HA.out.later HB5.out)
                have HL5 := hide (HL1.out.later HB5.out)
                clear d1 p1 p2 z1 e0 e1 e2
                go_wp2
                go_roundw
                case rel => exact ⟨k + 1, hkm, by go_num, by rw [HW1.out]; exact HO5.out, HL5.out, HA5.out⟩
                case measure => simp [intOf]; omega
              · have hkl1 : ¬ (k : Int) < (l : Int) := by omega
                have HW1 : Hid (wantTo xss ps qs a (k + 1) = wantTo xss ps qs a k) := by
                  show (if _ then _ else _) = _; rw [if_pos hx, if_neg (by rw [HL.out]; exact hkl)]
                rw [← HW1.out] at HWt
                clear hx
                go_wp2
                go_roundw
                case rel => exact ⟨k + 1, hkm, by go_num, HWt.out, HL1.out, HA.out⟩
                case measure => simp [intOf]; omega
            · have HW1 : Hid (wantTo xss ps qs a (k + 1) = wantTo xss ps qs a k) := by
                show (if _ then _ else _) = _; rw [if_neg (by rw [hx]; exact hxa)]
              have HL1 : Hid (blkTo xss ps (a : Int) (k + 1) = blkTo xss ps (a : Int) k) := by
                show (if _ then _ else _) = _; rw [if_neg (by rw [hx]; exact hxa)]
              rw [← HW1.out] at HWt
              rw [← HL1.out] at HLt
              clear hx hVp
              go_wp2
              go_roundw
              case rel => exact ⟨k + 1, hkm, by go_num, HWt.out, HLt.out, HA.out⟩
              case measure => simp [intOf]; omega
          · have hkm' : k = m := by omega
            subst hkm'
            obtain ⟨bc, offc, Vc, rfl, rc1, rc2⟩ := HA.out.hc.at (k := a) (by rw [HCL.out]; exact hlt)
            obtain ⟨bf, offf, Vf, rfl, rf1, rf2⟩ := HA.out.hf.at (k := a) (by rw [HFL.out]; exact hlt)
            obtain ⟨acc, kcc, rfl⟩ := rc2.shape
            obtain ⟨aff, kff, rfl⟩ := rf2.shape
            have HE1 : Hid (decide (cxs.getD a [] = wantTo xss ps qs a k) = true) := decide_eq_true (HW.out a hlt)
            have HE2 : Hid (decide (fxs.getD a [] = blkTo xss ps (a : Int) k) = true) := decide_eq_true (HLs.out a hlt)
            have HL1 := hide (lwNums rc2 HWt.out)
            have HL2 := hide (fun q => lwNums (rf2.drewN q) (HLt.out.drewN q))
            rw [HE1.out] at HL1
            rw [HE2.out] at HL2
            have HBl := hide (fun (w' : World) (hb : Below wr.heap.size wr w') => implBlockAt (a : Int) (HA.out.hu.later hb) (HA.out.hy.later hb) HSm.out)
            have hpl := placeF_ok (xss := xss) (ps := ps) (at_ := (a : Int)) HDz.out ⟨ha0, by rw [HN.out]; exact ha1⟩
            unfold blkOf at HBl
            rw [hpl, if_pos rfl, HM.out] at HBl
            obtain ⟨l1, hl1⟩ : ∃ l1, (cxs.getD a []).length = l1 := ⟨_, rfl⟩
            obtain ⟨l2, hl2⟩ : ∃ l2, (fxs.getD a []).length = l2 := ⟨_, rfl⟩
            rw [hl1] at HL1 rc1
            rw [hl2] at HL2 rf1
            have c1 := HA.out.c1
            have f1 := HA.out.f1
            have d0 := HA.out.d0
            clear rc2 rf2 hl1 hl2 hpl HE1 HE2
            go_wp2_with fail
            refine HL1.out.mono ?_
            rintro e w5 ⟨rfl, q5, rfl⟩
            go_wp2_with fail
            refine (HL2.out _).mono ?_
            rintro e w5 ⟨rfl, q6, rfl⟩
            go_wp2_with fail
            refine (HBl.out _ (below_drewN _ _)).mono ?_
            rintro e w6 ⟨zb, rfl, hb6, ho6⟩
            obtain ⟨ab6, kb6, rfl⟩ := ho6.shape
            have HB6 := hide (below_on (below_drewN wr _) hb6)
            have HL3 := hide (lwNums ho6.rd (HLt.out.later (below_on (below_drewN wr _) hb6)))
            rw [decide_eq_true rfl] at HL3
            clear hb6 ho6
            go_wp2_with fail
            refine HL3.out.mono ?_
            rintro e w7 ⟨rfl, q7, rfl⟩
            have HA7 := hide (HA.out.later (below_on HB6.out (below_drewN _ q7)))
            clear d0 d1 c1 f1 rc1 rf1
            go_wp2
            go_roundw
            case rel => exact ⟨a + 1, hlt, by go_num, HA7.out⟩
            case measure => simp [intOf]; omega
      · have han : a = n := by omega
        subst han
        have d1 := HA.out.d1
        have HP := hide (fun (w' : World) (hb : Below wr.heap.size wr w') (y' : Value) (h : RdI (fun _ => True) w' y' [5, 6]) => implPut 0 (HA.out.hu.later hb) (HA.out.hy.later hb) h HSm.out (by simp))
        have HNw := hide (fun (w' : World) => implNew_yes a hn70 w')
        rcases put56 HS.out with ⟨hpc, hm2⟩ | ⟨hpc, hm2⟩ | ⟨hpc, hm2, hx0⟩
        · skip
          rw [hpc] at HP
          generalize putXs xss ps 0 [5, 6] = pxs at HP
          generalize putPs xss ps 0 [5, 6] = pps at HP
          rw [HM.out] at hm2
          subst hm2
          go_wp2_with fail
          refine (HP.out _ (below_alloc _ _) _ (rd56 _ _)).mono ?_
          rintro e w5 ⟨pu, pv, rfl, hb5, ho5⟩
          obtain ⟨ap, kp, ap', kp', rfl, rfl⟩ := ho5.shape
          have hb5' := below_on (below_alloc wr (.cells #[.int .i64 5, .int .i64 6] 2)) hb5
          have x0 := cell_later hb5' d0
          have x1 := cell_later hb5' d1
          have hlt5 := World.block_lt_of_cell? _ _ x0
          have HA5 := hide (HA.out.later hb5')
          have HO5 := hide ho5
          clear hb5 hb5' ho5
          go_wp2_with fail
          refine (HNw.out _).mono ?_
          rintro e w6 ⟨un, rfl, hb6, ho6⟩
          obtain ⟨an, kn, rfl⟩ := ho6.shape
          rw [List.length_replicate]
          have hb6' := below_on (below_alloc w5 (.cells #[.int .i64 2, .slice ap pxs.length kp, .slice ap' pps.length kp'] 32)) hb6
          have y0 := cell_later hb6' x0
          have y1 := cell_later hb6' x1
          have p0 := cell_later hb6 (show (w5.alloc (.cells #[.int .i64 2, .slice ap pxs.length kp, .slice ap' pps.length kp'] 32)).cell? ⟨w5.heap.size, 0, none⟩ = some (.int .i64 2) by simp [go_sem])
          have p1 := cell_later hb6 (show (w5.alloc (.cells #[.int .i64 2, .slice ap pxs.length kp, .slice ap' pps.length kp'] 32)).cell? ⟨w5.heap.size, 1, none⟩ = some (.slice ap pxs.length kp) by simp [go_sem])
          have p2 := cell_later hb6 (show (w5.alloc (.cells #[.int .i64 2, .slice ap pxs.length kp, .slice ap' pps.length kp'] 32)).cell? ⟨w5.heap.size, 2, none⟩ = some (.slice ap' pps.length kp') by simp [go_sem])
          have hlt6 := World.block_lt_of_cell? _ _ y0
          have hlt7 := World.block_lt_of_cell? _ _ p0
          have HA6 := hide (HA5.out.later hb6')
          clear hb6 hb6' ho6
          go_wp2
          go_ret
          exact ⟨rfl, below_on HA6.out.below (below_alloc _ _)⟩
        · skip
          rw [hpc] at HP
          generalize putXs xss ps 0 [5, 6] = pxs at HP
          generalize putPs xss ps 0 [5, 6] = pps at HP
          rw [HM.out] at hm2
          have hm3 : ¬ ((m : Int) = 200) := by omega
          have hm4 : ((m : Int) == 200) = false := by simp [hm3]
          go_wp2_with fail
          refine (HP.out _ (below_alloc _ _) _ (rd56 _ _)).mono ?_
          rintro e w5 ⟨pu, pv, rfl, hb5, ho5⟩
          obtain ⟨ap, kp, ap', kp', rfl, rfl⟩ := ho5.shape
          have hb5' := below_on (below_alloc wr (.cells #[.int .i64 5, .int .i64 6] 2)) hb5
          have x0 := cell_later hb5' d0
          have x1 := cell_later hb5' d1
          have hlt5 := World.block_lt_of_cell? _ _ x0
          have HA5 := hide (HA.out.later hb5')
          have HO5 := hide ho5
          clear hb5 hb5' ho5
          go_wp2_with fail
          refine (HNw.out _).mono ?_
          rintro e w6 ⟨un, rfl, hb6, ho6⟩
          obtain ⟨an, kn, rfl⟩ := ho6.shape
          rw [List.length_replicate]
          have hb6' := below_on (below_alloc w5 (.cells #[.int .i64 3, .slice ap pxs.length kp, .slice ap' pps.length kp'] 32)) hb6
          have y0 := cell_later hb6' x0
          have y1 := cell_later hb6' x1
          have p0 := cell_later hb6 (show (w5.alloc (.cells #[.int .i64 3, .slice ap pxs.length kp, .slice ap' pps.length kp'] 32)).cell? ⟨w5.heap.size, 0, none⟩ = some (.int .i64 3) by simp [go_sem])
          have p1 := cell_later hb6 (show (w5.alloc (.cells #[.int .i64 3, .slice ap pxs.length kp, .slice ap' pps.length kp'] 32)).cell? ⟨w5.heap.size, 1, none⟩ = some (.slice ap pxs.length kp) by simp [go_sem])
          have p2 := cell_later hb6 (show (w5.alloc (.cells #[.int .i64 3, .slice ap pxs.length kp, .slice ap' pps.length kp'] 32)).cell? ⟨w5.heap.size, 2, none⟩ = some (.slice ap' pps.length kp') by simp [go_sem])
          have hlt6 := World.block_lt_of_cell? _ _ y0
          have hlt7 := World.block_lt_of_cell? _ _ p0
          have HA6 := hide (HA5.out.later hb6')
          clear hb6 hb6' ho6
          go_wp2
          go_ret
          exact ⟨by first | rfl | simp [hm3, hm4], below_on HA6.out.below (below_alloc _ _)⟩
        · skip
          rw [hpc] at HP
          rw [HM.out] at hm2
          have hm3 : ¬ ((m : Int) = 200) := by omega
          obtain ⟨hs3, hr3⟩ := read56 HS.out (by rw [HM.out]; exact hm2) hx0
          have e1 : putXs xss ps 0 [5, 6] = xss := by unfold putXs; rw [if_pos hpc]
          have e2 : putPs xss ps 0 [5, 6] = ps ++ [(0, [5, 6])] := by unfold putPs; rw [if_pos hpc]
          rw [e1, e2] at HP
          have HBl := hide (fun (S T : Nat → Prop) (w' : World) (u' v' : Value) (h1 : RdII S w' u' xss) (h2 : RdP T w' v' (ps ++ [(0, [5, 6])])) => implBlockAt 0 h1 h2 hs3)
          rw [hr3] at HBl
          generalize placeF xss (ps ++ [(0, [5, 6])]) 0 = pf at HBl
          obtain ⟨l4, hl4⟩ : ∃ l4, (ps ++ [((0 : Int), ([5, 6] : List Int))]).length = l4 := ⟨_, rfl⟩
          have HL4 := hide hl4
          clear e1 e2 hr3 hs3 hx0 hpc hl4
          go_wp2_with fail
          refine (HP.out _ (below_alloc _ _) _ (rd56 _ _)).mono ?_
          rintro e w5 ⟨pu, pv, rfl, hb5, ho5⟩
          obtain ⟨ap, kp, ap', kp', hpu, hpv⟩ := ho5.shape
          rw [HN.out] at hpu
          rw [HL4.out] at hpv
          subst hpu hpv
          have hb5' := below_on (below_alloc wr (.cells #[.int .i64 5, .int .i64 6] 2)) hb5
          have x0 := cell_later hb5' d0
          have x1 := cell_later hb5' d1
          have hlt5 := World.block_lt_of_cell? _ _ x0
          have HA5 := hide (HA.out.later hb5')
          have HO5 := hide ho5
          clear hb5 hb5' ho5
          go_wp2_with fail
          refine (HNw.out _).mono ?_
          rintro e w6 ⟨un, rfl, hb6, ho6⟩
          obtain ⟨an, kn, rfl⟩ := ho6.shape
          rw [List.length_replicate]
          have hb6' := below_on (below_alloc w5 (.cells #[.int .i64 0, .slice ap a kp, .slice ap' l4 kp'] 32)) hb6
          have y0 := cell_later hb6' x0
          have y1 := cell_later hb6' x1
          have p0 := cell_later hb6 (show (w5.alloc (.cells #[.int .i64 0, .slice ap a kp, .slice ap' l4 kp'] 32)).cell? ⟨w5.heap.size, 0, none⟩ = some (.int .i64 0) by simp [go_sem])
          have p1 := cell_later hb6 (show (w5.alloc (.cells #[.int .i64 0, .slice ap a kp, .slice ap' l4 kp'] 32)).cell? ⟨w5.heap.size, 1, none⟩ = some (.slice ap a kp) by simp [go_sem])
          have p2 := cell_later hb6 (show (w5.alloc (.cells #[.int .i64 0, .slice ap a kp, .slice ap' l4 kp'] 32)).cell? ⟨w5.heap.size, 2, none⟩ = some (.slice ap' l4 kp') by simp [go_sem])
          have hlt6 := World.block_lt_of_cell? _ _ y0
          have hlt7 := World.block_lt_of_cell? _ _ p0
          have HA6 := hide (HA5.out.later hb6')
          have HRx := hide (HO5.out.rows.later hb6')
          have HRp := hide (HO5.out.putsRd.later hb6')
          clear hb6 hb6' ho6
          have HBl2 := hide (HBl.out _ _ _ _ _ (HRx.out.later (below_alloc w6 (.cells #[.int .i64 0, .slice an a kn, .slice none 0 0] 32))) (HRp.out.later (below_alloc _ _)))
          have hm4 : ((m : Int) == 200) = false := by simp [hm3]
          go_wp2_with fail
          refine HBl2.out.mono ?_
          rintro e w7 ⟨zb, rfl, hb7, ho7⟩
          obtain ⟨ab7, kb7, rfl⟩ := ho7.shape
          have hl56 : ([5, 6] : List Int).length = 2 := rfl
          rw [hl56] at ho7 ⊢
          have hb7' := below_on (below_alloc w6 (.cells #[.int .i64 0, .slice an a kn, .slice none 0 0] 32)) hb7
          have g0 := cell_later hb7' y0
          have g1 := cell_later hb7' y1
          have n0 := cell_later hb7 (show (w6.alloc (.cells #[.int .i64 0, .slice an a kn, .slice none 0 0] 32)).cell? ⟨w6.heap.size, 0, none⟩ = some (.int .i64 0) by simp [go_sem])
          have n1 := cell_later hb7 (show (w6.alloc (.cells #[.int .i64 0, .slice an a kn, .slice none 0 0] 32)).cell? ⟨w6.heap.size, 1, none⟩ = some (.slice an a kn) by simp [go_sem])
          have HB7 := hide (below_on HA6.out.below hb7')
          have HL7 := hide (lwNums (ho7.rd.later (below_alloc w7 (.cells #[.int .i64 5, .int .i64 6] 2))) (rd56 w7 2))
          rw [decide_eq_true rfl] at HL7
          have hlt8 := World.block_lt_of_cell? _ _ g0
          have hlt9 := World.block_lt_of_cell? _ _ n0
          clear hb7 hb7' ho7 y0 y1 p0 p1 p2 hl56
          go_wp2_with fail
          refine HL7.out.mono ?_
          rintro e w8 ⟨rfl, q8, rfl⟩
          go_wp2
          go_ret
          exact ⟨by first | rfl | simp [hm3, hm4], below_on HB7.out (below_on (below_alloc _ _) (below_drewN _ _))⟩
  · have HCd := hide hcz
    have HSC := hide (fun (w' : World) (hb : Below V.heap.size V w') => specCrash (HA.out.hu.later hb) (HA.out.hy.later hb) (HA.out.hz.later hb) HSm.out)
    have HSF := hide (fun (w' : World) (hb : Below V.heap.size V w') => specFault (HA.out.hu.later hb) (HA.out.hy.later hb))
    generalize (crashXs xss ps qs) = cxs at HA HSC
    generalize (flushXs xss ps) = fxs at HA
    generalize crashF xss ps qs = cc at HA HSC hcz
    generalize diskF xss ps = fc at HA HSF
    have d0 := HA.out.d0
    have d1 := HA.out.d1
    have c0 := HA.out.c0
    have f0 := HA.out.f0
    have HBe := hide HA.out.below
    go_wp2_with fail
    go_region_held3 (fun w' => w'.cell? ⟨D, 0, none⟩ = some (.slice au n cu) ∧ w'.cell? ⟨D, 1, none⟩ = some (.slice ay m cy) ∧ w'.cell? ⟨C, 0, none⟩ = some (.int .i64 cc) ∧ w'.cell? ⟨F, 0, none⟩ = some (.int .i64 fc)) (first | exact ⟨d0, d1, c0, f0⟩ | exact ⟨e0, e1, e2, e3⟩ | exact ⟨i0, i1, i2, i3⟩)
      (first
        | (go_at_call 14; refine (HSF.out _ HB5.out).mono ?_; rintro e w6 ⟨rfl, hb6⟩; have i0 := cell_later hb6 e0; have i1 := cell_later hb6 e1; have i2 := cell_later hb6 e2; have i3 := cell_later hb6 e3; have HB6 := hide (below_on HB5.out hb6); clear hb6)
        | (go_at_call 13; refine (HSC.out _ (below_drewN _ 1)).mono ?_; rintro e w5 ⟨cu5, cv5, rfl, hb5, ho5⟩; obtain ⟨a5, k5, a5', k5', rfl, rfl⟩ := ho5.shape; have e0 := cell_later hb5 d0; have e1 := cell_later hb5 d1; have e2 := cell_later hb5 c0; have e3 := cell_later hb5 f0; have HB5 := hide (below_on (below_drewN V 1) hb5); clear hb5 ho5))
    go_wp2
    go_ret
    exact ⟨rfl, below_on HBe.out HB6.out⟩

theorem RdB.next {s : Nat} {w : World} {v : Value} {bs : List Nat} (h : RdB s w v bs) : RdB (w.heap.size + 1) w v bs := by
  obtain ⟨ao, c, e1, e2, e3⟩ := h
  refine ⟨ao, c, e1, e2, fun hne => ?_⟩
  obtain ⟨b, off, f1, f2, f3⟩ := e3 hne
  have := World.block_lt_of_cell? _ _ (f3 0 (List.length_pos_iff.2 hne)).1
  exact ⟨b, off, f1, by dsimp only at this; omega, f3⟩
theorem lawDisks' {s : Nat} {w : World} {v : Value} {bs : List Nat} (hv : RdB s w v bs) (hbs : bs.length ≤ 1048576) :
    Calls Try.prog 3 #[v] w fun e w' => e = .returned (.bool true) ∧ Below w.heap.size w w' := lawDisks hv.next hbs
end Go.Proofs.Ytaccllclihbpfaa
