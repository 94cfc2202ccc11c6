/- Rh3 in one text: what each says stands at its head below. -/
import Derived.Test.YtcmdgnemkjfckaaGreatDoorG32
import Derived.Deep.RegionHeld3
/- Chapter 15: 'ReplayHistory' of the program, walked. Made by program (genrh.py). -/
namespace Go.Proofs.YtcmdgnemkjfckaaGreatDoor
open Go.RowKit

set_option linter.unusedSimpArgs false in
set_option maxHeartbeats 16000000 in
set_option maxRecDepth 4000 in
theorem implReplayHistory {S T D : Nat → Prop} {w : World} {y z u v : Value} {ts : List Tq} {ds : List Dn} (r : Rf) (hg : Gl w) (hy : RdI S w y r.sn) (hz : RdJ T w z r.lg) (ht : RdThsC w u ts) (hd : RdDn D w v ds) :
    Calls Tryz.prog 11 #[.agg #[.int .i64 r.tm, .int .i64 r.vt, .int .i64 r.si, .int .i64 r.st, y, z], u, v] w (EndsO8 (rhC r ts ds) 0 (rhV r ts ds) (rhA r ts ds).tm (rhA r ts ds).vt (rhA r ts ds).si (rhA r ts ds).st (rhA r ts ds).sn (rhA r ts ds).lg w) := by
  obtain ⟨ay, cy, rfl⟩ := hy.shape
  obtain ⟨az, cz, rfl, _⟩ := hz.shape
  obtain ⟨au, cu, rfl, hum⟩ := ht.shape
  obtain ⟨av, cv, rfl⟩ := hd.shape
  have hvm := hd.max
  have HBad := hide (@rh_bad r ts ds)
  have HOk := hide (@rh_ok r ts ds)
  have HT := hide ht
  have HD := hide hd
  have HG := hide hg
  have HF := hide (fun (w' : World) (hb : Below w.heap.size w w') => replayFaultI r (hy.later hb) (hz.later hb) (ht.later hb) (hd.later hb))
  have HCp := hide (fun (h : rfF r = 0) (w' : World) (hb : Below w.heap.size w w') => copyRaftI r.tm r.vt r.si r.st (hy.later hb) (hz.later hb) (room_of h).1 (room_of h).2.1 (room_of h).2.2)
  have HTt := hide (fun (h : rfF r = 0) (k : Nat) => rhR_tot (ts := ts) (ds := ds) (tot_of h) k)
  have HAll := hide (@rhF_all ts ds)
  have HNl := hide (rhN_le r ts ds)
  have HR0 : Hid (rhR r ts ds 0 = r) := rfl
  have HRs : Hid (∀ k, rhR r ts ds (k + 1) = dyR (rhR r ts ds k) (rhO ts (ds.getD k dn0))) := fun _ => rfl
  have HN0 : Hid (rhN r ts ds 0 = 0) := rfl
  have HNs : Hid (∀ k, rhN r ts ds (k + 1) = rhN r ts ds k + (if dyC (rhR r ts ds k) (rhO ts (ds.getD k dn0)) = (ds.getD k dn0).2.2.1 ∧ dyV (rhR r ts ds k) (rhO ts (ds.getD k dn0)) = (ds.getD k dn0).2.2.2 then 0 else 1)) := fun _ => rfl
  obtain ⟨C, hC⟩ : ∃ x, rhC r ts ds = x := ⟨_, rfl⟩
  obtain ⟨V, hV⟩ : ∃ x, rhV r ts ds = x := ⟨_, rfl⟩
  obtain ⟨A, hA⟩ : ∃ x, rhA r ts ds = x := ⟨_, rfl⟩
  rw [hC] at HBad HOk HF
  rw [hV, hA] at HBad HOk
  rw [hC, hV, hA]
  obtain ⟨n, hn⟩ : ∃ x, ds.length = x := ⟨_, rfl⟩
  obtain ⟨m, hm⟩ : ∃ x, ts.length = x := ⟨_, rfl⟩
  have HN := hide hn
  have HM := hide hm
  rw [hn] at HD HOk HAll hvm HF ⊢
  rw [hm] at HT HOk hum HF ⊢
  clear hC hV hA hn hm hy hz ht hd hg
  obtain ⟨rn, hrn⟩ : ∃ f, rhN r ts ds = f := ⟨_, rfl⟩
  obtain ⟨rr, hrr⟩ : ∃ f, rhR r ts ds = f := ⟨_, rfl⟩
  rw [hrn] at HOk HNl HN0 HNs
  rw [hrr] at HOk HTt HR0 HRs HNs
  clear hrn hrr
  have BA0 := below_on (below_alloc w (.cells #[.int .i64 r.tm, .int .i64 r.vt, .int .i64 r.si, .int .i64 r.st, .slice ay r.sn.length cy, .slice az r.lg.length cz] 33)) (below_alloc _ (.cells #[.int .i64 0, .int .i64 0, .int .i64 0, .int .i64 0, .int .i64 0, .int .i64 0, .int .i64 0, .slice none 0 0, .slice none 0 0] 35))
  have VR0 := (Var6_new w (.int .i64 r.tm) (.int .i64 r.vt) (.int .i64 r.si) (.int .i64 r.st) (.slice ay r.sn.length cy) (.slice az r.lg.length cz) 33).later (below_alloc _ (.cells #[.int .i64 0, .int .i64 0, .int .i64 0, .int .i64 0, .int .i64 0, .int .i64 0, .int .i64 0, .slice none 0 0, .slice none 0 0] 35))
  have RA0 := Res9.new (below_alloc w (.cells #[.int .i64 r.tm, .int .i64 r.vt, .int .i64 r.si, .int .i64 r.st, .slice ay r.sn.length cy, .slice az r.lg.length cz] 33)) 35
  rw [World.size_alloc] at RA0
  obtain ⟨W2, hW2⟩ : ∃ x, ((w.alloc (.cells #[.int .i64 r.tm, .int .i64 r.vt, .int .i64 r.si, .int .i64 r.st, .slice ay r.sn.length cy, .slice az r.lg.length cz] 33)).alloc (.cells #[.int .i64 0, .int .i64 0, .int .i64 0, .int .i64 0, .int .i64 0, .int .i64 0, .int .i64 0, .slice none 0 0, .slice none 0 0] 35)) = x := ⟨_, rfl⟩
  rw [hW2] at BA0 VR0 RA0
  have BA := hide BA0
  have VA := hide VR0
  have RA := hide RA0
  clear BA0 VR0 RA0
  go_enter Tryz.func11, Tryz.ntmps11
  go_upto_region 1 with fail
  (try rw [hW2])
  clear hW2
  obtain ⟨v0, v1, v2, v3, v4, v5⟩ := VA.out
  have HE := hide (HF.out _ BA.out)
  go_wp2_with fail
  refine HE.out.mono ?_
  rintro e w1 ⟨rfl, hb⟩
  have BB := hide (below_on BA.out hb)
  have VB := hide (VA.out.later hb)
  have RB := hide (RA.out.later hb)
  clear hb v0 v1 v2 v3 v4 v5 VA RA BA HE HF
  have hr1 := RB.out.lt
  by_cases h0 : C = 0
  · subst h0
    obtain ⟨rfl, rfl, hr0, _, hF0⟩ := HOk.out (by first | trivial | rfl)
    have VC := VB
    have RC := RB
    have BC := BB
    have HCp := hide (HCp.out hr0)
    have HCp : Hid (True → _) := fun _ => HCp.out
    have HTt := hide (HTt.out hr0)
    have HTt : Hid (True → _) := fun _ => HTt.out
    have HAll := hide (HAll.out hF0)
    have HAll : Hid (True → _) := fun _ => HAll.out
    clear HBad HOk hr0 hF0 VB RB BB
    obtain ⟨v0, v1, v2, v3, v4, v5⟩ := VC.out
    have HE := hide (HCp.out (by first | trivial | rfl) _ BC.out)
    go_wp2_with fail
    refine HE.out.mono ?_
    rintro e w3 ⟨y3, z3, rfl, hb, ho⟩
    obtain ⟨a3, k3, g3, j3, hy3, hz3⟩ := ho.shape
    subst hy3
    subst hz3
    have hba := below_on hb (below_alloc w3 (.cells #[.int .i64 0, .int .i64 0, .int .i64 0, .int .i64 r.tm, .int .i64 r.vt, .int .i64 r.si, .int .i64 r.st, .slice a3 r.sn.length k3, .slice g3 r.lg.length j3] 35))
    have BD := hide (below_on BC.out hba)
    have RD := hide (RC.out.later hba)
    have AD := hide (Var9_new w3 (.int .i64 0) (.int .i64 0) (.int .i64 0) (.int .i64 r.tm) (.int .i64 r.vt) (.int .i64 r.si) (.int .i64 r.st) (.slice a3 r.sn.length k3) (.slice g3 r.lg.length j3) 35)
    have AF : Hid (∀ o, (w3.alloc (.cells #[.int .i64 0, .int .i64 0, .int .i64 0, .int .i64 r.tm, .int .i64 r.vt, .int .i64 r.si, .int .i64 r.st, .slice a3 r.sn.length k3, .slice g3 r.lg.length j3] 35)).frozen? ⟨w3.heap.size, o, none⟩ = false) := fun o => by simp [go_sem]
    have ID := hide (ho.later (below_alloc w3 (.cells #[.int .i64 0, .int .i64 0, .int .i64 0, .int .i64 r.tm, .int .i64 r.vt, .int .i64 r.si, .int .i64 r.st, .slice a3 r.sn.length k3, .slice g3 r.lg.length j3] 35)))
    have hz3s := hb.size
    have hrz := RC.out.lt
    clear hb hba ho HE HCp v0 v1 v2 v3 v4 v5 VC BC RC
    go_upto_region 5 with fail
    obtain ⟨W4, hW4⟩ : ∃ x, w3.alloc (.cells #[.int .i64 0, .int .i64 0, .int .i64 0, .int .i64 r.tm, .int .i64 r.vt, .int .i64 r.si, .int .i64 r.st, .slice a3 r.sn.length k3, .slice g3 r.lg.length j3] 35) = x := ⟨_, rfl⟩
    have hs4 : W4.heap.size = w3.heap.size + 1 := by rw [← hW4]; simp
    rw [hW4] at BD RD AD AF ID
    (try rw [hW4])
    clear hW4
    generalize hAe : w3.heap.size = AA at *
    have hrc := RD.out.lt
    go_wp2
    go_loopw [25] (fun i wr => ∃ (k2 : Nat) (y z : Value), k2 ≤ n ∧ i = .int .i64 k2 ∧ Hid (Res9 w wr (w.heap.size + 1)) ∧ Hid (Var9 wr AA (.int .i64 0) (.int .i64 0) (.int .i64 (rn k2)) (.int .i64 (rr k2).tm) (.int .i64 (rr k2).vt) (.int .i64 (rr k2).si) (.int .i64 (rr k2).st) y z ∧ (∀ o, wr.frozen? ⟨AA, o, none⟩ = false)) ∧ Hid (∃ lo hi, w.heap.size + 1 < lo ∧ hi ≤ wr.heap.size ∧ (hi ≤ AA ∨ AA < lo) ∧ IvR lo hi wr y z (rr k2).sn (rr k2).lg)) (fun i _ => n - (RowKit.intOf i).toNat)
    case atStart => exact ⟨0, _, _, Nat.zero_le _, rfl, RD.out, by rw [HR0.out, HN0.out]; exact ⟨AD.out, AF.out⟩, by rw [HR0.out]; exact ⟨_, _, hrz, by omega, Or.inl (Nat.le_refl _), ID.out⟩⟩
    case round =>
      clear AD AF ID RD BD
      obtain ⟨k2, y2, z2, hk2, rfl, HR9, HV9, HIv⟩ := hrel
      have hop0 := HAll.out (by first | trivial | rfl)
      have HTk := hide (HTt.out (by first | trivial | rfl) k2)
      have HRk := hide (HRs.out k2)
      have HNk := hide (HNs.out k2)
      have hnl := HNl.out k2
      obtain ⟨Q, hQ⟩ : ∃ x, rr k2 = x := ⟨_, rfl⟩
      obtain ⟨nn, hnn⟩ : ∃ x, rn k2 = x := ⟨_, rfl⟩
      rw [hQ] at HV9 HIv HTk HRk HNk
      rw [hnn] at HV9 HNk hnl
      obtain ⟨lo, hi, hlo, hhi, hap, iv⟩ := HIv.out
      obtain ⟨a6, k6, g6, j6, ey, ez⟩ := iv.shape
      subst ey
      subst ez
      have IV := hide iv
      obtain ⟨⟨d0, d1, d2, d3, d4, d5, d6, d7, d8⟩, hfA⟩ := HV9.out
      have HfA := hide hfA
      have HVv := hide HV9.out.1
      have hAl := HV9.out.1.lt
      clear HIv iv hfA HV9
      by_cases hlt : k2 < n
      · skip
        obtain ⟨bd, od, rfl, hA⟩ := HD.out.at (k := k2) (by rw [HN.out]; exact hlt)
        obtain ⟨d, hd⟩ : ∃ d, ds.getD k2 dn0 = d := ⟨_, rfl⟩
        rw [hd] at hA
        have HDd := hide hd
        clear hd
        have hA := hA.later HR9.out.below
        obtain ⟨p, q, ra, va⟩ := d
        obtain ⟨g0, g1, g2, g3⟩ := hA
        simp only [] at g0 g1 g2 g3
        have hk0 : (0 : Int) ≤ (k2 : Int) := by omega
        have hk1 : (k2 : Int) < (n : Int) := by omega
        have hbl := World.block_lt_of_cell? _ _ g0
        have hg0 := hop0 k2 hlt
        rw [HDd.out] at hg0 HRk HNk
        obtain ⟨hp, hq, hopx⟩ := rhG_ok hg0
        obtain ⟨b1, o1, b2, o2, i, j, l, c2, y6, z6, rfl, hi1, hj1, HA⟩ := rh_at (HT.out.later HR9.out.below) HM.out hp hq
        dsimp only at hi1 hj1 HNk
        subst hi1
        subst hj1
        obtain ⟨hth, ⟨m0, m1, m2, m3, m4, m5, kI, kJ⟩, hcap, hil, hjl, hlm⟩ := HA
        generalize rhO ts ((i : Int), (j : Int), ra, va) = x at *
        obtain ⟨a7, c7, rfl⟩ := kI.shape
        obtain ⟨a8, c8, rfl, _⟩ := kJ.shape
        have hi0 : (0 : Int) ≤ (i : Int) := by omega
        have hi1 : (i : Int) < (m : Int) := by omega
        have hj0 : (0 : Int) ≤ (j : Int) := by omega
        have hj1 : (j : Int) < (l : Int) := by omega
        have hb1 : b1 < wr.heap.size := World.block_lt_of_cell? _ _ hth
        have hb2 : b2 < wr.heap.size := World.block_lt_of_cell? _ _ m0
        have HC := hide (fun (w' : World) (hb : Below wr.heap.size wr w') => doneByI Q x HTk.out hopx (HG.out.later (below_on HR9.out.below hb)) (IV.out.later hb).rdI (IV.out.later hb).rdJ IV.out.capE (kI.later hb) (kJ.later hb) hcap)
        obtain ⟨DC, hDC⟩ : ∃ c, dyC Q x = c := ⟨_, rfl⟩
        obtain ⟨DV, hDV⟩ : ∃ c, dyV Q x = c := ⟨_, rfl⟩
        obtain ⟨R, hR⟩ : ∃ c, dyR Q x = c := ⟨_, rfl⟩
        rw [hDC, hDV, hR] at HC
        rw [hDC, hDV] at HNk
        rw [hR] at HRk
        clear kI kJ hcap hDC hDV hR hopx hop0 hQ hnn hp hq hg0 hil hjl
        have bW := below_alloc wr (.cells #[.int .i64 (i : Int), .int .i64 (j : Int), .int .i64 ra, .int .i64 va] 60)
        have E0 : (wr.alloc (.cells #[.int .i64 (i : Int), .int .i64 (j : Int), .int .i64 ra, .int .i64 va] 60)).cell? ⟨wr.heap.size, 0, none⟩ = some (.int .i64 (i : Int)) := by simp [go_sem]
        have E1 : (wr.alloc (.cells #[.int .i64 (i : Int), .int .i64 (j : Int), .int .i64 ra, .int .i64 va] 60)).cell? ⟨wr.heap.size, 1, none⟩ = some (.int .i64 (j : Int)) := by simp [go_sem]
        have E2 : (wr.alloc (.cells #[.int .i64 (i : Int), .int .i64 (j : Int), .int .i64 ra, .int .i64 va] 60)).cell? ⟨wr.heap.size, 2, none⟩ = some (.int .i64 ra) := by simp [go_sem]
        have E3 : (wr.alloc (.cells #[.int .i64 (i : Int), .int .i64 (j : Int), .int .i64 ra, .int .i64 va] 60)).cell? ⟨wr.heap.size, 3, none⟩ = some (.int .i64 va) := by simp [go_sem]
        have G0 := cell_later bW d3
        have G1 := cell_later bW d4
        have G2 := cell_later bW d5
        have G3 := cell_later bW d6
        have G4 := cell_later bW d7
        have G5 := cell_later bW d8
        have G6 := cell_later bW hth
        have G7 := cell_later bW m0
        have G8 := cell_later bW m1
        have G9 := cell_later bW m2
        have G10 := cell_later bW m3
        have G11 := cell_later bW m4
        have G12 := cell_later bW m5
        have hDl : wr.heap.size < (wr.alloc (.cells #[.int .i64 (i : Int), .int .i64 (j : Int), .int .i64 ra, .int .i64 va] 60)).heap.size := by simp
        obtain ⟨X, hX⟩ : ∃ x, wr.alloc (.cells #[.int .i64 (i : Int), .int .i64 (j : Int), .int .i64 ra, .int .i64 va] 60) = x := ⟨_, rfl⟩
        rw [hX] at bW hDl E0 E1 E2 E3 G0 G1 G2 G3 G4 G5 G6 G7 G8 G9 G10 G11 G12
        obtain ⟨D0, hD0⟩ : ∃ x, wr.heap.size = x := ⟨_, rfl⟩
        rw [hD0] at hDl E0 E1 E2 E3
        have bWB := hide bW
        have HE2 := hide E2
        have HE3 := hide E3
        clear bW E2 E3
        go_upto_region 8 with fail
        (try rw [hX])
        (try rw [hD0])
        clear hX
        refine wp_region_held_drew (S := fun w' => w'.cell? ⟨AA, 3, none⟩ = some (.int .i64 Q.tm) ∧ w'.cell? ⟨AA, 4, none⟩ = some (.int .i64 Q.vt) ∧ w'.cell? ⟨AA, 5, none⟩ = some (.int .i64 Q.si) ∧ w'.cell? ⟨AA, 6, none⟩ = some (.int .i64 Q.st) ∧ w'.cell? ⟨AA, 7, none⟩ = some (.slice a6 Q.sn.length k6) ∧ w'.cell? ⟨AA, 8, none⟩ = some (.slice g6 Q.lg.length j6) ∧ w'.cell? ⟨D0, 0, none⟩ = some (.int .i64 (i : Int)) ∧ w'.cell? ⟨D0, 1, none⟩ = some (.int .i64 (j : Int)) ∧ w'.cell? ⟨b1, o1 + i * 3, none⟩ = some (.slice (some ⟨b2, o2, none⟩) l c2) ∧ w'.cell? ⟨b2, o2 + j * 6, none⟩ = some (.int .i64 x.tm) ∧ w'.cell? ⟨b2, o2 + j * 6 + 1, none⟩ = some (.int .i64 x.vt) ∧ w'.cell? ⟨b2, o2 + j * 6 + 2, none⟩ = some (.int .i64 x.si) ∧ w'.cell? ⟨b2, o2 + j * 6 + 3, none⟩ = some (.int .i64 x.st) ∧ w'.cell? ⟨b2, o2 + j * 6 + 4, none⟩ = some (.slice a7 x.sn.length c7) ∧ w'.cell? ⟨b2, o2 + j * 6 + 5, none⟩ = some (.slice a8 x.lg.length c8)) (by kernel_rfl) ⟨G0, G1, G2, G3, G4, G5, E0, E1, G6, G7, G8, G9, G10, G11, G12⟩ (fun hHeld0 => ?_)
        refine forgetH (fun wx => (wx.cell? ⟨AA, 3, none⟩ = some (.int .i64 Q.tm) ∧ wx.cell? ⟨AA, 4, none⟩ = some (.int .i64 Q.vt) ∧ wx.cell? ⟨AA, 5, none⟩ = some (.int .i64 Q.si) ∧ wx.cell? ⟨AA, 6, none⟩ = some (.int .i64 Q.st) ∧ wx.cell? ⟨AA, 7, none⟩ = some (.slice a6 Q.sn.length k6) ∧ wx.cell? ⟨AA, 8, none⟩ = some (.slice g6 Q.lg.length j6) ∧ wx.cell? ⟨D0, 0, none⟩ = some (.int .i64 (i : Int)) ∧ wx.cell? ⟨D0, 1, none⟩ = some (.int .i64 (j : Int)) ∧ wx.cell? ⟨b1, o1 + i * 3, none⟩ = some (.slice (some ⟨b2, o2, none⟩) l c2) ∧ wx.cell? ⟨b2, o2 + j * 6, none⟩ = some (.int .i64 x.tm) ∧ wx.cell? ⟨b2, o2 + j * 6 + 1, none⟩ = some (.int .i64 x.vt) ∧ wx.cell? ⟨b2, o2 + j * 6 + 2, none⟩ = some (.int .i64 x.si) ∧ wx.cell? ⟨b2, o2 + j * 6 + 3, none⟩ = some (.int .i64 x.st) ∧ wx.cell? ⟨b2, o2 + j * 6 + 4, none⟩ = some (.slice a7 x.sn.length c7) ∧ wx.cell? ⟨b2, o2 + j * 6 + 5, none⟩ = some (.slice a8 x.lg.length c8)) ∧ Below X.heap.size X wx) ⟨hHeld0, below_drewN X 1⟩ ?_
        clear hHeld0
        rintro X0 ⟨hHeld, hbx⟩
        obtain ⟨P0, P1, P2, P3, P4, P5, P6, P7, P8, P9, P10, P11, P12, P13, P14⟩ := id hHeld
        have HBx := hide (below_on bWB.out hbx)
        have HXa := hide hbx
        have hx0 := hbx.size
        clear hbx d0 d1 d2 d3 d4 d5 d6 d7 d8
        refine wpAnyH_take (i := 0) (v := ?vt1) rfl (by kernel_rfl) (by kernel_rfl) (by kernel_rfl) (fun _ _ _ h => h) (Or.inl ⟨by rfl, ?ht1⟩) hHeld ?rt1
        case ht1 => intro w9 hSw; (try dsimp only at hSw); first | (go_simp; done) | (go_simp; with_reducible rfl)
        try simp only [Act.put, List.setIfInBounds_toArray, List.set_cons_zero, List.set_cons_succ, List.getElem_toArray, List.getElem_cons_zero, List.getElem_cons_succ]
        refine wpAnyH_take (i := 1) (v := ?vt2) rfl (by kernel_rfl) (by kernel_rfl) (by kernel_rfl) (fun _ _ _ h => h) (Or.inl ⟨by rfl, ?ht2⟩) hHeld ?rt2
        case ht2 => intro w9 hSw; (try dsimp only at hSw); first | (go_simp; done) | (go_simp; with_reducible rfl)
        try simp only [Act.put, List.setIfInBounds_toArray, List.set_cons_zero, List.set_cons_succ, List.getElem_toArray, List.getElem_cons_zero, List.getElem_cons_succ]
        refine wpAnyH_take (i := 2) (v := ?vt3) rfl (by kernel_rfl) (by kernel_rfl) (by kernel_rfl) (fun _ _ _ h => h) (Or.inl ⟨by rfl, ?ht3⟩) hHeld ?rt3
        case ht3 => intro w9 hSw; (try dsimp only at hSw); first | (go_simp; done) | (go_simp; with_reducible rfl)
        try simp only [Act.put, List.setIfInBounds_toArray, List.set_cons_zero, List.set_cons_succ, List.getElem_toArray, List.getElem_cons_zero, List.getElem_cons_succ]
        refine wpAnyH_take (i := 3) (v := ?vt4) rfl (by kernel_rfl) (by kernel_rfl) (by kernel_rfl) (fun _ _ _ h => h) (Or.inl ⟨by rfl, ?ht4⟩) hHeld ?rt4
        case ht4 => intro w9 hSw; (try dsimp only at hSw); first | (go_simp; done) | (go_simp; with_reducible rfl)
        try simp only [Act.put, List.setIfInBounds_toArray, List.set_cons_zero, List.set_cons_succ, List.getElem_toArray, List.getElem_cons_zero, List.getElem_cons_succ]
        refine wpAnyH_take (i := 4) (v := ?vt5) rfl (by kernel_rfl) (by kernel_rfl) (by kernel_rfl) (fun _ _ _ h => h) (Or.inl ⟨by rfl, ?ht5⟩) hHeld ?rt5
        case ht5 => intro w9 hSw; (try dsimp only at hSw); first | (go_simp; done) | (go_simp; with_reducible rfl)
        try simp only [Act.put, List.setIfInBounds_toArray, List.set_cons_zero, List.set_cons_succ, List.getElem_toArray, List.getElem_cons_zero, List.getElem_cons_succ]
        refine wpAnyH_take (i := 5) (v := ?vt6) rfl (by kernel_rfl) (by kernel_rfl) (by kernel_rfl) (fun _ _ _ h => h) (Or.inl ⟨by rfl, ?ht6⟩) hHeld ?rt6
        case ht6 => intro w9 hSw; (try dsimp only at hSw); first | (go_simp; done) | (go_simp; with_reducible rfl)
        try simp only [Act.put, List.setIfInBounds_toArray, List.set_cons_zero, List.set_cons_succ, List.getElem_toArray, List.getElem_cons_zero, List.getElem_cons_succ]
        refine wpAnyH_take (i := 6) (v := ?vt7) rfl (by kernel_rfl) (by kernel_rfl) (by kernel_rfl) (fun _ _ _ h => h) (Or.inl ⟨by rfl, ?ht7⟩) hHeld ?rt7
        case ht7 => intro w9 hSw; (try dsimp only at hSw); first | (go_simp; done) | (go_simp; with_reducible rfl)
        try simp only [Act.put, List.setIfInBounds_toArray, List.set_cons_zero, List.set_cons_succ, List.getElem_toArray, List.getElem_cons_zero, List.getElem_cons_succ]
        refine wpAnyH_take (i := 7) (v := ?vt8) rfl (by kernel_rfl) (by kernel_rfl) (by kernel_rfl) (fun _ _ _ h => h) (Or.inl ⟨by rfl, ?ht8⟩) hHeld ?rt8
        case ht8 => intro w9 hSw; (try dsimp only at hSw); first | (go_simp; done) | (go_simp; with_reducible rfl)
        try simp only [Act.put, List.setIfInBounds_toArray, List.set_cons_zero, List.set_cons_succ, List.getElem_toArray, List.getElem_cons_zero, List.getElem_cons_succ]
        refine wpAnyH_take (i := 8) (v := ?vt9) rfl (by kernel_rfl) (by kernel_rfl) (by kernel_rfl) (fun _ _ _ h => h) (Or.inl ⟨by rfl, ?ht9⟩) hHeld ?rt9
        case ht9 => intro w9 hSw; (try dsimp only at hSw); first | (go_simp; done) | (go_simp; with_reducible rfl)
        try simp only [Act.put, List.setIfInBounds_toArray, List.set_cons_zero, List.set_cons_succ, List.getElem_toArray, List.getElem_cons_zero, List.getElem_cons_succ]
        refine wpAnyH_take (i := 9) (v := ?vt10) rfl (by kernel_rfl) (by kernel_rfl) (by kernel_rfl) (fun _ _ _ h => h) (Or.inl ⟨by rfl, ?ht10⟩) hHeld ?rt10
        case ht10 => intro w9 hSw; (try dsimp only at hSw); first | (go_simp; done) | (go_simp; with_reducible rfl)
        try simp only [Act.put, List.setIfInBounds_toArray, List.set_cons_zero, List.set_cons_succ, List.getElem_toArray, List.getElem_cons_zero, List.getElem_cons_succ]
        refine wpAnyH_take (i := 10) (v := ?vt11) rfl (by kernel_rfl) (by kernel_rfl) (by kernel_rfl) (fun _ _ _ h => h) (Or.inl ⟨by rfl, ?ht11⟩) hHeld ?rt11
        case ht11 => intro w9 hSw; (try dsimp only at hSw); first | (go_simp; done) | (go_simp; with_reducible rfl)
        try simp only [Act.put, List.setIfInBounds_toArray, List.set_cons_zero, List.set_cons_succ, List.getElem_toArray, List.getElem_cons_zero, List.getElem_cons_succ]
        refine wpAnyH_take (i := 11) (v := ?vt12) rfl (by kernel_rfl) (by kernel_rfl) (by kernel_rfl) (fun _ _ _ h => h) (Or.inl ⟨by rfl, ?ht12⟩) hHeld ?rt12
        case ht12 => intro w9 hSw; (try dsimp only at hSw); first | (go_simp; done) | (go_simp; with_reducible rfl)
        try simp only [Act.put, List.setIfInBounds_toArray, List.set_cons_zero, List.set_cons_succ, List.getElem_toArray, List.getElem_cons_zero, List.getElem_cons_succ]
        refine wpAnyH_ready (rs := [12, 13]) (by kernel_rfl) (by simp) (AllReadyH.cons rfl (fun K hK => ?_) (AllReadyH.cons rfl (fun K hK => ?_) (AllReadyH.nil)))
        · skip
          go_simp
          go_at_call 35
          refine (HC.out _ HBx.out).mono ?_
          rintro e X1 ⟨y5, z5, rfl, hb, ho⟩
          obtain ⟨a5, k5, gg5, j5, ey, ez⟩ := ho.shape
          subst ey
          subst ez
          have Q0 := cell_later hb P0
          have Q1 := cell_later hb P1
          have Q2 := cell_later hb P2
          have Q3 := cell_later hb P3
          have Q4 := cell_later hb P4
          have Q5 := cell_later hb P5
          have Q6 := cell_later hb P6
          have Q7 := cell_later hb P7
          have Q8 := cell_later hb P8
          have Q9 := cell_later hb P9
          have Q10 := cell_later hb P10
          have Q11 := cell_later hb P11
          have Q12 := cell_later hb P12
          have Q13 := cell_later hb P13
          have Q14 := cell_later hb P14
          refine hK.out _ _ ⟨Q0, Q1, Q2, Q3, Q4, Q5, Q6, Q7, Q8, Q9, Q10, Q11, Q12, Q13, Q14⟩ (fun _ => ?_)
          clear hK K HC
          try simp only [Act.put, List.setIfInBounds_toArray, List.set_cons_zero, List.set_cons_succ, List.getElem_toArray, List.getElem_cons_zero, List.getElem_cons_succ]
          have HB1 := hide (below_on HBx.out hb)
          have HXb := hide (below_on HXa.out hb)
          have I1 := hide ho
          have hx1 := hb.size
          clear hb ho hHeld P0 P1 P2 P3 P4 P5 P6 P7 P8 P9 P10 P11 P12 P13 P14
          refine wpAnyH_ready (rs := [13]) (by kernel_rfl) (by simp) (AllReadyH.cons rfl (fun K hK => ?_) (AllReadyH.nil))
          go_simp
          have hb := below_alloc X1 (.cells #[.int .i64 0, .int .i64 0, .int .i64 0, .int .i64 0, .int .i64 0, .int .i64 0, .int .i64 0, .slice none 0 0, .slice none 0 0] 35)
          have S0 := cell_later hb Q0
          have S1 := cell_later hb Q1
          have S2 := cell_later hb Q2
          have S3 := cell_later hb Q3
          have S4 := cell_later hb Q4
          have S5 := cell_later hb Q5
          have S6 := cell_later hb Q6
          have S7 := cell_later hb Q7
          have S8 := cell_later hb Q8
          have S9 := cell_later hb Q9
          have S10 := cell_later hb Q10
          have S11 := cell_later hb Q11
          have S12 := cell_later hb Q12
          have S13 := cell_later hb Q13
          have S14 := cell_later hb Q14
          refine hK.out _ _ ⟨S0, S1, S2, S3, S4, S5, S6, S7, S8, S9, S10, S11, S12, S13, S14⟩ (fun _ => ?_)
          clear hK K
          try simp only [Act.put, List.setIfInBounds_toArray, List.set_cons_zero, List.set_cons_succ, List.getElem_toArray, List.getElem_cons_zero, List.getElem_cons_succ]
          have HBX := hide (below_on HB1.out hb)
          have HXx := hide (below_on HXb.out hb)
          have IX := hide (I1.out.later hb)
          have OZ := hide (Var9_new X1 (.int .i64 0) (.int .i64 0) (.int .i64 0) (.int .i64 0) (.int .i64 0) (.int .i64 0) (.int .i64 0) (.slice none 0 0) (.slice none 0 0) 35)
          have OF : Hid (∀ q, (X1.alloc (.cells #[.int .i64 0, .int .i64 0, .int .i64 0, .int .i64 0, .int .i64 0, .int .i64 0, .int .i64 0, .slice none 0 0, .slice none 0 0] 35)).frozen? ⟨X1.heap.size, q, none⟩ = false) := fun q => by simp [go_sem]
          have hx2 : (X1.alloc (.cells #[.int .i64 0, .int .i64 0, .int .i64 0, .int .i64 0, .int .i64 0, .int .i64 0, .int .i64 0, .slice none 0 0, .slice none 0 0] 35)).heap.size = X1.heap.size + 1 := by simp
          obtain ⟨X2, hX2⟩ : ∃ x, X1.alloc (.cells #[.int .i64 0, .int .i64 0, .int .i64 0, .int .i64 0, .int .i64 0, .int .i64 0, .int .i64 0, .slice none 0 0, .slice none 0 0] 35) = x := ⟨_, rfl⟩
          refine forgetH (fun wx => wx = X2) hX2 ?_
          rw [hX2] at HBX HXx IX OZ OF hx2 S0 S1 S2 S3 S4 S5 S6 S7 S8 S9 S10 S11 S12 S13 S14
          clear hX2 hb HB1 I1 Q0 Q1 Q2 Q3 Q4 Q5 Q6 Q7 Q8 Q9 Q10 Q11 Q12 Q13 Q14
          intro wz hwz
          rw [hwz]
          clear hwz wz
          obtain ⟨o0, o1, o2, o3, o4, o5, o6, o7, o8⟩ := OZ.out
          have u0 := OF.out 0
          have u1 := OF.out 1
          have u2 := OF.out 2
          have u3 := OF.out 3
          have u4 := OF.out 4
          have u5 := OF.out 5
          have u6 := OF.out 6
          have u7 := OF.out 7
          have u8 := OF.out 8
          refine wpAnyH_ready (rs := [14]) (by kernel_rfl) (by simp) (AllReadyH.cons rfl (fun K hK => ?_) (AllReadyH.nil))
          go_simp
          have hne : AA ≠ X1.heap.size := by omega
          refine hK.out _ _ ⟨(set9_other (show AA ≠ X1.heap.size by omega)).trans S0, (set9_other (show AA ≠ X1.heap.size by omega)).trans S1, (set9_other (show AA ≠ X1.heap.size by omega)).trans S2, (set9_other (show AA ≠ X1.heap.size by omega)).trans S3, (set9_other (show AA ≠ X1.heap.size by omega)).trans S4, (set9_other (show AA ≠ X1.heap.size by omega)).trans S5, (set9_other (show D0 ≠ X1.heap.size by omega)).trans S6, (set9_other (show D0 ≠ X1.heap.size by omega)).trans S7, (set9_other (show b1 ≠ X1.heap.size by omega)).trans S8, (set9_other (show b2 ≠ X1.heap.size by omega)).trans S9, (set9_other (show b2 ≠ X1.heap.size by omega)).trans S10, (set9_other (show b2 ≠ X1.heap.size by omega)).trans S11, (set9_other (show b2 ≠ X1.heap.size by omega)).trans S12, (set9_other (show b2 ≠ X1.heap.size by omega)).trans S13, (set9_other (show b2 ≠ X1.heap.size by omega)).trans S14⟩ (fun _ => ?_)
          clear hK K
          try simp only [Act.put, List.setIfInBounds_toArray, List.set_cons_zero, List.set_cons_succ, List.getElem_toArray, List.getElem_cons_zero, List.getElem_cons_succ]
          refine wpAnyH_done (by kernel_rfl) ?_ _
          refine forgetXh (fun X6 => Res9 w X6 (w.heap.size + 1) ∧ Var9 X6 AA (.int .i64 0) (.int .i64 0) (.int .i64 nn) (.int .i64 Q.tm) (.int .i64 Q.vt) (.int .i64 Q.si) (.int .i64 Q.st) (.slice a6 Q.sn.length k6) (.slice g6 Q.lg.length j6) ∧ (∀ o, X6.frozen? ⟨AA, o, none⟩ = false) ∧ Var9 X6 (X1.heap.size) (.int .i64 0) (.int .i64 DC) (.int .i64 DV) (.int .i64 R.tm) (.int .i64 R.vt) (.int .i64 R.si) (.int .i64 R.st) (.slice a5 R.sn.length k5) (.slice gg5 R.lg.length j5) ∧ X6.cell? ⟨D0, 2, none⟩ = some (.int .i64 ra) ∧ X6.cell? ⟨D0, 3, none⟩ = some (.int .i64 va) ∧ ∃ lo hi, AA < lo ∧ w.heap.size + 1 < lo ∧ hi ≤ X6.heap.size ∧ IvR lo hi X6 (.slice a5 R.sn.length k5) (.slice gg5 R.lg.length j5) R.sn R.lg) ?soa ?_
          case soa =>
            have hw5 : Wr (fun x => x = X1.heap.size) X2 (((((((((X2.setCell ⟨X1.heap.size, 0, none⟩ (.int .i64 0)).setCell ⟨X1.heap.size, 1, none⟩ (.int .i64 DC)).setCell ⟨X1.heap.size, 2, none⟩ (.int .i64 DV)).setCell ⟨X1.heap.size, 3, none⟩ (.int .i64 R.tm)).setCell ⟨X1.heap.size, 4, none⟩ (.int .i64 R.vt)).setCell ⟨X1.heap.size, 5, none⟩ (.int .i64 R.si)).setCell ⟨X1.heap.size, 6, none⟩ (.int .i64 R.st)).setCell ⟨X1.heap.size, 7, none⟩ (.slice a5 R.sn.length k5)).setCell ⟨X1.heap.size, 8, none⟩ (.slice gg5 R.lg.length j5)) := (Wr.setCell (p := ⟨X1.heap.size, 8, none⟩) (Wr.setCell (p := ⟨X1.heap.size, 7, none⟩) (Wr.setCell (p := ⟨X1.heap.size, 6, none⟩) (Wr.setCell (p := ⟨X1.heap.size, 5, none⟩) (Wr.setCell (p := ⟨X1.heap.size, 4, none⟩) (Wr.setCell (p := ⟨X1.heap.size, 3, none⟩) (Wr.setCell (p := ⟨X1.heap.size, 2, none⟩) (Wr.setCell (p := ⟨X1.heap.size, 1, none⟩) (Wr.setCell (p := ⟨X1.heap.size, 0, none⟩) (Wr.refl (fun x => x = X1.heap.size) _) rfl (.int .i64 0)) rfl (.int .i64 DC)) rfl (.int .i64 DV)) rfl (.int .i64 R.tm)) rfl (.int .i64 R.vt)) rfl (.int .i64 R.si)) rfl (.int .i64 R.st)) rfl (.slice a5 R.sn.length k5)) rfl (.slice gg5 R.lg.length j5))
            have hRX := HR9.out.later HBX.out
            have hAX := HVv.out.later HBX.out
            exact ⟨hRX.wr hw5 (by omega) (fun b hb => by omega), hAX.wr hw5 hne, fun o => (hw5.frz _ _ hAX.lt).trans (((bcell HBX.out).2 _ _ hAl).trans (HfA.out o)), ⟨by simp [go_sem, o0], by simp [go_sem, o1], by simp [go_sem, o2], by simp [go_sem, o3], by simp [go_sem, o4], by simp [go_sem, o5], by simp [go_sem, o6], by simp [go_sem, o7], by simp [go_sem, o8]⟩, (set9_other (show D0 ≠ X1.heap.size by omega)).trans (cell_later HXx.out HE2.out), (set9_other (show D0 ≠ X1.heap.size by omega)).trans (cell_later HXx.out HE3.out), _, _, by omega, by omega, by have := hw5.size; omega, IX.out.wr hw5 (fun b h1 h2 e => by omega)⟩
          clear o0 o1 o2 o3 o4 o5 o6 o7 o8 S0 S1 S2 S3 S4 S5 S6 S7 S8 S9 S10 S11 S12 S13 S14 u0 u1 u2 u3 u4 u5 u6 u7 u8 OZ OF HBX IX hne
          rintro X6 ⟨hR6, hA6, hF6, hO6, hE2, hE3, lo6, hi6, q1, q2, q3, hI6⟩
          have RE := hide hR6
          have AE := hide hA6
          have AF := hide hF6
          have IE := hide hI6
          obtain ⟨o0, o1, o2, o3, o4, o5, o6, o7, o8⟩ := hO6
          obtain ⟨d0, d1, d2, d3, d4, d5, d6, d7, d8⟩ := AE.out
          have e0 := AF.out 0
          have e1 := AF.out 1
          have e2 := AF.out 2
          have e3 := AF.out 3
          have e4 := AF.out 4
          have e5 := AF.out 5
          have e6 := AF.out 6
          have e7 := AF.out 7
          have e8 := AF.out 8
          clear hR6 hA6 hF6 hI6 HR9 HVv HfA IV HBx
          by_cases hdc : DC = ra
          · have hd1 : (DC != ra) = false := by simp [hdc]
            by_cases hdv : DV = va
            · have hd2 : (DV != va) = false := by simp [hdv]
              rw [if_pos ⟨hdc, hdv⟩, Int.add_zero] at HNk
              clear hdc hdv
              have hDA : D0 ≠ AA := by omega
              have hAD : AA ≠ D0 := by omega
              go_upto_region 12 with fail
              refine forget (fun W6 => Res9 w W6 (w.heap.size + 1) ∧ (Var9 W6 AA (.int .i64 0) (.int .i64 0) (.int .i64 nn) (.int .i64 R.tm) (.int .i64 R.vt) (.int .i64 R.si) (.int .i64 R.st) (.slice a5 R.sn.length k5) (.slice gg5 R.lg.length j5) ∧ (∀ o, W6.frozen? ⟨AA, o, none⟩ = false)) ∧ ∃ lo hi, w.heap.size + 1 < lo ∧ hi ≤ W6.heap.size ∧ (hi ≤ AA ∨ AA < lo) ∧ IvR lo hi W6 (.slice a5 R.sn.length k5) (.slice gg5 R.lg.length j5) R.sn R.lg) ?sra0 ?_
              case sra0 =>
                have hw6 : Wr (fun x => x = AA) X6 ((((((X6.setCell ⟨AA, 3, none⟩ (.int .i64 R.tm)).setCell ⟨AA, 4, none⟩ (.int .i64 R.vt)).setCell ⟨AA, 5, none⟩ (.int .i64 R.si)).setCell ⟨AA, 6, none⟩ (.int .i64 R.st)).setCell ⟨AA, 7, none⟩ (.slice a5 R.sn.length k5)).setCell ⟨AA, 8, none⟩ (.slice gg5 R.lg.length j5)) := (Wr.setCell (p := ⟨AA, 8, none⟩) (Wr.setCell (p := ⟨AA, 7, none⟩) (Wr.setCell (p := ⟨AA, 6, none⟩) (Wr.setCell (p := ⟨AA, 5, none⟩) (Wr.setCell (p := ⟨AA, 4, none⟩) (Wr.setCell (p := ⟨AA, 3, none⟩) (Wr.refl (fun x => x = AA) _) rfl (.int .i64 R.tm)) rfl (.int .i64 R.vt)) rfl (.int .i64 R.si)) rfl (.int .i64 R.st)) rfl (.slice a5 R.sn.length k5)) rfl (.slice gg5 R.lg.length j5))
                refine ⟨RE.out.wr hw6 (by omega) (fun b hb => by omega), ⟨⟨by simp [go_sem, d0], by simp [go_sem, d1], by simp [go_sem, d2], by simp [go_sem, d3], by simp [go_sem, d4], by simp [go_sem, d5], by simp [go_sem, d6], by simp [go_sem, d7], by simp [go_sem, d8]⟩, fun o => ?_⟩, _, _, q2, ?_, Or.inr q1, IE.out.wr hw6 (fun b h1 h2 e => by omega)⟩
                · simp only [World.frozen?_setCell]; exact AF.out o
                · have := hw6.size; omega
              clear d0 d1 d2 d3 d4 d5 d6 d7 d8 o0 o1 o2 o3 o4 o5 o6 o7 o8 e0 e1 e2 e3 e4 e5 e6 e7 e8 RE AE AF IE
              rintro W6 ⟨hR6, hV6, hI6⟩
              have HR6 := hide hR6
              have HV6 := hide hV6
              have HI6 := hide hI6
              clear hR6 hV6 hI6
              go_wp2
              go_roundw
              case rel => exact ⟨k2 + 1, _, _, hlt, by go_num, HR6.out, by rw [HRk.out, HNk.out]; exact HV6.out, by rw [HRk.out]; exact HI6.out⟩
              case measure => simp [RowKit.intOf]; omega
            · have hd2 : (DV != va) = true := by simp [hdv]
              rw [if_neg (fun k => hdv k.2)] at HNk
              clear hdc hdv
              have hw1 : IntKind.i64.wrap (nn + 1) = nn + 1 := by simp [IntKind.wrap, IntKind.bits, IntKind.signed]; omega
              have hDA : D0 ≠ AA := by omega
              have hAD : AA ≠ D0 := by omega
              go_upto_region 12 with fail
              refine forget (fun W6 => Res9 w W6 (w.heap.size + 1) ∧ (Var9 W6 AA (.int .i64 0) (.int .i64 0) (.int .i64 (nn + 1)) (.int .i64 R.tm) (.int .i64 R.vt) (.int .i64 R.si) (.int .i64 R.st) (.slice a5 R.sn.length k5) (.slice gg5 R.lg.length j5) ∧ (∀ o, W6.frozen? ⟨AA, o, none⟩ = false)) ∧ ∃ lo hi, w.heap.size + 1 < lo ∧ hi ≤ W6.heap.size ∧ (hi ≤ AA ∨ AA < lo) ∧ IvR lo hi W6 (.slice a5 R.sn.length k5) (.slice gg5 R.lg.length j5) R.sn R.lg) ?sra1 ?_
              case sra1 =>
                have hw6 : Wr (fun x => x = AA) X6 (((((((X6.setCell ⟨AA, 3, none⟩ (.int .i64 R.tm)).setCell ⟨AA, 4, none⟩ (.int .i64 R.vt)).setCell ⟨AA, 5, none⟩ (.int .i64 R.si)).setCell ⟨AA, 6, none⟩ (.int .i64 R.st)).setCell ⟨AA, 7, none⟩ (.slice a5 R.sn.length k5)).setCell ⟨AA, 8, none⟩ (.slice gg5 R.lg.length j5)).setCell ⟨AA, 2, none⟩ (.int .i64 (nn + 1))) := (Wr.setCell (p := ⟨AA, 2, none⟩) (Wr.setCell (p := ⟨AA, 8, none⟩) (Wr.setCell (p := ⟨AA, 7, none⟩) (Wr.setCell (p := ⟨AA, 6, none⟩) (Wr.setCell (p := ⟨AA, 5, none⟩) (Wr.setCell (p := ⟨AA, 4, none⟩) (Wr.setCell (p := ⟨AA, 3, none⟩) (Wr.refl (fun x => x = AA) _) rfl (.int .i64 R.tm)) rfl (.int .i64 R.vt)) rfl (.int .i64 R.si)) rfl (.int .i64 R.st)) rfl (.slice a5 R.sn.length k5)) rfl (.slice gg5 R.lg.length j5)) rfl (.int .i64 (nn + 1)))
                refine ⟨RE.out.wr hw6 (by omega) (fun b hb => by omega), ⟨⟨by simp [go_sem, d0], by simp [go_sem, d1], by simp [go_sem, d2], by simp [go_sem, d3], by simp [go_sem, d4], by simp [go_sem, d5], by simp [go_sem, d6], by simp [go_sem, d7], by simp [go_sem, d8]⟩, fun o => ?_⟩, _, _, q2, ?_, Or.inr q1, IE.out.wr hw6 (fun b h1 h2 e => by omega)⟩
                · simp only [World.frozen?_setCell]; exact AF.out o
                · have := hw6.size; omega
              clear d0 d1 d2 d3 d4 d5 d6 d7 d8 o0 o1 o2 o3 o4 o5 o6 o7 o8 e0 e1 e2 e3 e4 e5 e6 e7 e8 RE AE AF IE
              rintro W6 ⟨hR6, hV6, hI6⟩
              have HR6 := hide hR6
              have HV6 := hide hV6
              have HI6 := hide hI6
              clear hR6 hV6 hI6
              go_wp2
              go_roundw
              case rel => exact ⟨k2 + 1, _, _, hlt, by go_num, HR6.out, by rw [HRk.out, HNk.out]; exact HV6.out, by rw [HRk.out]; exact HI6.out⟩
              case measure => simp [RowKit.intOf]; omega
          · have hd1 : (DC != ra) = true := by simp [hdc]
            rw [if_neg (fun k => hdc k.1)] at HNk
            clear hdc
            have hw1 : IntKind.i64.wrap (nn + 1) = nn + 1 := by simp [IntKind.wrap, IntKind.bits, IntKind.signed]; omega
            have hDA : D0 ≠ AA := by omega
            have hAD : AA ≠ D0 := by omega
            go_upto_region 12 with fail
            refine forget (fun W6 => Res9 w W6 (w.heap.size + 1) ∧ (Var9 W6 AA (.int .i64 0) (.int .i64 0) (.int .i64 (nn + 1)) (.int .i64 R.tm) (.int .i64 R.vt) (.int .i64 R.si) (.int .i64 R.st) (.slice a5 R.sn.length k5) (.slice gg5 R.lg.length j5) ∧ (∀ o, W6.frozen? ⟨AA, o, none⟩ = false)) ∧ ∃ lo hi, w.heap.size + 1 < lo ∧ hi ≤ W6.heap.size ∧ (hi ≤ AA ∨ AA < lo) ∧ IvR lo hi W6 (.slice a5 R.sn.length k5) (.slice gg5 R.lg.length j5) R.sn R.lg) ?sra2 ?_
            case sra2 =>
              have hw6 : Wr (fun x => x = AA) X6 (((((((X6.setCell ⟨AA, 3, none⟩ (.int .i64 R.tm)).setCell ⟨AA, 4, none⟩ (.int .i64 R.vt)).setCell ⟨AA, 5, none⟩ (.int .i64 R.si)).setCell ⟨AA, 6, none⟩ (.int .i64 R.st)).setCell ⟨AA, 7, none⟩ (.slice a5 R.sn.length k5)).setCell ⟨AA, 8, none⟩ (.slice gg5 R.lg.length j5)).setCell ⟨AA, 2, none⟩ (.int .i64 (nn + 1))) := (Wr.setCell (p := ⟨AA, 2, none⟩) (Wr.setCell (p := ⟨AA, 8, none⟩) (Wr.setCell (p := ⟨AA, 7, none⟩) (Wr.setCell (p := ⟨AA, 6, none⟩) (Wr.setCell (p := ⟨AA, 5, none⟩) (Wr.setCell (p := ⟨AA, 4, none⟩) (Wr.setCell (p := ⟨AA, 3, none⟩) (Wr.refl (fun x => x = AA) _) rfl (.int .i64 R.tm)) rfl (.int .i64 R.vt)) rfl (.int .i64 R.si)) rfl (.int .i64 R.st)) rfl (.slice a5 R.sn.length k5)) rfl (.slice gg5 R.lg.length j5)) rfl (.int .i64 (nn + 1)))
              refine ⟨RE.out.wr hw6 (by omega) (fun b hb => by omega), ⟨⟨by simp [go_sem, d0], by simp [go_sem, d1], by simp [go_sem, d2], by simp [go_sem, d3], by simp [go_sem, d4], by simp [go_sem, d5], by simp [go_sem, d6], by simp [go_sem, d7], by simp [go_sem, d8]⟩, fun o => ?_⟩, _, _, q2, ?_, Or.inr q1, IE.out.wr hw6 (fun b h1 h2 e => by omega)⟩
              · simp only [World.frozen?_setCell]; exact AF.out o
              · have := hw6.size; omega
            clear d0 d1 d2 d3 d4 d5 d6 d7 d8 o0 o1 o2 o3 o4 o5 o6 o7 o8 e0 e1 e2 e3 e4 e5 e6 e7 e8 RE AE AF IE
            rintro W6 ⟨hR6, hV6, hI6⟩
            have HR6 := hide hR6
            have HV6 := hide hV6
            have HI6 := hide hI6
            clear hR6 hV6 hI6
            go_wp2
            go_roundw
            case rel => exact ⟨k2 + 1, _, _, hlt, by go_num, HR6.out, by rw [HRk.out, HNk.out]; exact HV6.out, by rw [HRk.out]; exact HI6.out⟩
            case measure => simp [RowKit.intOf]; omega
        · skip
          go_simp
          have hb := below_alloc X0 (.cells #[.int .i64 0, .int .i64 0, .int .i64 0, .int .i64 0, .int .i64 0, .int .i64 0, .int .i64 0, .slice none 0 0, .slice none 0 0] 35)
          have Q0 := cell_later hb P0
          have Q1 := cell_later hb P1
          have Q2 := cell_later hb P2
          have Q3 := cell_later hb P3
          have Q4 := cell_later hb P4
          have Q5 := cell_later hb P5
          have Q6 := cell_later hb P6
          have Q7 := cell_later hb P7
          have Q8 := cell_later hb P8
          have Q9 := cell_later hb P9
          have Q10 := cell_later hb P10
          have Q11 := cell_later hb P11
          have Q12 := cell_later hb P12
          have Q13 := cell_later hb P13
          have Q14 := cell_later hb P14
          refine hK.out _ _ ⟨Q0, Q1, Q2, Q3, Q4, Q5, Q6, Q7, Q8, Q9, Q10, Q11, Q12, Q13, Q14⟩ (fun _ => ?_)
          clear hK K
          try simp only [Act.put, List.setIfInBounds_toArray, List.set_cons_zero, List.set_cons_succ, List.getElem_toArray, List.getElem_cons_zero, List.getElem_cons_succ]
          have HB1 := hide (below_on HBx.out hb)
          have HXb := hide (below_on HXa.out hb)
          have OZ1 := hide (Var9_new X0 (.int .i64 0) (.int .i64 0) (.int .i64 0) (.int .i64 0) (.int .i64 0) (.int .i64 0) (.int .i64 0) (.slice none 0 0) (.slice none 0 0) 35)
          have OF1 : Hid (∀ q, (X0.alloc (.cells #[.int .i64 0, .int .i64 0, .int .i64 0, .int .i64 0, .int .i64 0, .int .i64 0, .int .i64 0, .slice none 0 0, .slice none 0 0] 35)).frozen? ⟨X0.heap.size, q, none⟩ = false) := fun q => by simp [go_sem]
          have hx1 : (X0.alloc (.cells #[.int .i64 0, .int .i64 0, .int .i64 0, .int .i64 0, .int .i64 0, .int .i64 0, .int .i64 0, .slice none 0 0, .slice none 0 0] 35)).heap.size = X0.heap.size + 1 := by simp
          obtain ⟨X1, hX1⟩ : ∃ x, X0.alloc (.cells #[.int .i64 0, .int .i64 0, .int .i64 0, .int .i64 0, .int .i64 0, .int .i64 0, .int .i64 0, .slice none 0 0, .slice none 0 0] 35) = x := ⟨_, rfl⟩
          refine forgetH (fun wx => wx = X1) hX1 ?_
          rw [hX1] at HB1 HXb OZ1 OF1 hx1 Q0 Q1 Q2 Q3 Q4 Q5 Q6 Q7 Q8 Q9 Q10 Q11 Q12 Q13 Q14
          clear hX1 hb hHeld P0 P1 P2 P3 P4 P5 P6 P7 P8 P9 P10 P11 P12 P13 P14
          intro wz hwz
          rw [hwz]
          clear hwz wz
          refine wpAnyH_ready (rs := [12]) (by kernel_rfl) (by simp) (AllReadyH.cons rfl (fun K hK => ?_) (AllReadyH.nil))
          go_simp
          go_at_call 35
          refine (HC.out _ HB1.out).mono ?_
          rintro e X2 ⟨y5, z5, rfl, hb, ho⟩
          obtain ⟨a5, k5, gg5, j5, ey, ez⟩ := ho.shape
          subst ey
          subst ez
          have S0 := cell_later hb Q0
          have S1 := cell_later hb Q1
          have S2 := cell_later hb Q2
          have S3 := cell_later hb Q3
          have S4 := cell_later hb Q4
          have S5 := cell_later hb Q5
          have S6 := cell_later hb Q6
          have S7 := cell_later hb Q7
          have S8 := cell_later hb Q8
          have S9 := cell_later hb Q9
          have S10 := cell_later hb Q10
          have S11 := cell_later hb Q11
          have S12 := cell_later hb Q12
          have S13 := cell_later hb Q13
          have S14 := cell_later hb Q14
          refine hK.out _ _ ⟨S0, S1, S2, S3, S4, S5, S6, S7, S8, S9, S10, S11, S12, S13, S14⟩ (fun _ => ?_)
          clear hK K HC
          try simp only [Act.put, List.setIfInBounds_toArray, List.set_cons_zero, List.set_cons_succ, List.getElem_toArray, List.getElem_cons_zero, List.getElem_cons_succ]
          have HBX := hide (below_on HB1.out hb)
          have HXx := hide (below_on HXb.out hb)
          have IX := hide ho
          have OZ := hide (OZ1.out.later hb)
          have OF : Hid (∀ q, X2.frozen? ⟨X0.heap.size, q, none⟩ = false) := fun q => ((bcell hb).2 _ _ OZ1.out.lt).trans (OF1.out q)
          have hx2 := hb.size
          clear hb ho HB1 OZ1 OF1 Q0 Q1 Q2 Q3 Q4 Q5 Q6 Q7 Q8 Q9 Q10 Q11 Q12 Q13 Q14
          obtain ⟨o0, o1, o2, o3, o4, o5, o6, o7, o8⟩ := OZ.out
          have u0 := OF.out 0
          have u1 := OF.out 1
          have u2 := OF.out 2
          have u3 := OF.out 3
          have u4 := OF.out 4
          have u5 := OF.out 5
          have u6 := OF.out 6
          have u7 := OF.out 7
          have u8 := OF.out 8
          refine wpAnyH_ready (rs := [14]) (by kernel_rfl) (by simp) (AllReadyH.cons rfl (fun K hK => ?_) (AllReadyH.nil))
          go_simp
          have hne : AA ≠ X0.heap.size := by omega
          refine hK.out _ _ ⟨(set9_other (show AA ≠ X0.heap.size by omega)).trans S0, (set9_other (show AA ≠ X0.heap.size by omega)).trans S1, (set9_other (show AA ≠ X0.heap.size by omega)).trans S2, (set9_other (show AA ≠ X0.heap.size by omega)).trans S3, (set9_other (show AA ≠ X0.heap.size by omega)).trans S4, (set9_other (show AA ≠ X0.heap.size by omega)).trans S5, (set9_other (show D0 ≠ X0.heap.size by omega)).trans S6, (set9_other (show D0 ≠ X0.heap.size by omega)).trans S7, (set9_other (show b1 ≠ X0.heap.size by omega)).trans S8, (set9_other (show b2 ≠ X0.heap.size by omega)).trans S9, (set9_other (show b2 ≠ X0.heap.size by omega)).trans S10, (set9_other (show b2 ≠ X0.heap.size by omega)).trans S11, (set9_other (show b2 ≠ X0.heap.size by omega)).trans S12, (set9_other (show b2 ≠ X0.heap.size by omega)).trans S13, (set9_other (show b2 ≠ X0.heap.size by omega)).trans S14⟩ (fun _ => ?_)
          clear hK K
          try simp only [Act.put, List.setIfInBounds_toArray, List.set_cons_zero, List.set_cons_succ, List.getElem_toArray, List.getElem_cons_zero, List.getElem_cons_succ]
          refine wpAnyH_done (by kernel_rfl) ?_ _
          refine forgetXh (fun X6 => Res9 w X6 (w.heap.size + 1) ∧ Var9 X6 AA (.int .i64 0) (.int .i64 0) (.int .i64 nn) (.int .i64 Q.tm) (.int .i64 Q.vt) (.int .i64 Q.si) (.int .i64 Q.st) (.slice a6 Q.sn.length k6) (.slice g6 Q.lg.length j6) ∧ (∀ o, X6.frozen? ⟨AA, o, none⟩ = false) ∧ Var9 X6 (X0.heap.size) (.int .i64 0) (.int .i64 DC) (.int .i64 DV) (.int .i64 R.tm) (.int .i64 R.vt) (.int .i64 R.si) (.int .i64 R.st) (.slice a5 R.sn.length k5) (.slice gg5 R.lg.length j5) ∧ X6.cell? ⟨D0, 2, none⟩ = some (.int .i64 ra) ∧ X6.cell? ⟨D0, 3, none⟩ = some (.int .i64 va) ∧ ∃ lo hi, AA < lo ∧ w.heap.size + 1 < lo ∧ hi ≤ X6.heap.size ∧ IvR lo hi X6 (.slice a5 R.sn.length k5) (.slice gg5 R.lg.length j5) R.sn R.lg) ?sob ?_
          case sob =>
            have hw5 : Wr (fun x => x = X0.heap.size) X2 (((((((((X2.setCell ⟨X0.heap.size, 0, none⟩ (.int .i64 0)).setCell ⟨X0.heap.size, 1, none⟩ (.int .i64 DC)).setCell ⟨X0.heap.size, 2, none⟩ (.int .i64 DV)).setCell ⟨X0.heap.size, 3, none⟩ (.int .i64 R.tm)).setCell ⟨X0.heap.size, 4, none⟩ (.int .i64 R.vt)).setCell ⟨X0.heap.size, 5, none⟩ (.int .i64 R.si)).setCell ⟨X0.heap.size, 6, none⟩ (.int .i64 R.st)).setCell ⟨X0.heap.size, 7, none⟩ (.slice a5 R.sn.length k5)).setCell ⟨X0.heap.size, 8, none⟩ (.slice gg5 R.lg.length j5)) := (Wr.setCell (p := ⟨X0.heap.size, 8, none⟩) (Wr.setCell (p := ⟨X0.heap.size, 7, none⟩) (Wr.setCell (p := ⟨X0.heap.size, 6, none⟩) (Wr.setCell (p := ⟨X0.heap.size, 5, none⟩) (Wr.setCell (p := ⟨X0.heap.size, 4, none⟩) (Wr.setCell (p := ⟨X0.heap.size, 3, none⟩) (Wr.setCell (p := ⟨X0.heap.size, 2, none⟩) (Wr.setCell (p := ⟨X0.heap.size, 1, none⟩) (Wr.setCell (p := ⟨X0.heap.size, 0, none⟩) (Wr.refl (fun x => x = X0.heap.size) _) rfl (.int .i64 0)) rfl (.int .i64 DC)) rfl (.int .i64 DV)) rfl (.int .i64 R.tm)) rfl (.int .i64 R.vt)) rfl (.int .i64 R.si)) rfl (.int .i64 R.st)) rfl (.slice a5 R.sn.length k5)) rfl (.slice gg5 R.lg.length j5))
            have hRX := HR9.out.later HBX.out
            have hAX := HVv.out.later HBX.out
            exact ⟨hRX.wr hw5 (by omega) (fun b hb => by omega), hAX.wr hw5 hne, fun o => (hw5.frz _ _ hAX.lt).trans (((bcell HBX.out).2 _ _ hAl).trans (HfA.out o)), ⟨by simp [go_sem, o0], by simp [go_sem, o1], by simp [go_sem, o2], by simp [go_sem, o3], by simp [go_sem, o4], by simp [go_sem, o5], by simp [go_sem, o6], by simp [go_sem, o7], by simp [go_sem, o8]⟩, (set9_other (show D0 ≠ X0.heap.size by omega)).trans (cell_later HXx.out HE2.out), (set9_other (show D0 ≠ X0.heap.size by omega)).trans (cell_later HXx.out HE3.out), _, _, by omega, by omega, by have := hw5.size; omega, IX.out.wr hw5 (fun b h1 h2 e => by omega)⟩
          clear o0 o1 o2 o3 o4 o5 o6 o7 o8 S0 S1 S2 S3 S4 S5 S6 S7 S8 S9 S10 S11 S12 S13 S14 u0 u1 u2 u3 u4 u5 u6 u7 u8 OZ OF HBX IX hne
          rintro X6 ⟨hR6, hA6, hF6, hO6, hE2, hE3, lo6, hi6, q1, q2, q3, hI6⟩
          have RE := hide hR6
          have AE := hide hA6
          have AF := hide hF6
          have IE := hide hI6
          obtain ⟨o0, o1, o2, o3, o4, o5, o6, o7, o8⟩ := hO6
          obtain ⟨d0, d1, d2, d3, d4, d5, d6, d7, d8⟩ := AE.out
          have e0 := AF.out 0
          have e1 := AF.out 1
          have e2 := AF.out 2
          have e3 := AF.out 3
          have e4 := AF.out 4
          have e5 := AF.out 5
          have e6 := AF.out 6
          have e7 := AF.out 7
          have e8 := AF.out 8
          clear hR6 hA6 hF6 hI6 HR9 HVv HfA IV HBx
          by_cases hdc : DC = ra
          · have hd1 : (DC != ra) = false := by simp [hdc]
            by_cases hdv : DV = va
            · have hd2 : (DV != va) = false := by simp [hdv]
              rw [if_pos ⟨hdc, hdv⟩, Int.add_zero] at HNk
              clear hdc hdv
              have hDA : D0 ≠ AA := by omega
              have hAD : AA ≠ D0 := by omega
              go_upto_region 12 with fail
              refine forget (fun W6 => Res9 w W6 (w.heap.size + 1) ∧ (Var9 W6 AA (.int .i64 0) (.int .i64 0) (.int .i64 nn) (.int .i64 R.tm) (.int .i64 R.vt) (.int .i64 R.si) (.int .i64 R.st) (.slice a5 R.sn.length k5) (.slice gg5 R.lg.length j5) ∧ (∀ o, W6.frozen? ⟨AA, o, none⟩ = false)) ∧ ∃ lo hi, w.heap.size + 1 < lo ∧ hi ≤ W6.heap.size ∧ (hi ≤ AA ∨ AA < lo) ∧ IvR lo hi W6 (.slice a5 R.sn.length k5) (.slice gg5 R.lg.length j5) R.sn R.lg) ?srb0 ?_
              case srb0 =>
                have hw6 : Wr (fun x => x = AA) X6 ((((((X6.setCell ⟨AA, 3, none⟩ (.int .i64 R.tm)).setCell ⟨AA, 4, none⟩ (.int .i64 R.vt)).setCell ⟨AA, 5, none⟩ (.int .i64 R.si)).setCell ⟨AA, 6, none⟩ (.int .i64 R.st)).setCell ⟨AA, 7, none⟩ (.slice a5 R.sn.length k5)).setCell ⟨AA, 8, none⟩ (.slice gg5 R.lg.length j5)) := (Wr.setCell (p := ⟨AA, 8, none⟩) (Wr.setCell (p := ⟨AA, 7, none⟩) (Wr.setCell (p := ⟨AA, 6, none⟩) (Wr.setCell (p := ⟨AA, 5, none⟩) (Wr.setCell (p := ⟨AA, 4, none⟩) (Wr.setCell (p := ⟨AA, 3, none⟩) (Wr.refl (fun x => x = AA) _) rfl (.int .i64 R.tm)) rfl (.int .i64 R.vt)) rfl (.int .i64 R.si)) rfl (.int .i64 R.st)) rfl (.slice a5 R.sn.length k5)) rfl (.slice gg5 R.lg.length j5))
                refine ⟨RE.out.wr hw6 (by omega) (fun b hb => by omega), ⟨⟨by simp [go_sem, d0], by simp [go_sem, d1], by simp [go_sem, d2], by simp [go_sem, d3], by simp [go_sem, d4], by simp [go_sem, d5], by simp [go_sem, d6], by simp [go_sem, d7], by simp [go_sem, d8]⟩, fun o => ?_⟩, _, _, q2, ?_, Or.inr q1, IE.out.wr hw6 (fun b h1 h2 e => by omega)⟩
                · simp only [World.frozen?_setCell]; exact AF.out o
                · have := hw6.size; omega
              clear d0 d1 d2 d3 d4 d5 d6 d7 d8 o0 o1 o2 o3 o4 o5 o6 o7 o8 e0 e1 e2 e3 e4 e5 e6 e7 e8 RE AE AF IE
              rintro W6 ⟨hR6, hV6, hI6⟩
              have HR6 := hide hR6
              have HV6 := hide hV6
              have HI6 := hide hI6
              clear hR6 hV6 hI6
              go_wp2
              go_roundw
              case rel => exact ⟨k2 + 1, _, _, hlt, by go_num, HR6.out, by rw [HRk.out, HNk.out]; exact HV6.out, by rw [HRk.out]; exact HI6.out⟩
              case measure => simp [RowKit.intOf]; omega
            · have hd2 : (DV != va) = true := by simp [hdv]
              rw [if_neg (fun k => hdv k.2)] at HNk
              clear hdc hdv
              have hw1 : IntKind.i64.wrap (nn + 1) = nn + 1 := by simp [IntKind.wrap, IntKind.bits, IntKind.signed]; omega
              have hDA : D0 ≠ AA := by omega
              have hAD : AA ≠ D0 := by omega
              go_upto_region 12 with fail
              refine forget (fun W6 => Res9 w W6 (w.heap.size + 1) ∧ (Var9 W6 AA (.int .i64 0) (.int .i64 0) (.int .i64 (nn + 1)) (.int .i64 R.tm) (.int .i64 R.vt) (.int .i64 R.si) (.int .i64 R.st) (.slice a5 R.sn.length k5) (.slice gg5 R.lg.length j5) ∧ (∀ o, W6.frozen? ⟨AA, o, none⟩ = false)) ∧ ∃ lo hi, w.heap.size + 1 < lo ∧ hi ≤ W6.heap.size ∧ (hi ≤ AA ∨ AA < lo) ∧ IvR lo hi W6 (.slice a5 R.sn.length k5) (.slice gg5 R.lg.length j5) R.sn R.lg) ?srb1 ?_
              case srb1 =>
                have hw6 : Wr (fun x => x = AA) X6 (((((((X6.setCell ⟨AA, 3, none⟩ (.int .i64 R.tm)).setCell ⟨AA, 4, none⟩ (.int .i64 R.vt)).setCell ⟨AA, 5, none⟩ (.int .i64 R.si)).setCell ⟨AA, 6, none⟩ (.int .i64 R.st)).setCell ⟨AA, 7, none⟩ (.slice a5 R.sn.length k5)).setCell ⟨AA, 8, none⟩ (.slice gg5 R.lg.length j5)).setCell ⟨AA, 2, none⟩ (.int .i64 (nn + 1))) := (Wr.setCell (p := ⟨AA, 2, none⟩) (Wr.setCell (p := ⟨AA, 8, none⟩) (Wr.setCell (p := ⟨AA, 7, none⟩) (Wr.setCell (p := ⟨AA, 6, none⟩) (Wr.setCell (p := ⟨AA, 5, none⟩) (Wr.setCell (p := ⟨AA, 4, none⟩) (Wr.setCell (p := ⟨AA, 3, none⟩) (Wr.refl (fun x => x = AA) _) rfl (.int .i64 R.tm)) rfl (.int .i64 R.vt)) rfl (.int .i64 R.si)) rfl (.int .i64 R.st)) rfl (.slice a5 R.sn.length k5)) rfl (.slice gg5 R.lg.length j5)) rfl (.int .i64 (nn + 1)))
                refine ⟨RE.out.wr hw6 (by omega) (fun b hb => by omega), ⟨⟨by simp [go_sem, d0], by simp [go_sem, d1], by simp [go_sem, d2], by simp [go_sem, d3], by simp [go_sem, d4], by simp [go_sem, d5], by simp [go_sem, d6], by simp [go_sem, d7], by simp [go_sem, d8]⟩, fun o => ?_⟩, _, _, q2, ?_, Or.inr q1, IE.out.wr hw6 (fun b h1 h2 e => by omega)⟩
                · simp only [World.frozen?_setCell]; exact AF.out o
                · have := hw6.size; omega
              clear d0 d1 d2 d3 d4 d5 d6 d7 d8 o0 o1 o2 o3 o4 o5 o6 o7 o8 e0 e1 e2 e3 e4 e5 e6 e7 e8 RE AE AF IE
              rintro W6 ⟨hR6, hV6, hI6⟩
              have HR6 := hide hR6
              have HV6 := hide hV6
              have HI6 := hide hI6
              clear hR6 hV6 hI6
              go_wp2
              go_roundw
              case rel => exact ⟨k2 + 1, _, _, hlt, by go_num, HR6.out, by rw [HRk.out, HNk.out]; exact HV6.out, by rw [HRk.out]; exact HI6.out⟩
              case measure => simp [RowKit.intOf]; omega
          · have hd1 : (DC != ra) = true := by simp [hdc]
            rw [if_neg (fun k => hdc k.1)] at HNk
            clear hdc
            have hw1 : IntKind.i64.wrap (nn + 1) = nn + 1 := by simp [IntKind.wrap, IntKind.bits, IntKind.signed]; omega
            have hDA : D0 ≠ AA := by omega
            have hAD : AA ≠ D0 := by omega
            go_upto_region 12 with fail
            refine forget (fun W6 => Res9 w W6 (w.heap.size + 1) ∧ (Var9 W6 AA (.int .i64 0) (.int .i64 0) (.int .i64 (nn + 1)) (.int .i64 R.tm) (.int .i64 R.vt) (.int .i64 R.si) (.int .i64 R.st) (.slice a5 R.sn.length k5) (.slice gg5 R.lg.length j5) ∧ (∀ o, W6.frozen? ⟨AA, o, none⟩ = false)) ∧ ∃ lo hi, w.heap.size + 1 < lo ∧ hi ≤ W6.heap.size ∧ (hi ≤ AA ∨ AA < lo) ∧ IvR lo hi W6 (.slice a5 R.sn.length k5) (.slice gg5 R.lg.length j5) R.sn R.lg) ?srb2 ?_
            case srb2 =>
              have hw6 : Wr (fun x => x = AA) X6 (((((((X6.setCell ⟨AA, 3, none⟩ (.int .i64 R.tm)).setCell ⟨AA, 4, none⟩ (.int .i64 R.vt)).setCell ⟨AA, 5, none⟩ (.int .i64 R.si)).setCell ⟨AA, 6, none⟩ (.int .i64 R.st)).setCell ⟨AA, 7, none⟩ (.slice a5 R.sn.length k5)).setCell ⟨AA, 8, none⟩ (.slice gg5 R.lg.length j5)).setCell ⟨AA, 2, none⟩ (.int .i64 (nn + 1))) := (Wr.setCell (p := ⟨AA, 2, none⟩) (Wr.setCell (p := ⟨AA, 8, none⟩) (Wr.setCell (p := ⟨AA, 7, none⟩) (Wr.setCell (p := ⟨AA, 6, none⟩) (Wr.setCell (p := ⟨AA, 5, none⟩) (Wr.setCell (p := ⟨AA, 4, none⟩) (Wr.setCell (p := ⟨AA, 3, none⟩) (Wr.refl (fun x => x = AA) _) rfl (.int .i64 R.tm)) rfl (.int .i64 R.vt)) rfl (.int .i64 R.si)) rfl (.int .i64 R.st)) rfl (.slice a5 R.sn.length k5)) rfl (.slice gg5 R.lg.length j5)) rfl (.int .i64 (nn + 1)))
              refine ⟨RE.out.wr hw6 (by omega) (fun b hb => by omega), ⟨⟨by simp [go_sem, d0], by simp [go_sem, d1], by simp [go_sem, d2], by simp [go_sem, d3], by simp [go_sem, d4], by simp [go_sem, d5], by simp [go_sem, d6], by simp [go_sem, d7], by simp [go_sem, d8]⟩, fun o => ?_⟩, _, _, q2, ?_, Or.inr q1, IE.out.wr hw6 (fun b h1 h2 e => by omega)⟩
              · simp only [World.frozen?_setCell]; exact AF.out o
              · have := hw6.size; omega
            clear d0 d1 d2 d3 d4 d5 d6 d7 d8 o0 o1 o2 o3 o4 o5 o6 o7 o8 e0 e1 e2 e3 e4 e5 e6 e7 e8 RE AE AF IE
            rintro W6 ⟨hR6, hV6, hI6⟩
            have HR6 := hide hR6
            have HV6 := hide hV6
            have HI6 := hide hI6
            clear hR6 hV6 hI6
            go_wp2
            go_roundw
            case rel => exact ⟨k2 + 1, _, _, hlt, by go_num, HR6.out, by rw [HRk.out, HNk.out]; exact HV6.out, by rw [HRk.out]; exact HI6.out⟩
            case measure => simp [RowKit.intOf]; omega
      · have hkk : k2 = n := by omega
        subst hkk
        have HFn := hide (ret_op (w := w) (r := w.heap.size + 1) (x0 := .int .i64 0) (x1 := .int .i64 0) (x2 := .int .i64 nn) (x3 := .int .i64 Q.tm) (x4 := .int .i64 Q.vt) (x5 := .int .i64 Q.si) (x6 := .int .i64 Q.st) HR9.out.below HR9.out.ge (IV.out.up (Nat.le_refl _) hhi) hlo)
        obtain ⟨_, ⟨c0, c1, c2, c3, c4, c5, c6, c7, c8⟩, FF, _⟩ := HR9.out
        have f0 := FF 0
        have f1 := FF 1
        have f2 := FF 2
        have f3 := FF 3
        have f4 := FF 4
        have f5 := FF 5
        have f6 := FF 6
        have f7 := FF 7
        have f8 := FF 8
        clear FF
        have HQ := hide hQ
        have HNN := hide hnn
        clear hQ hnn
        go_wp2
        refine bodyPost_ret (v := .agg #[.int .i64 0, .int .i64 0, .int .i64 nn, .int .i64 Q.tm, .int .i64 Q.vt, .int .i64 Q.si, .int .i64 Q.st, .slice a6 Q.sn.length k6, .slice g6 Q.lg.length j6]) (by simp [results, Tryz.results11, go_sem, c0, c1, c2, c3, c4, c5, c6, c7, c8]) rfl ?_
        rw [HQ.out, HNN.out]
        exact ⟨_, _, rfl, HFn.out.1, HFn.out.2⟩
  · have h0b : (C == 0) = false := by simpa using h0
    have h0c : (C != 0) = true := by simp [h0]
    obtain ⟨rfl, rfl⟩ := HBad.out h0
    clear h0
    have HFn := hide (ret_op (w := w) (r := w.heap.size + 1) (x0 := .int .i64 C) (x1 := .int .i64 0) (x2 := .int .i64 0) (x3 := .int .i64 0) (x4 := .int .i64 0) (x5 := .int .i64 0) (x6 := .int .i64 0) RB.out.below RB.out.ge (IvR_nil (w.heap.size + 2) w1) (by omega))
    obtain ⟨_, ⟨c0, c1, c2, c3, c4, c5, c6, c7, c8⟩, FF, _⟩ := RB.out
    have f0 := FF 0
    have f1 := FF 1
    have f2 := FF 2
    have f3 := FF 3
    have f4 := FF 4
    have f5 := FF 5
    have f6 := FF 6
    have f7 := FF 7
    have f8 := FF 8
    clear FF
    go_wp2
    refine bodyPost_ret (v := .agg #[.int .i64 C, .int .i64 0, .int .i64 0, .int .i64 0, .int .i64 0, .int .i64 0, .int .i64 0, .slice none 0 0, .slice none 0 0]) (by simp [results, Tryz.results11, go_sem, c0, c1, c2, c3, c4, c5, c6, c7, c8]) rfl ⟨_, _, rfl, HFn.out.1, HFn.out.2⟩
end Go.Proofs.YtcmdgnemkjfckaaGreatDoor
