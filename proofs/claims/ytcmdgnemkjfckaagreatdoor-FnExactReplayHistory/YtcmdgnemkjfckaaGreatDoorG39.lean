/- Rh4 in one text: what each says stands at its head below. -/
import Derived.Test.YtcmdgnemkjfckaaGreatDoorG28
import Derived.Test.YtcmdgnemkjfckaaGreatDoorG38
import Derived.Deep.RegionHeld3
/- Chapter 15: 'ReplayHistory' of the model, walked. Made by program (genrh.py). -/
namespace Go.Proofs.YtcmdgnemkjfckaaGreatDoor
open Go.RowKit

set_option linter.unusedSimpArgs false in
set_option maxHeartbeats 16000000 in
set_option maxRecDepth 4000 in
theorem specReplayHistory {S T D : Nat → Prop} {w : World} {y z u v : Value} {ts : List Tq} {ds : List Dn} (r : Rf) (hy : RdI S w y r.sn) (hz : RdJ T w z r.lg) (ht : RdThsC w u ts) (hd : RdDn D w v ds) :
    Calls Tryz.prog 7 #[.agg #[.int .i64 r.tm, .int .i64 r.vt, .int .i64 r.si, .int .i64 r.st, y, z], u, v] w (EndsO8 (rhC r ts ds) 0 (rhV r ts ds) (rhA r ts ds).tm (rhA r ts ds).vt (rhA r ts ds).si (rhA r ts ds).st (rhA r ts ds).sn (rhA r ts ds).lg w) := by
  obtain ⟨ay, cy, rfl⟩ := hy.shape
  obtain ⟨az, cz, rfl, _⟩ := hz.shape
  obtain ⟨au, cu, rfl, hum⟩ := ht.shape
  obtain ⟨av, cv, rfl⟩ := hd.shape
  have hvm := hd.max
  have HBad := hide (@rh_bad r ts ds)
  have HOk := hide (@rh_ok r ts ds)
  have HT := hide ht
  have HD := hide hd
  have HF := hide (fun (w' : World) (hb : Below w.heap.size w w') (h6 : Var6 w' w.heap.size (.int .i64 r.tm) (.int .i64 r.vt) (.int .i64 r.si) (.int .i64 r.st) (.slice ay r.sn.length cy) (.slice az r.lg.length cz)) => l10Fault r h6 (hy.later hb) (hz.later hb))
  have HBadC := hide (@rhC_bad r ts ds)
  have HMany := hide (@rhC_many r ts ds)
  have HOp := hide (@rhC_op r ts ds)
  have HCp := hide (fun (h : rfF r = 0) (w' : World) (hb : Below w.heap.size w w') => l10CopyI r.tm r.vt r.si r.st (hy.later hb) (hz.later hb) (room_of h).1 (room_of h).2.1 (room_of h).2.2)
  have HTt := hide (fun (h : rfF r = 0) (k : Nat) => rhR_tot (ts := ts) (ds := ds) (tot_of h) k)
  have HAll := hide (@rhF_all ts ds)
  have HNl := hide (rhN_le r ts ds)
  have HR0 : Hid (rhR r ts ds 0 = r) := rfl
  have HRs : Hid (∀ k, rhR r ts ds (k + 1) = dyR (rhR r ts ds k) (rhO ts (ds.getD k dn0))) := fun _ => rfl
  have HN0 : Hid (rhN r ts ds 0 = 0) := rfl
  have HNs : Hid (∀ k, rhN r ts ds (k + 1) = rhN r ts ds k + (if dyC (rhR r ts ds k) (rhO ts (ds.getD k dn0)) = (ds.getD k dn0).2.2.1 ∧ dyV (rhR r ts ds k) (rhO ts (ds.getD k dn0)) = (ds.getD k dn0).2.2.2 then 0 else 1)) := fun _ => rfl
  obtain ⟨C, hC⟩ : ∃ x, rhC r ts ds = x := ⟨_, rfl⟩
  obtain ⟨V, hV⟩ : ∃ x, rhV r ts ds = x := ⟨_, rfl⟩
  obtain ⟨A, hA⟩ : ∃ x, rhA r ts ds = x := ⟨_, rfl⟩
  rw [hC] at HBad HOk HBadC HMany HOp
  rw [hV, hA] at HBad HOk
  rw [hC, hV, hA]
  obtain ⟨Z, hZ⟩ : ∃ x, rfF r = x := ⟨_, rfl⟩
  rw [hZ] at HF HBadC HMany HOp HOk HCp HTt
  obtain ⟨n, hn⟩ : ∃ x, ds.length = x := ⟨_, rfl⟩
  obtain ⟨m, hm⟩ : ∃ x, ts.length = x := ⟨_, rfl⟩
  have HN := hide hn
  have HM := hide hm
  have HF0 : Hid (cfr (fun i => rhG ts (ds.getD i dn0)) (n - 0) 0 = rhF ts ds) := by rw [Hid, Nat.sub_zero, ← hn]; rfl
  rw [hn] at HD HOk HAll hvm HMany HOp ⊢
  rw [hm] at HT HOk hum HMany HOp ⊢
  obtain ⟨F, hF⟩ : ∃ x, rhF ts ds = x := ⟨_, rfl⟩
  rw [hF] at HOp HF0 HOk HAll
  clear hC hV hA hn hm hy hz ht hd hZ hF
  obtain ⟨rn, hrn⟩ : ∃ f, rhN r ts ds = f := ⟨_, rfl⟩
  obtain ⟨rr, hrr⟩ : ∃ f, rhR r ts ds = f := ⟨_, rfl⟩
  rw [hrn] at HOk HNl HN0 HNs
  rw [hrr] at HOk HTt HR0 HRs HNs
  clear hrn hrr
  have BA0 := below_on (below_alloc w (.cells #[.int .i64 r.tm, .int .i64 r.vt, .int .i64 r.si, .int .i64 r.st, .slice ay r.sn.length cy, .slice az r.lg.length cz] 33)) (below_alloc _ (.cells #[.int .i64 0, .int .i64 0, .int .i64 0, .int .i64 0, .int .i64 0, .int .i64 0, .int .i64 0, .slice none 0 0, .slice none 0 0] 35))
  have VR0 := (Var6_new w (.int .i64 r.tm) (.int .i64 r.vt) (.int .i64 r.si) (.int .i64 r.st) (.slice ay r.sn.length cy) (.slice az r.lg.length cz) 33).later (below_alloc _ (.cells #[.int .i64 0, .int .i64 0, .int .i64 0, .int .i64 0, .int .i64 0, .int .i64 0, .int .i64 0, .slice none 0 0, .slice none 0 0] 35))
  have RA0 := Res9.new (below_alloc w (.cells #[.int .i64 r.tm, .int .i64 r.vt, .int .i64 r.si, .int .i64 r.st, .slice ay r.sn.length cy, .slice az r.lg.length cz] 33)) 35
  rw [World.size_alloc] at RA0
  obtain ⟨W2, hW2⟩ : ∃ x, ((w.alloc (.cells #[.int .i64 r.tm, .int .i64 r.vt, .int .i64 r.si, .int .i64 r.st, .slice ay r.sn.length cy, .slice az r.lg.length cz] 33)).alloc (.cells #[.int .i64 0, .int .i64 0, .int .i64 0, .int .i64 0, .int .i64 0, .int .i64 0, .int .i64 0, .slice none 0 0, .slice none 0 0] 35)) = x := ⟨_, rfl⟩
  rw [hW2] at BA0 VR0 RA0
  have BA := hide BA0
  have VA := hide VR0
  have RA := hide RA0
  clear BA0 VR0 RA0
  go_enter Tryz.func7, Tryz.ntmps7
  go_upto_region 1 with fail
  (try rw [hW2])
  clear hW2
  have HE := hide (HF.out _ BA.out VA.out)
  go_wp2_with fail
  refine HE.out.mono ?_
  rintro e w1 ⟨rfl, hb⟩
  have BB := hide (below_on BA.out hb)
  have VB := hide (VA.out.later hb)
  have RB := hide (RA.out.later hb)
  clear hb VA RA BA HE HF
  have hr1 := RB.out.lt
  by_cases h0 : Z = 0
  · subst h0
    by_cases h8 : 8 < m
    · have h8' : (8 : Int) < (m : Int) := by omega
      have hC2 := HMany.out (by first | trivial | rfl) (Or.inl h8)
      subst hC2
      obtain ⟨rfl, rfl⟩ := HBad.out (by decide)
      have HFn := hide (ret_op (w := w) (r := w.heap.size + 1) (x0 := .int .i64 2) (x1 := .int .i64 0) (x2 := .int .i64 0) (x3 := .int .i64 0) (x4 := .int .i64 0) (x5 := .int .i64 0) (x6 := .int .i64 0) RB.out.below RB.out.ge (IvR_nil (w.heap.size + 2) w1) (by omega))
      obtain ⟨_, ⟨c0, c1, c2, c3, c4, c5, c6, c7, c8⟩, FF, _⟩ := RB.out
      have f0 := FF 0
      have f1 := FF 1
      have f2 := FF 2
      have f3 := FF 3
      have f4 := FF 4
      have f5 := FF 5
      have f6 := FF 6
      have f7 := FF 7
      have f8 := FF 8
      clear FF
      go_wp2
      refine bodyPost_ret (v := .agg #[.int .i64 2, .int .i64 0, .int .i64 0, .int .i64 0, .int .i64 0, .int .i64 0, .int .i64 0, .slice none 0 0, .slice none 0 0]) (by simp [results, Tryz.results7, go_sem, c0, c1, c2, c3, c4, c5, c6, c7, c8]) rfl ⟨_, _, rfl, HFn.out.1, HFn.out.2⟩
    · have h8' : ¬ (8 : Int) < (m : Int) := by omega
      by_cases h60 : 60 < n
      · have h60' : (60 : Int) < (n : Int) := by omega
        have hC2 := HMany.out (by first | trivial | rfl) (Or.inr h60)
        subst hC2
        obtain ⟨rfl, rfl⟩ := HBad.out (by decide)
        have HFn := hide (ret_op (w := w) (r := w.heap.size + 1) (x0 := .int .i64 2) (x1 := .int .i64 0) (x2 := .int .i64 0) (x3 := .int .i64 0) (x4 := .int .i64 0) (x5 := .int .i64 0) (x6 := .int .i64 0) RB.out.below RB.out.ge (IvR_nil (w.heap.size + 2) w1) (by omega))
        obtain ⟨_, ⟨c0, c1, c2, c3, c4, c5, c6, c7, c8⟩, FF, _⟩ := RB.out
        have f0 := FF 0
        have f1 := FF 1
        have f2 := FF 2
        have f3 := FF 3
        have f4 := FF 4
        have f5 := FF 5
        have f6 := FF 6
        have f7 := FF 7
        have f8 := FF 8
        clear FF
        go_wp2
        refine bodyPost_ret (v := .agg #[.int .i64 2, .int .i64 0, .int .i64 0, .int .i64 0, .int .i64 0, .int .i64 0, .int .i64 0, .slice none 0 0, .slice none 0 0]) (by simp [results, Tryz.results7, go_sem, c0, c1, c2, c3, c4, c5, c6, c7, c8]) rfl ⟨_, _, rfl, HFn.out.1, HFn.out.2⟩
      · have h60' : ¬ (60 : Int) < (n : Int) := by omega
        have hCF := HOp.out (by first | trivial | rfl) (fun k => k.elim h8 h60)
        subst hCF
        clear HBadC HMany HOp
        go_wp2
        go_loopw [8] (fun i wr => ∃ k : Nat, k ≤ n ∧ i = .int .i64 k ∧ Hid (cfr (fun i => rhG ts (ds.getD i dn0)) (n - k) k = C) ∧ Hid (Below w1.heap.size w1 wr)) (fun i _ => n - (RowKit.intOf i).toNat)
        case atStart => exact ⟨0, Nat.zero_le _, rfl, HF0.out, Below.refl _ _⟩
        case round =>
          clear HF0
          obtain ⟨k, hk, rfl, HK, HB⟩ := hrel
          by_cases hlt : k < n
          · skip
            obtain ⟨bd, od, rfl, hA⟩ := HD.out.at (k := k) (by rw [HN.out]; exact hlt)
            obtain ⟨d, hd⟩ : ∃ d, ds.getD k dn0 = d := ⟨_, rfl⟩
            rw [hd] at hA
            have HDd := hide hd
            clear hd
            have hA := hA.later (below_on BB.out HB.out)
            obtain ⟨p, q, ra, va⟩ := d
            obtain ⟨g0, g1, g2, g3⟩ := hA
            simp only [] at g0 g1 g2 g3
            have hk0 : (0 : Int) ≤ (k : Int) := by omega
            have hk1 : (k : Int) < (n : Int) := by omega
            have hbl := World.block_lt_of_cell? _ _ g0
            have HKo := hide (fun h => cfr_ok (g := fun i => rhG ts (ds.getD i dn0)) hlt h)
            have HKn := hide (fun h => cfr_no (g := fun i => rhG ts (ds.getD i dn0)) hlt h)
            rw [HDd.out, HK.out] at HKo HKn
            have hbx := below_alloc wr (.cells #[.int .i64 p, .int .i64 q, .int .i64 ra, .int .i64 va] 60)
            have HBx := hide (below_on HB.out hbx)
            have e0 : (wr.alloc (.cells #[.int .i64 p, .int .i64 q, .int .i64 ra, .int .i64 va] 60)).cell? ⟨wr.heap.size, 0, none⟩ = some (.int .i64 p) := by simp [go_sem]
            have e1 : (wr.alloc (.cells #[.int .i64 p, .int .i64 q, .int .i64 ra, .int .i64 va] 60)).cell? ⟨wr.heap.size, 1, none⟩ = some (.int .i64 q) := by simp [go_sem]
            obtain ⟨X, hX⟩ : ∃ x, wr.alloc (.cells #[.int .i64 p, .int .i64 q, .int .i64 ra, .int .i64 va] 60) = x := ⟨_, rfl⟩
            rw [hX] at HBx e0 e1 hbx
            have hwm : IntKind.i64.wrap ((m : Int) - 1) = (m : Int) - 1 := by simp [IntKind.wrap, IntKind.bits, IntKind.signed]; omega
            by_cases hp : rhP ts (p, q, ra, va)
            · skip
              have i1 : inBq p 0 ((m : Int) - 1) = true := inBq_yes (by have h1 := hp.1; have h2 := hp.2; rw [HM.out] at h2; dsimp only at h1 h2; omega)
              have HTX := hide (HT.out.later (below_on BB.out HBx.out))
              by_cases hq : rhQ ts (p, q, ra, va)
              · skip
                obtain ⟨b1, o1, b2, o2, i, j, l, c2, y6, z6, rfl, hi, hj, HA⟩ := rh_at HTX.out HM.out hp hq
                have hG := rhG_op hp hq
                rw [hG] at HKo HKn
                dsimp only at hi hj
                subst hi
                subst hj
                obtain ⟨hth, ⟨m0, m1, m2, m3, m4, m5, kI, kJ⟩, _, hil, hjl, hlm⟩ := HA
                generalize rhO ts ((i : Int), (j : Int), ra, va) = x at *
                obtain ⟨a6, c6, rfl⟩ := kI.shape
                obtain ⟨a7, c7, rfl, _⟩ := kJ.shape
                have VO : Vat6 X b2 (o2 + j * 6) (.int .i64 x.tm) (.int .i64 x.vt) (.int .i64 x.si) (.int .i64 x.st) (.slice a6 x.sn.length c6) (.slice a7 x.lg.length c7) := ⟨m0, m1, m2, m3, m4, m5⟩
                have HC2 := hide (fun (w' : World) (hb : Below X.heap.size X w') => l12Fault x (VO.later hb) (kI.later hb) (kJ.later hb))
                obtain ⟨cc, hcc⟩ : ∃ c, opF x = c := ⟨_, rfl⟩
                rw [hcc] at HC2 HKo HKn
                have hi0 : (0 : Int) ≤ (i : Int) := by omega
                have hi1 : (i : Int) < (m : Int) := by omega
                have hj0 : (0 : Int) ≤ (j : Int) := by omega
                have hj1 : (j : Int) < (l : Int) := by omega
                have i2 : inBq (j : Int) 0 ((l : Int) - 1) = true := inBq_yes (by omega)
                clear kI kJ VO hcc hG hp hq hil hjl HTX m0 m1 m2 m3 m4 m5
                have hb1 : b1 < X.heap.size := World.block_lt_of_cell? _ _ hth
                have hwl : IntKind.i64.wrap ((l : Int) - 1) = (l : Int) - 1 := by simp [IntKind.wrap, IntKind.bits, IntKind.signed]; omega
                go_wp2_with fail
                (try rw [hX])
                clear hX
                go_quiet ((go_at_call 25; exact Calls.quiet_of_same (l1InB _ _ _ _)))
                have HXq := hide (below_drewN X nq)
                obtain ⟨X2, hX2⟩ : ∃ x, X.drewN nq = x := ⟨_, rfl⟩
                rw [hX2] at HXq
                have e0 := cell_later HXq.out e0
                have e1 := cell_later HXq.out e1
                have hth := cell_later HXq.out hth
                rw [hX2]
                clear hX2
                go_wp2_with fail
                go_region_held3 (fun w' => w'.cell? ⟨wr.heap.size, 0, none⟩ = some (.int .i64 (i : Int)) ∧ w'.cell? ⟨wr.heap.size, 1, none⟩ = some (.int .i64 (j : Int)) ∧ w'.cell? ⟨b1, o1 + i * 3, none⟩ = some (.slice (some ⟨b2, o2, none⟩) l c2)) (first | exact ⟨e0, e1, hth⟩ | exact ⟨f0, f1, f2⟩)
                  ((go_at_call 26; refine (HC2.out _ (below_on HXq.out (below_drewN X2 1))).mono ?_; rintro e w2 ⟨rfl, hb⟩; have f0 := cell_later hb e0; have f1 := cell_later hb e1; have f2 := cell_later hb hth; have HB2 := hide (below_on HBx.out (below_on HXq.out (below_on (below_drewN X2 1) hb))); clear hb))
                clear HBx HC2 hth e0 e1 g0 g1 g2 g3 f0 f1 f2
                by_cases hc0 : cc = 0
                · subst hc0
                  have HK2 := hide (HKo.out (by first | trivial | rfl))
                  go_wp2
                  go_roundw
                  case rel => exact ⟨k + 1, hlt, by go_num, HK2.out.symm, HB2.out⟩
                  case measure => simp [RowKit.intOf]; omega
                · have hCc := HKn.out hc0
                  subst hCc
                  have hc1 : (C == 0) = false := by simpa using hc0
                  have hc2 : (C != 0) = true := by simp [hc0]
                  obtain ⟨rfl, rfl⟩ := HBad.out hc0
                  have RX := hide (RB.out.later HB2.out)
                  have hrx := RX.out.lt
                  have HFn := hide (ret_op (w := w) (r := w.heap.size + 1) (x0 := .int .i64 C) (x1 := .int .i64 0) (x2 := .int .i64 0) (x3 := .int .i64 0) (x4 := .int .i64 0) (x5 := .int .i64 0) (x6 := .int .i64 0) RX.out.below RX.out.ge (IvR_nil (w.heap.size + 2) w2) (by omega))
                  obtain ⟨_, ⟨c0, c1, c2, c3, c4, c5, c6, c7, c8⟩, FF, _⟩ := RX.out
                  have f0 := FF 0
                  have f1 := FF 1
                  have f2 := FF 2
                  have f3 := FF 3
                  have f4 := FF 4
                  have f5 := FF 5
                  have f6 := FF 6
                  have f7 := FF 7
                  have f8 := FF 8
                  clear FF
                  go_wp2
                  refine bodyPost_ret (v := .agg #[.int .i64 C, .int .i64 0, .int .i64 0, .int .i64 0, .int .i64 0, .int .i64 0, .int .i64 0, .slice none 0 0, .slice none 0 0]) (by simp [results, Tryz.results7, go_sem, c0, c1, c2, c3, c4, c5, c6, c7, c8]) rfl ⟨_, _, rfl, HFn.out.1, HFn.out.2⟩
              · obtain ⟨i, hi⟩ := Int.eq_ofNat_of_zero_le hp.1
                dsimp only at hi
                subst hi
                have hil : i < ts.length := by have := hp.2; dsimp only at this; omega
                obtain ⟨b1, o1, y6, rfl, hth⟩ := HTX.out.at hil
                have hG := rhG_at hp hq
                rw [hG] at HKn
                obtain ⟨a6, c6, ey, hlm⟩ := hth.rO.shape
                have hth := hth.c0
                rw [ey] at hth
                have hqn : ¬ (0 ≤ q ∧ q < (((ts.getD i tq0).os.length : Nat) : Int)) := hq
                generalize (ts.getD i tq0).os.length = l at hth hqn hlm
                have hi0 : (0 : Int) ≤ (i : Int) := by omega
                have hi1 : (i : Int) < (m : Int) := by rw [← HM.out]; omega
                have i2 : inBq q 0 ((l : Int) - 1) = false := inBq_no (by omega)
                have hwl : IntKind.i64.wrap ((l : Int) - 1) = (l : Int) - 1 := by simp [IntKind.wrap, IntKind.bits, IntKind.signed]; omega
                have hb1 : b1 < X.heap.size := World.block_lt_of_cell? _ _ hth
                have hCc := HKn.out (by decide)
                subst hCc
                clear hp hq hil ey hG HTX hqn
                go_wp2_with fail
                (try rw [hX])
                clear hX
                go_quiet ((go_at_call 25; exact Calls.quiet_of_same (l1InB _ _ _ _)))
                have RX := hide (RB.out.later (below_on HBx.out (below_drewN _ nq)))
                have hrx := RX.out.lt
                obtain ⟨rfl, rfl⟩ := HBad.out (by decide)
                have HFn := hide (ret_op (w := w) (r := w.heap.size + 1) (x0 := .int .i64 3) (x1 := .int .i64 0) (x2 := .int .i64 0) (x3 := .int .i64 0) (x4 := .int .i64 0) (x5 := .int .i64 0) (x6 := .int .i64 0) RX.out.below RX.out.ge (IvR_nil (w.heap.size + 2) (X.drewN nq)) (by omega))
                obtain ⟨_, ⟨c0, c1, c2, c3, c4, c5, c6, c7, c8⟩, FF, _⟩ := RX.out
                have f0 := FF 0
                have f1 := FF 1
                have f2 := FF 2
                have f3 := FF 3
                have f4 := FF 4
                have f5 := FF 5
                have f6 := FF 6
                have f7 := FF 7
                have f8 := FF 8
                clear FF
                go_wp2
                refine bodyPost_ret (v := .agg #[.int .i64 3, .int .i64 0, .int .i64 0, .int .i64 0, .int .i64 0, .int .i64 0, .int .i64 0, .slice none 0 0, .slice none 0 0]) (by simp [results, Tryz.results7, go_sem, c0, c1, c2, c3, c4, c5, c6, c7, c8]) rfl ⟨_, _, rfl, HFn.out.1, HFn.out.2⟩
            · have hpn : ¬ (0 ≤ p ∧ p < (ts.length : Int)) := hp
              rw [HM.out] at hpn
              have i1 : inBq p 0 ((m : Int) - 1) = false := inBq_no (by omega)
              have hG := rhG_th hp
              rw [hG] at HKn
              have hCc := HKn.out (by decide)
              subst hCc
              clear hp hG hpn
              go_wp2_with fail
              (try rw [hX])
              clear hX
              go_quiet ((go_at_call 25; exact Calls.quiet_of_same (l1InB _ _ _ _)))
              have RX := hide (RB.out.later (below_on HBx.out (below_drewN _ nq)))
              have hrx := RX.out.lt
              obtain ⟨rfl, rfl⟩ := HBad.out (by decide)
              have HFn := hide (ret_op (w := w) (r := w.heap.size + 1) (x0 := .int .i64 3) (x1 := .int .i64 0) (x2 := .int .i64 0) (x3 := .int .i64 0) (x4 := .int .i64 0) (x5 := .int .i64 0) (x6 := .int .i64 0) RX.out.below RX.out.ge (IvR_nil (w.heap.size + 2) (X.drewN nq)) (by omega))
              obtain ⟨_, ⟨c0, c1, c2, c3, c4, c5, c6, c7, c8⟩, FF, _⟩ := RX.out
              have f0 := FF 0
              have f1 := FF 1
              have f2 := FF 2
              have f3 := FF 3
              have f4 := FF 4
              have f5 := FF 5
              have f6 := FF 6
              have f7 := FF 7
              have f8 := FF 8
              clear FF
              go_wp2
              refine bodyPost_ret (v := .agg #[.int .i64 3, .int .i64 0, .int .i64 0, .int .i64 0, .int .i64 0, .int .i64 0, .int .i64 0, .slice none 0 0, .slice none 0 0]) (by simp [results, Tryz.results7, go_sem, c0, c1, c2, c3, c4, c5, c6, c7, c8]) rfl ⟨_, _, rfl, HFn.out.1, HFn.out.2⟩
          · have hkn : n = k := by omega
            subst hkn
            have hF : (0 : Int) = C := by rw [← HK.out, cfr_end (Nat.lt_irrefl _)]
            subst hF
            obtain ⟨rfl, rfl, _, _, hF0⟩ := HOk.out (by first | trivial | rfl)
            have HAll := hide (HAll.out (by first | exact hF0 | trivial | rfl))
            have HAll : Hid (True → _) := fun _ => HAll.out
            clear HK hlt hk hF0
            have VC := hide (VB.out.later HB.out)
            have RC := hide (RB.out.later HB.out)
            have BC := hide (below_on BB.out HB.out)
            have hzr := HB.out.size
            clear VB RB BB HB HBad HOk
            obtain ⟨v0, v1, v2, v3, v4, v5⟩ := VC.out
            have HE := hide (HCp.out (by first | trivial | rfl) _ BC.out)
            go_wp2_with fail
            refine HE.out.mono ?_
            rintro e w3 ⟨y3, z3, rfl, hb, ho⟩
            obtain ⟨a3, k3, g3, j3, hy3, hz3⟩ := ho.shape
            subst hy3
            subst hz3
            have hba := below_on hb (below_alloc w3 (.cells #[.int .i64 0, .int .i64 0, .int .i64 0, .int .i64 r.tm, .int .i64 r.vt, .int .i64 r.si, .int .i64 r.st, .slice a3 r.sn.length k3, .slice g3 r.lg.length j3] 35))
            have BD := hide (below_on BC.out hba)
            have RD := hide (RC.out.later hba)
            have AD := hide (Var9_new w3 (.int .i64 0) (.int .i64 0) (.int .i64 0) (.int .i64 r.tm) (.int .i64 r.vt) (.int .i64 r.si) (.int .i64 r.st) (.slice a3 r.sn.length k3) (.slice g3 r.lg.length j3) 35)
            have AF : Hid (∀ o, (w3.alloc (.cells #[.int .i64 0, .int .i64 0, .int .i64 0, .int .i64 r.tm, .int .i64 r.vt, .int .i64 r.si, .int .i64 r.st, .slice a3 r.sn.length k3, .slice g3 r.lg.length j3] 35)).frozen? ⟨w3.heap.size, o, none⟩ = false) := fun o => by simp [go_sem]
            have ID := hide (ho.later (below_alloc w3 (.cells #[.int .i64 0, .int .i64 0, .int .i64 0, .int .i64 r.tm, .int .i64 r.vt, .int .i64 r.si, .int .i64 r.st, .slice a3 r.sn.length k3, .slice g3 r.lg.length j3] 35)))
            have hz3s := hb.size
            have hrz := RC.out.lt
            clear hb hba ho HE HCp v0 v1 v2 v3 v4 v5 VC BC RC
            go_upto_region 16 with fail
            obtain ⟨W4, hW4⟩ : ∃ x, w3.alloc (.cells #[.int .i64 0, .int .i64 0, .int .i64 0, .int .i64 r.tm, .int .i64 r.vt, .int .i64 r.si, .int .i64 r.st, .slice a3 r.sn.length k3, .slice g3 r.lg.length j3] 35) = x := ⟨_, rfl⟩
            have hs4 : W4.heap.size = w3.heap.size + 1 := by rw [← hW4]; simp
            rw [hW4] at BD RD AD AF ID
            (try rw [hW4])
            clear hW4
            generalize hAe : w3.heap.size = AA at *
            have hrc := RD.out.lt
            go_wp2
            go_loopw [12] (fun i wr => ∃ (k2 : Nat) (y z : Value), k2 ≤ n ∧ i = .int .i64 k2 ∧ Hid (Res9 w wr (w.heap.size + 1)) ∧ Hid (Var9 wr AA (.int .i64 0) (.int .i64 0) (.int .i64 (rn k2)) (.int .i64 (rr k2).tm) (.int .i64 (rr k2).vt) (.int .i64 (rr k2).si) (.int .i64 (rr k2).st) y z ∧ (∀ o, wr.frozen? ⟨AA, o, none⟩ = false)) ∧ Hid (∃ lo hi, w.heap.size + 1 < lo ∧ hi ≤ wr.heap.size ∧ (hi ≤ AA ∨ AA < lo) ∧ IvR lo hi wr y z (rr k2).sn (rr k2).lg)) (fun i _ => n - (RowKit.intOf i).toNat)
            case atStart => exact ⟨0, _, _, Nat.zero_le _, rfl, RD.out, by rw [HR0.out, HN0.out]; exact ⟨AD.out, AF.out⟩, by rw [HR0.out]; exact ⟨_, _, hrz, by omega, Or.inl (Nat.le_refl _), ID.out⟩⟩
            case round =>
              clear AD AF ID RD BD
              obtain ⟨k2, y2, z2, hk2, rfl, HR9, HV9, HIv⟩ := hrel
              have hop0 := HAll.out (by first | trivial | rfl)
              have HTk := hide (HTt.out (by first | trivial | rfl) k2)
              have HRk := hide (HRs.out k2)
              have HNk := hide (HNs.out k2)
              have hnl := HNl.out k2
              obtain ⟨Q, hQ⟩ : ∃ x, rr k2 = x := ⟨_, rfl⟩
              obtain ⟨nn, hnn⟩ : ∃ x, rn k2 = x := ⟨_, rfl⟩
              rw [hQ] at HV9 HIv HTk HRk HNk
              rw [hnn] at HV9 HNk hnl
              obtain ⟨lo, hi, hlo, hhi, hap, iv⟩ := HIv.out
              obtain ⟨a6, k6, g6, j6, ey, ez⟩ := iv.shape
              subst ey
              subst ez
              have IV := hide iv
              obtain ⟨⟨d0, d1, d2, d3, d4, d5, d6, d7, d8⟩, hfA⟩ := HV9.out
              have HfA := hide hfA
              have HVv := hide HV9.out.1
              have hAl := HV9.out.1.lt
              clear HIv iv hfA HV9
              by_cases hlt : k2 < n
              · skip
                obtain ⟨bd, od, rfl, hA⟩ := HD.out.at (k := k2) (by rw [HN.out]; exact hlt)
                obtain ⟨d, hd⟩ : ∃ d, ds.getD k2 dn0 = d := ⟨_, rfl⟩
                rw [hd] at hA
                have HDd := hide hd
                clear hd
                have HAw := hide hA
                have hA := hA.later HR9.out.below
                obtain ⟨p, q, ra, va⟩ := d
                obtain ⟨g0, g1, g2, g3⟩ := hA
                simp only [] at g0 g1 g2 g3
                have hk0 : (0 : Int) ≤ (k2 : Int) := by omega
                have hk1 : (k2 : Int) < (n : Int) := by omega
                have hbl := World.block_lt_of_cell? _ _ g0
                have hg0 := hop0 k2 hlt
                rw [HDd.out] at hg0 HRk HNk
                obtain ⟨hp, hq, hopx⟩ := rhG_ok hg0
                obtain ⟨b1, o1, b2, o2, i, j, l, c2, y6, z6, rfl, hi1, hj1, HA⟩ := rh_at (HT.out.later HR9.out.below) HM.out hp hq
                dsimp only at hi1 hj1 HNk
                subst hi1
                subst hj1
                obtain ⟨hth, ⟨m0, m1, m2, m3, m4, m5, kI, kJ⟩, hcap, hil, hjl, hlm⟩ := HA
                generalize rhO ts ((i : Int), (j : Int), ra, va) = x at *
                obtain ⟨a7, c7, rfl⟩ := kI.shape
                obtain ⟨a8, c8, rfl, _⟩ := kJ.shape
                have hi0 : (0 : Int) ≤ (i : Int) := by omega
                have hi1 : (i : Int) < (m : Int) := by omega
                have hj0 : (0 : Int) ≤ (j : Int) := by omega
                have hj1 : (j : Int) < (l : Int) := by omega
                have hb1 : b1 < wr.heap.size := World.block_lt_of_cell? _ _ hth
                have hb2 : b2 < wr.heap.size := World.block_lt_of_cell? _ _ m0
                have VO : Vat6 wr b2 (o2 + j * 6) (.int .i64 x.tm) (.int .i64 x.vt) (.int .i64 x.si) (.int .i64 x.st) (.slice a7 x.sn.length c7) (.slice a8 x.lg.length c8) := ⟨m0, m1, m2, m3, m4, m5⟩
                have HC := hide (fun (w' : World) (hb : Below wr.heap.size wr w') => l12DoI Q x HTk.out hopx (VO.later hb) (IV.out.later hb).rdI (IV.out.later hb).rdJ IV.out.capE (kI.later hb) (kJ.later hb) hcap)
                obtain ⟨DC, hDC⟩ : ∃ c, dyC Q x = c := ⟨_, rfl⟩
                obtain ⟨DV, hDV⟩ : ∃ c, dyV Q x = c := ⟨_, rfl⟩
                obtain ⟨R, hR⟩ : ∃ c, dyR Q x = c := ⟨_, rfl⟩
                rw [hDC, hDV, hR] at HC
                rw [hDC, hDV] at HNk
                rw [hR] at HRk
                clear kI kJ hcap hDC hDV hR hopx hop0 hQ hnn hp hq hg0 hil hjl VO
                have bWB := hide (Below.refl wr.heap.size wr)
                have hbd : bd < wr.heap.size := hbl
                go_upto_region 19 with fail
                refine wp_region_held_drew (S := fun w' => w'.cell? ⟨AA, 3, none⟩ = some (.int .i64 Q.tm) ∧ w'.cell? ⟨AA, 4, none⟩ = some (.int .i64 Q.vt) ∧ w'.cell? ⟨AA, 5, none⟩ = some (.int .i64 Q.si) ∧ w'.cell? ⟨AA, 6, none⟩ = some (.int .i64 Q.st) ∧ w'.cell? ⟨AA, 7, none⟩ = some (.slice a6 Q.sn.length k6) ∧ w'.cell? ⟨AA, 8, none⟩ = some (.slice g6 Q.lg.length j6) ∧ w'.cell? ⟨bd, od + k2 * 4, none⟩ = some (.int .i64 (i : Int)) ∧ w'.cell? ⟨bd, od + k2 * 4 + 1, none⟩ = some (.int .i64 (j : Int)) ∧ w'.cell? ⟨b1, o1 + i * 3, none⟩ = some (.slice (some ⟨b2, o2, none⟩) l c2)) (by kernel_rfl) ⟨d3, d4, d5, d6, d7, d8, g0, g1, hth⟩ (fun hHeld0 => ?_)
                refine forgetH (fun wx => (wx.cell? ⟨AA, 3, none⟩ = some (.int .i64 Q.tm) ∧ wx.cell? ⟨AA, 4, none⟩ = some (.int .i64 Q.vt) ∧ wx.cell? ⟨AA, 5, none⟩ = some (.int .i64 Q.si) ∧ wx.cell? ⟨AA, 6, none⟩ = some (.int .i64 Q.st) ∧ wx.cell? ⟨AA, 7, none⟩ = some (.slice a6 Q.sn.length k6) ∧ wx.cell? ⟨AA, 8, none⟩ = some (.slice g6 Q.lg.length j6) ∧ wx.cell? ⟨bd, od + k2 * 4, none⟩ = some (.int .i64 (i : Int)) ∧ wx.cell? ⟨bd, od + k2 * 4 + 1, none⟩ = some (.int .i64 (j : Int)) ∧ wx.cell? ⟨b1, o1 + i * 3, none⟩ = some (.slice (some ⟨b2, o2, none⟩) l c2)) ∧ Below wr.heap.size wr wx) ⟨hHeld0, below_drewN wr 1⟩ ?_
                clear hHeld0
                rintro X0 ⟨hHeld, hbx⟩
                obtain ⟨P0, P1, P2, P3, P4, P5, P6, P7, P8⟩ := id hHeld
                have HBx := hide (below_on bWB.out hbx)
                have HXa := hide hbx
                have hx0 := hbx.size
                clear hbx d0 d1 d2 d3 d4 d5 d6 d7 d8
                refine wpAnyH_take (i := 0) (v := ?vt1) rfl (by kernel_rfl) (by kernel_rfl) (by kernel_rfl) (fun _ _ _ h => h) (Or.inl ⟨by rfl, ?ht1⟩) hHeld ?rt1
                case ht1 => intro w9 hSw; (try dsimp only at hSw); first | (go_simp; done) | (go_simp; with_reducible rfl)
                try simp only [Act.put, List.setIfInBounds_toArray, List.set_cons_zero, List.set_cons_succ, List.getElem_toArray, List.getElem_cons_zero, List.getElem_cons_succ]
                refine wpAnyH_take (i := 1) (v := ?vt2) rfl (by kernel_rfl) (by kernel_rfl) (by kernel_rfl) (fun _ _ _ h => h) (Or.inl ⟨by rfl, ?ht2⟩) hHeld ?rt2
                case ht2 => intro w9 hSw; (try dsimp only at hSw); first | (go_simp; done) | (go_simp; with_reducible rfl)
                try simp only [Act.put, List.setIfInBounds_toArray, List.set_cons_zero, List.set_cons_succ, List.getElem_toArray, List.getElem_cons_zero, List.getElem_cons_succ]
                refine wpAnyH_take (i := 2) (v := ?vt3) rfl (by kernel_rfl) (by kernel_rfl) (by kernel_rfl) (fun _ _ _ h => h) (Or.inl ⟨by rfl, ?ht3⟩) hHeld ?rt3
                case ht3 => intro w9 hSw; (try dsimp only at hSw); first | (go_simp; done) | (go_simp; with_reducible rfl)
                try simp only [Act.put, List.setIfInBounds_toArray, List.set_cons_zero, List.set_cons_succ, List.getElem_toArray, List.getElem_cons_zero, List.getElem_cons_succ]
                refine wpAnyH_take (i := 3) (v := ?vt4) rfl (by kernel_rfl) (by kernel_rfl) (by kernel_rfl) (fun _ _ _ h => h) (Or.inl ⟨by rfl, ?ht4⟩) hHeld ?rt4
                case ht4 => intro w9 hSw; (try dsimp only at hSw); first | (go_simp; done) | (go_simp; with_reducible rfl)
                try simp only [Act.put, List.setIfInBounds_toArray, List.set_cons_zero, List.set_cons_succ, List.getElem_toArray, List.getElem_cons_zero, List.getElem_cons_succ]
                refine wpAnyH_take (i := 4) (v := ?vt5) rfl (by kernel_rfl) (by kernel_rfl) (by kernel_rfl) (fun _ _ _ h => h) (Or.inl ⟨by rfl, ?ht5⟩) hHeld ?rt5
                case ht5 => intro w9 hSw; (try dsimp only at hSw); first | (go_simp; done) | (go_simp; with_reducible rfl)
                try simp only [Act.put, List.setIfInBounds_toArray, List.set_cons_zero, List.set_cons_succ, List.getElem_toArray, List.getElem_cons_zero, List.getElem_cons_succ]
                refine wpAnyH_take (i := 5) (v := ?vt6) rfl (by kernel_rfl) (by kernel_rfl) (by kernel_rfl) (fun _ _ _ h => h) (Or.inl ⟨by rfl, ?ht6⟩) hHeld ?rt6
                case ht6 => intro w9 hSw; (try dsimp only at hSw); first | (go_simp; done) | (go_simp; with_reducible rfl)
                try simp only [Act.put, List.setIfInBounds_toArray, List.set_cons_zero, List.set_cons_succ, List.getElem_toArray, List.getElem_cons_zero, List.getElem_cons_succ]
                refine wpAnyH_take (i := 6) (v := ?vt7) rfl (by kernel_rfl) (by kernel_rfl) (by kernel_rfl) (fun _ _ _ h => h) (Or.inl ⟨by rfl, ?ht7⟩) hHeld ?rt7
                case ht7 => intro w9 hSw; (try dsimp only at hSw); first | (go_simp; done) | (go_simp; with_reducible rfl)
                try simp only [Act.put, List.setIfInBounds_toArray, List.set_cons_zero, List.set_cons_succ, List.getElem_toArray, List.getElem_cons_zero, List.getElem_cons_succ]
                refine wpAnyH_take (i := 7) (v := ?vt8) rfl (by kernel_rfl) (by kernel_rfl) (by kernel_rfl) (fun _ _ _ h => h) (Or.inl ⟨by rfl, ?ht8⟩) hHeld ?rt8
                case ht8 => intro w9 hSw; (try dsimp only at hSw); first | (go_simp; done) | (go_simp; with_reducible rfl)
                try simp only [Act.put, List.setIfInBounds_toArray, List.set_cons_zero, List.set_cons_succ, List.getElem_toArray, List.getElem_cons_zero, List.getElem_cons_succ]
                refine wpAnyH_take (i := 8) (v := ?vt9) rfl (by kernel_rfl) (by kernel_rfl) (by kernel_rfl) (fun _ _ _ h => h) (Or.inl ⟨by rfl, ?ht9⟩) hHeld ?rt9
                case ht9 => intro w9 hSw; (try dsimp only at hSw); first | (go_simp; done) | (go_simp; with_reducible rfl)
                try simp only [Act.put, List.setIfInBounds_toArray, List.set_cons_zero, List.set_cons_succ, List.getElem_toArray, List.getElem_cons_zero, List.getElem_cons_succ]
                refine wpAnyH_take (i := 9) (v := ?vt10) rfl (by kernel_rfl) (by kernel_rfl) (by kernel_rfl) (fun _ _ _ h => h) (Or.inl ⟨by rfl, ?ht10⟩) hHeld ?rt10
                case ht10 => intro w9 hSw; (try dsimp only at hSw); first | (go_simp; done) | (go_simp; with_reducible rfl)
                try simp only [Act.put, List.setIfInBounds_toArray, List.set_cons_zero, List.set_cons_succ, List.getElem_toArray, List.getElem_cons_zero, List.getElem_cons_succ]
                refine wpAnyH_take (i := 10) (v := ?vt11) rfl (by kernel_rfl) (by kernel_rfl) (by kernel_rfl) (fun _ _ _ h => h) (Or.inl ⟨by rfl, ?ht11⟩) hHeld ?rt11
                case ht11 => intro w9 hSw; (try dsimp only at hSw); first | (go_simp; done) | (go_simp; with_reducible rfl)
                try simp only [Act.put, List.setIfInBounds_toArray, List.set_cons_zero, List.set_cons_succ, List.getElem_toArray, List.getElem_cons_zero, List.getElem_cons_succ]
                refine wpAnyH_take (i := 11) (v := ?vt12) rfl (by kernel_rfl) (by kernel_rfl) (by kernel_rfl) (fun _ _ _ h => h) (Or.inl ⟨by rfl, ?ht12⟩) hHeld ?rt12
                case ht12 => intro w9 hSw; (try dsimp only at hSw); first | (go_simp; done) | (go_simp; with_reducible rfl)
                try simp only [Act.put, List.setIfInBounds_toArray, List.set_cons_zero, List.set_cons_succ, List.getElem_toArray, List.getElem_cons_zero, List.getElem_cons_succ]
                refine wpAnyH_take (i := 12) (v := ?vt13) rfl (by kernel_rfl) (by kernel_rfl) (by kernel_rfl) (fun _ _ _ h => h) (Or.inl ⟨by rfl, ?ht13⟩) hHeld ?rt13
                case ht13 => intro w9 hSw; (try dsimp only at hSw); first | (go_simp; done) | (go_simp; with_reducible rfl)
                try simp only [Act.put, List.setIfInBounds_toArray, List.set_cons_zero, List.set_cons_succ, List.getElem_toArray, List.getElem_cons_zero, List.getElem_cons_succ]
                refine wpAnyH_take (i := 13) (v := ?vt14) rfl (by kernel_rfl) (by kernel_rfl) (by kernel_rfl) (fun _ _ _ h => h) (Or.inl ⟨by rfl, ?ht14⟩) hHeld ?rt14
                case ht14 => intro w9 hSw; (try dsimp only at hSw); first | (go_simp; done) | (go_simp; with_reducible rfl)
                try simp only [Act.put, List.setIfInBounds_toArray, List.set_cons_zero, List.set_cons_succ, List.getElem_toArray, List.getElem_cons_zero, List.getElem_cons_succ]
                refine wpAnyH_take (i := 14) (v := ?vt15) rfl (by kernel_rfl) (by kernel_rfl) (by kernel_rfl) (fun _ _ _ h => h) (Or.inl ⟨by rfl, ?ht15⟩) hHeld ?rt15
                case ht15 => intro w9 hSw; (try dsimp only at hSw); first | (go_simp; done) | (go_simp; with_reducible rfl)
                try simp only [Act.put, List.setIfInBounds_toArray, List.set_cons_zero, List.set_cons_succ, List.getElem_toArray, List.getElem_cons_zero, List.getElem_cons_succ]
                refine wpAnyH_take (i := 15) (v := ?vt16) rfl (by kernel_rfl) (by kernel_rfl) (by kernel_rfl) (fun _ _ _ h => h) (Or.inl ⟨by rfl, ?ht16⟩) hHeld ?rt16
                case ht16 => intro w9 hSw; (try dsimp only at hSw); first | (go_simp; done) | (go_simp; with_reducible rfl)
                try simp only [Act.put, List.setIfInBounds_toArray, List.set_cons_zero, List.set_cons_succ, List.getElem_toArray, List.getElem_cons_zero, List.getElem_cons_succ]
                refine wpAnyH_take (i := 16) (v := ?vt17) rfl (by kernel_rfl) (by kernel_rfl) (by kernel_rfl) (fun _ _ _ h => h) (Or.inl ⟨by rfl, ?ht17⟩) hHeld ?rt17
                case ht17 => intro w9 hSw; (try dsimp only at hSw); first | (go_simp; done) | (go_simp; with_reducible rfl)
                try simp only [Act.put, List.setIfInBounds_toArray, List.set_cons_zero, List.set_cons_succ, List.getElem_toArray, List.getElem_cons_zero, List.getElem_cons_succ]
                refine wpAnyH_ready (rs := [17, 18]) (by kernel_rfl) (by simp) (AllReadyH.cons rfl (fun K hK => ?_) (AllReadyH.cons rfl (fun K hK => ?_) (AllReadyH.nil)))
                · skip
                  go_simp
                  go_at_call 28
                  refine (HC.out _ HBx.out).mono ?_
                  rintro e X1 ⟨y5, z5, rfl, hb, ho⟩
                  obtain ⟨a5, k5, gg5, j5, ey, ez⟩ := ho.shape
                  subst ey
                  subst ez
                  have Q0 := cell_later hb P0
                  have Q1 := cell_later hb P1
                  have Q2 := cell_later hb P2
                  have Q3 := cell_later hb P3
                  have Q4 := cell_later hb P4
                  have Q5 := cell_later hb P5
                  have Q6 := cell_later hb P6
                  have Q7 := cell_later hb P7
                  have Q8 := cell_later hb P8
                  refine hK.out _ _ ⟨Q0, Q1, Q2, Q3, Q4, Q5, Q6, Q7, Q8⟩ (fun _ => ?_)
                  clear hK K HC
                  try simp only [Act.put, List.setIfInBounds_toArray, List.set_cons_zero, List.set_cons_succ, List.getElem_toArray, List.getElem_cons_zero, List.getElem_cons_succ]
                  have HB1 := hide (below_on HBx.out hb)
                  have HXb := hide (below_on HXa.out hb)
                  have I1 := hide ho
                  have hx1 := hb.size
                  clear hb ho hHeld P0 P1 P2 P3 P4 P5 P6 P7 P8
                  refine wpAnyH_ready (rs := [18]) (by kernel_rfl) (by simp) (AllReadyH.cons rfl (fun K hK => ?_) (AllReadyH.nil))
                  go_simp
                  have hb := below_alloc X1 (.cells #[.int .i64 0, .int .i64 0, .int .i64 0, .int .i64 0, .int .i64 0, .int .i64 0, .int .i64 0, .slice none 0 0, .slice none 0 0] 35)
                  have S0 := cell_later hb Q0
                  have S1 := cell_later hb Q1
                  have S2 := cell_later hb Q2
                  have S3 := cell_later hb Q3
                  have S4 := cell_later hb Q4
                  have S5 := cell_later hb Q5
                  have S6 := cell_later hb Q6
                  have S7 := cell_later hb Q7
                  have S8 := cell_later hb Q8
                  refine hK.out _ _ ⟨S0, S1, S2, S3, S4, S5, S6, S7, S8⟩ (fun _ => ?_)
                  clear hK K
                  try simp only [Act.put, List.setIfInBounds_toArray, List.set_cons_zero, List.set_cons_succ, List.getElem_toArray, List.getElem_cons_zero, List.getElem_cons_succ]
                  have HBX := hide (below_on HB1.out hb)
                  have HXx := hide (below_on HXb.out hb)
                  have IX := hide (I1.out.later hb)
                  have OZ := hide (Var9_new X1 (.int .i64 0) (.int .i64 0) (.int .i64 0) (.int .i64 0) (.int .i64 0) (.int .i64 0) (.int .i64 0) (.slice none 0 0) (.slice none 0 0) 35)
                  have OF : Hid (∀ q, (X1.alloc (.cells #[.int .i64 0, .int .i64 0, .int .i64 0, .int .i64 0, .int .i64 0, .int .i64 0, .int .i64 0, .slice none 0 0, .slice none 0 0] 35)).frozen? ⟨X1.heap.size, q, none⟩ = false) := fun q => by simp [go_sem]
                  have hx2 : (X1.alloc (.cells #[.int .i64 0, .int .i64 0, .int .i64 0, .int .i64 0, .int .i64 0, .int .i64 0, .int .i64 0, .slice none 0 0, .slice none 0 0] 35)).heap.size = X1.heap.size + 1 := by simp
                  obtain ⟨X2, hX2⟩ : ∃ x, X1.alloc (.cells #[.int .i64 0, .int .i64 0, .int .i64 0, .int .i64 0, .int .i64 0, .int .i64 0, .int .i64 0, .slice none 0 0, .slice none 0 0] 35) = x := ⟨_, rfl⟩
                  refine forgetH (fun wx => wx = X2) hX2 ?_
                  rw [hX2] at HBX HXx IX OZ OF hx2 S0 S1 S2 S3 S4 S5 S6 S7 S8
                  clear hX2 hb HB1 I1 Q0 Q1 Q2 Q3 Q4 Q5 Q6 Q7 Q8
                  intro wz hwz
                  rw [hwz]
                  clear hwz wz
                  obtain ⟨o0, o1, o2, o3, o4, o5, o6, o7, o8⟩ := OZ.out
                  have u0 := OF.out 0
                  have u1 := OF.out 1
                  have u2 := OF.out 2
                  have u3 := OF.out 3
                  have u4 := OF.out 4
                  have u5 := OF.out 5
                  have u6 := OF.out 6
                  have u7 := OF.out 7
                  have u8 := OF.out 8
                  refine wpAnyH_ready (rs := [19]) (by kernel_rfl) (by simp) (AllReadyH.cons rfl (fun K hK => ?_) (AllReadyH.nil))
                  go_simp
                  have hne : AA ≠ X1.heap.size := by omega
                  refine hK.out _ _ ⟨(set9_other (show AA ≠ X1.heap.size by omega)).trans S0, (set9_other (show AA ≠ X1.heap.size by omega)).trans S1, (set9_other (show AA ≠ X1.heap.size by omega)).trans S2, (set9_other (show AA ≠ X1.heap.size by omega)).trans S3, (set9_other (show AA ≠ X1.heap.size by omega)).trans S4, (set9_other (show AA ≠ X1.heap.size by omega)).trans S5, (set9_other (show bd ≠ X1.heap.size by omega)).trans S6, (set9_other (show bd ≠ X1.heap.size by omega)).trans S7, (set9_other (show b1 ≠ X1.heap.size by omega)).trans S8⟩ (fun _ => ?_)
                  clear hK K
                  try simp only [Act.put, List.setIfInBounds_toArray, List.set_cons_zero, List.set_cons_succ, List.getElem_toArray, List.getElem_cons_zero, List.getElem_cons_succ]
                  refine wpAnyH_done (by kernel_rfl) ?_ _
                  refine forgetXh (fun X6 => Res9 w X6 (w.heap.size + 1) ∧ Var9 X6 AA (.int .i64 0) (.int .i64 0) (.int .i64 nn) (.int .i64 Q.tm) (.int .i64 Q.vt) (.int .i64 Q.si) (.int .i64 Q.st) (.slice a6 Q.sn.length k6) (.slice g6 Q.lg.length j6) ∧ (∀ o, X6.frozen? ⟨AA, o, none⟩ = false) ∧ Var9 X6 (X1.heap.size) (.int .i64 0) (.int .i64 DC) (.int .i64 DV) (.int .i64 R.tm) (.int .i64 R.vt) (.int .i64 R.si) (.int .i64 R.st) (.slice a5 R.sn.length k5) (.slice gg5 R.lg.length j5) ∧ ∃ lo hi, AA < lo ∧ w.heap.size + 1 < lo ∧ hi ≤ X6.heap.size ∧ IvR lo hi X6 (.slice a5 R.sn.length k5) (.slice gg5 R.lg.length j5) R.sn R.lg) ?soa ?_
                  case soa =>
                    have hw5 : Wr (fun x => x = X1.heap.size) X2 (((((((((X2.setCell ⟨X1.heap.size, 0, none⟩ (.int .i64 0)).setCell ⟨X1.heap.size, 1, none⟩ (.int .i64 DC)).setCell ⟨X1.heap.size, 2, none⟩ (.int .i64 DV)).setCell ⟨X1.heap.size, 3, none⟩ (.int .i64 R.tm)).setCell ⟨X1.heap.size, 4, none⟩ (.int .i64 R.vt)).setCell ⟨X1.heap.size, 5, none⟩ (.int .i64 R.si)).setCell ⟨X1.heap.size, 6, none⟩ (.int .i64 R.st)).setCell ⟨X1.heap.size, 7, none⟩ (.slice a5 R.sn.length k5)).setCell ⟨X1.heap.size, 8, none⟩ (.slice gg5 R.lg.length j5)) := (Wr.setCell (p := ⟨X1.heap.size, 8, none⟩) (Wr.setCell (p := ⟨X1.heap.size, 7, none⟩) (Wr.setCell (p := ⟨X1.heap.size, 6, none⟩) (Wr.setCell (p := ⟨X1.heap.size, 5, none⟩) (Wr.setCell (p := ⟨X1.heap.size, 4, none⟩) (Wr.setCell (p := ⟨X1.heap.size, 3, none⟩) (Wr.setCell (p := ⟨X1.heap.size, 2, none⟩) (Wr.setCell (p := ⟨X1.heap.size, 1, none⟩) (Wr.setCell (p := ⟨X1.heap.size, 0, none⟩) (Wr.refl (fun x => x = X1.heap.size) _) rfl (.int .i64 0)) rfl (.int .i64 DC)) rfl (.int .i64 DV)) rfl (.int .i64 R.tm)) rfl (.int .i64 R.vt)) rfl (.int .i64 R.si)) rfl (.int .i64 R.st)) rfl (.slice a5 R.sn.length k5)) rfl (.slice gg5 R.lg.length j5))
                    have hRX := HR9.out.later HBX.out
                    have hAX := HVv.out.later HBX.out
                    exact ⟨hRX.wr hw5 (by omega) (fun b hb => by omega), hAX.wr hw5 hne, fun o => (hw5.frz _ _ hAX.lt).trans (((bcell HBX.out).2 _ _ hAl).trans (HfA.out o)), ⟨by simp [go_sem, o0], by simp [go_sem, o1], by simp [go_sem, o2], by simp [go_sem, o3], by simp [go_sem, o4], by simp [go_sem, o5], by simp [go_sem, o6], by simp [go_sem, o7], by simp [go_sem, o8]⟩, _, _, by omega, by omega, by have := hw5.size; omega, IX.out.wr hw5 (fun b h1 h2 e => by omega)⟩
                  clear o0 o1 o2 o3 o4 o5 o6 o7 o8 S0 S1 S2 S3 S4 S5 S6 S7 S8 u0 u1 u2 u3 u4 u5 u6 u7 u8 OZ OF HBX IX hne
                  rintro X6 ⟨hR6, hA6, hF6, hO6, lo6, hi6, q1, q2, q3, hI6⟩
                  have RE := hide hR6
                  have AE := hide hA6
                  have AF := hide hF6
                  have IE := hide hI6
                  obtain ⟨o0, o1, o2, o3, o4, o5, o6, o7, o8⟩ := hO6
                  obtain ⟨d0, d1, d2, d3, d4, d5, d6, d7, d8⟩ := AE.out
                  have e0 := AF.out 0
                  have e1 := AF.out 1
                  have e2 := AF.out 2
                  have e3 := AF.out 3
                  have e4 := AF.out 4
                  have e5 := AF.out 5
                  have e6 := AF.out 6
                  have e7 := AF.out 7
                  have e8 := AF.out 8
                  clear hR6 hA6 hF6 hI6 HR9 HVv HfA IV HBx
                  go_upto_region 21 with fail
                  refine forget (fun W6 => Res9 w W6 (w.heap.size + 1) ∧ (Var9 W6 AA (.int .i64 0) (.int .i64 0) (.int .i64 nn) (.int .i64 R.tm) (.int .i64 R.vt) (.int .i64 R.si) (.int .i64 R.st) (.slice a5 R.sn.length k5) (.slice gg5 R.lg.length j5) ∧ (∀ o, W6.frozen? ⟨AA, o, none⟩ = false)) ∧ (W6.cell? ⟨X1.heap.size, 1, none⟩ = some (.int .i64 DC) ∧ W6.cell? ⟨X1.heap.size, 2, none⟩ = some (.int .i64 DV)) ∧ ∃ lo hi, w.heap.size + 1 < lo ∧ hi ≤ W6.heap.size ∧ (hi ≤ AA ∨ AA < lo) ∧ IvR lo hi W6 (.slice a5 R.sn.length k5) (.slice gg5 R.lg.length j5) R.sn R.lg) ?spa ?_
                  case spa =>
                    have hw6 : Wr (fun x => x = AA) X6 ((((((X6.setCell ⟨AA, 3, none⟩ (.int .i64 R.tm)).setCell ⟨AA, 4, none⟩ (.int .i64 R.vt)).setCell ⟨AA, 5, none⟩ (.int .i64 R.si)).setCell ⟨AA, 6, none⟩ (.int .i64 R.st)).setCell ⟨AA, 7, none⟩ (.slice a5 R.sn.length k5)).setCell ⟨AA, 8, none⟩ (.slice gg5 R.lg.length j5)) := (Wr.setCell (p := ⟨AA, 8, none⟩) (Wr.setCell (p := ⟨AA, 7, none⟩) (Wr.setCell (p := ⟨AA, 6, none⟩) (Wr.setCell (p := ⟨AA, 5, none⟩) (Wr.setCell (p := ⟨AA, 4, none⟩) (Wr.setCell (p := ⟨AA, 3, none⟩) (Wr.refl (fun x => x = AA) _) rfl (.int .i64 R.tm)) rfl (.int .i64 R.vt)) rfl (.int .i64 R.si)) rfl (.int .i64 R.st)) rfl (.slice a5 R.sn.length k5)) rfl (.slice gg5 R.lg.length j5))
                    refine ⟨RE.out.wr hw6 (by omega) (fun b hb => by omega), ⟨⟨by simp [go_sem, d0], by simp [go_sem, d1], by simp [go_sem, d2], by simp [go_sem, d3], by simp [go_sem, d4], by simp [go_sem, d5], by simp [go_sem, d6], by simp [go_sem, d7], by simp [go_sem, d8]⟩, fun o => ?_⟩, ⟨by simp [go_sem, o1], by simp [go_sem, o2]⟩, _, _, q2, ?_, Or.inr q1, IE.out.wr hw6 (fun b h1 h2 e => by omega)⟩
                    · simp only [World.frozen?_setCell]; exact AF.out o
                    · have := hw6.size; omega
                  clear d0 d1 d2 d3 d4 d5 d6 d7 d8 o0 o1 o2 o3 o4 o5 o6 o7 o8 e0 e1 e2 e3 e4 e5 e6 e7 e8 RE AE AF IE
                  rintro W6 ⟨hR6, hV6, hO6, hI6⟩
                  have HR6 := hide hR6
                  have HV6 := hide hV6.1
                  have HF6 := hide hV6.2
                  have HI6 := hide hI6
                  obtain ⟨t1, t2⟩ := hO6
                  have hAw := HAw.out.later hR6.below
                  have t3 := hAw.2.2.1
                  have t4 := hAw.2.2.2
                  dsimp only at t3 t4
                  clear hR6 hV6 hI6 hAw
                  by_cases hdc : DC = ra
                  · have hd1 : (DC != ra) = false := by simp [hdc]
                    by_cases hdv : DV = va
                    · have hd2 : (DV != va) = false := by simp [hdv]
                      rw [if_pos ⟨hdc, hdv⟩, Int.add_zero] at HNk
                      clear hdc hdv
                      go_wp2_with fail
                      go_quiet (fail)
                      have RQ := hide (HR6.out.later (below_drewN W6 nq))
                      have VQ := hide (HV6.out.later (below_drewN W6 nq))
                      have FQ : Hid (∀ o, (W6.drewN nq).frozen? ⟨AA, o, none⟩ = false) := HF6.out
                      obtain ⟨lo7, hi7, r1, r2, r3, hI7⟩ := HI6.out
                      have IQ := hide (hI7.later (below_drewN W6 nq))
                      have hsq : (W6.drewN nq).heap.size = W6.heap.size := rfl
                      obtain ⟨W7, hW7⟩ : ∃ x, W6.drewN nq = x := ⟨_, rfl⟩
                      rw [hW7] at RQ VQ FQ IQ hsq
                      (try rw [hW7])
                      clear hW7 hI7 HR6 HV6 HF6 HI6 t1 t2 t3 t4
                      go_wp2
                      go_roundw
                      case rel => exact ⟨k2 + 1, _, _, hlt, by go_num, RQ.out, by rw [HRk.out, HNk.out]; exact ⟨VQ.out, FQ.out⟩, by rw [HRk.out]; exact ⟨lo7, hi7, r1, by omega, r3, IQ.out⟩⟩
                      case measure => simp [RowKit.intOf]; omega
                    · have hd2 : (DV != va) = true := by simp [hdv]
                      rw [if_neg (fun k => hdv k.2)] at HNk
                      clear hdc hdv
                      have hw1 : IntKind.i64.wrap (nn + 1) = nn + 1 := by simp [IntKind.wrap, IntKind.bits, IntKind.signed]; omega
                      go_wp2_with fail
                      go_quiet (fail)
                      have RQ := hide (HR6.out.later (below_drewN W6 nq))
                      have VQ := hide (HV6.out.later (below_drewN W6 nq))
                      have FQ : Hid (∀ o, (W6.drewN nq).frozen? ⟨AA, o, none⟩ = false) := HF6.out
                      obtain ⟨lo7, hi7, r1, r2, r3, hI7⟩ := HI6.out
                      have IQ := hide (hI7.later (below_drewN W6 nq))
                      have hsq : (W6.drewN nq).heap.size = W6.heap.size := rfl
                      obtain ⟨W7, hW7⟩ : ∃ x, W6.drewN nq = x := ⟨_, rfl⟩
                      rw [hW7] at RQ VQ FQ IQ hsq
                      (try rw [hW7])
                      clear hW7 hI7 HR6 HV6 HF6 HI6 t1 t2 t3 t4
                      obtain ⟨d0, d1, d2, d3, d4, d5, d6, d7, d8⟩ := VQ.out
                      have e2 := FQ.out 2
                      have hw7 : Wr (fun x => x = AA) W7 (W7.setCell ⟨AA, 2, none⟩ (.int .i64 (nn + 1))) := Wr.setCell (p := ⟨AA, 2, none⟩) (Wr.refl (fun x => x = AA) _) rfl _
                      have RW := hide (RQ.out.wr hw7 (by omega) (fun b hb => by omega))
                      have VW : Hid (Var9 (W7.setCell ⟨AA, 2, none⟩ (.int .i64 (nn + 1))) AA (.int .i64 0) (.int .i64 0) (.int .i64 (nn + 1)) (.int .i64 R.tm) (.int .i64 R.vt) (.int .i64 R.si) (.int .i64 R.st) (.slice a5 R.sn.length k5) (.slice gg5 R.lg.length j5)) := ⟨by simp [go_sem, d0], by simp [go_sem, d1], by simp [go_sem, d2], by simp [go_sem, d3], by simp [go_sem, d4], by simp [go_sem, d5], by simp [go_sem, d6], by simp [go_sem, d7], by simp [go_sem, d8]⟩
                      have FW : Hid (∀ o, (W7.setCell ⟨AA, 2, none⟩ (.int .i64 (nn + 1))).frozen? ⟨AA, o, none⟩ = false) := fun o => by simp only [World.frozen?_setCell]; exact FQ.out o
                      have IW := hide (IQ.out.wr hw7 (fun b h1 h2 e => by omega))
                      have hs7 := hw7.size
                      clear hw7
                      go_wp2
                      go_roundw
                      case rel => exact ⟨k2 + 1, _, _, hlt, by go_num, RW.out, by rw [HRk.out, HNk.out]; exact ⟨VW.out, FW.out⟩, by rw [HRk.out]; exact ⟨lo7, hi7, r1, by omega, r3, IW.out⟩⟩
                      case measure => simp [RowKit.intOf]; omega
                  · have hd1 : (DC != ra) = true := by simp [hdc]
                    rw [if_neg (fun k => hdc k.1)] at HNk
                    clear hdc
                    have hw1 : IntKind.i64.wrap (nn + 1) = nn + 1 := by simp [IntKind.wrap, IntKind.bits, IntKind.signed]; omega
                    go_wp2_with fail
                    go_quiet (fail)
                    have RQ := hide (HR6.out.later (below_drewN W6 nq))
                    have VQ := hide (HV6.out.later (below_drewN W6 nq))
                    have FQ : Hid (∀ o, (W6.drewN nq).frozen? ⟨AA, o, none⟩ = false) := HF6.out
                    obtain ⟨lo7, hi7, r1, r2, r3, hI7⟩ := HI6.out
                    have IQ := hide (hI7.later (below_drewN W6 nq))
                    have hsq : (W6.drewN nq).heap.size = W6.heap.size := rfl
                    obtain ⟨W7, hW7⟩ : ∃ x, W6.drewN nq = x := ⟨_, rfl⟩
                    rw [hW7] at RQ VQ FQ IQ hsq
                    (try rw [hW7])
                    clear hW7 hI7 HR6 HV6 HF6 HI6 t1 t2 t3 t4
                    obtain ⟨d0, d1, d2, d3, d4, d5, d6, d7, d8⟩ := VQ.out
                    have e2 := FQ.out 2
                    have hw7 : Wr (fun x => x = AA) W7 (W7.setCell ⟨AA, 2, none⟩ (.int .i64 (nn + 1))) := Wr.setCell (p := ⟨AA, 2, none⟩) (Wr.refl (fun x => x = AA) _) rfl _
                    have RW := hide (RQ.out.wr hw7 (by omega) (fun b hb => by omega))
                    have VW : Hid (Var9 (W7.setCell ⟨AA, 2, none⟩ (.int .i64 (nn + 1))) AA (.int .i64 0) (.int .i64 0) (.int .i64 (nn + 1)) (.int .i64 R.tm) (.int .i64 R.vt) (.int .i64 R.si) (.int .i64 R.st) (.slice a5 R.sn.length k5) (.slice gg5 R.lg.length j5)) := ⟨by simp [go_sem, d0], by simp [go_sem, d1], by simp [go_sem, d2], by simp [go_sem, d3], by simp [go_sem, d4], by simp [go_sem, d5], by simp [go_sem, d6], by simp [go_sem, d7], by simp [go_sem, d8]⟩
                    have FW : Hid (∀ o, (W7.setCell ⟨AA, 2, none⟩ (.int .i64 (nn + 1))).frozen? ⟨AA, o, none⟩ = false) := fun o => by simp only [World.frozen?_setCell]; exact FQ.out o
                    have IW := hide (IQ.out.wr hw7 (fun b h1 h2 e => by omega))
                    have hs7 := hw7.size
                    clear hw7
                    go_wp2
                    go_roundw
                    case rel => exact ⟨k2 + 1, _, _, hlt, by go_num, RW.out, by rw [HRk.out, HNk.out]; exact ⟨VW.out, FW.out⟩, by rw [HRk.out]; exact ⟨lo7, hi7, r1, by omega, r3, IW.out⟩⟩
                    case measure => simp [RowKit.intOf]; omega
                · skip
                  go_simp
                  have hb := below_alloc X0 (.cells #[.int .i64 0, .int .i64 0, .int .i64 0, .int .i64 0, .int .i64 0, .int .i64 0, .int .i64 0, .slice none 0 0, .slice none 0 0] 35)
                  have Q0 := cell_later hb P0
                  have Q1 := cell_later hb P1
                  have Q2 := cell_later hb P2
                  have Q3 := cell_later hb P3
                  have Q4 := cell_later hb P4
                  have Q5 := cell_later hb P5
                  have Q6 := cell_later hb P6
                  have Q7 := cell_later hb P7
                  have Q8 := cell_later hb P8
                  refine hK.out _ _ ⟨Q0, Q1, Q2, Q3, Q4, Q5, Q6, Q7, Q8⟩ (fun _ => ?_)
                  clear hK K
                  try simp only [Act.put, List.setIfInBounds_toArray, List.set_cons_zero, List.set_cons_succ, List.getElem_toArray, List.getElem_cons_zero, List.getElem_cons_succ]
                  have HB1 := hide (below_on HBx.out hb)
                  have HXb := hide (below_on HXa.out hb)
                  have OZ1 := hide (Var9_new X0 (.int .i64 0) (.int .i64 0) (.int .i64 0) (.int .i64 0) (.int .i64 0) (.int .i64 0) (.int .i64 0) (.slice none 0 0) (.slice none 0 0) 35)
                  have OF1 : Hid (∀ q, (X0.alloc (.cells #[.int .i64 0, .int .i64 0, .int .i64 0, .int .i64 0, .int .i64 0, .int .i64 0, .int .i64 0, .slice none 0 0, .slice none 0 0] 35)).frozen? ⟨X0.heap.size, q, none⟩ = false) := fun q => by simp [go_sem]
                  have hx1 : (X0.alloc (.cells #[.int .i64 0, .int .i64 0, .int .i64 0, .int .i64 0, .int .i64 0, .int .i64 0, .int .i64 0, .slice none 0 0, .slice none 0 0] 35)).heap.size = X0.heap.size + 1 := by simp
                  obtain ⟨X1, hX1⟩ : ∃ x, X0.alloc (.cells #[.int .i64 0, .int .i64 0, .int .i64 0, .int .i64 0, .int .i64 0, .int .i64 0, .int .i64 0, .slice none 0 0, .slice none 0 0] 35) = x := ⟨_, rfl⟩
                  refine forgetH (fun wx => wx = X1) hX1 ?_
                  rw [hX1] at HB1 HXb OZ1 OF1 hx1 Q0 Q1 Q2 Q3 Q4 Q5 Q6 Q7 Q8
                  clear hX1 hb hHeld P0 P1 P2 P3 P4 P5 P6 P7 P8
                  intro wz hwz
                  rw [hwz]
                  clear hwz wz
                  refine wpAnyH_ready (rs := [17]) (by kernel_rfl) (by simp) (AllReadyH.cons rfl (fun K hK => ?_) (AllReadyH.nil))
                  go_simp
                  go_at_call 28
                  refine (HC.out _ HB1.out).mono ?_
                  rintro e X2 ⟨y5, z5, rfl, hb, ho⟩
                  obtain ⟨a5, k5, gg5, j5, ey, ez⟩ := ho.shape
                  subst ey
                  subst ez
                  have S0 := cell_later hb Q0
                  have S1 := cell_later hb Q1
                  have S2 := cell_later hb Q2
                  have S3 := cell_later hb Q3
                  have S4 := cell_later hb Q4
                  have S5 := cell_later hb Q5
                  have S6 := cell_later hb Q6
                  have S7 := cell_later hb Q7
                  have S8 := cell_later hb Q8
                  refine hK.out _ _ ⟨S0, S1, S2, S3, S4, S5, S6, S7, S8⟩ (fun _ => ?_)
                  clear hK K HC
                  try simp only [Act.put, List.setIfInBounds_toArray, List.set_cons_zero, List.set_cons_succ, List.getElem_toArray, List.getElem_cons_zero, List.getElem_cons_succ]
                  have HBX := hide (below_on HB1.out hb)
                  have HXx := hide (below_on HXb.out hb)
                  have IX := hide ho
                  have OZ := hide (OZ1.out.later hb)
                  have OF : Hid (∀ q, X2.frozen? ⟨X0.heap.size, q, none⟩ = false) := fun q => ((bcell hb).2 _ _ OZ1.out.lt).trans (OF1.out q)
                  have hx2 := hb.size
                  clear hb ho HB1 OZ1 OF1 Q0 Q1 Q2 Q3 Q4 Q5 Q6 Q7 Q8
                  obtain ⟨o0, o1, o2, o3, o4, o5, o6, o7, o8⟩ := OZ.out
                  have u0 := OF.out 0
                  have u1 := OF.out 1
                  have u2 := OF.out 2
                  have u3 := OF.out 3
                  have u4 := OF.out 4
                  have u5 := OF.out 5
                  have u6 := OF.out 6
                  have u7 := OF.out 7
                  have u8 := OF.out 8
                  refine wpAnyH_ready (rs := [19]) (by kernel_rfl) (by simp) (AllReadyH.cons rfl (fun K hK => ?_) (AllReadyH.nil))
                  go_simp
                  have hne : AA ≠ X0.heap.size := by omega
                  refine hK.out _ _ ⟨(set9_other (show AA ≠ X0.heap.size by omega)).trans S0, (set9_other (show AA ≠ X0.heap.size by omega)).trans S1, (set9_other (show AA ≠ X0.heap.size by omega)).trans S2, (set9_other (show AA ≠ X0.heap.size by omega)).trans S3, (set9_other (show AA ≠ X0.heap.size by omega)).trans S4, (set9_other (show AA ≠ X0.heap.size by omega)).trans S5, (set9_other (show bd ≠ X0.heap.size by omega)).trans S6, (set9_other (show bd ≠ X0.heap.size by omega)).trans S7, (set9_other (show b1 ≠ X0.heap.size by omega)).trans S8⟩ (fun _ => ?_)
                  clear hK K
                  try simp only [Act.put, List.setIfInBounds_toArray, List.set_cons_zero, List.set_cons_succ, List.getElem_toArray, List.getElem_cons_zero, List.getElem_cons_succ]
                  refine wpAnyH_done (by kernel_rfl) ?_ _
                  refine forgetXh (fun X6 => Res9 w X6 (w.heap.size + 1) ∧ Var9 X6 AA (.int .i64 0) (.int .i64 0) (.int .i64 nn) (.int .i64 Q.tm) (.int .i64 Q.vt) (.int .i64 Q.si) (.int .i64 Q.st) (.slice a6 Q.sn.length k6) (.slice g6 Q.lg.length j6) ∧ (∀ o, X6.frozen? ⟨AA, o, none⟩ = false) ∧ Var9 X6 (X0.heap.size) (.int .i64 0) (.int .i64 DC) (.int .i64 DV) (.int .i64 R.tm) (.int .i64 R.vt) (.int .i64 R.si) (.int .i64 R.st) (.slice a5 R.sn.length k5) (.slice gg5 R.lg.length j5) ∧ ∃ lo hi, AA < lo ∧ w.heap.size + 1 < lo ∧ hi ≤ X6.heap.size ∧ IvR lo hi X6 (.slice a5 R.sn.length k5) (.slice gg5 R.lg.length j5) R.sn R.lg) ?sob ?_
                  case sob =>
                    have hw5 : Wr (fun x => x = X0.heap.size) X2 (((((((((X2.setCell ⟨X0.heap.size, 0, none⟩ (.int .i64 0)).setCell ⟨X0.heap.size, 1, none⟩ (.int .i64 DC)).setCell ⟨X0.heap.size, 2, none⟩ (.int .i64 DV)).setCell ⟨X0.heap.size, 3, none⟩ (.int .i64 R.tm)).setCell ⟨X0.heap.size, 4, none⟩ (.int .i64 R.vt)).setCell ⟨X0.heap.size, 5, none⟩ (.int .i64 R.si)).setCell ⟨X0.heap.size, 6, none⟩ (.int .i64 R.st)).setCell ⟨X0.heap.size, 7, none⟩ (.slice a5 R.sn.length k5)).setCell ⟨X0.heap.size, 8, none⟩ (.slice gg5 R.lg.length j5)) := (Wr.setCell (p := ⟨X0.heap.size, 8, none⟩) (Wr.setCell (p := ⟨X0.heap.size, 7, none⟩) (Wr.setCell (p := ⟨X0.heap.size, 6, none⟩) (Wr.setCell (p := ⟨X0.heap.size, 5, none⟩) (Wr.setCell (p := ⟨X0.heap.size, 4, none⟩) (Wr.setCell (p := ⟨X0.heap.size, 3, none⟩) (Wr.setCell (p := ⟨X0.heap.size, 2, none⟩) (Wr.setCell (p := ⟨X0.heap.size, 1, none⟩) (Wr.setCell (p := ⟨X0.heap.size, 0, none⟩) (Wr.refl (fun x => x = X0.heap.size) _) rfl (.int .i64 0)) rfl (.int .i64 DC)) rfl (.int .i64 DV)) rfl (.int .i64 R.tm)) rfl (.int .i64 R.vt)) rfl (.int .i64 R.si)) rfl (.int .i64 R.st)) rfl (.slice a5 R.sn.length k5)) rfl (.slice gg5 R.lg.length j5))
                    have hRX := HR9.out.later HBX.out
                    have hAX := HVv.out.later HBX.out
                    exact ⟨hRX.wr hw5 (by omega) (fun b hb => by omega), hAX.wr hw5 hne, fun o => (hw5.frz _ _ hAX.lt).trans (((bcell HBX.out).2 _ _ hAl).trans (HfA.out o)), ⟨by simp [go_sem, o0], by simp [go_sem, o1], by simp [go_sem, o2], by simp [go_sem, o3], by simp [go_sem, o4], by simp [go_sem, o5], by simp [go_sem, o6], by simp [go_sem, o7], by simp [go_sem, o8]⟩, _, _, by omega, by omega, by have := hw5.size; omega, IX.out.wr hw5 (fun b h1 h2 e => by omega)⟩
                  clear o0 o1 o2 o3 o4 o5 o6 o7 o8 S0 S1 S2 S3 S4 S5 S6 S7 S8 u0 u1 u2 u3 u4 u5 u6 u7 u8 OZ OF HBX IX hne
                  rintro X6 ⟨hR6, hA6, hF6, hO6, lo6, hi6, q1, q2, q3, hI6⟩
                  have RE := hide hR6
                  have AE := hide hA6
                  have AF := hide hF6
                  have IE := hide hI6
                  obtain ⟨o0, o1, o2, o3, o4, o5, o6, o7, o8⟩ := hO6
                  obtain ⟨d0, d1, d2, d3, d4, d5, d6, d7, d8⟩ := AE.out
                  have e0 := AF.out 0
                  have e1 := AF.out 1
                  have e2 := AF.out 2
                  have e3 := AF.out 3
                  have e4 := AF.out 4
                  have e5 := AF.out 5
                  have e6 := AF.out 6
                  have e7 := AF.out 7
                  have e8 := AF.out 8
                  clear hR6 hA6 hF6 hI6 HR9 HVv HfA IV HBx
                  go_upto_region 21 with fail
                  refine forget (fun W6 => Res9 w W6 (w.heap.size + 1) ∧ (Var9 W6 AA (.int .i64 0) (.int .i64 0) (.int .i64 nn) (.int .i64 R.tm) (.int .i64 R.vt) (.int .i64 R.si) (.int .i64 R.st) (.slice a5 R.sn.length k5) (.slice gg5 R.lg.length j5) ∧ (∀ o, W6.frozen? ⟨AA, o, none⟩ = false)) ∧ (W6.cell? ⟨X0.heap.size, 1, none⟩ = some (.int .i64 DC) ∧ W6.cell? ⟨X0.heap.size, 2, none⟩ = some (.int .i64 DV)) ∧ ∃ lo hi, w.heap.size + 1 < lo ∧ hi ≤ W6.heap.size ∧ (hi ≤ AA ∨ AA < lo) ∧ IvR lo hi W6 (.slice a5 R.sn.length k5) (.slice gg5 R.lg.length j5) R.sn R.lg) ?spb ?_
                  case spb =>
                    have hw6 : Wr (fun x => x = AA) X6 ((((((X6.setCell ⟨AA, 3, none⟩ (.int .i64 R.tm)).setCell ⟨AA, 4, none⟩ (.int .i64 R.vt)).setCell ⟨AA, 5, none⟩ (.int .i64 R.si)).setCell ⟨AA, 6, none⟩ (.int .i64 R.st)).setCell ⟨AA, 7, none⟩ (.slice a5 R.sn.length k5)).setCell ⟨AA, 8, none⟩ (.slice gg5 R.lg.length j5)) := (Wr.setCell (p := ⟨AA, 8, none⟩) (Wr.setCell (p := ⟨AA, 7, none⟩) (Wr.setCell (p := ⟨AA, 6, none⟩) (Wr.setCell (p := ⟨AA, 5, none⟩) (Wr.setCell (p := ⟨AA, 4, none⟩) (Wr.setCell (p := ⟨AA, 3, none⟩) (Wr.refl (fun x => x = AA) _) rfl (.int .i64 R.tm)) rfl (.int .i64 R.vt)) rfl (.int .i64 R.si)) rfl (.int .i64 R.st)) rfl (.slice a5 R.sn.length k5)) rfl (.slice gg5 R.lg.length j5))
                    refine ⟨RE.out.wr hw6 (by omega) (fun b hb => by omega), ⟨⟨by simp [go_sem, d0], by simp [go_sem, d1], by simp [go_sem, d2], by simp [go_sem, d3], by simp [go_sem, d4], by simp [go_sem, d5], by simp [go_sem, d6], by simp [go_sem, d7], by simp [go_sem, d8]⟩, fun o => ?_⟩, ⟨by simp [go_sem, o1], by simp [go_sem, o2]⟩, _, _, q2, ?_, Or.inr q1, IE.out.wr hw6 (fun b h1 h2 e => by omega)⟩
                    · simp only [World.frozen?_setCell]; exact AF.out o
                    · have := hw6.size; omega
                  clear d0 d1 d2 d3 d4 d5 d6 d7 d8 o0 o1 o2 o3 o4 o5 o6 o7 o8 e0 e1 e2 e3 e4 e5 e6 e7 e8 RE AE AF IE
                  rintro W6 ⟨hR6, hV6, hO6, hI6⟩
                  have HR6 := hide hR6
                  have HV6 := hide hV6.1
                  have HF6 := hide hV6.2
                  have HI6 := hide hI6
                  obtain ⟨t1, t2⟩ := hO6
                  have hAw := HAw.out.later hR6.below
                  have t3 := hAw.2.2.1
                  have t4 := hAw.2.2.2
                  dsimp only at t3 t4
                  clear hR6 hV6 hI6 hAw
                  by_cases hdc : DC = ra
                  · have hd1 : (DC != ra) = false := by simp [hdc]
                    by_cases hdv : DV = va
                    · have hd2 : (DV != va) = false := by simp [hdv]
                      rw [if_pos ⟨hdc, hdv⟩, Int.add_zero] at HNk
                      clear hdc hdv
                      go_wp2_with fail
                      go_quiet (fail)
                      have RQ := hide (HR6.out.later (below_drewN W6 nq))
                      have VQ := hide (HV6.out.later (below_drewN W6 nq))
                      have FQ : Hid (∀ o, (W6.drewN nq).frozen? ⟨AA, o, none⟩ = false) := HF6.out
                      obtain ⟨lo7, hi7, r1, r2, r3, hI7⟩ := HI6.out
                      have IQ := hide (hI7.later (below_drewN W6 nq))
                      have hsq : (W6.drewN nq).heap.size = W6.heap.size := rfl
                      obtain ⟨W7, hW7⟩ : ∃ x, W6.drewN nq = x := ⟨_, rfl⟩
                      rw [hW7] at RQ VQ FQ IQ hsq
                      (try rw [hW7])
                      clear hW7 hI7 HR6 HV6 HF6 HI6 t1 t2 t3 t4
                      go_wp2
                      go_roundw
                      case rel => exact ⟨k2 + 1, _, _, hlt, by go_num, RQ.out, by rw [HRk.out, HNk.out]; exact ⟨VQ.out, FQ.out⟩, by rw [HRk.out]; exact ⟨lo7, hi7, r1, by omega, r3, IQ.out⟩⟩
                      case measure => simp [RowKit.intOf]; omega
                    · have hd2 : (DV != va) = true := by simp [hdv]
                      rw [if_neg (fun k => hdv k.2)] at HNk
                      clear hdc hdv
                      have hw1 : IntKind.i64.wrap (nn + 1) = nn + 1 := by simp [IntKind.wrap, IntKind.bits, IntKind.signed]; omega
                      go_wp2_with fail
                      go_quiet (fail)
                      have RQ := hide (HR6.out.later (below_drewN W6 nq))
                      have VQ := hide (HV6.out.later (below_drewN W6 nq))
                      have FQ : Hid (∀ o, (W6.drewN nq).frozen? ⟨AA, o, none⟩ = false) := HF6.out
                      obtain ⟨lo7, hi7, r1, r2, r3, hI7⟩ := HI6.out
                      have IQ := hide (hI7.later (below_drewN W6 nq))
                      have hsq : (W6.drewN nq).heap.size = W6.heap.size := rfl
                      obtain ⟨W7, hW7⟩ : ∃ x, W6.drewN nq = x := ⟨_, rfl⟩
                      rw [hW7] at RQ VQ FQ IQ hsq
                      (try rw [hW7])
                      clear hW7 hI7 HR6 HV6 HF6 HI6 t1 t2 t3 t4
                      obtain ⟨d0, d1, d2, d3, d4, d5, d6, d7, d8⟩ := VQ.out
                      have e2 := FQ.out 2
                      have hw7 : Wr (fun x => x = AA) W7 (W7.setCell ⟨AA, 2, none⟩ (.int .i64 (nn + 1))) := Wr.setCell (p := ⟨AA, 2, none⟩) (Wr.refl (fun x => x = AA) _) rfl _
                      have RW := hide (RQ.out.wr hw7 (by omega) (fun b hb => by omega))
                      have VW : Hid (Var9 (W7.setCell ⟨AA, 2, none⟩ (.int .i64 (nn + 1))) AA (.int .i64 0) (.int .i64 0) (.int .i64 (nn + 1)) (.int .i64 R.tm) (.int .i64 R.vt) (.int .i64 R.si) (.int .i64 R.st) (.slice a5 R.sn.length k5) (.slice gg5 R.lg.length j5)) := ⟨by simp [go_sem, d0], by simp [go_sem, d1], by simp [go_sem, d2], by simp [go_sem, d3], by simp [go_sem, d4], by simp [go_sem, d5], by simp [go_sem, d6], by simp [go_sem, d7], by simp [go_sem, d8]⟩
                      have FW : Hid (∀ o, (W7.setCell ⟨AA, 2, none⟩ (.int .i64 (nn + 1))).frozen? ⟨AA, o, none⟩ = false) := fun o => by simp only [World.frozen?_setCell]; exact FQ.out o
                      have IW := hide (IQ.out.wr hw7 (fun b h1 h2 e => by omega))
                      have hs7 := hw7.size
                      clear hw7
                      go_wp2
                      go_roundw
                      case rel => exact ⟨k2 + 1, _, _, hlt, by go_num, RW.out, by rw [HRk.out, HNk.out]; exact ⟨VW.out, FW.out⟩, by rw [HRk.out]; exact ⟨lo7, hi7, r1, by omega, r3, IW.out⟩⟩
                      case measure => simp [RowKit.intOf]; omega
                  · have hd1 : (DC != ra) = true := by simp [hdc]
                    rw [if_neg (fun k => hdc k.1)] at HNk
                    clear hdc
                    have hw1 : IntKind.i64.wrap (nn + 1) = nn + 1 := by simp [IntKind.wrap, IntKind.bits, IntKind.signed]; omega
                    go_wp2_with fail
                    go_quiet (fail)
                    have RQ := hide (HR6.out.later (below_drewN W6 nq))
                    have VQ := hide (HV6.out.later (below_drewN W6 nq))
                    have FQ : Hid (∀ o, (W6.drewN nq).frozen? ⟨AA, o, none⟩ = false) := HF6.out
                    obtain ⟨lo7, hi7, r1, r2, r3, hI7⟩ := HI6.out
                    have IQ := hide (hI7.later (below_drewN W6 nq))
                    have hsq : (W6.drewN nq).heap.size = W6.heap.size := rfl
                    obtain ⟨W7, hW7⟩ : ∃ x, W6.drewN nq = x := ⟨_, rfl⟩
                    rw [hW7] at RQ VQ FQ IQ hsq
                    (try rw [hW7])
                    clear hW7 hI7 HR6 HV6 HF6 HI6 t1 t2 t3 t4
                    obtain ⟨d0, d1, d2, d3, d4, d5, d6, d7, d8⟩ := VQ.out
                    have e2 := FQ.out 2
                    have hw7 : Wr (fun x => x = AA) W7 (W7.setCell ⟨AA, 2, none⟩ (.int .i64 (nn + 1))) := Wr.setCell (p := ⟨AA, 2, none⟩) (Wr.refl (fun x => x = AA) _) rfl _
                    have RW := hide (RQ.out.wr hw7 (by omega) (fun b hb => by omega))
                    have VW : Hid (Var9 (W7.setCell ⟨AA, 2, none⟩ (.int .i64 (nn + 1))) AA (.int .i64 0) (.int .i64 0) (.int .i64 (nn + 1)) (.int .i64 R.tm) (.int .i64 R.vt) (.int .i64 R.si) (.int .i64 R.st) (.slice a5 R.sn.length k5) (.slice gg5 R.lg.length j5)) := ⟨by simp [go_sem, d0], by simp [go_sem, d1], by simp [go_sem, d2], by simp [go_sem, d3], by simp [go_sem, d4], by simp [go_sem, d5], by simp [go_sem, d6], by simp [go_sem, d7], by simp [go_sem, d8]⟩
                    have FW : Hid (∀ o, (W7.setCell ⟨AA, 2, none⟩ (.int .i64 (nn + 1))).frozen? ⟨AA, o, none⟩ = false) := fun o => by simp only [World.frozen?_setCell]; exact FQ.out o
                    have IW := hide (IQ.out.wr hw7 (fun b h1 h2 e => by omega))
                    have hs7 := hw7.size
                    clear hw7
                    go_wp2
                    go_roundw
                    case rel => exact ⟨k2 + 1, _, _, hlt, by go_num, RW.out, by rw [HRk.out, HNk.out]; exact ⟨VW.out, FW.out⟩, by rw [HRk.out]; exact ⟨lo7, hi7, r1, by omega, r3, IW.out⟩⟩
                    case measure => simp [RowKit.intOf]; omega
              · have hkk : k2 = n := by omega
                subst hkk
                have HFn := hide (ret_op (w := w) (r := w.heap.size + 1) (x0 := .int .i64 0) (x1 := .int .i64 0) (x2 := .int .i64 nn) (x3 := .int .i64 Q.tm) (x4 := .int .i64 Q.vt) (x5 := .int .i64 Q.si) (x6 := .int .i64 Q.st) HR9.out.below HR9.out.ge (IV.out.up (Nat.le_refl _) hhi) hlo)
                obtain ⟨_, ⟨c0, c1, c2, c3, c4, c5, c6, c7, c8⟩, FF, _⟩ := HR9.out
                have f0 := FF 0
                have f1 := FF 1
                have f2 := FF 2
                have f3 := FF 3
                have f4 := FF 4
                have f5 := FF 5
                have f6 := FF 6
                have f7 := FF 7
                have f8 := FF 8
                clear FF
                have HQ := hide hQ
                have HNN := hide hnn
                clear hQ hnn
                go_wp2
                refine bodyPost_ret (v := .agg #[.int .i64 0, .int .i64 0, .int .i64 nn, .int .i64 Q.tm, .int .i64 Q.vt, .int .i64 Q.si, .int .i64 Q.st, .slice a6 Q.sn.length k6, .slice g6 Q.lg.length j6]) (by simp [results, Tryz.results7, go_sem, c0, c1, c2, c3, c4, c5, c6, c7, c8]) rfl ?_
                rw [HQ.out, HNN.out]
                exact ⟨_, _, rfl, HFn.out.1, HFn.out.2⟩
  · have h0b : (Z == 0) = false := by simpa using h0
    have h0c : (Z != 0) = true := by simp [h0]
    have hCZ := HBadC.out h0
    subst hCZ
    obtain ⟨rfl, rfl⟩ := HBad.out h0
    clear h0
    have HFn := hide (ret_op (w := w) (r := w.heap.size + 1) (x0 := .int .i64 C) (x1 := .int .i64 0) (x2 := .int .i64 0) (x3 := .int .i64 0) (x4 := .int .i64 0) (x5 := .int .i64 0) (x6 := .int .i64 0) RB.out.below RB.out.ge (IvR_nil (w.heap.size + 2) w1) (by omega))
    obtain ⟨_, ⟨c0, c1, c2, c3, c4, c5, c6, c7, c8⟩, FF, _⟩ := RB.out
    have f0 := FF 0
    have f1 := FF 1
    have f2 := FF 2
    have f3 := FF 3
    have f4 := FF 4
    have f5 := FF 5
    have f6 := FF 6
    have f7 := FF 7
    have f8 := FF 8
    clear FF
    go_wp2
    refine bodyPost_ret (v := .agg #[.int .i64 C, .int .i64 0, .int .i64 0, .int .i64 0, .int .i64 0, .int .i64 0, .int .i64 0, .slice none 0 0, .slice none 0 0]) (by simp [results, Tryz.results7, go_sem, c0, c1, c2, c3, c4, c5, c6, c7, c8]) rfl ⟨_, _, rfl, HFn.out.1, HFn.out.2⟩
end Go.Proofs.YtcmdgnemkjfckaaGreatDoor
