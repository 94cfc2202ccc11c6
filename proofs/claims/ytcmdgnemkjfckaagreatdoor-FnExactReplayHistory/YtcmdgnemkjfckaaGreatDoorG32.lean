/- Do4 Rh2 in one text: what each says stands at its head below. -/
import Derived.Test.YtcmdgnemkjfckaaGreatDoorG31
import Derived.Test.YtcmdgnemkjfckaaGreatDoorG12
import Derived.Test.YtcmdgnemkjfckaaGreatDoorG28
import Derived.Deep.RegionHeld3
/- Chapter 12: 'DoOp' of the program, walked. Made by program (gendo.py). -/
namespace Go.Proofs.YtcmdgnemkjfckaaGreatDoor
open Go.RowKit
end Go.Proofs.YtcmdgnemkjfckaaGreatDoor
/- Chapter 15: 'impl.replayFault', walked. Made by program (genrh.py). -/
namespace Go.Proofs.YtcmdgnemkjfckaaGreatDoor
open Go.RowKit

theorem isThI (p : Int) (ao : Option Addr) (n c : Nat) (w : World) :
    Calls Tryz.prog 59 #[.int .i64 p, .slice ao n c] w fun e w' => e = .returned (.bool (decide (0 ≤ p ∧ p < (n : Int)))) ∧ w' = w := by
  by_cases h0 : 0 ≤ p
  · by_cases h1 : p < (n : Int)
    · have hd := decide_eq_true (show 0 ≤ p ∧ p < (n : Int) from ⟨h0, h1⟩)
      rw [hd]
      go_enter Tryz.func59, Tryz.ntmps59
      go_wp2
      go_ret
      exact ⟨by first | rfl | simp [h1] | simp, rfl⟩
    · have hd := decide_eq_false (show ¬ (0 ≤ p ∧ p < (n : Int)) from fun k => h1 k.2)
      rw [hd]
      have h2 : decide (p < (n : Int)) = false := decide_eq_false h1
      go_enter Tryz.func59, Tryz.ntmps59
      go_wp2
      go_ret
      exact ⟨by first | rfl | simp [h2] | simp, rfl⟩
  · have hd := decide_eq_false (show ¬ (0 ≤ p ∧ p < (n : Int)) from fun k => h0 k.1)
    rw [hd]
    have h2 : decide (0 ≤ p) = false := decide_eq_false h0
    go_enter Tryz.func59, Tryz.ntmps59
    go_wp2
    go_ret
    exact ⟨by first | rfl | simp [h2] | simp, rfl⟩

set_option linter.unusedSimpArgs false in
set_option maxHeartbeats 16000000 in
set_option maxRecDepth 4000 in
theorem replayFaultI {S T D : Nat → Prop} {w : World} {y z u v : Value} {ts : List Tq} {ds : List Dn} (r : Rf) (hy : RdI S w y r.sn) (hz : RdJ T w z r.lg) (ht : RdThsC w u ts) (hd : RdDn D w v ds) :
    Calls Tryz.prog 33 #[.agg #[.int .i64 r.tm, .int .i64 r.vt, .int .i64 r.si, .int .i64 r.st, y, z], u, v] w fun e w' => e = .returned (.int .i64 (rhC r ts ds)) ∧ Below w.heap.size w w' := by
  obtain ⟨ay, cy, rfl⟩ := hy.shape
  obtain ⟨az, cz, rfl, _⟩ := hz.shape
  obtain ⟨au, cu, rfl, hum⟩ := ht.shape
  obtain ⟨av, cv, rfl⟩ := hd.shape
  have hvm := hd.max
  have HT := hide ht
  have HD := hide hd
  have HF := hide (fun (w' : World) (hb : Below w.heap.size w w') => implRaftFault r (hy.later hb) (hz.later hb))
  have HBad := hide (@rhC_bad r ts ds)
  have HMany := hide (@rhC_many r ts ds)
  have HOp := hide (@rhC_op r ts ds)
  obtain ⟨C, hC⟩ : ∃ x, rhC r ts ds = x := ⟨_, rfl⟩
  rw [hC] at HBad HMany HOp
  rw [hC]
  obtain ⟨Z, hZ⟩ : ∃ x, rfF r = x := ⟨_, rfl⟩
  rw [hZ] at HF HBad HMany HOp
  obtain ⟨n, hn⟩ : ∃ x, ds.length = x := ⟨_, rfl⟩
  obtain ⟨m, hm⟩ : ∃ x, ts.length = x := ⟨_, rfl⟩
  have HN := hide hn
  have HM := hide hm
  have HF0 : Hid (cfr (fun i => rhG ts (ds.getD i dn0)) (n - 0) 0 = rhF ts ds) := by rw [Hid, Nat.sub_zero, ← hn]; rfl
  rw [hn] at HD HMany HOp hvm ⊢
  rw [hm] at HT HMany HOp hum ⊢
  obtain ⟨F, hF⟩ : ∃ x, rhF ts ds = x := ⟨_, rfl⟩
  rw [hF] at HOp HF0
  clear hC hZ hn hm hF hy hz ht hd
  have BA := hide (below_alloc w (.cells #[.int .i64 r.tm, .int .i64 r.vt, .int .i64 r.si, .int .i64 r.st, .slice ay r.sn.length cy, .slice az r.lg.length cz] 33))
  have VA := hide (Var6_new w (.int .i64 r.tm) (.int .i64 r.vt) (.int .i64 r.si) (.int .i64 r.st) (.slice ay r.sn.length cy) (.slice az r.lg.length cz) 33)
  obtain ⟨W1, hW1⟩ : ∃ x, w.alloc (.cells #[.int .i64 r.tm, .int .i64 r.vt, .int .i64 r.si, .int .i64 r.st, .slice ay r.sn.length cy, .slice az r.lg.length cz] 33) = x := ⟨_, rfl⟩
  rw [hW1] at BA VA
  obtain ⟨v0, v1, v2, v3, v4, v5⟩ := VA.out
  have HE := hide (HF.out _ BA.out)
  go_enter Tryz.func33, Tryz.ntmps33
  go_wp2_with fail
  (try rw [hW1])
  clear hW1
  refine HE.out.mono ?_
  rintro e w1 ⟨rfl, hb⟩
  have BB := hide (below_on BA.out hb)
  clear hb v0 v1 v2 v3 v4 v5 VA BA HE HF
  by_cases h0 : Z = 0
  · subst h0
    by_cases h8 : 8 < m
    · have h8' : (8 : Int) < (m : Int) := by omega
      have HC := hide (HMany.out (by first | trivial | rfl) (Or.inl h8))
      go_wp2
      go_ret
      exact ⟨by rw [HC.out]; rfl, BB.out⟩
    · have h8' : ¬ (8 : Int) < (m : Int) := by omega
      by_cases h60 : 60 < n
      · have h60' : (60 : Int) < (n : Int) := by omega
        have HC := hide (HMany.out (by first | trivial | rfl) (Or.inr h60))
        go_wp2
        go_ret
        exact ⟨by rw [HC.out]; rfl, BB.out⟩
      · have h60' : ¬ (60 : Int) < (n : Int) := by omega
        have HC := hide (HOp.out (by first | trivial | rfl) (fun k => k.elim h8 h60))
        clear HBad HMany HOp
        go_wp2
        go_loopw [27] (fun i wr => ∃ k : Nat, k ≤ n ∧ i = .int .i64 k ∧ Hid (cfr (fun i => rhG ts (ds.getD i dn0)) (n - k) k = F) ∧ Hid (Below w1.heap.size w1 wr)) (fun i _ => n - (RowKit.intOf i).toNat)
        case atStart => exact ⟨0, Nat.zero_le _, rfl, HF0.out, Below.refl _ _⟩
        case round =>
          clear HF0
          obtain ⟨k, hk, rfl, HK, HB⟩ := hrel
          by_cases hlt : k < n
          · skip
            obtain ⟨bd, od, rfl, hA⟩ := HD.out.at (k := k) (by rw [HN.out]; exact hlt)
            obtain ⟨d, hd⟩ : ∃ d, ds.getD k dn0 = d := ⟨_, rfl⟩
            rw [hd] at hA
            have HDd := hide hd
            clear hd
            have hA := hA.later (below_on BB.out HB.out)
            obtain ⟨p, q, ra, va⟩ := d
            obtain ⟨g0, g1, g2, g3⟩ := hA
            simp only [] at g0 g1 g2 g3
            have hk0 : (0 : Int) ≤ (k : Int) := by omega
            have hk1 : (k : Int) < (n : Int) := by omega
            have hbl := World.block_lt_of_cell? _ _ g0
            have HKo := hide (fun h => cfr_ok (g := fun i => rhG ts (ds.getD i dn0)) hlt h)
            have HKn := hide (fun h => cfr_no (g := fun i => rhG ts (ds.getD i dn0)) hlt h)
            rw [HDd.out, HK.out] at HKo HKn
            have hbx := below_alloc wr (.cells #[.int .i64 p, .int .i64 q, .int .i64 ra, .int .i64 va] 60)
            have HBx := hide (below_on HB.out hbx)
            have e0 : (wr.alloc (.cells #[.int .i64 p, .int .i64 q, .int .i64 ra, .int .i64 va] 60)).cell? ⟨wr.heap.size, 0, none⟩ = some (.int .i64 p) := by simp [go_sem]
            have e1 : (wr.alloc (.cells #[.int .i64 p, .int .i64 q, .int .i64 ra, .int .i64 va] 60)).cell? ⟨wr.heap.size, 1, none⟩ = some (.int .i64 q) := by simp [go_sem]
            obtain ⟨X, hX⟩ : ∃ x, wr.alloc (.cells #[.int .i64 p, .int .i64 q, .int .i64 ra, .int .i64 va] 60) = x := ⟨_, rfl⟩
            rw [hX] at HBx e0 e1 hbx
            by_cases hp : rhP ts (p, q, ra, va)
            · skip
              have hpd : decide (0 ≤ p ∧ p < (m : Int)) = true := by rw [← HM.out]; exact decide_eq_true hp
              have HTX := hide (HT.out.later (below_on BB.out HBx.out))
              by_cases hq : rhQ ts (p, q, ra, va)
              · skip
                obtain ⟨b1, o1, b2, o2, i, j, l, c2, y6, z6, rfl, hi, hj, HA⟩ := rh_at HTX.out HM.out hp hq
                have hG := rhG_op hp hq
                rw [hG] at HKo HKn
                dsimp only at hi hj
                subst hi
                subst hj
                obtain ⟨hth, ⟨k0, k1, k2, k3, k4, k5, kI, kJ⟩, _, hil, hjl, hlm⟩ := HA
                generalize rhO ts ((i : Int), (j : Int), ra, va) = x at *
                obtain ⟨a6, c6, rfl⟩ := kI.shape
                obtain ⟨a7, c7, rfl, _⟩ := kJ.shape
                have HC2 := hide (implOpFault x kI kJ)
                obtain ⟨cc, hcc⟩ : ∃ c, opF x = c := ⟨_, rfl⟩
                rw [hcc] at HC2 HKo HKn
                have hi0 : (0 : Int) ≤ (i : Int) := by omega
                have hi1 : (i : Int) < (m : Int) := by omega
                have hj0 : (0 : Int) ≤ (j : Int) := by omega
                have hj1 : (j : Int) < (l : Int) := by omega
                have hjn : ¬ (j : Int) < 0 := by omega
                have hjm : ¬ (l : Int) ≤ (j : Int) := by omega
                have hb1 := World.block_lt_of_cell? _ _ hth
                have hb2 := World.block_lt_of_cell? _ _ k0
                clear kI kJ hcc hG hp hq hil hjl HTX
                go_wp2_with fail
                (try rw [hX])
                refine (isThI _ _ _ _ X).mono ?_
                rintro e w2 ⟨he, hw2⟩
                rw [hpd] at he
                rw [he, hw2]
                clear he hw2 w2
                go_wp2_with fail
                refine HC2.out.mono ?_
                rintro e w2 ⟨rfl, hb⟩
                have HB2 := hide (below_on HBx.out hb)
                clear hb HBx HC2 hth k0 k1 k2 k3 k4 k5 e0 e1 g0 g1 g2 g3
                by_cases hc0 : cc = 0
                · subst hc0
                  have HK2 := hide (HKo.out (by first | trivial | rfl))
                  go_wp2
                  go_roundw
                  case rel => exact ⟨k + 1, hlt, by go_num, HK2.out.symm, HB2.out⟩
                  case measure => simp [RowKit.intOf]; omega
                · have hc1 : (cc == 0) = false := by simpa using hc0
                  have hc2 : (cc != 0) = true := by simp [hc0]
                  have HE := hide (HC.out.trans (HKn.out hc0))
                  go_wp2
                  go_ret
                  exact ⟨by rw [HE.out]; rfl, below_on BB.out HB2.out⟩
              · obtain ⟨i, hi⟩ := Int.eq_ofNat_of_zero_le hp.1
                dsimp only at hi
                subst hi
                have hil : i < ts.length := by have := hp.2; dsimp only at this; omega
                obtain ⟨b1, o1, y6, rfl, hth⟩ := HTX.out.at hil
                have hG := rhG_at hp hq
                rw [hG] at HKn
                obtain ⟨a6, c6, ey, _⟩ := hth.rO.shape
                have hth := hth.c0
                rw [ey] at hth
                have hqn : ¬ (0 ≤ q ∧ q < (((ts.getD i tq0).os.length : Nat) : Int)) := hq
                generalize (ts.getD i tq0).os.length = l at hth hqn
                have hi0 : (0 : Int) ≤ (i : Int) := by omega
                have hi1 : (i : Int) < (m : Int) := by rw [← HM.out]; omega
                have hb1 := World.block_lt_of_cell? _ _ hth
                have HE := hide (HC.out.trans (HKn.out (by decide)))
                clear hp hq hil ey hG HTX
                by_cases hq0 : q < 0
                · skip
                  go_wp2_with fail
                  (try rw [hX])
                  refine (isThI _ _ _ _ X).mono ?_
                  rintro e w2 ⟨he, hw2⟩
                  rw [hpd] at he
                  rw [he, hw2]
                  clear he hw2 w2
                  go_wp2
                  go_ret
                  exact ⟨by rw [HE.out]; rfl, below_on BB.out HBx.out⟩
                · have hq1 : (l : Int) ≤ q := by omega
                  go_wp2_with fail
                  (try rw [hX])
                  refine (isThI _ _ _ _ X).mono ?_
                  rintro e w2 ⟨he, hw2⟩
                  rw [hpd] at he
                  rw [he, hw2]
                  clear he hw2 w2
                  go_wp2
                  go_ret
                  exact ⟨by rw [HE.out]; rfl, below_on BB.out HBx.out⟩
            · have hpd : decide (0 ≤ p ∧ p < (m : Int)) = false := by rw [← HM.out]; exact decide_eq_false hp
              have hG := rhG_th hp
              rw [hG] at HKn
              have HE := hide (HC.out.trans (HKn.out (by decide)))
              clear hp hG
              go_wp2_with fail
              (try rw [hX])
              refine (isThI _ _ _ _ X).mono ?_
              rintro e w2 ⟨he, hw2⟩
              rw [hpd] at he
              rw [he, hw2]
              clear he hw2 w2
              go_wp2
              go_ret
              exact ⟨by rw [HE.out]; rfl, below_on BB.out HBx.out⟩
          · have hkn : k = n := by omega
            subst hkn
            have hF : (0 : Int) = F := by rw [← HK.out, cfr_end (Nat.lt_irrefl _)]
            have HE := hide (HC.out.trans hF.symm)
            go_wp2
            go_ret
            exact ⟨by rw [HE.out]; rfl, below_on BB.out HB.out⟩
  · have h0b : (Z == 0) = false := by simpa using h0
    have h0c : (Z != 0) = true := by simp [h0]
    have HE := hide (HBad.out h0)
    clear h0
    go_wp2
    go_ret
    exact ⟨by rw [HE.out]; rfl, BB.out⟩
end Go.Proofs.YtcmdgnemkjfckaaGreatDoor
