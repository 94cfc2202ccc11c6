/- Lo2 in one text: what each says stands at its head below. -/
import Derived.Test.YtlliggfggadidaaGreatDoorG36
import Derived.Test.YtlliggfggadidaaGreatDoorG01
import Derived.Test.YtlliggfggadidaaGreatDoorG02
import Derived.Test.YtlliggfggadidaaGreatDoorG07
import Derived.Test.YtlliggfggadidaaGreatDoorG37
import Derived.Shelf.SortM.Plain
import Derived.Shelf.SortM.SortNone
import Derived.Sort.OwnSorted
import Derived.Sort.OwnSortedInts
namespace Go.Proofs.YtlliggfggadidaaGreatDoor
open Go.RowKit Go.Maps Go.Sort Go.Shelf
theorem Tryz.fldLk1 (x y : Value) (w : World) : (Instr.field 60 (.agg #[x, y]) 1).run Tryz.prog w = .ok y w := by
  simp [Instr.field, run_underlying Tryz.underlying60, asAgg, part, isAgg, run_underlying Tryz.underlying2]
set_option linter.unusedSimpArgs false in
set_option maxHeartbeats 8000000 in
set_option maxRecDepth 4000 in
theorem implLocksFor {S T : Nat → Prop} {w : World} {y z : Value} (r : Rf) (hy : RdI S w y r.sn) (hz : RdJ T w z r.lg) :
    Calls Tryz.prog 9 #[.agg #[.int .i64 r.tm, .int .i64 r.vt, .int .i64 r.si, .int .i64 r.st, y, z]] w (EndsI (opF r) (lkA r) w) := by
  obtain ⟨ay, cy, rfl⟩ := hy.shape
  obtain ⟨az, cz, rfl, _⟩ := hz.shape
  have BA0 := below_on (below_alloc w (.cells #[.int .i64 r.tm, .int .i64 r.vt, .int .i64 r.si, .int .i64 r.st, .slice ay r.sn.length cy, .slice az r.lg.length cz] 29)) (below_alloc _ (.cells #[.int .i64 0, .slice none 0 0] 36))
  have VA0 := (Var6_new w (.int .i64 r.tm) (.int .i64 r.vt) (.int .i64 r.si) (.int .i64 r.st) (.slice ay r.sn.length cy) (.slice az r.lg.length cz) 29).later (below_alloc _ (.cells #[.int .i64 0, .slice none 0 0] 36))
  have RA := hide (ResL.start w (.cells #[.int .i64 r.tm, .int .i64 r.vt, .int .i64 r.si, .int .i64 r.st, .slice ay r.sn.length cy, .slice az r.lg.length cz] 29) 36)
  have HF := hide (implOpFault r (hy.later BA0) (hz.later BA0))
  have HZ := hide hz
  have HIx := hide (@op_index r)
  have HL4 := hide (fun h : opF r = 0 => (opF_ok h).2.1)
  have HOk := hide (@lkA_ok r)
  have HNo := hide (@lkA_no r)
  have BA := hide BA0
  have VA := hide VA0
  clear BA0 VA0
  obtain ⟨A, hA⟩ : ∃ A, lkA r = A := ⟨_, rfl⟩
  rw [hA] at HOk HNo
  rw [hA]
  obtain ⟨Z, hZ⟩ : ∃ Z, opF r = Z := ⟨_, rfl⟩
  rw [hZ] at HF HIx HL4 HOk HNo
  rw [hZ]
  clear hA hZ hy hz
  obtain ⟨ps, hps⟩ : ∃ ps, r.lg = ps := ⟨_, rfl⟩
  rw [hps] at HF HZ HIx HL4 HOk BA VA RA ⊢
  clear hps
  obtain ⟨m, hm⟩ : ∃ m, ps.length = m := ⟨_, rfl⟩
  have HM := hide hm
  rw [hm] at HF HZ HIx HL4 BA VA RA ⊢
  clear hm
  generalize r.sn.length = l at *
  generalize r.tm = a at *
  generalize r.vt = b at *
  generalize r.si = c at *
  generalize r.st = d at *
  obtain ⟨W, hW⟩ : ∃ W, ((w.alloc (.cells #[.int .i64 a, .int .i64 b, .int .i64 c, .int .i64 d, .slice ay l cy, .slice az m cz] 29)).alloc (.cells #[.int .i64 0, .slice none 0 0] 36)) = W := ⟨_, rfl⟩
  rw [hW] at BA VA RA HF
  obtain ⟨v0, v1, v2, v3, v4, v5⟩ := VA.out
  go_enter Tryz.func9, Tryz.ntmps9
  go_wp2_with fail
  clear hW
  refine HF.out.mono ?_
  rintro e w1 ⟨rfl, hb⟩
  have BB := hide (below_on BA.out hb)
  have VB := hide (VA.out.later hb)
  have RB := hide (RA.out.later hb)
  clear hb v0 v1 v2 v3 v4 v5 VA RA BA
  obtain ⟨v0, v1, v2, v3, v4, v5⟩ := VB.out
  by_cases h0 : Z = 0
  · subst h0
    obtain ⟨i0, hi, hz0, hz1, hz2⟩ := info_parts Tryz.infoInt
    have hm4 := HL4.out (by first | trivial | rfl)
    have HIy := hide (fun k hk => HIx.out (by first | trivial | rfl) k hk)
    obtain rfl := HOk.out (by first | trivial | rfl)
    have hsz1 : w.heap.size + 1 < w1.heap.size := RB.out.v.lt
    clear HNo HOk HL4 HIx HF
    have hbn := below_alloc w1 (.cells #[.int .i64 2] 2)
    have HRow0 := hide (ownsRow_fullF w1 [.int .i64 2] 2 (by simp))
    obtain ⟨W2, hW2⟩ : ∃ x, w1.alloc (.cells #[.int .i64 2] 2) = x := ⟨_, rfl⟩
    have HRow : Hid (W2.ownsRow w1.heap.size 2 1 (.slice (some ⟨w1.heap.size, 0, none⟩) 1 1) 1 [.int .i64 2]) := by rw [← hW2]; exact HRow0.out
    rw [hW2] at hbn
    have B2 := hide hbn
    have VC := hide (VB.out.later hbn)
    have hz2s := hbn.size
    clear hbn HRow0 v0 v1 v2 v3 v4 v5
    obtain ⟨v0, v1, v2, v3, v4, v5⟩ := VC.out
    by_cases h3 : a = 3
    · subst h3
      have hkind : ((3 : Int) = 3 ∨ (3 : Int) = 4) := by decide
      have hb2 := below_alloc W2 (.cells #[.int .i64 0, .int .i64 1] 2)
      have HR2 := hide (ownsRow_later HRow.out hb2)
      have B3 := hide (below_on B2.out hb2)
      clear hb2
      go_wp2_with (at_builtin; refine wpList_append_any _ rfl _ _ 24 rfl w1.heap.size 2 i0 (.int .i64 0) 1 8 Tryz.underlying24 hi hz0 hz1 hz2 rfl (by decide) _ 1 _ (by rfl) HR2.out (some ⟨W2.heap.size, 0, none⟩) 2 2 [.int .i64 0, .int .i64 1] (by rfl) (by simp) (fun _ => ⟨_, rfl, World.news_of_block (cs := #[.int .i64 0, .int .i64 1]) (t := 2) (fr := (0, 0)) (heap_alloc_new W2 _)⟩) (by simp [Value.oneCell']) (by unfold maxLen; omega) (by omega) (by first | omega | (simp; omega)) ?_)
      intro v' w3 hown hgrow
      have B4 := hide (B3.out.grown hgrow (by simp; omega) (fun r hr => (HR2.out.lt r hr).1))
      have HR3 := hide hown
      have VE := hide (VB.out.later B4.out)
      clear hown hgrow v0 v1 v2 v3 v4 v5 VC
      obtain ⟨v0, v1, v2, v3, v4, v5⟩ := VE.out
      go_wp2
      (try rw [hW2])
      go_loopw [4, 28] (fun v i wr => ∃ k : Nat, k ≤ m ∧ i = .int .i64 k ∧ Hid (wr.ownsRow w1.heap.size 2 1 v (3 + k) (([2, 0, 1] ++ lkS (ps.take k)).map (Value.int .i64))) ∧ Hid (Below w1.heap.size w1 wr)) (fun _ i _ => m - (RowKit.intOf i).toNat)
      case atStart => exact ⟨0, Nat.zero_le _, rfl, by simpa [Hid, lkS] using HR3.out, B4.out⟩
      case round =>
        obtain ⟨k, hk, rfl, HRk, HB⟩ := hrel
        clear v0 v1 v2 v3 v4 v5
        have hzz := HB.out.size
        by_cases hlt : k < m
        · obtain ⟨b1, off, rfl, y1, q0, q1, q2, q3⟩ := HZ.out.file (k := k) (by rw [HM.out]; exact hlt)
          have HBw := hide (below_on BB.out HB.out)
          have g0 := cell_later HBw.out q0
          have g1 := cell_later HBw.out q1
          have g2 := cell_later HBw.out q2
          obtain ⟨a3, c3, rfl⟩ := q3.shape
          have hix := HIy.out k hlt
          have HSn := hide (lkS_take ps k (by rw [HM.out]; exact hlt))
          obtain ⟨x, hx⟩ : ∃ x, ps.getD k oj0 = x := ⟨_, rfl⟩
          rw [hx] at g0 g1 g2 hix HSn
          obtain ⟨xi, xt, xs⟩ := x
          dsimp only at g0 g1 g2 hix HSn
          generalize xs.length = lx at g2
          clear q0 q1 q2 q3 hx
          have bA := below_alloc wr (.cells #[.int .i64 xi, .int .i64 xt, .slice a3 lx c3] 58)
          have HSl := hide (implSlotFor xi (wr.alloc (.cells #[.int .i64 xi, .int .i64 xt, .slice a3 lx c3] 58)))
          rw [show sfC xi = 0 by unfold sfC; rw [if_pos hix], show sfV xi = 24 + xi % 14 by unfold sfV; rw [if_pos hix]] at HSl
          obtain ⟨sv, hsv⟩ : ∃ x, 24 + xi % 14 = x := ⟨_, rfl⟩
          rw [hsv] at HSl HSn
          clear hix hsv
          have hk0 : (0 : Int) ≤ (k : Int) := by omega
          have hk1 : (k : Int) < (m : Int) := by omega
          have hfl := Tryz.fldLk1
          have hbl := World.block_lt_of_cell? _ _ g0
          go_wp2_with fail
          refine HSl.out.mono ?_
          rintro e w5 ⟨rfl, hb⟩
          have hb5 := below_on bA hb
          have HR5 := hide (ownsRow_later (ownsRow_later HRk.out hb5) (below_alloc w5 (.cells #[.int .i64 sv] 2)))
          have HB5 := hide (below_on (below_on HB.out hb5) (below_alloc w5 (.cells #[.int .i64 sv] 2)))
          have hz5 := hb5.size
          clear hb hb5 bA g0 g1 g2 HSl
          go_wp2_with (at_builtin; refine wpList_append_any _ rfl _ _ 24 rfl w1.heap.size 2 i0 (.int .i64 0) 1 8 Tryz.underlying24 hi hz0 hz1 hz2 rfl (by decide) _ (3 + k) _ (by rfl) HR5.out (some ⟨w5.heap.size, 0, none⟩) 1 1 [.int .i64 sv] (by rfl) (by simp) (fun _ => ⟨_, rfl, World.news_of_block (cs := #[.int .i64 sv]) (t := 2) (fr := (0, 0)) (heap_alloc_new w5 _)⟩) (by simp [Value.oneCell']) (by unfold maxLen; omega) (by omega) (by first | omega | (simp; omega)) ?_)
          intro v' w6 hown hgrow
          have HR6 : Hid (w6.ownsRow w1.heap.size 2 1 v' (3 + (k + 1)) (([2, 0, 1] ++ lkS (ps.take (k + 1))).map (Value.int .i64))) := by
            rw [Hid, HSn.out, ← List.append_assoc, List.map_append]
            exact hown
          have HB6 := hide (HB5.out.grown hgrow (by simp; omega) (fun r hr => (HR5.out.lt r hr).1))
          clear hown hgrow
          go_wp2
          go_roundw
          case rel => exact ⟨k + 1, hlt, by go_num, HR6.out, HB6.out⟩
          case measure => simp [RowKit.intOf]; omega
        · have hkm : k = m := by omega
          subst hkm
          have hT : ps.take k = ps := List.take_of_length_le (by rw [HM.out]; exact Nat.le_refl _)
          rw [hT] at HRk
          clear hT
          rename Value => v
          rcases HRk.out.2 with ⟨hnil, hss⟩ | ⟨g, cap, cur, hv, hbase, hb, k1, k2, k3, k4⟩
          · exfalso; omega
          · subst hv
            have HE : Hid (([2, 0, 1] ++ lkS ps) = lkU 3 ps) := by simp [Hid, lkU, lkH, hkind]
            rw [HE.out] at HRk k4
            have HJ : Hid ((lkU 3 ps).length = 3 + k) := by rw [Hid, ← HE.out]; simp [lkS, HM.out]; try omega
            have hgl : g < wr.heap.size := (Array.getElem?_eq_some_iff.1 hb).1
            have hcon := AnyM.slices_Sort_int Tryz.sortA g 0 cap (lkU 3 ps) wr (holds_of_blockI hb (by rw [HJ.out]; simpa using k4)) hgl (by rw [HJ.out]; omega)
            change Calls Tryz.prog 29 _ _ _ at hcon
            have HCn := hide hcon
            have HLl := hide (lkQ_len 3 ps)
            have Hb := hide hb
            have K1 := hide k1
            have K2 := hide k2
            have K3 := hide k3
            clear hcon hb k1 k2 k3 k4
            rw [HJ.out] at HCn
            go_wp2_with fail
            refine HCn.out.mono ?_
            rintro e w9 ⟨rfl, nn, os, hw'⟩
            have HFF : Hid (ResL w w9 (w.heap.size + 1) ∧ OwI (w.heap.size + 1 + 1) w9 (.slice (some ⟨g, 0, none⟩) (3 + k) cap) (lkQ 3 ps)) := by
              rw [hw']
              refine ⟨RB.out.later (HB.out.grown (grownBy_sortedI _) HB.out.size (fun j hj => by injection hj with hj; omega)), ?_⟩
              have h := ownsRow_sortedI (n := nn) (os := os) HLl.out hbase Hb.out (by rw [HJ.out]; exact K1.out) (by first | exact K2.out | (rw [HJ.out]; exact K2.out)) (by first | exact K3.out | (rw [HJ.out]; exact K3.out))
              rw [HJ.out] at h
              exact (ow_of_owns (by rw [HLl.out, HJ.out]) h (by rw [HLl.out, HJ.out]; omega)).mono (by omega)
            clear hw'
            have HFn := hide (ret_list (x0 := .int .i64 0) HFF.out.1.below HFF.out.1.ge HFF.out.2)
            obtain ⟨_, ⟨c0, c1⟩, F, _⟩ := HFF.out.1
            have f0 := F 0
            have f1 := F 1
            clear F
            go_wp2
            refine bodyPost_ret (v := .agg #[.int .i64 0, .slice (some ⟨g, 0, none⟩) (3 + k) cap]) (by simp [results, Tryz.results9, go_sem, c0, c1]) rfl ⟨_, rfl, HFn.out.1, HFn.out.2⟩
    · have h3b : (a == 3) = false := by simpa using h3
      by_cases h4 : a = 4
      · subst h4
        have hkind : ((4 : Int) = 3 ∨ (4 : Int) = 4) := by decide
        have hb2 := below_alloc W2 (.cells #[.int .i64 0, .int .i64 1] 2)
        have HR2 := hide (ownsRow_later HRow.out hb2)
        have B3 := hide (below_on B2.out hb2)
        clear hb2
        go_wp2_with (at_builtin; refine wpList_append_any _ rfl _ _ 24 rfl w1.heap.size 2 i0 (.int .i64 0) 1 8 Tryz.underlying24 hi hz0 hz1 hz2 rfl (by decide) _ 1 _ (by rfl) HR2.out (some ⟨W2.heap.size, 0, none⟩) 2 2 [.int .i64 0, .int .i64 1] (by rfl) (by simp) (fun _ => ⟨_, rfl, World.news_of_block (cs := #[.int .i64 0, .int .i64 1]) (t := 2) (fr := (0, 0)) (heap_alloc_new W2 _)⟩) (by simp [Value.oneCell']) (by unfold maxLen; omega) (by omega) (by first | omega | (simp; omega)) ?_)
        intro v' w3 hown hgrow
        have B4 := hide (B3.out.grown hgrow (by simp; omega) (fun r hr => (HR2.out.lt r hr).1))
        have HR3 := hide hown
        have VE := hide (VB.out.later B4.out)
        clear hown hgrow v0 v1 v2 v3 v4 v5 VC
        obtain ⟨v0, v1, v2, v3, v4, v5⟩ := VE.out
        go_wp2
        (try rw [hW2])
        go_loopw [4, 28] (fun v i wr => ∃ k : Nat, k ≤ m ∧ i = .int .i64 k ∧ Hid (wr.ownsRow w1.heap.size 2 1 v (3 + k) (([2, 0, 1] ++ lkS (ps.take k)).map (Value.int .i64))) ∧ Hid (Below w1.heap.size w1 wr)) (fun _ i _ => m - (RowKit.intOf i).toNat)
        case atStart => exact ⟨0, Nat.zero_le _, rfl, by simpa [Hid, lkS] using HR3.out, B4.out⟩
        case round =>
          obtain ⟨k, hk, rfl, HRk, HB⟩ := hrel
          clear v0 v1 v2 v3 v4 v5
          have hzz := HB.out.size
          by_cases hlt : k < m
          · obtain ⟨b1, off, rfl, y1, q0, q1, q2, q3⟩ := HZ.out.file (k := k) (by rw [HM.out]; exact hlt)
            have HBw := hide (below_on BB.out HB.out)
            have g0 := cell_later HBw.out q0
            have g1 := cell_later HBw.out q1
            have g2 := cell_later HBw.out q2
            obtain ⟨a3, c3, rfl⟩ := q3.shape
            have hix := HIy.out k hlt
            have HSn := hide (lkS_take ps k (by rw [HM.out]; exact hlt))
            obtain ⟨x, hx⟩ : ∃ x, ps.getD k oj0 = x := ⟨_, rfl⟩
            rw [hx] at g0 g1 g2 hix HSn
            obtain ⟨xi, xt, xs⟩ := x
            dsimp only at g0 g1 g2 hix HSn
            generalize xs.length = lx at g2
            clear q0 q1 q2 q3 hx
            have bA := below_alloc wr (.cells #[.int .i64 xi, .int .i64 xt, .slice a3 lx c3] 58)
            have HSl := hide (implSlotFor xi (wr.alloc (.cells #[.int .i64 xi, .int .i64 xt, .slice a3 lx c3] 58)))
            rw [show sfC xi = 0 by unfold sfC; rw [if_pos hix], show sfV xi = 24 + xi % 14 by unfold sfV; rw [if_pos hix]] at HSl
            obtain ⟨sv, hsv⟩ : ∃ x, 24 + xi % 14 = x := ⟨_, rfl⟩
            rw [hsv] at HSl HSn
            clear hix hsv
            have hk0 : (0 : Int) ≤ (k : Int) := by omega
            have hk1 : (k : Int) < (m : Int) := by omega
            have hfl := Tryz.fldLk1
            have hbl := World.block_lt_of_cell? _ _ g0
            go_wp2_with fail
            refine HSl.out.mono ?_
            rintro e w5 ⟨rfl, hb⟩
            have hb5 := below_on bA hb
            have HR5 := hide (ownsRow_later (ownsRow_later HRk.out hb5) (below_alloc w5 (.cells #[.int .i64 sv] 2)))
            have HB5 := hide (below_on (below_on HB.out hb5) (below_alloc w5 (.cells #[.int .i64 sv] 2)))
            have hz5 := hb5.size
            clear hb hb5 bA g0 g1 g2 HSl
            go_wp2_with (at_builtin; refine wpList_append_any _ rfl _ _ 24 rfl w1.heap.size 2 i0 (.int .i64 0) 1 8 Tryz.underlying24 hi hz0 hz1 hz2 rfl (by decide) _ (3 + k) _ (by rfl) HR5.out (some ⟨w5.heap.size, 0, none⟩) 1 1 [.int .i64 sv] (by rfl) (by simp) (fun _ => ⟨_, rfl, World.news_of_block (cs := #[.int .i64 sv]) (t := 2) (fr := (0, 0)) (heap_alloc_new w5 _)⟩) (by simp [Value.oneCell']) (by unfold maxLen; omega) (by omega) (by first | omega | (simp; omega)) ?_)
            intro v' w6 hown hgrow
            have HR6 : Hid (w6.ownsRow w1.heap.size 2 1 v' (3 + (k + 1)) (([2, 0, 1] ++ lkS (ps.take (k + 1))).map (Value.int .i64))) := by
              rw [Hid, HSn.out, ← List.append_assoc, List.map_append]
              exact hown
            have HB6 := hide (HB5.out.grown hgrow (by simp; omega) (fun r hr => (HR5.out.lt r hr).1))
            clear hown hgrow
            go_wp2
            go_roundw
            case rel => exact ⟨k + 1, hlt, by go_num, HR6.out, HB6.out⟩
            case measure => simp [RowKit.intOf]; omega
          · have hkm : k = m := by omega
            subst hkm
            have hT : ps.take k = ps := List.take_of_length_le (by rw [HM.out]; exact Nat.le_refl _)
            rw [hT] at HRk
            clear hT
            rename Value => v
            rcases HRk.out.2 with ⟨hnil, hss⟩ | ⟨g, cap, cur, hv, hbase, hb, k1, k2, k3, k4⟩
            · exfalso; omega
            · subst hv
              have HE : Hid (([2, 0, 1] ++ lkS ps) = lkU 4 ps) := by simp [Hid, lkU, lkH, hkind]
              rw [HE.out] at HRk k4
              have HJ : Hid ((lkU 4 ps).length = 3 + k) := by rw [Hid, ← HE.out]; simp [lkS, HM.out]; try omega
              have hgl : g < wr.heap.size := (Array.getElem?_eq_some_iff.1 hb).1
              have hcon := AnyM.slices_Sort_int Tryz.sortA g 0 cap (lkU 4 ps) wr (holds_of_blockI hb (by rw [HJ.out]; simpa using k4)) hgl (by rw [HJ.out]; omega)
              change Calls Tryz.prog 29 _ _ _ at hcon
              have HCn := hide hcon
              have HLl := hide (lkQ_len 4 ps)
              have Hb := hide hb
              have K1 := hide k1
              have K2 := hide k2
              have K3 := hide k3
              clear hcon hb k1 k2 k3 k4
              rw [HJ.out] at HCn
              go_wp2_with fail
              refine HCn.out.mono ?_
              rintro e w9 ⟨rfl, nn, os, hw'⟩
              have HFF : Hid (ResL w w9 (w.heap.size + 1) ∧ OwI (w.heap.size + 1 + 1) w9 (.slice (some ⟨g, 0, none⟩) (3 + k) cap) (lkQ 4 ps)) := by
                rw [hw']
                refine ⟨RB.out.later (HB.out.grown (grownBy_sortedI _) HB.out.size (fun j hj => by injection hj with hj; omega)), ?_⟩
                have h := ownsRow_sortedI (n := nn) (os := os) HLl.out hbase Hb.out (by rw [HJ.out]; exact K1.out) (by first | exact K2.out | (rw [HJ.out]; exact K2.out)) (by first | exact K3.out | (rw [HJ.out]; exact K3.out))
                rw [HJ.out] at h
                exact (ow_of_owns (by rw [HLl.out, HJ.out]) h (by rw [HLl.out, HJ.out]; omega)).mono (by omega)
              clear hw'
              have HFn := hide (ret_list (x0 := .int .i64 0) HFF.out.1.below HFF.out.1.ge HFF.out.2)
              obtain ⟨_, ⟨c0, c1⟩, F, _⟩ := HFF.out.1
              have f0 := F 0
              have f1 := F 1
              clear F
              go_wp2
              refine bodyPost_ret (v := .agg #[.int .i64 0, .slice (some ⟨g, 0, none⟩) (3 + k) cap]) (by simp [results, Tryz.results9, go_sem, c0, c1]) rfl ⟨_, rfl, HFn.out.1, HFn.out.2⟩
      · have h4b : (a == 4) = false := by simpa using h4
        have hkind : ¬ (a = 3 ∨ a = 4) := by omega
        go_wp2
        (try rw [hW2])
        go_loopw [4, 28] (fun v i wr => ∃ k : Nat, k ≤ m ∧ i = .int .i64 k ∧ Hid (wr.ownsRow w1.heap.size 2 1 v (1 + k) (([2] ++ lkS (ps.take k)).map (Value.int .i64))) ∧ Hid (Below w1.heap.size w1 wr)) (fun _ i _ => m - (RowKit.intOf i).toNat)
        case atStart => exact ⟨0, Nat.zero_le _, rfl, by simpa [Hid, lkS] using HRow.out, B2.out⟩
        case round =>
          obtain ⟨k, hk, rfl, HRk, HB⟩ := hrel
          clear v0 v1 v2 v3 v4 v5
          have hzz := HB.out.size
          by_cases hlt : k < m
          · obtain ⟨b1, off, rfl, y1, q0, q1, q2, q3⟩ := HZ.out.file (k := k) (by rw [HM.out]; exact hlt)
            have HBw := hide (below_on BB.out HB.out)
            have g0 := cell_later HBw.out q0
            have g1 := cell_later HBw.out q1
            have g2 := cell_later HBw.out q2
            obtain ⟨a3, c3, rfl⟩ := q3.shape
            have hix := HIy.out k hlt
            have HSn := hide (lkS_take ps k (by rw [HM.out]; exact hlt))
            obtain ⟨x, hx⟩ : ∃ x, ps.getD k oj0 = x := ⟨_, rfl⟩
            rw [hx] at g0 g1 g2 hix HSn
            obtain ⟨xi, xt, xs⟩ := x
            dsimp only at g0 g1 g2 hix HSn
            generalize xs.length = lx at g2
            clear q0 q1 q2 q3 hx
            have bA := below_alloc wr (.cells #[.int .i64 xi, .int .i64 xt, .slice a3 lx c3] 58)
            have HSl := hide (implSlotFor xi (wr.alloc (.cells #[.int .i64 xi, .int .i64 xt, .slice a3 lx c3] 58)))
            rw [show sfC xi = 0 by unfold sfC; rw [if_pos hix], show sfV xi = 24 + xi % 14 by unfold sfV; rw [if_pos hix]] at HSl
            obtain ⟨sv, hsv⟩ : ∃ x, 24 + xi % 14 = x := ⟨_, rfl⟩
            rw [hsv] at HSl HSn
            clear hix hsv
            have hk0 : (0 : Int) ≤ (k : Int) := by omega
            have hk1 : (k : Int) < (m : Int) := by omega
            have hfl := Tryz.fldLk1
            have hbl := World.block_lt_of_cell? _ _ g0
            go_wp2_with fail
            refine HSl.out.mono ?_
            rintro e w5 ⟨rfl, hb⟩
            have hb5 := below_on bA hb
            have HR5 := hide (ownsRow_later (ownsRow_later HRk.out hb5) (below_alloc w5 (.cells #[.int .i64 sv] 2)))
            have HB5 := hide (below_on (below_on HB.out hb5) (below_alloc w5 (.cells #[.int .i64 sv] 2)))
            have hz5 := hb5.size
            clear hb hb5 bA g0 g1 g2 HSl
            go_wp2_with (at_builtin; refine wpList_append_any _ rfl _ _ 24 rfl w1.heap.size 2 i0 (.int .i64 0) 1 8 Tryz.underlying24 hi hz0 hz1 hz2 rfl (by decide) _ (1 + k) _ (by rfl) HR5.out (some ⟨w5.heap.size, 0, none⟩) 1 1 [.int .i64 sv] (by rfl) (by simp) (fun _ => ⟨_, rfl, World.news_of_block (cs := #[.int .i64 sv]) (t := 2) (fr := (0, 0)) (heap_alloc_new w5 _)⟩) (by simp [Value.oneCell']) (by unfold maxLen; omega) (by omega) (by first | omega | (simp; omega)) ?_)
            intro v' w6 hown hgrow
            have HR6 : Hid (w6.ownsRow w1.heap.size 2 1 v' (1 + (k + 1)) (([2] ++ lkS (ps.take (k + 1))).map (Value.int .i64))) := by
              rw [Hid, HSn.out, ← List.append_assoc, List.map_append]
              exact hown
            have HB6 := hide (HB5.out.grown hgrow (by simp; omega) (fun r hr => (HR5.out.lt r hr).1))
            clear hown hgrow
            go_wp2
            go_roundw
            case rel => exact ⟨k + 1, hlt, by go_num, HR6.out, HB6.out⟩
            case measure => simp [RowKit.intOf]; omega
          · have hkm : k = m := by omega
            subst hkm
            have hT : ps.take k = ps := List.take_of_length_le (by rw [HM.out]; exact Nat.le_refl _)
            rw [hT] at HRk
            clear hT
            rename Value => v
            rcases HRk.out.2 with ⟨hnil, hss⟩ | ⟨g, cap, cur, hv, hbase, hb, k1, k2, k3, k4⟩
            · exfalso; omega
            · subst hv
              have HE : Hid (([2] ++ lkS ps) = lkU a ps) := by simp [Hid, lkU, lkH, hkind]
              rw [HE.out] at HRk k4
              have HJ : Hid ((lkU a ps).length = 1 + k) := by rw [Hid, ← HE.out]; simp [lkS, HM.out]; try omega
              have hgl : g < wr.heap.size := (Array.getElem?_eq_some_iff.1 hb).1
              have hcon := AnyM.slices_Sort_int Tryz.sortA g 0 cap (lkU a ps) wr (holds_of_blockI hb (by rw [HJ.out]; simpa using k4)) hgl (by rw [HJ.out]; omega)
              change Calls Tryz.prog 29 _ _ _ at hcon
              have HCn := hide hcon
              have HLl := hide (lkQ_len a ps)
              have Hb := hide hb
              have K1 := hide k1
              have K2 := hide k2
              have K3 := hide k3
              clear hcon hb k1 k2 k3 k4
              rw [HJ.out] at HCn
              go_wp2_with fail
              refine HCn.out.mono ?_
              rintro e w9 ⟨rfl, nn, os, hw'⟩
              have HFF : Hid (ResL w w9 (w.heap.size + 1) ∧ OwI (w.heap.size + 1 + 1) w9 (.slice (some ⟨g, 0, none⟩) (1 + k) cap) (lkQ a ps)) := by
                rw [hw']
                refine ⟨RB.out.later (HB.out.grown (grownBy_sortedI _) HB.out.size (fun j hj => by injection hj with hj; omega)), ?_⟩
                have h := ownsRow_sortedI (n := nn) (os := os) HLl.out hbase Hb.out (by rw [HJ.out]; exact K1.out) (by first | exact K2.out | (rw [HJ.out]; exact K2.out)) (by first | exact K3.out | (rw [HJ.out]; exact K3.out))
                rw [HJ.out] at h
                exact (ow_of_owns (by rw [HLl.out, HJ.out]) h (by rw [HLl.out, HJ.out]; omega)).mono (by omega)
              clear hw'
              have HFn := hide (ret_list (x0 := .int .i64 0) HFF.out.1.below HFF.out.1.ge HFF.out.2)
              obtain ⟨_, ⟨c0, c1⟩, F, _⟩ := HFF.out.1
              have f0 := F 0
              have f1 := F 1
              clear F
              go_wp2
              refine bodyPost_ret (v := .agg #[.int .i64 0, .slice (some ⟨g, 0, none⟩) (1 + k) cap]) (by simp [results, Tryz.results9, go_sem, c0, c1]) rfl ⟨_, rfl, HFn.out.1, HFn.out.2⟩
  · obtain rfl := HNo.out h0
    have h0b : (Z == 0) = false := by simpa using h0
    have h0c : (Z != 0) = true := by simp [h0]
    clear h0
    have HFn := hide (ret_list (x0 := .int .i64 Z) RB.out.below RB.out.ge (OwI_nil (w.heap.size + 1 + 1) w1))
    obtain ⟨_, ⟨c0, c1⟩, F, _⟩ := RB.out
    have f0 := F 0
    have f1 := F 1
    clear F
    go_wp2
    refine bodyPost_ret (v := .agg #[.int .i64 Z, .slice none 0 0]) (by simp [results, Tryz.results9, go_sem, c0, c1]) rfl ⟨_, rfl, HFn.out.1, HFn.out.2⟩
end Go.Proofs.YtlliggfggadidaaGreatDoor
