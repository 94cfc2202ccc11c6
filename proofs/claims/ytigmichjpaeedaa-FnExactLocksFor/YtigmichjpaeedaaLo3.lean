/- Chapter 12: 'LocksFor' of the model, walked. Made by program (genlo.py). -/
import Derived.Test.YtigmichjpaeedaaLo1
import Derived.Test.YtigmichjpaeedaaCopy
import Derived.Test.YtigmichjpaeedaaBuilt
import Derived.Test.YtigmichjpaeedaaRs
namespace Go.Proofs.Ytigmichjpaeedaa
open Go.RowKit

set_option linter.unusedSimpArgs false in
set_option maxHeartbeats 8000000 in
set_option maxRecDepth 4000 in
theorem l12LocksI {T : Nat → Prop} {w : World} {bk : Nat} {y z : Value} (r : Rf) (h0 : opF r = 0) (hv : Var6 w bk (.int .i64 r.tm) (.int .i64 r.vt) (.int .i64 r.si) (.int .i64 r.st) y z) (hz : RdJ T w z r.lg) :
    Calls Try.prog 39 #[.pointer (some ⟨bk, 0, none⟩)] w fun e w' => ∃ u, e = .returned u ∧ Below w.heap.size w w' ∧ w'.ownsRow w.heap.size 2 1 u (lkQ r.tm r.lg).length ((lkQ r.tm r.lg).map (Value.int .i64)) := by
  obtain ⟨az, cz, rfl, _⟩ := hz.shape
  have HZ := hide hz
  have HIx := hide (op_index h0)
  have HMl : Hid ((lkM r.tm r.lg).length ≤ 7) := by rw [Hid, lkM_eq, lkQ_len]; have := lkU_len r.tm r.lg; have := (opF_ok h0).2.1; omega
  have hm4 := (opF_ok h0).2.1
  rw [← lkM_eq]
  have VA := hide hv
  clear hv hz h0
  obtain ⟨ps, hps⟩ : ∃ ps, r.lg = ps := ⟨_, rfl⟩
  rw [hps] at HZ HIx HMl hm4 VA ⊢
  clear hps
  obtain ⟨m, hm⟩ : ∃ m, ps.length = m := ⟨_, rfl⟩
  have HM := hide hm
  rw [hm] at HZ HIx hm4 VA
  clear hm
  generalize r.tm = a at *
  generalize r.vt = b at *
  generalize r.si = c at *
  generalize r.st = d at *
  obtain ⟨i0, hi, hz0, hz1, hz2⟩ := info_parts Try.infoInt
  have HMe : Hid (lkM a ps = lkH a ++ (2 :: lkG (lkS ps) 14 24)) := rfl
  obtain ⟨M, hM⟩ : ∃ M, lkM a ps = M := ⟨_, rfl⟩
  rw [hM] at HMl HMe ⊢
  clear hM
  obtain ⟨s, hs⟩ : ∃ s, lkS ps = s := ⟨_, rfl⟩
  have HS : Hid (∀ k, k < m → s.drop k = (24 + (ps.getD k oj0).1 % 14) :: s.drop (k + 1)) := fun k hk => by
    have hk2 : k < ps.length := by rw [HM.out]; exact hk
    have e : (ps.getD k oj0) = ps[k] := by simp [List.getD, hk2]
    rw [e, ← hs]
    unfold lkS
    rw [List.drop_eq_getElem_cons (by simpa using hk2)]
    simp
  have HSl : Hid (s.drop m = []) := by rw [Hid, ← hs]; apply List.drop_eq_nil_of_le; simp [lkS, HM.out]
  rw [hs] at HMe
  clear hs
  obtain ⟨v0, v1, v2, v3, v4, v5⟩ := VA.out
  have hbn := below_alloc w (.cells #[] 2)
  have HRow0 := hide (ownsRow_fullF w [] 2 (by simp))
  obtain ⟨W2, hW2⟩ : ∃ x, w.alloc (.cells #[] 2) = x := ⟨_, rfl⟩
  have HRow : Hid (W2.ownsRow w.heap.size 2 1 (.slice (some ⟨w.heap.size, 0, none⟩) 0 0) 0 []) := by rw [← hW2]; exact HRow0.out
  rw [hW2] at hbn
  have B2 := hide hbn
  have VC := hide (VA.out.later hbn)
  have hz2s := hbn.size
  clear hbn HRow0 v0 v1 v2 v3 v4 v5
  obtain ⟨v0, v1, v2, v3, v4, v5⟩ := VC.out
  go_enter Try.func39, Try.ntmps39
  by_cases h3 : a = 3
  · subst h3
    have hkind : lkH 3 = [0, 1] := by decide
    have hb2 := below_alloc W2 (.cells #[.int .i64 0, .int .i64 1] 2)
    have HR2 := hide (ownsRow_later HRow.out hb2)
    have B2x := hide (below_on B2.out hb2)
    have hzx : w.heap.size ≤ W2.heap.size := B2.out.size
    clear hb2
    go_wp2_with (at_builtin; refine wpList_append_any _ rfl _ _ 22 rfl w.heap.size 2 i0 (.int .i64 0) 1 8 Try.underlying22 hi hz0 hz1 hz2 rfl (by decide) _ 0 _ (by rfl) HR2.out (some ⟨W2.heap.size, 0, none⟩) 2 2 [.int .i64 0, .int .i64 1] (by rfl) (by simp) (fun _ => ⟨_, rfl, World.news_of_block (cs := #[.int .i64 0, .int .i64 1]) (t := 2) (fr := (0, 0)) (heap_alloc_new W2 _)⟩) (by simp [Value.oneCell']) (by unfold maxLen; omega) (by omega) (by first | omega | (simp; omega)) ?_)
    intro v' w3 hown hgrow
    have B3 := hide (B2x.out.grown hgrow (by simp; omega) (fun r hr => (HR2.out.lt r hr).1))
    have HR3 := hide hown
    clear hown hgrow HR2 B2x hzx
    have hb2 := below_alloc w3 (.cells #[.int .i64 2] 2)
    have HR2 := hide (ownsRow_later HR3.out hb2)
    have B2x := hide (below_on B3.out hb2)
    have hzx : w.heap.size ≤ w3.heap.size := B3.out.size
    clear hb2
    go_wp2_with (at_builtin; refine wpList_append_any _ rfl _ _ 22 rfl w.heap.size 2 i0 (.int .i64 0) 1 8 Try.underlying22 hi hz0 hz1 hz2 rfl (by decide) _ 2 _ (by rfl) HR2.out (some ⟨w3.heap.size, 0, none⟩) 1 1 [.int .i64 2] (by rfl) (by simp) (fun _ => ⟨_, rfl, World.news_of_block (cs := #[.int .i64 2]) (t := 2) (fr := (0, 0)) (heap_alloc_new w3 _)⟩) (by simp [Value.oneCell']) (by unfold maxLen; omega) (by omega) (by first | omega | (simp; omega)) ?_)
    intro v' w4 hown hgrow
    have B4 := hide (B2x.out.grown hgrow (by simp; omega) (fun r hr => (HR2.out.lt r hr).1))
    have HR4 := hide hown
    clear hown hgrow HR2 B2x hzx
    have VE := hide (VA.out.later B4.out)
    clear v0 v1 v2 v3 v4 v5 VC
    obtain ⟨v0, v1, v2, v3, v4, v5⟩ := VE.out
    have HT : Hid (([0, 1, 2] : List Int) ++ lkG s (14 - 0) (24 + ((0 : Nat) : Int)) = M) := by rw [Hid, HMe.out, hkind]; rfl
    clear HMe
    go_wp2
    (try rw [hW2])
    clear v0 v1 v2 v3 v4 v5
    go_loopw [3, 4] (fun v i wr => ∃ (n : Nat) (L : List Int), n ≤ 14 ∧ i = .int .i64 (24 + (n : Int)) ∧ Hid (L ++ lkG s (14 - n) (24 + (n : Int)) = M) ∧ Hid (wr.ownsRow w.heap.size 2 1 v L.length (L.map (Value.int .i64))) ∧ Hid (Below w.heap.size w wr)) (fun _ i _ => 38 - (RowKit.intOf i).toNat)
    case atStart => exact ⟨0, [0, 1, 2], Nat.zero_le _, by simp, HT.out, by simpa [Hid] using HR4.out, B4.out⟩
    case round =>
      obtain ⟨n, L, hn, rfl, HE, HR, HB⟩ := hrel
      clear HT
      rename Value => v
      by_cases hlt : n < 14
      · obtain ⟨q, hq⟩ : ∃ q : Int, 24 + (n : Int) = q := ⟨_, rfl⟩
        rw [hq] at HE
        have hq38 : q < 38 := by omega
        have HE0 : Hid (L ++ ((s.drop 0).filter (fun x => x == q) ++ lkG s (14 - (n + 1)) (q + 1)) = M) := by
          have e := HE.out
          rw [show 14 - n = (14 - (n + 1)) + 1 by omega, lkG] at e
          exact e
        have HBn := hide HB.out
        have VL := hide (VA.out.later HB.out)
        obtain ⟨v0, v1, v2, v3, v4, v5⟩ := VL.out
        rw [hq]
        go_wp2
        clear v0 v1 v2 v3 v4 v5 VL
        go_loopw [3, 5] (fun v i wr => ∃ (k : Nat) (L : List Int), k ≤ m ∧ i = .int .i64 k ∧ Hid (L ++ ((s.drop k).filter (fun x => x == q) ++ lkG s (14 - (n + 1)) (q + 1)) = M) ∧ Hid (wr.ownsRow w.heap.size 2 1 v L.length (L.map (Value.int .i64))) ∧ Hid (Below w.heap.size w wr)) (fun _ i _ => m - (RowKit.intOf i).toNat)
        case atStart => exact ⟨0, L, Nat.zero_le _, rfl, HE0.out, HR.out, HBn.out⟩
        case round =>
          clear HE0 HR HBn HB HE
          obtain ⟨k, L, hk, rfl, HE, HR, HB⟩ := hrel
          have VL := hide (VA.out.later HB.out)
          obtain ⟨v0, v1, v2, v3, v4, v5⟩ := VL.out
          have hzz := HB.out.size
          by_cases hlk : k < m
          · obtain ⟨b1, off, rfl, y1, q0, q1, q2, q3⟩ := HZ.out.file (k := k) (by rw [HM.out]; exact hlk)
            have g0 := cell_later HB.out q0
            have hix := (HIx.out k hlk).1
            have HSk := hide (HS.out k hlk)
            obtain ⟨x, hx⟩ : ∃ x, (ps.getD k oj0).1 = x := ⟨_, rfl⟩
            rw [hx] at g0 hix HSk
            have HSl9 := hide (l9Slot x hix wr)
            obtain ⟨sv, hsv⟩ : ∃ y, 24 + x % 14 = y := ⟨_, rfl⟩
            rw [hsv] at HSk HSl9
            clear q0 q1 q2 q3 hx hix hsv
            have hbl := World.block_lt_of_cell? _ _ g0
            have hk0 : (0 : Int) ≤ (k : Int) := by omega
            have hk1 : (k : Int) < (m : Int) := by omega
            have hLl : L.length ≤ 7 := by have h := congrArg List.length HE.out; have := HMl.out; simp only [List.length_append] at h; omega
            go_wp2_with fail
            refine HSl9.out.mono ?_
            rintro e w5 ⟨rfl, hw⟩
            have hw := hw.symm
            subst hw
            clear HSl9
            by_cases hse : sv = q
            · subst hse
              have hb2 := below_alloc wr (.cells #[.int .i64 sv] 2)
              have HR2 := hide (ownsRow_later HR.out hb2)
              have B2x := hide (below_on HB.out hb2)
              have hzx : w.heap.size ≤ wr.heap.size := HB.out.size
              clear hb2
              go_wp2_with (at_builtin; refine wpList_append_any _ rfl _ _ 22 rfl w.heap.size 2 i0 (.int .i64 0) 1 8 Try.underlying22 hi hz0 hz1 hz2 rfl (by decide) _ L.length _ (by rfl) HR2.out (some ⟨wr.heap.size, 0, none⟩) 1 1 [.int .i64 sv] (by rfl) (by simp) (fun _ => ⟨_, rfl, World.news_of_block (cs := #[.int .i64 sv]) (t := 2) (fr := (0, 0)) (heap_alloc_new wr _)⟩) (by simp [Value.oneCell']) (by unfold maxLen; omega) (by omega) (by first | omega | (simp; omega)) ?_)
              intro v' w6 hown hgrow
              have HB6 := hide (B2x.out.grown hgrow (by simp; omega) (fun r hr => (HR2.out.lt r hr).1))
              have HR6 := hide hown
              clear hown hgrow HR2 B2x hzx
              have HE6 : Hid ((L ++ [sv]) ++ ((s.drop (k + 1)).filter (fun x => x == sv) ++ lkG s (14 - (n + 1)) (sv + 1)) = M) := by
                have e := HE.out
                rw [HSk.out, List.filter_cons, if_pos (by simp)] at e
                simp only [List.append_assoc, List.cons_append, List.nil_append] at e ⊢
                exact e
              go_wp2
              go_roundw
              case rel => exact ⟨k + 1, L ++ [sv], hlk, by go_num, HE6.out, by simpa [Hid] using HR6.out, HB6.out⟩
              case measure => simp [RowKit.intOf]; omega
            · have hse1 : (sv == q) = false := by simpa using hse
              have hse2 : (sv != q) = true := by simp [hse]
              have HE6 : Hid (L ++ ((s.drop (k + 1)).filter (fun x => x == q) ++ lkG s (14 - (n + 1)) (q + 1)) = M) := by
                have e := HE.out
                rw [HSk.out, List.filter_cons, if_neg (by simp [hse])] at e
                exact e
              go_wp2
              go_roundw
              case rel => exact ⟨k + 1, L, hlk, by go_num, HE6.out, HR.out, HB.out⟩
              case measure => simp [RowKit.intOf]; omega
          · have hkm : k = m := by omega
            subst hkm
            have HE6 : Hid (L ++ lkG s (14 - (n + 1)) (24 + ((n + 1 : Nat) : Int)) = M) := by
              have e := HE.out
              rw [HSl.out] at e
              rw [Hid, show (24 + ((n + 1 : Nat) : Int)) = q + 1 by push_cast; omega]
              exact e
            go_wp2
            go_roundw
            case rel => exact ⟨n + 1, L, hlt, by first | (go_num; done) | (congr 1; push_cast; omega) | (simp; omega), HE6.out, HR.out, HB.out⟩
            case measure => simp [RowKit.intOf]; omega
      · have hn14 : n = 14 := by omega
        subst hn14
        have HLM : Hid (L = M) := by have e := HE.out; rw [Hid]; simpa [lkG] using e
        go_wp2
        go_ret
        exact ⟨_, rfl, HB.out, by rw [← HLM.out]; exact HR.out⟩
  · have h3b : (a == 3) = false := by simpa using h3
    by_cases h4 : a = 4
    · subst h4
      have hkind : lkH 4 = [0, 1] := by decide
      have hb2 := below_alloc W2 (.cells #[.int .i64 0, .int .i64 1] 2)
      have HR2 := hide (ownsRow_later HRow.out hb2)
      have B2x := hide (below_on B2.out hb2)
      have hzx : w.heap.size ≤ W2.heap.size := B2.out.size
      clear hb2
      go_wp2_with (at_builtin; refine wpList_append_any _ rfl _ _ 22 rfl w.heap.size 2 i0 (.int .i64 0) 1 8 Try.underlying22 hi hz0 hz1 hz2 rfl (by decide) _ 0 _ (by rfl) HR2.out (some ⟨W2.heap.size, 0, none⟩) 2 2 [.int .i64 0, .int .i64 1] (by rfl) (by simp) (fun _ => ⟨_, rfl, World.news_of_block (cs := #[.int .i64 0, .int .i64 1]) (t := 2) (fr := (0, 0)) (heap_alloc_new W2 _)⟩) (by simp [Value.oneCell']) (by unfold maxLen; omega) (by omega) (by first | omega | (simp; omega)) ?_)
      intro v' w3 hown hgrow
      have B3 := hide (B2x.out.grown hgrow (by simp; omega) (fun r hr => (HR2.out.lt r hr).1))
      have HR3 := hide hown
      clear hown hgrow HR2 B2x hzx
      have hb2 := below_alloc w3 (.cells #[.int .i64 2] 2)
      have HR2 := hide (ownsRow_later HR3.out hb2)
      have B2x := hide (below_on B3.out hb2)
      have hzx : w.heap.size ≤ w3.heap.size := B3.out.size
      clear hb2
      go_wp2_with (at_builtin; refine wpList_append_any _ rfl _ _ 22 rfl w.heap.size 2 i0 (.int .i64 0) 1 8 Try.underlying22 hi hz0 hz1 hz2 rfl (by decide) _ 2 _ (by rfl) HR2.out (some ⟨w3.heap.size, 0, none⟩) 1 1 [.int .i64 2] (by rfl) (by simp) (fun _ => ⟨_, rfl, World.news_of_block (cs := #[.int .i64 2]) (t := 2) (fr := (0, 0)) (heap_alloc_new w3 _)⟩) (by simp [Value.oneCell']) (by unfold maxLen; omega) (by omega) (by first | omega | (simp; omega)) ?_)
      intro v' w4 hown hgrow
      have B4 := hide (B2x.out.grown hgrow (by simp; omega) (fun r hr => (HR2.out.lt r hr).1))
      have HR4 := hide hown
      clear hown hgrow HR2 B2x hzx
      have VE := hide (VA.out.later B4.out)
      clear v0 v1 v2 v3 v4 v5 VC
      obtain ⟨v0, v1, v2, v3, v4, v5⟩ := VE.out
      have HT : Hid (([0, 1, 2] : List Int) ++ lkG s (14 - 0) (24 + ((0 : Nat) : Int)) = M) := by rw [Hid, HMe.out, hkind]; rfl
      clear HMe
      go_wp2
      (try rw [hW2])
      clear v0 v1 v2 v3 v4 v5
      go_loopw [3, 4] (fun v i wr => ∃ (n : Nat) (L : List Int), n ≤ 14 ∧ i = .int .i64 (24 + (n : Int)) ∧ Hid (L ++ lkG s (14 - n) (24 + (n : Int)) = M) ∧ Hid (wr.ownsRow w.heap.size 2 1 v L.length (L.map (Value.int .i64))) ∧ Hid (Below w.heap.size w wr)) (fun _ i _ => 38 - (RowKit.intOf i).toNat)
      case atStart => exact ⟨0, [0, 1, 2], Nat.zero_le _, by simp, HT.out, by simpa [Hid] using HR4.out, B4.out⟩
      case round =>
        obtain ⟨n, L, hn, rfl, HE, HR, HB⟩ := hrel
        clear HT
        rename Value => v
        by_cases hlt : n < 14
        · obtain ⟨q, hq⟩ : ∃ q : Int, 24 + (n : Int) = q := ⟨_, rfl⟩
          rw [hq] at HE
          have hq38 : q < 38 := by omega
          have HE0 : Hid (L ++ ((s.drop 0).filter (fun x => x == q) ++ lkG s (14 - (n + 1)) (q + 1)) = M) := by
            have e := HE.out
            rw [show 14 - n = (14 - (n + 1)) + 1 by omega, lkG] at e
            exact e
          have HBn := hide HB.out
          have VL := hide (VA.out.later HB.out)
          obtain ⟨v0, v1, v2, v3, v4, v5⟩ := VL.out
          rw [hq]
          go_wp2
          clear v0 v1 v2 v3 v4 v5 VL
          go_loopw [3, 5] (fun v i wr => ∃ (k : Nat) (L : List Int), k ≤ m ∧ i = .int .i64 k ∧ Hid (L ++ ((s.drop k).filter (fun x => x == q) ++ lkG s (14 - (n + 1)) (q + 1)) = M) ∧ Hid (wr.ownsRow w.heap.size 2 1 v L.length (L.map (Value.int .i64))) ∧ Hid (Below w.heap.size w wr)) (fun _ i _ => m - (RowKit.intOf i).toNat)
          case atStart => exact ⟨0, L, Nat.zero_le _, rfl, HE0.out, HR.out, HBn.out⟩
          case round =>
            clear HE0 HR HBn HB HE
            obtain ⟨k, L, hk, rfl, HE, HR, HB⟩ := hrel
            have VL := hide (VA.out.later HB.out)
            obtain ⟨v0, v1, v2, v3, v4, v5⟩ := VL.out
            have hzz := HB.out.size
            by_cases hlk : k < m
            · obtain ⟨b1, off, rfl, y1, q0, q1, q2, q3⟩ := HZ.out.file (k := k) (by rw [HM.out]; exact hlk)
              have g0 := cell_later HB.out q0
              have hix := (HIx.out k hlk).1
              have HSk := hide (HS.out k hlk)
              obtain ⟨x, hx⟩ : ∃ x, (ps.getD k oj0).1 = x := ⟨_, rfl⟩
              rw [hx] at g0 hix HSk
              have HSl9 := hide (l9Slot x hix wr)
              obtain ⟨sv, hsv⟩ : ∃ y, 24 + x % 14 = y := ⟨_, rfl⟩
              rw [hsv] at HSk HSl9
              clear q0 q1 q2 q3 hx hix hsv
              have hbl := World.block_lt_of_cell? _ _ g0
              have hk0 : (0 : Int) ≤ (k : Int) := by omega
              have hk1 : (k : Int) < (m : Int) := by omega
              have hLl : L.length ≤ 7 := by have h := congrArg List.length HE.out; have := HMl.out; simp only [List.length_append] at h; omega
              go_wp2_with fail
              refine HSl9.out.mono ?_
              rintro e w5 ⟨rfl, hw⟩
              have hw := hw.symm
              subst hw
              clear HSl9
              by_cases hse : sv = q
              · subst hse
                have hb2 := below_alloc wr (.cells #[.int .i64 sv] 2)
                have HR2 := hide (ownsRow_later HR.out hb2)
                have B2x := hide (below_on HB.out hb2)
                have hzx : w.heap.size ≤ wr.heap.size := HB.out.size
                clear hb2
                go_wp2_with (at_builtin; refine wpList_append_any _ rfl _ _ 22 rfl w.heap.size 2 i0 (.int .i64 0) 1 8 Try.underlying22 hi hz0 hz1 hz2 rfl (by decide) _ L.length _ (by rfl) HR2.out (some ⟨wr.heap.size, 0, none⟩) 1 1 [.int .i64 sv] (by rfl) (by simp) (fun _ => ⟨_, rfl, World.news_of_block (cs := #[.int .i64 sv]) (t := 2) (fr := (0, 0)) (heap_alloc_new wr _)⟩) (by simp [Value.oneCell']) (by unfold maxLen; omega) (by omega) (by first | omega | (simp; omega)) ?_)
                intro v' w6 hown hgrow
                have HB6 := hide (B2x.out.grown hgrow (by simp; omega) (fun r hr => (HR2.out.lt r hr).1))
                have HR6 := hide hown
                clear hown hgrow HR2 B2x hzx
                have HE6 : Hid ((L ++ [sv]) ++ ((s.drop (k + 1)).filter (fun x => x == sv) ++ lkG s (14 - (n + 1)) (sv + 1)) = M) := by
                  have e := HE.out
                  rw [HSk.out, List.filter_cons, if_pos (by simp)] at e
                  simp only [List.append_assoc, List.cons_append, List.nil_append] at e ⊢
                  exact e
                go_wp2
                go_roundw
                case rel => exact ⟨k + 1, L ++ [sv], hlk, by go_num, HE6.out, by simpa [Hid] using HR6.out, HB6.out⟩
                case measure => simp [RowKit.intOf]; omega
              · have hse1 : (sv == q) = false := by simpa using hse
                have hse2 : (sv != q) = true := by simp [hse]
                have HE6 : Hid (L ++ ((s.drop (k + 1)).filter (fun x => x == q) ++ lkG s (14 - (n + 1)) (q + 1)) = M) := by
                  have e := HE.out
                  rw [HSk.out, List.filter_cons, if_neg (by simp [hse])] at e
                  exact e
                go_wp2
                go_roundw
                case rel => exact ⟨k + 1, L, hlk, by go_num, HE6.out, HR.out, HB.out⟩
                case measure => simp [RowKit.intOf]; omega
            · have hkm : k = m := by omega
              subst hkm
              have HE6 : Hid (L ++ lkG s (14 - (n + 1)) (24 + ((n + 1 : Nat) : Int)) = M) := by
                have e := HE.out
                rw [HSl.out] at e
                rw [Hid, show (24 + ((n + 1 : Nat) : Int)) = q + 1 by push_cast; omega]
                exact e
              go_wp2
              go_roundw
              case rel => exact ⟨n + 1, L, hlt, by first | (go_num; done) | (congr 1; push_cast; omega) | (simp; omega), HE6.out, HR.out, HB.out⟩
              case measure => simp [RowKit.intOf]; omega
        · have hn14 : n = 14 := by omega
          subst hn14
          have HLM : Hid (L = M) := by have e := HE.out; rw [Hid]; simpa [lkG] using e
          go_wp2
          go_ret
          exact ⟨_, rfl, HB.out, by rw [← HLM.out]; exact HR.out⟩
    · have h4b : (a == 4) = false := by simpa using h4
      have hkind : lkH a = [] := by unfold lkH; rw [if_neg (by omega)]
      have hb2 := below_alloc W2 (.cells #[.int .i64 2] 2)
      have HR2 := hide (ownsRow_later HRow.out hb2)
      have B2x := hide (below_on B2.out hb2)
      have hzx : w.heap.size ≤ W2.heap.size := B2.out.size
      clear hb2
      go_wp2_with (at_builtin; refine wpList_append_any _ rfl _ _ 22 rfl w.heap.size 2 i0 (.int .i64 0) 1 8 Try.underlying22 hi hz0 hz1 hz2 rfl (by decide) _ 0 _ (by rfl) HR2.out (some ⟨W2.heap.size, 0, none⟩) 1 1 [.int .i64 2] (by rfl) (by simp) (fun _ => ⟨_, rfl, World.news_of_block (cs := #[.int .i64 2]) (t := 2) (fr := (0, 0)) (heap_alloc_new W2 _)⟩) (by simp [Value.oneCell']) (by unfold maxLen; omega) (by omega) (by first | omega | (simp; omega)) ?_)
      intro v' w4 hown hgrow
      have B4 := hide (B2x.out.grown hgrow (by simp; omega) (fun r hr => (HR2.out.lt r hr).1))
      have HR4 := hide hown
      clear hown hgrow HR2 B2x hzx
      have VE := hide (VA.out.later B4.out)
      clear v0 v1 v2 v3 v4 v5 VC
      obtain ⟨v0, v1, v2, v3, v4, v5⟩ := VE.out
      have HT : Hid (([2] : List Int) ++ lkG s (14 - 0) (24 + ((0 : Nat) : Int)) = M) := by rw [Hid, HMe.out, hkind]; rfl
      clear HMe
      go_wp2
      (try rw [hW2])
      clear v0 v1 v2 v3 v4 v5
      go_loopw [3, 4] (fun v i wr => ∃ (n : Nat) (L : List Int), n ≤ 14 ∧ i = .int .i64 (24 + (n : Int)) ∧ Hid (L ++ lkG s (14 - n) (24 + (n : Int)) = M) ∧ Hid (wr.ownsRow w.heap.size 2 1 v L.length (L.map (Value.int .i64))) ∧ Hid (Below w.heap.size w wr)) (fun _ i _ => 38 - (RowKit.intOf i).toNat)
      case atStart => exact ⟨0, [2], Nat.zero_le _, by simp, HT.out, by simpa [Hid] using HR4.out, B4.out⟩
      case round =>
        obtain ⟨n, L, hn, rfl, HE, HR, HB⟩ := hrel
        clear HT
        rename Value => v
        by_cases hlt : n < 14
        · obtain ⟨q, hq⟩ : ∃ q : Int, 24 + (n : Int) = q := ⟨_, rfl⟩
          rw [hq] at HE
          have hq38 : q < 38 := by omega
          have HE0 : Hid (L ++ ((s.drop 0).filter (fun x => x == q) ++ lkG s (14 - (n + 1)) (q + 1)) = M) := by
            have e := HE.out
            rw [show 14 - n = (14 - (n + 1)) + 1 by omega, lkG] at e
            exact e
          have HBn := hide HB.out
          have VL := hide (VA.out.later HB.out)
          obtain ⟨v0, v1, v2, v3, v4, v5⟩ := VL.out
          rw [hq]
          go_wp2
          clear v0 v1 v2 v3 v4 v5 VL
          go_loopw [3, 5] (fun v i wr => ∃ (k : Nat) (L : List Int), k ≤ m ∧ i = .int .i64 k ∧ Hid (L ++ ((s.drop k).filter (fun x => x == q) ++ lkG s (14 - (n + 1)) (q + 1)) = M) ∧ Hid (wr.ownsRow w.heap.size 2 1 v L.length (L.map (Value.int .i64))) ∧ Hid (Below w.heap.size w wr)) (fun _ i _ => m - (RowKit.intOf i).toNat)
          case atStart => exact ⟨0, L, Nat.zero_le _, rfl, HE0.out, HR.out, HBn.out⟩
          case round =>
            clear HE0 HR HBn HB HE
            obtain ⟨k, L, hk, rfl, HE, HR, HB⟩ := hrel
            have VL := hide (VA.out.later HB.out)
            obtain ⟨v0, v1, v2, v3, v4, v5⟩ := VL.out
            have hzz := HB.out.size
            by_cases hlk : k < m
            · obtain ⟨b1, off, rfl, y1, q0, q1, q2, q3⟩ := HZ.out.file (k := k) (by rw [HM.out]; exact hlk)
              have g0 := cell_later HB.out q0
              have hix := (HIx.out k hlk).1
              have HSk := hide (HS.out k hlk)
              obtain ⟨x, hx⟩ : ∃ x, (ps.getD k oj0).1 = x := ⟨_, rfl⟩
              rw [hx] at g0 hix HSk
              have HSl9 := hide (l9Slot x hix wr)
              obtain ⟨sv, hsv⟩ : ∃ y, 24 + x % 14 = y := ⟨_, rfl⟩
              rw [hsv] at HSk HSl9
              clear q0 q1 q2 q3 hx hix hsv
              have hbl := World.block_lt_of_cell? _ _ g0
              have hk0 : (0 : Int) ≤ (k : Int) := by omega
              have hk1 : (k : Int) < (m : Int) := by omega
              have hLl : L.length ≤ 7 := by have h := congrArg List.length HE.out; have := HMl.out; simp only [List.length_append] at h; omega
              go_wp2_with fail
              refine HSl9.out.mono ?_
              rintro e w5 ⟨rfl, hw⟩
              have hw := hw.symm
              subst hw
              clear HSl9
              by_cases hse : sv = q
              · subst hse
                have hb2 := below_alloc wr (.cells #[.int .i64 sv] 2)
                have HR2 := hide (ownsRow_later HR.out hb2)
                have B2x := hide (below_on HB.out hb2)
                have hzx : w.heap.size ≤ wr.heap.size := HB.out.size
                clear hb2
                go_wp2_with (at_builtin; refine wpList_append_any _ rfl _ _ 22 rfl w.heap.size 2 i0 (.int .i64 0) 1 8 Try.underlying22 hi hz0 hz1 hz2 rfl (by decide) _ L.length _ (by rfl) HR2.out (some ⟨wr.heap.size, 0, none⟩) 1 1 [.int .i64 sv] (by rfl) (by simp) (fun _ => ⟨_, rfl, World.news_of_block (cs := #[.int .i64 sv]) (t := 2) (fr := (0, 0)) (heap_alloc_new wr _)⟩) (by simp [Value.oneCell']) (by unfold maxLen; omega) (by omega) (by first | omega | (simp; omega)) ?_)
                intro v' w6 hown hgrow
                have HB6 := hide (B2x.out.grown hgrow (by simp; omega) (fun r hr => (HR2.out.lt r hr).1))
                have HR6 := hide hown
                clear hown hgrow HR2 B2x hzx
                have HE6 : Hid ((L ++ [sv]) ++ ((s.drop (k + 1)).filter (fun x => x == sv) ++ lkG s (14 - (n + 1)) (sv + 1)) = M) := by
                  have e := HE.out
                  rw [HSk.out, List.filter_cons, if_pos (by simp)] at e
                  simp only [List.append_assoc, List.cons_append, List.nil_append] at e ⊢
                  exact e
                go_wp2
                go_roundw
                case rel => exact ⟨k + 1, L ++ [sv], hlk, by go_num, HE6.out, by simpa [Hid] using HR6.out, HB6.out⟩
                case measure => simp [RowKit.intOf]; omega
              · have hse1 : (sv == q) = false := by simpa using hse
                have hse2 : (sv != q) = true := by simp [hse]
                have HE6 : Hid (L ++ ((s.drop (k + 1)).filter (fun x => x == q) ++ lkG s (14 - (n + 1)) (q + 1)) = M) := by
                  have e := HE.out
                  rw [HSk.out, List.filter_cons, if_neg (by simp [hse])] at e
                  exact e
                go_wp2
                go_roundw
                case rel => exact ⟨k + 1, L, hlk, by go_num, HE6.out, HR.out, HB.out⟩
                case measure => simp [RowKit.intOf]; omega
            · have hkm : k = m := by omega
              subst hkm
              have HE6 : Hid (L ++ lkG s (14 - (n + 1)) (24 + ((n + 1 : Nat) : Int)) = M) := by
                have e := HE.out
                rw [HSl.out] at e
                rw [Hid, show (24 + ((n + 1 : Nat) : Int)) = q + 1 by push_cast; omega]
                exact e
              go_wp2
              go_roundw
              case rel => exact ⟨n + 1, L, hlt, by first | (go_num; done) | (congr 1; push_cast; omega) | (simp; omega), HE6.out, HR.out, HB.out⟩
              case measure => simp [RowKit.intOf]; omega
        · have hn14 : n = 14 := by omega
          subst hn14
          have HLM : Hid (L = M) := by have e := HE.out; rw [Hid]; simpa [lkG] using e
          go_wp2
          go_ret
          exact ⟨_, rfl, HB.out, by rw [← HLM.out]; exact HR.out⟩

set_option linter.unusedSimpArgs false in
set_option maxHeartbeats 8000000 in
set_option maxRecDepth 4000 in
theorem specLocksFor {S T : Nat → Prop} {w : World} {y z : Value} (r : Rf) (hy : RdI S w y r.sn) (hz : RdJ T w z r.lg) :
    Calls Try.prog 17 #[.agg #[.int .i64 r.tm, .int .i64 r.vt, .int .i64 r.si, .int .i64 r.st, y, z]] w (EndsI (opF r) (lkA r) w) := by
  obtain ⟨ay, cy, rfl⟩ := hy.shape
  obtain ⟨az, cz, rfl, _⟩ := hz.shape
  have BA0 := below_on (below_alloc w (.cells #[.int .i64 r.tm, .int .i64 r.vt, .int .i64 r.si, .int .i64 r.st, .slice ay r.sn.length cy, .slice az r.lg.length cz] 30)) (below_alloc _ (.cells #[.int .i64 0, .slice none 0 0] 45))
  have VA0 := (Var6_new w (.int .i64 r.tm) (.int .i64 r.vt) (.int .i64 r.si) (.int .i64 r.st) (.slice ay r.sn.length cy) (.slice az r.lg.length cz) 30).later (below_alloc _ (.cells #[.int .i64 0, .slice none 0 0] 45))
  have RA := hide (ResL.start w (.cells #[.int .i64 r.tm, .int .i64 r.vt, .int .i64 r.si, .int .i64 r.st, .slice ay r.sn.length cy, .slice az r.lg.length cz] 30) 45)
  have HF := hide (l12Fault r VA0 (hy.later BA0) (hz.later BA0))
  have HLo := hide (fun (h : opF r = 0) (w' : World) (hb : Below w.heap.size w w') (h6 : Var6 w' w.heap.size (.int .i64 r.tm) (.int .i64 r.vt) (.int .i64 r.si) (.int .i64 r.st) (.slice ay r.sn.length cy) (.slice az r.lg.length cz)) => l12LocksI r h h6 (hz.later hb))
  have HZ := hide hz
  have HIx := hide (@op_index r)
  have HL4 := hide (fun h : opF r = 0 => (opF_ok h).2.1)
  have HOk := hide (@lkA_ok r)
  have HNo := hide (@lkA_no r)
  have BA := hide BA0
  have VA := hide VA0
  clear BA0 VA0
  obtain ⟨A, hA⟩ : ∃ A, lkA r = A := ⟨_, rfl⟩
  rw [hA] at HOk HNo
  rw [hA]
  obtain ⟨Z, hZ⟩ : ∃ Z, opF r = Z := ⟨_, rfl⟩
  rw [hZ] at HF HIx HL4 HOk HNo HLo
  rw [hZ]
  clear hA hZ hy hz
  obtain ⟨ps, hps⟩ : ∃ ps, r.lg = ps := ⟨_, rfl⟩
  rw [hps] at HF HZ HIx HL4 HOk BA VA RA HLo ⊢
  clear hps
  obtain ⟨m, hm⟩ : ∃ m, ps.length = m := ⟨_, rfl⟩
  have HM := hide hm
  rw [hm] at HF HZ HIx HL4 BA VA RA HLo ⊢
  clear hm
  generalize r.sn.length = l at *
  generalize r.tm = a at *
  generalize r.vt = b at *
  generalize r.si = c at *
  generalize r.st = d at *
  obtain ⟨W, hW⟩ : ∃ W, ((w.alloc (.cells #[.int .i64 a, .int .i64 b, .int .i64 c, .int .i64 d, .slice ay l cy, .slice az m cz] 30)).alloc (.cells #[.int .i64 0, .slice none 0 0] 45)) = W := ⟨_, rfl⟩
  rw [hW] at BA VA RA HF
  obtain ⟨v0, v1, v2, v3, v4, v5⟩ := VA.out
  go_enter Try.func17, Try.ntmps17
  go_wp2_with fail
  clear hW
  refine HF.out.mono ?_
  rintro e w1 ⟨rfl, hb⟩
  have BB := hide (below_on BA.out hb)
  have VB := hide (VA.out.later hb)
  have RB := hide (RA.out.later hb)
  clear hb v0 v1 v2 v3 v4 v5 VA RA BA
  obtain ⟨v0, v1, v2, v3, v4, v5⟩ := VB.out
  by_cases h0 : Z = 0
  · subst h0
    have hm4 := HL4.out (by first | trivial | rfl)
    obtain rfl := HOk.out (by first | trivial | rfl)
    have hsz1 : w.heap.size + 1 < w1.heap.size := RB.out.v.lt
    have HLp := hide (HLo.out (by first | trivial | rfl) _ BB.out VB.out)
    have HQl := hide (lkQ_len a ps)
    have HUl := hide (lkU_len a ps)
    clear HNo HOk HL4 HIx HF HLo
    go_wp2_with fail
    refine HLp.out.mono ?_
    rintro e w2 ⟨u, rfl, hb, hrow⟩
    have HOw : Hid (OwI (w.heap.size + 1 + 1) w2 u (lkQ a ps)) := (ow_of_owns rfl hrow (by rw [HQl.out]; have := HUl.out; have := HM.out; omega)).mono (by omega)
    have RC := hide (RB.out.later hb)
    clear hb hrow HLp v0 v1 v2 v3 v4 v5
    obtain ⟨au, cu, hu⟩ := HOw.out.shape
    generalize (lkQ a ps).length = lu at hu
    subst hu
    have HFn := hide (ret_list (x0 := .int .i64 0) RC.out.below RC.out.ge HOw.out)
    obtain ⟨_, ⟨c0, c1⟩, F, _⟩ := RC.out
    have f0 := F 0
    have f1 := F 1
    clear F
    go_wp2
    refine bodyPost_ret (v := .agg #[.int .i64 0, .slice au lu cu]) (by simp [results, Try.results17, go_sem, c0, c1]) rfl ⟨_, rfl, HFn.out.1, HFn.out.2⟩
  · obtain rfl := HNo.out h0
    have h0b : (Z == 0) = false := by simpa using h0
    have h0c : (Z != 0) = true := by simp [h0]
    clear h0
    have HFn := hide (ret_list (x0 := .int .i64 Z) RB.out.below RB.out.ge (OwI_nil (w.heap.size + 1 + 1) w1))
    obtain ⟨_, ⟨c0, c1⟩, F, _⟩ := RB.out
    have f0 := F 0
    have f1 := F 1
    clear F
    go_wp2
    refine bodyPost_ret (v := .agg #[.int .i64 Z, .slice none 0 0]) (by simp [results, Try.results17, go_sem, c0, c1]) rfl ⟨_, rfl, HFn.out.1, HFn.out.2⟩
end Go.Proofs.Ytigmichjpaeedaa
