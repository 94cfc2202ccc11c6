/- EnZ in one text: what each says stands at its head below. -/
import Derived.Test.YtcbapclpopbjbaaDoorG09
import Derived.Test.YtcbapclpopbjbaaDoorG11
/- Chapter 9: lists of entries: how much they hold, and copies of them. Made by program (genen.py). -/
namespace Go.Proofs.YtcbapclpopbjbaaDoor
open Go.RowKit

theorem szEntry' {S : Nat → Prop} {w : World} {y : Value} {xs : List Int} {left : Int} {m : Nat} (a0 a1 : Int) (hy : RdI S w y xs) (hl : xs.length = m) (h0 : 0 ≤ left) (h1 : left ≤ 1048576) :
    Calls Tryd.prog 49 #[.agg #[.int .i64 a0, .int .i64 a1, y], .int .i64 left] w fun e w' => e = .returned (.int .i64 (szv left (m : Int))) ∧ Below w.heap.size w w' := by
  subst hl
  exact szEntry a0 a1 hy h0 h1

theorem szEn_cells (ps : List Oj) (n b off c : Nat) (X Y : Nat → Int) (V : Nat → Value) (left : Int) (w : World) (hn : ps.length = n) (hm : n ≤ 9223372036854775807) (h0 : 0 ≤ left) (h1 : left ≤ 1048576)
    (hx : ∀ i, i < n → w.cell? ⟨b, off + i * 3, none⟩ = some (.int .i64 (X i)) ∧ w.cell? ⟨b, off + i * 3 + 1, none⟩ = some (.int .i64 (Y i)) ∧ w.cell? ⟨b, off + i * 3 + 2, none⟩ = some (V i) ∧ ∃ S, RdI S w (V i) (ps.getD i oj0).2.2) :
    Calls Tryd.prog 29 #[.slice (some ⟨b, off, none⟩) n c, .int .i64 left] w fun e w' => e = .returned (.int .i64 (szv left ((n : Int) + (totX ps n : Int)))) ∧ Below w.heap.size w w' := by
  have HN := hide hn
  have HX := hide hx
  clear hn hx
  by_cases h : (n : Int) ≤ left
  · go_enter Tryd.func29, Tryd.ntmps29
    go_wp2
    go_loopw [1, 5] (fun t i wr => ∃ j : Nat, j ≤ n ∧ (n : Int) + (totX ps j : Int) ≤ left ∧ t = .int .i64 (left - ((n : Int) + (totX ps j : Int))) ∧ i = .int .i64 j ∧ Hid (Below w.heap.size w wr)) (fun _ i _ => n - (intOf i).toNat)
    case atStart => exact ⟨0, Nat.zero_le _, by simpa [totX_zero] using h, by simp [totX_zero], rfl, Below.refl _ _⟩
    case round =>
      obtain ⟨j, hj, hs, rfl, rfl, HB⟩ := hrel
      by_cases hlt : j < n
      · obtain ⟨q1, q1b, q2, S, hR⟩ := HX.out j hlt
        have g1 := cell_later HB.out q1
        have g1b := cell_later HB.out q1b
        have g2 := cell_later HB.out q2
        have HR := hide (hR.later HB.out)
        have ht := totX_succ ps j (by rw [HN.out]; exact hlt)
        obtain ⟨m, hml⟩ : ∃ m, (ps.getD j oj0).2.2.length = m := ⟨_, rfl⟩
        rw [hml] at ht
        have HL := hide hml
        have HT := hide ht
        clear hml ht
        have hle := totX_le ps (j + 1) n hlt
        clear hR q1 q1b q2
        by_cases hy : (n : Int) + (totX ps (j + 1) : Int) ≤ left
        · have HY := hide (szv_yes (left := left - ((n : Int) + (totX ps j : Int))) (s := (m : Int)) (by have := HT.out; omega))
          have hp : ¬ left - ((n : Int) + (totX ps j : Int)) - (m : Int) < 0 := by have := HT.out; omega
          clear hle
          go_wp2_with fail
          refine (szEntry' (X j) (Y j) HR.out HL.out (by omega) (by omega)).mono ?_
          rintro e w' ⟨he, hb⟩
          rw [HY.out] at he
          subst he
          have HB2 := hide (below_on HB.out hb)
          clear hb
          go_wp2
          go_roundw
          case rel => exact ⟨j + 1, hlt, hy, by rw [HT.out]; go_num, by go_num, HB2.out⟩
          case measure => simp [intOf]; omega
        · have HY := hide (szv_no (left := left - ((n : Int) + (totX ps j : Int))) (s := (m : Int)) (by have := HT.out; omega))
          have HZ := hide (szv_no (left := left) (s := (n : Int) + (totX ps n : Int)) (by omega))
          clear hle
          go_wp2_with fail
          refine (szEntry' (X j) (Y j) HR.out HL.out (by omega) (by omega)).mono ?_
          rintro e w' ⟨he, hb⟩
          rw [HY.out] at he
          subst he
          have HB2 := hide (below_on HB.out hb)
          clear hb
          go_wp2
          go_ret
          exact ⟨ret_int HZ.out.symm, HB2.out⟩
      · have : j = n := by omega
        subst this
        have HZ := hide (szv_yes hs)
        go_wp2
        go_ret
        exact ⟨ret_int HZ.out.symm, HB.out⟩
  · have HZ := hide (szv_no (left := left) (s := (n : Int) + (totX ps n : Int)) (by omega))
    go_enter Tryd.func29, Tryd.ntmps29
    go_wp2
    go_ret
    exact ⟨ret_int HZ.out.symm, Below.refl _ _⟩

theorem szEn_none (ao : Option Addr) (c : Nat) (left : Int) (w : World) (h0 : 0 ≤ left) (h1 : left ≤ 1048576) :
    Calls Tryd.prog 29 #[.slice ao 0 c, .int .i64 left] w fun e w' => e = .returned (.int .i64 left) ∧ Below w.heap.size w w' := by
  go_enter Tryd.func29, Tryd.ntmps29
  go_wp2
  go_loopw [1, 5] (fun t i wr => t = .int .i64 left ∧ i = .int .i64 0 ∧ wr = w) (fun _ _ _ => 0)
  case atStart => exact ⟨rfl, rfl, rfl⟩
  case round =>
    obtain ⟨rfl, rfl, rfl⟩ := hrel
    go_wp2
    go_ret
    exact ⟨rfl, Below.refl _ _⟩

theorem szEn {S : Nat → Prop} {w : World} {v : Value} {ps : List Oj} {left : Int} (hv : RdJ S w v ps) (h0 : 0 ≤ left) (h1 : left ≤ 1048576) :
    Calls Tryd.prog 29 #[v, .int .i64 left] w fun e w' => e = .returned (.int .i64 (szv left ((ps.length : Int) + (totX ps ps.length : Int)))) ∧ Below w.heap.size w w' := by
  obtain ⟨ao, c, rfl, hm, h⟩ := hv
  by_cases hne : ps = []
  · subst hne
    exact (szEn_none _ _ _ _ h0 h1).mono fun e w' ⟨he, hw⟩ => ⟨by rw [szv_yes (by simp [totX]; omega)]; simpa [totX] using he, hw⟩
  · obtain ⟨b, off, V, rfl, _, hc⟩ := h hne
    exact szEn_cells ps _ b off c _ _ V left w rfl hm h0 h1 fun i hi => ⟨(hc i hi).1, (hc i hi).2.1, (hc i hi).2.2.1, S, (hc i hi).2.2.2⟩

theorem Tryd.infoEntry : (Tryd.prog.info? 64).map (fun i => (i.zero, i.size, i.bytes)) = some (some (.agg #[.int .i64 0, .int .i64 0, .slice none 0 0]), 3, 40) := by kernel_rfl

theorem run_make_entry (n : Nat) (hn : n ≤ 1048576) (w : World) :
    (Instr.makeSlice 37 (.int .i64 (n : Int)) (.int .i64 (n : Int))).run Tryd.prog w = .ok (.slice (some ⟨w.heap.size, 0, none⟩) n n) (w.alloc (.cells (madeCells #[.int .i64 0, .int .i64 0, .slice none 0 0] (n * 3)) 64)) := by
  obtain ⟨i, hi, hz, hs, hb⟩ := info_parts Tryd.infoEntry
  have hr := run_make (P := Tryd.prog) w 37 64 i (.agg #[.int .i64 0, .int .i64 0, .slice none 0 0]) Tryd.underlying37 hi hz .i64 .i64 n n (by omega) (Int.le_refl _) (by rw [hb]; omega) (by omega)
  simp only [Int.toNat_natCast, hs] at hr
  exact hr

set_option maxHeartbeats 1000000 in
set_option maxRecDepth 4000 in
theorem toEn_cells (os : List Oj) (n b off c : Nat) (V : Nat → Value) (w : World) (hn : os.length = n) (hm : n ≤ 1048576)
    (hx : ∀ i, i < n → w.cell? ⟨b, off + i * 3, none⟩ = some (.int .i64 (os.getD i oj0).1) ∧ w.cell? ⟨b, off + i * 3 + 1, none⟩ = some (.int .i64 (os.getD i oj0).2.1) ∧ w.cell? ⟨b, off + i * 3 + 2, none⟩ = some (V i) ∧ (os.getD i oj0).2.2.length ≤ 1048576 ∧ ∃ S, RdI S w (V i) (os.getD i oj0).2.2) :
    Calls Tryd.prog 34 #[.slice (some ⟨b, off, none⟩) n c] w fun e w' =>
      e = .returned (.slice (some ⟨w.heap.size, 0, none⟩) n n) ∧ ToJ os w n w' := by
  have hmk := run_make_entry n hm
  have HX := hide hx
  have HN := hide hn
  have HT0 := hide (ToJ.start os w n hn 64)
  clear hx hn
  go_enter Tryd.func34, Tryd.ntmps34
  go_wp2
  go_loopw [4] (fun i wr => ∃ j : Nat, j ≤ n ∧ i = .int .i64 j ∧ Hid (ToJ os w j wr)) (fun i _ => n - (intOf i).toNat)
  case atStart => exact ⟨0, Nat.zero_le _, rfl, HT0.out⟩
  case round =>
    clear hmk HT0
    obtain ⟨j, hj, rfl, HM⟩ := hrel
    by_cases hlt : j < n
    · obtain ⟨q0, q1, q2, ql, S, hR⟩ := HX.out j hlt
      obtain ⟨ay, cy, hV⟩ := hR.shape
      rw [hV] at q2 hR
      have g0 := cell_later HM.out.1 q0
      have g1 := cell_later HM.out.1 q1
      have g2 := cell_later HM.out.1 q2
      have HR := hide (hR.later HM.out.1)
      have HSt := hide (fun w1 z hb ho => HM.out.step (w1 := w1) (z := z) (by rw [HN.out]; exact hlt) hb ho)
      have hBl := HM.out.2.1
      obtain ⟨x0, e0⟩ := HM.out.2.2.2.1 (j * 3) (by rw [HN.out]; omega)
      obtain ⟨x1, e1⟩ := HM.out.2.2.2.1 (j * 3 + 1) (by rw [HN.out]; omega)
      obtain ⟨x2, e2⟩ := HM.out.2.2.2.1 (j * 3 + 2) (by rw [HN.out]; omega)
      have HF := hide HM.out.2.2.1
      obtain ⟨p, hp⟩ : ∃ p, os.getD j oj0 = p := ⟨_, rfl⟩
      rw [hp] at g0 g1 g2 HR ql HSt
      obtain ⟨a, f, xs⟩ := p
      dsimp only at g0 g1 g2 HR ql HSt
      obtain ⟨l, hl⟩ : ∃ l, xs.length = l := ⟨_, rfl⟩
      rw [hl] at g2 HR
      have HL := hide hl
      have HE0 := hide e0
      have HE1 := hide e1
      have HE2 := hide e2
      have hj0 : (0 : Int) ≤ (j : Int) := by omega
      have hj1 : (j : Int) < (n : Int) := by omega
      clear q0 q1 q2 hR hV hp hl e0 e1 e2
      go_wp2_with fail
      refine (toEntry a f HR.out (by omega)).mono ?_
      rintro e w1 ⟨z, rfl, hb, ho⟩
      have HS := hide (HSt.out w1 z hb ho)
      obtain ⟨az, cz, hz⟩ := ho.shape
      rw [HL.out] at hz
      subst hz
      have g3 := cell_later hb HE0.out
      have g4 := cell_later hb HE1.out
      have g5 := cell_later hb HE2.out
      have f3 := ((bcell hb).2 _ _ hBl).trans (HF.out (j * 3))
      have f4 := ((bcell hb).2 _ _ hBl).trans (HF.out (j * 3 + 1))
      have f5 := ((bcell hb).2 _ _ hBl).trans (HF.out (j * 3 + 2))
      unfold setJ at HS
      clear hb ho g0 g1 g2 ql
      go_wp2
      go_roundw
      case rel => exact ⟨j + 1, by omega, by go_num, HS.out⟩
      case measure => simp [intOf]; omega
    · have : j = n := by omega
      subst this
      go_wp2
      go_ret
      exact ⟨rfl, HM.out⟩

theorem toEn_none (ao : Option Addr) (c : Nat) (w : World) :
    Calls Tryd.prog 34 #[.slice ao 0 c] w fun e w' => e = .returned (.slice (some ⟨w.heap.size, 0, none⟩) 0 0) ∧ ToJ [] w 0 w' := by
  have hmk := run_make_entry 0 (by omega)
  have HT0 := hide (ToJ.start [] w 0 rfl 64)
  simp only [Int.natCast_zero] at hmk
  go_enter Tryd.func34, Tryd.ntmps34
  go_wp2
  go_loopw [4] (fun i wr => i = .int .i64 0 ∧ Hid (ToJ [] w 0 wr)) (fun _ _ => 0)
  case atStart => exact ⟨rfl, HT0.out⟩
  case round =>
    obtain ⟨rfl, HM⟩ := hrel
    clear hmk
    go_wp2
    go_ret
    exact ⟨rfl, HM.out⟩

/-- 'toEntryS' of a reading. -/
theorem toEn {S : Nat → Prop} {w : World} {v : Value} {os : List Oj} (hv : RdJ S w v os) (hm : os.length ≤ 1048576) (hl : ∀ i, i < os.length → (os.getD i oj0).2.2.length ≤ 1048576) :
    Calls Tryd.prog 34 #[v] w fun e w' =>
      ∃ u, e = .returned u ∧ Below w.heap.size w w' ∧ OwJ (fun b => w.heap.size ≤ b ∧ b < w'.heap.size) w' u os := by
  have fin : ∀ w', ToJ os w os.length w' → Below w.heap.size w w' ∧ OwJ (fun b => w.heap.size ≤ b ∧ b < w'.heap.size) w' (.slice (some ⟨w.heap.size, 0, none⟩) os.length os.length) os := by
    rintro w' ⟨h1, h2, h3, _, V, Bk, h5, h6⟩
    refine ⟨h1, _, os.length, w.heap.size, 0, V, Bk, rfl, by omega, fun _ => ⟨rfl, ⟨Nat.le_refl _, h2⟩, h3⟩, fun i hi => ?_⟩
    obtain ⟨k0, k1, k2⟩ := h6 i hi
    rw [Nat.zero_add]
    refine ⟨k0, k1, k2, h5.rd i hi, fun hn => ?_⟩
    obtain ⟨m1, m2, m3, m4, m5⟩ := h5.own i hi hn
    exact ⟨⟨m1, m2⟩, fun e => m4 (by rw [e]), m3, m5⟩
  obtain ⟨ao, c, rfl, _, h⟩ := hv
  by_cases hne : os = []
  · subst hne
    exact (toEn_none _ _ _).mono fun e w' ⟨he, hT⟩ => ⟨_, he, fin w' hT⟩
  · obtain ⟨b, off, V, rfl, _, hc⟩ := h hne
    exact (toEn_cells os _ b off c V w rfl hm fun i hi => ⟨(hc i hi).1, (hc i hi).2.1, (hc i hi).2.2.1, hl i hi, S, (hc i hi).2.2.2⟩).mono fun e w' ⟨he, hT⟩ => ⟨_, he, fin w' hT⟩

end Go.Proofs.YtcbapclpopbjbaaDoor
