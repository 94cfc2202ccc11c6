/- EnZ ObV EnV Ra in one text: what each says stands at its head below. -/
import Derived.Test.YtcmdgnemkjfckaaGreatDoorG04
import Derived.Test.YtcmdgnemkjfckaaGreatDoorG03
import Derived.Test.YtcmdgnemkjfckaaGreatDoorG01
import Derived.Test.YtcmdgnemkjfckaaGreatDoorG02
/- Chapter 9: lists of entries: how much they hold, and copies of them. Made by program (genen.py). -/
namespace Go.Proofs.YtcmdgnemkjfckaaGreatDoor
open Go.RowKit

theorem szEntry' {S : Nat → Prop} {w : World} {y : Value} {xs : List Int} {left : Int} {m : Nat} (a0 a1 : Int) (hy : RdI S w y xs) (hl : xs.length = m) (h0 : 0 ≤ left) (h1 : left ≤ 1048576) :
    Calls Tryz.prog 44 #[.agg #[.int .i64 a0, .int .i64 a1, y], .int .i64 left] w fun e w' => e = .returned (.int .i64 (szv left (m : Int))) ∧ Below w.heap.size w w' := by
  subst hl
  exact szEntry a0 a1 hy h0 h1

theorem szEn_cells (ps : List Oj) (n b off c : Nat) (X Y : Nat → Int) (V : Nat → Value) (left : Int) (w : World) (hn : ps.length = n) (hm : n ≤ 9223372036854775807) (h0 : 0 ≤ left) (h1 : left ≤ 1048576)
    (hx : ∀ i, i < n → w.cell? ⟨b, off + i * 3, none⟩ = some (.int .i64 (X i)) ∧ w.cell? ⟨b, off + i * 3 + 1, none⟩ = some (.int .i64 (Y i)) ∧ w.cell? ⟨b, off + i * 3 + 2, none⟩ = some (V i) ∧ ∃ S, RdI S w (V i) (ps.getD i oj0).2.2) :
    Calls Tryz.prog 22 #[.slice (some ⟨b, off, none⟩) n c, .int .i64 left] w fun e w' => e = .returned (.int .i64 (szv left ((n : Int) + (totX ps n : Int)))) ∧ Below w.heap.size w w' := by
  have HN := hide hn
  have HX := hide hx
  clear hn hx
  by_cases h : (n : Int) ≤ left
  · go_enter Tryz.func22, Tryz.ntmps22
    go_wp2
    go_loopw [1, 5] (fun t i wr => ∃ j : Nat, j ≤ n ∧ (n : Int) + (totX ps j : Int) ≤ left ∧ t = .int .i64 (left - ((n : Int) + (totX ps j : Int))) ∧ i = .int .i64 j ∧ Hid (Below w.heap.size w wr)) (fun _ i _ => n - (intOf i).toNat)
    case atStart => exact ⟨0, Nat.zero_le _, by simpa [totX_zero] using h, by simp [totX_zero], rfl, Below.refl _ _⟩
    case round =>
      obtain ⟨j, hj, hs, rfl, rfl, HB⟩ := hrel
      by_cases hlt : j < n
      · obtain ⟨q1, q1b, q2, S, hR⟩ := HX.out j hlt
        have g1 := cell_later HB.out q1
        have g1b := cell_later HB.out q1b
        have g2 := cell_later HB.out q2
        have HR := hide (hR.later HB.out)
        have ht := totX_succ ps j (by rw [HN.out]; exact hlt)
        obtain ⟨m, hml⟩ : ∃ m, (ps.getD j oj0).2.2.length = m := ⟨_, rfl⟩
        rw [hml] at ht
        have HL := hide hml
        have HT := hide ht
        clear hml ht
        have hle := totX_le ps (j + 1) n hlt
        clear hR q1 q1b q2
        by_cases hy : (n : Int) + (totX ps (j + 1) : Int) ≤ left
        · have HY := hide (szv_yes (left := left - ((n : Int) + (totX ps j : Int))) (s := (m : Int)) (by have := HT.out; omega))
          have hp : ¬ left - ((n : Int) + (totX ps j : Int)) - (m : Int) < 0 := by have := HT.out; omega
          clear hle
          go_wp2_with fail
          refine (szEntry' (X j) (Y j) HR.out HL.out (by omega) (by omega)).mono ?_
          rintro e w' ⟨he, hb⟩
          rw [HY.out] at he
          subst he
          have HB2 := hide (below_on HB.out hb)
          clear hb
          go_wp2
          go_roundw
          case rel => exact ⟨j + 1, hlt, hy, by rw [HT.out]; go_num, by go_num, HB2.out⟩
          case measure => simp [intOf]; omega
        · have HY := hide (szv_no (left := left - ((n : Int) + (totX ps j : Int))) (s := (m : Int)) (by have := HT.out; omega))
          have HZ := hide (szv_no (left := left) (s := (n : Int) + (totX ps n : Int)) (by omega))
          clear hle
          go_wp2_with fail
          refine (szEntry' (X j) (Y j) HR.out HL.out (by omega) (by omega)).mono ?_
          rintro e w' ⟨he, hb⟩
          rw [HY.out] at he
          subst he
          have HB2 := hide (below_on HB.out hb)
          clear hb
          go_wp2
          go_ret
          exact ⟨ret_int HZ.out.symm, HB2.out⟩
      · have : j = n := by omega
        subst this
        have HZ := hide (szv_yes hs)
        go_wp2
        go_ret
        exact ⟨ret_int HZ.out.symm, HB.out⟩
  · have HZ := hide (szv_no (left := left) (s := (n : Int) + (totX ps n : Int)) (by omega))
    go_enter Tryz.func22, Tryz.ntmps22
    go_wp2
    go_ret
    exact ⟨ret_int HZ.out.symm, Below.refl _ _⟩

theorem szEn_none (ao : Option Addr) (c : Nat) (left : Int) (w : World) (h0 : 0 ≤ left) (h1 : left ≤ 1048576) :
    Calls Tryz.prog 22 #[.slice ao 0 c, .int .i64 left] w fun e w' => e = .returned (.int .i64 left) ∧ Below w.heap.size w w' := by
  go_enter Tryz.func22, Tryz.ntmps22
  go_wp2
  go_loopw [1, 5] (fun t i wr => t = .int .i64 left ∧ i = .int .i64 0 ∧ wr = w) (fun _ _ _ => 0)
  case atStart => exact ⟨rfl, rfl, rfl⟩
  case round =>
    obtain ⟨rfl, rfl, rfl⟩ := hrel
    go_wp2
    go_ret
    exact ⟨rfl, Below.refl _ _⟩

theorem szEn {S : Nat → Prop} {w : World} {v : Value} {ps : List Oj} {left : Int} (hv : RdJ S w v ps) (h0 : 0 ≤ left) (h1 : left ≤ 1048576) :
    Calls Tryz.prog 22 #[v, .int .i64 left] w fun e w' => e = .returned (.int .i64 (szv left ((ps.length : Int) + (totX ps ps.length : Int)))) ∧ Below w.heap.size w w' := by
  obtain ⟨ao, c, rfl, hm, h⟩ := hv
  by_cases hne : ps = []
  · subst hne
    exact (szEn_none _ _ _ _ h0 h1).mono fun e w' ⟨he, hw⟩ => ⟨by rw [szv_yes (by simp [totX]; omega)]; simpa [totX] using he, hw⟩
  · obtain ⟨b, off, V, rfl, _, hc⟩ := h hne
    exact szEn_cells ps _ b off c _ _ V left w rfl hm h0 h1 fun i hi => ⟨(hc i hi).1, (hc i hi).2.1, (hc i hi).2.2.1, S, (hc i hi).2.2.2⟩

theorem Tryz.infoEntry : (Tryz.prog.info? 90).map (fun i => (i.zero, i.size, i.bytes)) = some (some (.agg #[.int .i64 0, .int .i64 0, .slice none 0 0]), 3, 40) := by kernel_rfl

theorem run_make_entry (n : Nat) (hn : n ≤ 1048576) (w : World) :
    (Instr.makeSlice 31 (.int .i64 (n : Int)) (.int .i64 (n : Int))).run Tryz.prog w = .ok (.slice (some ⟨w.heap.size, 0, none⟩) n n) (w.alloc (.cells (madeCells #[.int .i64 0, .int .i64 0, .slice none 0 0] (n * 3)) 90)) := by
  obtain ⟨i, hi, hz, hs, hb⟩ := info_parts Tryz.infoEntry
  have hr := run_make (P := Tryz.prog) w 31 90 i (.agg #[.int .i64 0, .int .i64 0, .slice none 0 0]) Tryz.underlying31 hi hz .i64 .i64 n n (by omega) (Int.le_refl _) (by rw [hb]; omega) (by omega)
  simp only [Int.toNat_natCast, hs] at hr
  exact hr

set_option maxHeartbeats 1000000 in
set_option maxRecDepth 4000 in
theorem toEn_cells (os : List Oj) (n b off c : Nat) (V : Nat → Value) (w : World) (hn : os.length = n) (hm : n ≤ 1048576)
    (hx : ∀ i, i < n → w.cell? ⟨b, off + i * 3, none⟩ = some (.int .i64 (os.getD i oj0).1) ∧ w.cell? ⟨b, off + i * 3 + 1, none⟩ = some (.int .i64 (os.getD i oj0).2.1) ∧ w.cell? ⟨b, off + i * 3 + 2, none⟩ = some (V i) ∧ (os.getD i oj0).2.2.length ≤ 1048576 ∧ ∃ S, RdI S w (V i) (os.getD i oj0).2.2) :
    Calls Tryz.prog 30 #[.slice (some ⟨b, off, none⟩) n c] w fun e w' =>
      e = .returned (.slice (some ⟨w.heap.size, 0, none⟩) n n) ∧ ToJ os w n w' := by
  have hmk := run_make_entry n hm
  have HX := hide hx
  have HN := hide hn
  have HT0 := hide (ToJ.start os w n hn 90)
  clear hx hn
  go_enter Tryz.func30, Tryz.ntmps30
  go_wp2
  go_loopw [4] (fun i wr => ∃ j : Nat, j ≤ n ∧ i = .int .i64 j ∧ Hid (ToJ os w j wr)) (fun i _ => n - (intOf i).toNat)
  case atStart => exact ⟨0, Nat.zero_le _, rfl, HT0.out⟩
  case round =>
    clear hmk HT0
    obtain ⟨j, hj, rfl, HM⟩ := hrel
    by_cases hlt : j < n
    · obtain ⟨q0, q1, q2, ql, S, hR⟩ := HX.out j hlt
      obtain ⟨ay, cy, hV⟩ := hR.shape
      rw [hV] at q2 hR
      have g0 := cell_later HM.out.1 q0
      have g1 := cell_later HM.out.1 q1
      have g2 := cell_later HM.out.1 q2
      have HR := hide (hR.later HM.out.1)
      have HSt := hide (fun w1 z hb ho => HM.out.step (w1 := w1) (z := z) (by rw [HN.out]; exact hlt) hb ho)
      have hBl := HM.out.2.1
      obtain ⟨x0, e0⟩ := HM.out.2.2.2.1 (j * 3) (by rw [HN.out]; omega)
      obtain ⟨x1, e1⟩ := HM.out.2.2.2.1 (j * 3 + 1) (by rw [HN.out]; omega)
      obtain ⟨x2, e2⟩ := HM.out.2.2.2.1 (j * 3 + 2) (by rw [HN.out]; omega)
      have HF := hide HM.out.2.2.1
      obtain ⟨p, hp⟩ : ∃ p, os.getD j oj0 = p := ⟨_, rfl⟩
      rw [hp] at g0 g1 g2 HR ql HSt
      obtain ⟨a, f, xs⟩ := p
      dsimp only at g0 g1 g2 HR ql HSt
      obtain ⟨l, hl⟩ : ∃ l, xs.length = l := ⟨_, rfl⟩
      rw [hl] at g2 HR
      have HL := hide hl
      have HE0 := hide e0
      have HE1 := hide e1
      have HE2 := hide e2
      have hj0 : (0 : Int) ≤ (j : Int) := by omega
      have hj1 : (j : Int) < (n : Int) := by omega
      clear q0 q1 q2 hR hV hp hl e0 e1 e2
      go_wp2_with fail
      refine (toEntry a f HR.out (by omega)).mono ?_
      rintro e w1 ⟨z, rfl, hb, ho⟩
      have HS := hide (HSt.out w1 z hb ho)
      obtain ⟨az, cz, hz⟩ := ho.shape
      rw [HL.out] at hz
      subst hz
      have g3 := cell_later hb HE0.out
      have g4 := cell_later hb HE1.out
      have g5 := cell_later hb HE2.out
      have f3 := ((bcell hb).2 _ _ hBl).trans (HF.out (j * 3))
      have f4 := ((bcell hb).2 _ _ hBl).trans (HF.out (j * 3 + 1))
      have f5 := ((bcell hb).2 _ _ hBl).trans (HF.out (j * 3 + 2))
      unfold setJ at HS
      clear hb ho g0 g1 g2 ql
      go_wp2
      go_roundw
      case rel => exact ⟨j + 1, by omega, by go_num, HS.out⟩
      case measure => simp [intOf]; omega
    · have : j = n := by omega
      subst this
      go_wp2
      go_ret
      exact ⟨rfl, HM.out⟩

theorem toEn_none (ao : Option Addr) (c : Nat) (w : World) :
    Calls Tryz.prog 30 #[.slice ao 0 c] w fun e w' => e = .returned (.slice (some ⟨w.heap.size, 0, none⟩) 0 0) ∧ ToJ [] w 0 w' := by
  have hmk := run_make_entry 0 (by omega)
  have HT0 := hide (ToJ.start [] w 0 rfl 90)
  simp only [Int.natCast_zero] at hmk
  go_enter Tryz.func30, Tryz.ntmps30
  go_wp2
  go_loopw [4] (fun i wr => i = .int .i64 0 ∧ Hid (ToJ [] w 0 wr)) (fun _ _ => 0)
  case atStart => exact ⟨rfl, HT0.out⟩
  case round =>
    obtain ⟨rfl, HM⟩ := hrel
    clear hmk
    go_wp2
    go_ret
    exact ⟨rfl, HM.out⟩

/-- 'toEntryS' of a reading. -/
theorem toEn {S : Nat → Prop} {w : World} {v : Value} {os : List Oj} (hv : RdJ S w v os) (hm : os.length ≤ 1048576) (hl : ∀ i, i < os.length → (os.getD i oj0).2.2.length ≤ 1048576) :
    Calls Tryz.prog 30 #[v] w fun e w' =>
      ∃ u, e = .returned u ∧ Below w.heap.size w w' ∧ OwJ (fun b => w.heap.size ≤ b ∧ b < w'.heap.size) w' u os := by
  have fin : ∀ w', ToJ os w os.length w' → Below w.heap.size w w' ∧ OwJ (fun b => w.heap.size ≤ b ∧ b < w'.heap.size) w' (.slice (some ⟨w.heap.size, 0, none⟩) os.length os.length) os := by
    rintro w' ⟨h1, h2, h3, _, V, Bk, h5, h6⟩
    refine ⟨h1, _, os.length, w.heap.size, 0, V, Bk, rfl, by omega, fun _ => ⟨rfl, ⟨Nat.le_refl _, h2⟩, h3⟩, fun i hi => ?_⟩
    obtain ⟨k0, k1, k2⟩ := h6 i hi
    rw [Nat.zero_add]
    refine ⟨k0, k1, k2, h5.rd i hi, fun hn => ?_⟩
    obtain ⟨m1, m2, m3, m4, m5⟩ := h5.own i hi hn
    exact ⟨⟨m1, m2⟩, fun e => m4 (by rw [e]), m3, m5⟩
  obtain ⟨ao, c, rfl, _, h⟩ := hv
  by_cases hne : os = []
  · subst hne
    exact (toEn_none _ _ _).mono fun e w' ⟨he, hT⟩ => ⟨_, he, fin w' hT⟩
  · obtain ⟨b, off, V, rfl, _, hc⟩ := h hne
    exact (toEn_cells os _ b off c V w rfl hm fun i hi => ⟨(hc i hi).1, (hc i hi).2.1, (hc i hi).2.2.1, hl i hi, S, (hc i hi).2.2.2⟩).mono fun e w' ⟨he, hT⟩ => ⟨_, he, fin w' hT⟩

end Go.Proofs.YtcmdgnemkjfckaaGreatDoor
/- Chapter 5: objects among the arguments. Made by program (genlawj.py). -/
namespace Go.Proofs.YtcmdgnemkjfckaaGreatDoor
open Go.RowKit

theorem totJ_eq (ps : List Oj) : ∀ j, j ≤ ps.length → totJ ps j = totX ps j + 2 * j := by
  intro j
  induction j with
  | zero => intro _; rw [totJ_zero, totX_zero]
  | succ j ih =>
    intro h
    rw [totJ_succ ps j (by omega), totX_succ ps j (by omega), ih (by omega)]
    omega
theorem len_le_totX (ps : List Oj) (i : Nat) (h : i < ps.length) : (ps.getD i oj0).2.2.length ≤ totX ps ps.length := by
  have h1 := totX_succ ps i h
  have h2 := totX_le ps (i + 1) ps.length h
  omega
def szU (qs : List Oj) : Int := (qs.length : Int) + (totX qs qs.length : Int)
theorem szU_nonneg (qs : List Oj) : 0 ≤ szU qs := by unfold szU; omega
theorem smallU {qs : List Oj} (h : szU qs ≤ 1048576) : qs.length ≤ 1048576 ∧ (∀ i, i < qs.length → (qs.getD i oj0).2.2.length ≤ 1048576) ∧ (totJ qs qs.length : Int) ≤ 4194304 := by
  unfold szU at h
  have h3 := totJ_eq qs qs.length (Nat.le_refl _)
  exact ⟨by omega, fun i hi => by have := len_le_totX qs i hi; omega, by omega⟩

/-- Objects in [lo, hi). -/
def IvJ (lo hi : Nat) (w : World) (v : Value) (ps : List Oj) : Prop :=
  ∃ S : Nat → Prop, hi ≤ w.heap.size ∧ (∀ b, S b → lo ≤ b ∧ b < hi) ∧ OwJ S w v ps
theorem OwJ.iv {B : Nat} {w : World} {v : Value} {ps : List Oj} (h : OwJ (fun b => B ≤ b ∧ b < w.heap.size) w v ps) : IvJ B w.heap.size w v ps :=
  ⟨_, Nat.le_refl _, fun _ hb => hb, h⟩
theorem IvJ.wr {lo hi : Nat} {V : Nat → Prop} {w w' : World} {v : Value} {ps : List Oj} (h : IvJ lo hi w v ps) (hw : Wr V w w') (hd : ∀ b, lo ≤ b → b < hi → ¬ V b) : IvJ lo hi w' v ps := by
  obtain ⟨S, h0, h1, h2⟩ := h
  exact ⟨S, Nat.le_trans h0 hw.size, h1, h2.wr hw fun b hb => hd b (h1 b hb).1 (h1 b hb).2⟩
theorem IvJ.later {lo hi : Nat} {w w' : World} {v : Value} {ps : List Oj} (h : IvJ lo hi w v ps) (hb : Below w.heap.size w w') : IvJ lo hi w' v ps :=
  h.wr (Wr.of_below hb fun _ => False) fun _ _ _ => id
theorem IvJ.rd {lo hi : Nat} {w : World} {v : Value} {ps : List Oj} (h : IvJ lo hi w v ps) : RdJ (fun b => lo ≤ b ∧ b < hi) w v ps := by
  obtain ⟨S, h0, h1, h2⟩ := h
  exact (h2.mono h1).rd

/-- Objects in [lo, hi) whose marks stand from k on. -/
def MkJs (k : Int) (lo hi : Nat) (w : World) (v : Value) (ps : List Oj) : Prop := RdJ (fun b => lo ≤ b ∧ b < hi) w v (mkJ k ps)
theorem MkJs.wr {k : Int} {lo hi : Nat} {V : Nat → Prop} {w w' : World} {v : Value} {ps : List Oj} (h : MkJs k lo hi w v ps) (hw : Wr V w w') (hd : ∀ b, lo ≤ b → b < hi → ¬ V b) : MkJs k lo hi w' v ps :=
  RdJ.wr h hw fun b hb => hd b hb.1 hb.2
theorem MkJs.later {k : Int} {lo hi : Nat} {w w' : World} {v : Value} {ps : List Oj} (h : MkJs k lo hi w v ps) (hb : Below w.heap.size w w') : MkJs k lo hi w' v ps := RdJ.later h hb

end Go.Proofs.YtcmdgnemkjfckaaGreatDoor
/- Chapter 9: entries among the arguments; a code with entries. Made by program (genen.py). -/
namespace Go.Proofs.YtcmdgnemkjfckaaGreatDoor
open Go.RowKit


/-- What a call that ends in a code and entries is to leave. -/
def EndsEn (x : Int) (rs : List Oj) (w : World) (e : Ending) (w' : World) : Prop :=
  ∃ z, e = .returned (.agg #[.int .i64 x, z]) ∧ Below w.heap.size w w' ∧ OwJ (fun b => w.heap.size ≤ b ∧ b < w'.heap.size) w' z rs

/-- 'markEntryS' of what lies in [lo, hi). -/
theorem markEnMk {lo hi : Nat} {w : World} {v : Value} {ps : List Oj} {k : Int} (h : IvJ lo hi w v ps) (hk0 : 0 ≤ k) (hk : k + (totJ ps ps.length : Int) ≤ 9223372036854775807) :
    Calls Tryz.prog 41 #[v, .int .i64 k] w fun e w' => e = .returned (.int .i64 (k + (totJ ps ps.length : Int))) ∧ MkJs k lo hi w' v ps ∧ Wr (fun b => lo ≤ b ∧ b < hi) w w' := by
  obtain ⟨S, h0, h1, h2⟩ := h
  exact markEn (h2.mono h1) hk0 hk

theorem markEnIv {lo hi : Nat} {w : World} {v : Value} {ps : List Oj} {k : Int} (h : IvJ lo hi w v ps) (hk0 : 0 ≤ k) (hk : k + (totJ ps ps.length : Int) ≤ 9223372036854775807) :
    Calls Tryz.prog 41 #[v, .int .i64 k] w fun e w' => e = .returned (.int .i64 (k + (totJ ps ps.length : Int))) ∧ Wr (fun b => lo ≤ b ∧ b < hi) w w' :=
  (markEnMk h hk0 hk).mono fun _ _ ⟨h1, _, h3⟩ => ⟨h1, h3⟩

theorem szEnU {S : Nat → Prop} {w : World} {v : Value} {ps : List Oj} {left : Int} (hv : RdJ S w v ps) (h0 : 0 ≤ left) (h1 : left ≤ 1048576) :
    Calls Tryz.prog 22 #[v, .int .i64 left] w fun e w' => e = .returned (.int .i64 (szv left (szU ps))) ∧ Below w.heap.size w w' := szEn hv h0 h1

theorem IvJ.monoE {lo hi lo' : Nat} {w : World} {v : Value} {ps : List Oj} (h : IvJ lo hi w v ps) (h1 : lo' ≤ lo) : IvJ lo' hi w v ps := by
  obtain ⟨S, k0, k1, k2⟩ := h
  exact ⟨S, k0, fun b hb => ⟨Nat.le_trans h1 (k1 b hb).1, (k1 b hb).2⟩, k2⟩
end Go.Proofs.YtcmdgnemkjfckaaGreatDoor
/- Chapter 10: the store of a node among the arguments: its size, copied, compared, marked, held; a code with a store. -/
namespace Go.Proofs.YtcmdgnemkjfckaaGreatDoor
open Go.RowKit

theorem RdI.maxR {S : Nat → Prop} {w : World} {v : Value} {xs : List Int} (h : RdI S w v xs) : xs.length ≤ 9223372036854775807 := by obtain ⟨_, _, _, h, _⟩ := h; exact h
/-- A store: four numbers, the words of its snapshot, its entries. -/
structure Rf where
  (tm vt si st : Int)
  sn : List Int
  lg : List Oj
def rfv (r : Rf) (y z : Value) : Value := .agg #[.int .i64 r.tm, .int .i64 r.vt, .int .i64 r.si, .int .i64 r.st, y, z]
def szR (r : Rf) : Int := (r.sn.length : Int) + szU r.lg
def totR (r : Rf) : Int := (r.sn.length : Int) + (totJ r.lg r.lg.length : Int)
/-- The words and the entries of a store in [lo, hi), apart from each other. -/
def IvR (lo hi : Nat) (w : World) (y z : Value) (xs : List Int) (ps : List Oj) : Prop :=
  ∃ (b : Nat) (S : Nat → Prop), RdI (· = b) w y xs ∧ (xs ≠ [] → lo ≤ b ∧ b < hi ∧ ¬ S b ∧ ∀ o, w.frozen? ⟨b, o, none⟩ = false) ∧ hi ≤ w.heap.size ∧ (∀ x, S x → lo ≤ x ∧ x < hi) ∧ OwJ S w z ps
def MkR (k : Int) (lo hi : Nat) (w : World) (y z : Value) (n : Nat) (ps : List Oj) : Prop := RdI (fun b => lo ≤ b ∧ b < hi) w y (mkI k n) ∧ MkJs (k + (n : Int)) lo hi w z ps
theorem IvR.wr {lo hi : Nat} {T : Nat → Prop} {w w' : World} {y z : Value} {xs : List Int} {ps : List Oj} (h : IvR lo hi w y z xs ps) (hw : Wr T w w') (hd : ∀ b, lo ≤ b → b < hi → ¬ T b) : IvR lo hi w' y z xs ps := by
  obtain ⟨b, S, h1, h2, h3, h4, h5⟩ := h
  exact ⟨b, S, h1.wr hw (fun hn x hx => hx ▸ hd _ (h2 hn).1 (h2 hn).2.1), fun hn => ⟨(h2 hn).1, (h2 hn).2.1, (h2 hn).2.2.1, fun o => (hw.frz _ _ (Nat.lt_of_lt_of_le (h2 hn).2.1 h3)).trans ((h2 hn).2.2.2 o)⟩, Nat.le_trans h3 hw.size, h4, h5.wr hw fun x hx => hd x (h4 x hx).1 (h4 x hx).2⟩
theorem IvR.later {lo hi : Nat} {w w' : World} {y z : Value} {xs : List Int} {ps : List Oj} (h : IvR lo hi w y z xs ps) (hb : Below w.heap.size w w') : IvR lo hi w' y z xs ps :=
  h.wr (Wr.of_below hb fun _ => False) fun _ _ _ => id
theorem IvR.rdI {lo hi : Nat} {w : World} {y z : Value} {xs : List Int} {ps : List Oj} (h : IvR lo hi w y z xs ps) : RdI (fun b => lo ≤ b ∧ b < hi) w y xs := by
  obtain ⟨b, S, h1, h2, _⟩ := h
  exact h1.narrow fun hn x hx => hx ▸ ⟨(h2 hn).1, (h2 hn).2.1⟩
theorem IvR.rdJ {lo hi : Nat} {w : World} {y z : Value} {xs : List Int} {ps : List Oj} (h : IvR lo hi w y z xs ps) : RdJ (fun b => lo ≤ b ∧ b < hi) w z ps := by
  obtain ⟨b, S, _, _, _, h4, h5⟩ := h
  exact (h5.mono h4).rd
theorem IvR.shape {lo hi : Nat} {w : World} {y z : Value} {xs : List Int} {ps : List Oj} (h : IvR lo hi w y z xs ps) : ∃ ao c ao' c', y = .slice ao xs.length c ∧ z = .slice ao' ps.length c' := by
  obtain ⟨a, c, e1⟩ := h.rdI.shape
  obtain ⟨a', c', e2, _⟩ := h.rdJ.shape
  exact ⟨a, c, a', c', e1, e2⟩
theorem IvR.up {lo hi lo' : Nat} {w : World} {y z : Value} {xs : List Int} {ps : List Oj} (h : IvR lo hi w y z xs ps) (h1 : lo' ≤ lo) (h2 : hi ≤ w.heap.size) : IvR lo' w.heap.size w y z xs ps := by
  obtain ⟨b, S, k1, k2, k3, k4, k5⟩ := h
  exact ⟨b, S, k1, fun hn => ⟨Nat.le_trans h1 (k2 hn).1, Nat.lt_of_lt_of_le (k2 hn).2.1 h2, (k2 hn).2.2⟩, Nat.le_refl _, fun x hx => ⟨Nat.le_trans h1 (k4 x hx).1, Nat.lt_of_lt_of_le (k4 x hx).2 h2⟩, k5⟩
theorem IvR_nil (lo : Nat) (w : World) : IvR lo w.heap.size w (.slice none 0 0) (.slice none 0 0) [] [] :=
  ⟨0, fun _ => False, ⟨none, 0, by simp, by simp, fun h => absurd rfl h⟩, fun h => absurd rfl h, Nat.le_refl _, fun _ h => h.elim, ⟨none, 0, 0, 0, fun _ => .bool false, fun _ => 0, by simp, by simp, fun h => absurd rfl h, fun i hi => absurd hi (by simp)⟩⟩
theorem MkR.wr {k : Int} {lo hi : Nat} {T : Nat → Prop} {w w' : World} {y z : Value} {n : Nat} {ps : List Oj} (h : MkR k lo hi w y z n ps) (hw : Wr T w w') (hd : ∀ b, lo ≤ b → b < hi → ¬ T b) : MkR k lo hi w' y z n ps :=
  ⟨h.1.wr hw fun _ b hb => hd b hb.1 hb.2, h.2.wr hw hd⟩
theorem MkR.later {k : Int} {lo hi : Nat} {w w' : World} {y z : Value} {n : Nat} {ps : List Oj} (h : MkR k lo hi w y z n ps) (hb : Below w.heap.size w w') : MkR k lo hi w' y z n ps :=
  ⟨h.1.later hb, h.2.later hb⟩
theorem RdJ.monoR {S T : Nat → Prop} {w : World} {v : Value} {fs : List Oj} (h : RdJ S w v fs) (hT : ∀ b, S b → T b) : RdJ T w v fs := by
  obtain ⟨ao, c, e1, e2, e3⟩ := h
  refine ⟨ao, c, e1, e2, fun hne => ?_⟩
  obtain ⟨b, off, V, f1, f2, f3⟩ := e3 hne
  exact ⟨b, off, V, f1, hT b f2, fun i hi => ⟨(f3 i hi).1, (f3 i hi).2.1, (f3 i hi).2.2.1, (f3 i hi).2.2.2.narrow (fun _ b hb => hT b hb)⟩⟩
theorem OwJ.laterR {S : Nat → Prop} {w w' : World} {v : Value} {ps : List Oj} (h : OwJ S w v ps) (hb : Below w.heap.size w w') : OwJ S w' v ps := h.wr (Wr.of_below hb fun _ => False) fun _ _ => id
/-- What a call that ends in a code and a store is to leave. -/
def EndsRf (x : Int) (r : Rf) (w : World) (e : Ending) (w' : World) : Prop :=
  ∃ y z, e = .returned (.agg #[.int .i64 x, .int .i64 r.tm, .int .i64 r.vt, .int .i64 r.si, .int .i64 r.st, y, z]) ∧ Below w.heap.size w w' ∧ IvR w.heap.size w'.heap.size w' y z r.sn r.lg

set_option maxHeartbeats 2000000 in
set_option maxRecDepth 4000 in
theorem szRaft {S T : Nat → Prop} {w : World} {y z : Value} {xs : List Int} {ps : List Oj} {left : Int} (a b c d : Int) (hy : RdI S w y xs) (hz : RdJ T w z ps) (h0 : 0 ≤ left) (h1 : left ≤ 1048576) :
    Calls Tryz.prog 4 #[.agg #[.int .i64 a, .int .i64 b, .int .i64 c, .int .i64 d, y, z], .int .i64 left] w fun e w' => e = .returned (.int .i64 (szv left ((xs.length : Int) + szU ps))) ∧ Below w.heap.size w w' := by
  obtain ⟨ay, cy, rfl⟩ := hy.shape
  obtain ⟨az, cz, rfl, _⟩ := hz.shape
  have HZ := hide hz
  have hn := szU_nonneg ps
  have hlm : xs.length ≤ 9223372036854775807 := hy.maxR
  obtain ⟨l, hl⟩ : ∃ l, xs.length = l := ⟨_, rfl⟩
  obtain ⟨m, hm⟩ : ∃ m, ps.length = m := ⟨_, rfl⟩
  have HU := hide (fun (w' : World) (hb : Below w.heap.size w w') (left : Int) => szEnU (left := left) (HZ.out.later hb))
  obtain ⟨s, hs⟩ : ∃ s, szU ps = s := ⟨_, rfl⟩
  rw [hl] at hlm ⊢
  rw [hs] at HU hn ⊢
  rw [hm] at HU ⊢
  clear hy hz hl hs hm HZ
  have BA := hide (below_alloc w (.cells #[.int .i64 a, .int .i64 b, .int .i64 c, .int .i64 d, .slice ay l cy, .slice az m cz] 25))
  have C5 : Hid ((w.alloc (.cells #[.int .i64 a, .int .i64 b, .int .i64 c, .int .i64 d, .slice ay l cy, .slice az m cz] 25)).cell? ⟨w.heap.size, 5, none⟩ = some (.slice az m cz)) := by simp [Hid, go_sem]
  by_cases h : (l : Int) ≤ left
  · have HS := hide (szv_yes h)
    go_enter Tryz.func4, Tryz.ntmps4
    go_wp2_with fail
    refine (szI l cy ay left _ hlm h0 h1).mono ?_
    rintro e w1 ⟨he, rfl⟩
    rw [HS.out] at he
    subst he
    have hp : ¬ left - (l : Int) < 0 := by omega
    have c5 := C5.out
    go_wp2_with fail
    refine (HU.out _ BA.out _ (by omega) (by omega)).mono ?_
    rintro e w2 ⟨he, hb⟩
    have HB := hide (below_on BA.out hb)
    clear hb c5
    by_cases h2 : s ≤ left - (l : Int)
    · rw [szv_yes h2] at he
      subst he
      have hp2 : ¬ left - (l : Int) - s < 0 := by omega
      have hr : szv left ((l : Int) + s) = left - (l : Int) - s := by rw [szv_yes (by omega)]; omega
      have HR := hide hr
      clear hr h2
      go_wp2
      go_ret
      exact ⟨ret_int HR.out.symm, HB.out⟩
    · rw [szv_no (by omega)] at he
      subst he
      have HR := hide (szv_no (left := left) (s := (l : Int) + s) (by omega))
      clear h2
      go_wp2
      go_ret
      exact ⟨ret_int HR.out.symm, HB.out⟩
  · have HS := hide (szv_no (left := left) (s := (l : Int)) (by omega))
    have HR := hide (szv_no (left := left) (s := (l : Int) + s) (by omega))
    go_enter Tryz.func4, Tryz.ntmps4
    go_wp2_with fail
    refine (szI l cy ay left _ hlm h0 h1).mono ?_
    rintro e w1 ⟨he, rfl⟩
    rw [HS.out] at he
    subst he
    go_wp2
    go_ret
    exact ⟨ret_int HR.out.symm, BA.out⟩

set_option maxHeartbeats 2000000 in
set_option maxRecDepth 4000 in
theorem eqRaft {S T S' T' : Nat → Prop} {w : World} {y z y' z' : Value} {xs : List Int} {ps : List Oj} (a b c d : Int) (hy : RdI S w y xs) (hz : RdJ T w z ps) (hy' : RdI S' w y' xs) (hz' : RdJ T' w z' ps) :
    Calls Tryz.prog 13 #[.agg #[.int .i64 a, .int .i64 b, .int .i64 c, .int .i64 d, y, z], .agg #[.int .i64 a, .int .i64 b, .int .i64 c, .int .i64 d, y', z']] w fun e w' => e = .returned (.bool true) ∧ Below w.heap.size w w' := by
  obtain ⟨ay, cy, rfl⟩ := hy.shape
  obtain ⟨az, cz, rfl, _⟩ := hz.shape
  obtain ⟨ay', cy', rfl⟩ := hy'.shape
  obtain ⟨az', cz', rfl, _⟩ := hz'.shape
  have H1 := hide hy
  have H2 := hide hz
  have K1 := hide hy'
  have K2 := hide hz'
  obtain ⟨l, hl⟩ : ∃ l, xs.length = l := ⟨_, rfl⟩
  obtain ⟨m, hm⟩ : ∃ m, ps.length = m := ⟨_, rfl⟩
  rw [hl] at H1 K1 ⊢
  rw [hm] at H2 K2 ⊢
  clear hy hz hy' hz' hl hm
  have BA := hide (below_on (below_alloc w (.cells #[.int .i64 a, .int .i64 b, .int .i64 c, .int .i64 d, .slice ay l cy, .slice az m cz] 33)) (below_alloc _ (.cells #[.int .i64 a, .int .i64 b, .int .i64 c, .int .i64 d, .slice ay' l cy', .slice az' m cz'] 33)))
  go_enter Tryz.func13, Tryz.ntmps13
  go_wp2_with fail
  refine (eqI (H1.out.later BA.out) (K1.out.later BA.out)).mono ?_
  rintro e w1 ⟨rfl, q, rfl⟩
  have BB := hide (below_on BA.out (below_drewN _ q))
  go_wp2_with fail
  refine (eqEn (H2.out.later BB.out) (K2.out.later BB.out)).mono ?_
  rintro e w2 ⟨rfl, hb2⟩
  have BC := hide (below_on BB.out hb2)
  clear hb2
  go_wp2
  go_ret
  exact ⟨rfl, by first | exact BC.out | simpa using BC.out⟩

set_option maxHeartbeats 2000000 in
set_option maxRecDepth 4000 in
theorem markRaft {lo hi : Nat} {w : World} {y z : Value} {xs : List Int} {ps : List Oj} {k : Int} (a b c d : Int) (h : IvR lo hi w y z xs ps) (hk0 : 0 ≤ k) (hk : k + ((xs.length : Int) + (totJ ps ps.length : Int)) ≤ 9223372036854775807) :
    Calls Tryz.prog 16 #[.agg #[.int .i64 a, .int .i64 b, .int .i64 c, .int .i64 d, y, z], .int .i64 k] w fun e w' =>
      e = .returned (.int .i64 (k + ((xs.length : Int) + (totJ ps ps.length : Int)))) ∧ MkR k lo hi w' y z xs.length ps ∧ Wr (fun b => lo ≤ b ∧ b < hi) w w' := by
  obtain ⟨ay, cy, az, cz, rfl, rfl⟩ := h.shape
  obtain ⟨g, S, h1, h2, h3, h4, h5⟩ := h
  have H1 := hide h1
  have H2 := hide h2
  have H4 := hide h4
  have H5 := hide h5
  obtain ⟨l, hl⟩ : ∃ l, xs.length = l := ⟨_, rfl⟩
  obtain ⟨m, hm⟩ : ∃ m, ps.length = m := ⟨_, rfl⟩
  obtain ⟨t, ht⟩ : ∃ t : Nat, totJ ps ps.length = t := ⟨_, rfl⟩
  have HL := hide hl
  have HT := hide ht
  rw [ht, hl] at hk ⊢
  rw [hl] at H1
  rw [hm] at H5 ⊢
  clear h1 h2 h4 h5 ht hl
  have BA := hide (below_alloc w (.cells #[.int .i64 a, .int .i64 b, .int .i64 c, .int .i64 d, .slice ay l cy, .slice az m cz] 33))
  have C5 : Hid ((w.alloc (.cells #[.int .i64 a, .int .i64 b, .int .i64 c, .int .i64 d, .slice ay l cy, .slice az m cz] 33)).cell? ⟨w.heap.size, 5, none⟩ = some (.slice az m cz)) := by simp [Hid, go_sem]
  go_enter Tryz.func16, Tryz.ntmps16
  go_wp2_with fail
  refine (markI (H1.out.later BA.out) (fun hne o => ((bcell BA.out).2 _ _ (Nat.lt_of_lt_of_le (H2.out hne).2.1 h3)).trans ((H2.out hne).2.2.2 o)) hk0 (by rw [HL.out]; omega)).mono ?_
  rintro e w1 ⟨he, hr, hw⟩
  rw [HL.out] at he hr
  subst he
  have g5 := cell_wr hw C5.out (fun ⟨e, hne⟩ => by have := (H2.out hne).2.1; omega)
  have HR := hide hr
  have HW := hide hw
  have HJ := hide ((H5.out.laterR BA.out).wr hw (fun x hx ⟨e, hne⟩ => (H2.out hne).2.2.1 (e ▸ hx)))
  clear hr hw
  go_wp2_with fail
  refine (markEn HJ.out (by omega) (by rw [HT.out]; omega)).mono ?_
  rintro e w2 ⟨he, hr, hw⟩
  rw [HT.out] at he
  subst he
  have HR2 := hide hr
  have HW2 := hide hw
  have HR1 := hide (HR.out.wr hw (fun hn x hx e => by
    have hxn : xs ≠ [] := by rintro rfl; have := HL.out; simp at this; subst this; exact hn rfl
    exact (H2.out hxn).2.2.1 (hx ▸ e)))
  clear hr hw g5
  go_wp2
  go_ret
  refine ⟨ret_int (Int.add_assoc _ _ _), ⟨HR1.out.narrow (fun hne x hx => ?_), HR2.out.monoR H4.out⟩, wr_on BA.out ((HW.out.mono fun x ⟨e, hne⟩ => e ▸ ⟨(H2.out hne).1, (H2.out hne).2.1⟩).trans (HW2.out.mono fun x hx => H4.out x hx))⟩
  subst hx
  have hne' : xs ≠ [] := by rintro rfl; have := HL.out; simp at this; subst this; exact hne rfl
  exact ⟨(H2.out hne').1, (H2.out hne').2.1⟩
end Go.Proofs.YtcmdgnemkjfckaaGreatDoor
