/- EnS Fault3 Built ObZ in one text: what each says stands at its head below. -/
import Derived.Test.YtcmdgnemkjfckaaGreatDoorG03
import Derived.Test.YtcmdgnemkjfckaaGreatDoorG02
import Derived.Deep.AppendLies
import Derived.Test.YtcmdgnemkjfckaaGreatDoorG01
/- Chapter 9: lists of entries: the laws' helpers over them. Made by program (genen.py). -/
namespace Go.Proofs.YtcmdgnemkjfckaaGreatDoor
open Go.RowKit

theorem eqEn_cells (X : Nat → Int) (Y : Nat → Int) (V V' : Nat → Value) (n b off c b' off' c' : Nat) (w : World) (hm : n ≤ 9223372036854775807)
    (hx : ∀ i, i < n → w.cell? ⟨b, off + i * 3, none⟩ = some (.int .i64 (X i)) ∧ w.cell? ⟨b, off + i * 3 + 1, none⟩ = some (.int .i64 (Y i)) ∧ w.cell? ⟨b, off + i * 3 + 2, none⟩ = some (V i))
    (hy : ∀ i, i < n → w.cell? ⟨b', off' + i * 3, none⟩ = some (.int .i64 (X i)) ∧ w.cell? ⟨b', off' + i * 3 + 1, none⟩ = some (.int .i64 (Y i)) ∧ w.cell? ⟨b', off' + i * 3 + 2, none⟩ = some (V' i))
    (hs : ∀ i, i < n → ∃ xs S T, RdI S w (V i) xs ∧ RdI T w (V' i) xs) :
    Calls Tryz.prog 37 #[.slice (some ⟨b, off, none⟩) n c, .slice (some ⟨b', off', none⟩) n c'] w fun e w' =>
      e = .returned (.bool true) ∧ Below w.heap.size w w' := by
  have HX := hide hx
  have HY := hide hy
  have HS := hide hs
  clear hx hy hs
  go_enter Tryz.func37, Tryz.ntmps37
  go_wp2
  go_loopw [5] (fun i wr => ∃ k : Nat, k ≤ n ∧ i = .int .i64 k ∧ Hid (Below w.heap.size w wr)) (fun i _ => n - (intOf i).toNat)
  case atStart => exact ⟨0, Nat.zero_le _, rfl, Below.refl _ _⟩
  case round =>
    obtain ⟨k, hk, rfl, HB⟩ := hrel
    by_cases hlt : k < n
    · have g0 := cell_later HB.out (HX.out k hlt).1
      have g1 := cell_later HB.out (HX.out k hlt).2.1
      have g2 := cell_later HB.out (HX.out k hlt).2.2
      have g3 := cell_later HB.out (HY.out k hlt).1
      have g4 := cell_later HB.out (HY.out k hlt).2.1
      have g5 := cell_later HB.out (HY.out k hlt).2.2
      obtain ⟨xs, S, T, r1, r2⟩ := HS.out k hlt
      obtain ⟨a1, k1, e1⟩ := r1.shape
      obtain ⟨a2, k2, e2⟩ := r2.shape
      rw [e1] at g2 r1
      rw [e2] at g5 r2
      have R1 := hide (r1.later HB.out)
      have R2 := hide (r2.later HB.out)
      have hk0 : (0 : Int) ≤ (k : Int) := Int.natCast_nonneg _
      have hk1 : (k : Int) < (n : Int) := by omega
      clear r1 r2
      go_wp2_with fail
      go_region_held3 (fun w' => w'.cell? ⟨b, off + k * 3, none⟩ = some (.int .i64 (X k)) ∧ w'.cell? ⟨b, off + k * 3 + 1, none⟩ = some (.int .i64 (Y k)) ∧ w'.cell? ⟨b, off + k * 3 + 2, none⟩ = some (.slice a1 xs.length k1) ∧ w'.cell? ⟨b', off' + k * 3, none⟩ = some (.int .i64 (X k)) ∧ w'.cell? ⟨b', off' + k * 3 + 1, none⟩ = some (.int .i64 (Y k)) ∧ w'.cell? ⟨b', off' + k * 3 + 2, none⟩ = some (.slice a2 xs.length k2)) (first | exact ⟨g0, g1, g2, g3, g4, g5⟩ | exact ⟨c0, c1, c2, c3, c4, c5⟩)
        (first
          | (go_at_call 64; refine (eqEntry (X k) (Y k) (R1.out.drewN 1) (R2.out.drewN 1)).mono ?_; rintro e w' ⟨rfl, hb⟩; have c0 := cell_later hb g0; have c1 := cell_later hb g1; have c2 := cell_later hb g2; have c3 := cell_later hb g3; have c4 := cell_later hb g4; have c5 := cell_later hb g5; have HB' := hide hb; clear hb))
      go_wp2
      go_roundw
      case rel => exact ⟨k + 1, by omega, by go_num, below_on HB.out (below_on (below_drewN wr 1) HB'.out)⟩
      case measure => simp [intOf]; omega
    · go_wp2
      go_ret
      exact ⟨rfl, HB.out⟩

theorem eqEn_none (ao ao' : Option Addr) (c c' : Nat) (w : World) :
    Calls Tryz.prog 37 #[.slice ao 0 c, .slice ao' 0 c'] w fun e w' => e = .returned (.bool true) ∧ Below w.heap.size w w' := by
  go_enter Tryz.func37, Tryz.ntmps37
  go_wp2
  go_loopw [5] (fun i wr => i = .int .i64 0 ∧ wr = w) (fun _ _ => 0)
  case atStart => exact ⟨rfl, rfl⟩
  case round =>
    obtain ⟨rfl, rfl⟩ := hrel
    go_wp2
    go_ret
    exact ⟨rfl, Below.refl _ _⟩

theorem eqEn {S T : Nat → Prop} {w : World} {u v : Value} {ts : List Oj} (hu : RdJ S w u ts) (hv : RdJ T w v ts) :
    Calls Tryz.prog 37 #[u, v] w fun e w' => e = .returned (.bool true) ∧ Below w.heap.size w w' := by
  obtain ⟨ao, c, rfl, hm, h⟩ := hu
  obtain ⟨ao', c', rfl, _, h'⟩ := hv
  by_cases hne : ts = []
  · subst hne; exact eqEn_none _ _ _ _ _
  · obtain ⟨b, off, V, rfl, _, hc⟩ := h hne
    obtain ⟨b', off', V', rfl, _, hc'⟩ := h' hne
    exact eqEn_cells (fun i => (ts.getD i oj0).1) (fun i => (ts.getD i oj0).2.1) V V' _ _ _ _ _ _ _ _ hm (fun i hi => ⟨(hc i hi).1, (hc i hi).2.1, (hc i hi).2.2.1⟩) (fun i hi => ⟨(hc' i hi).1, (hc' i hi).2.1, (hc' i hi).2.2.1⟩) (fun i hi => ⟨_, S, T, (hc i hi).2.2.2, (hc' i hi).2.2.2⟩)

set_option maxHeartbeats 1000000 in
set_option maxRecDepth 4000 in
theorem markEn_cells (ts : List Oj) (n b off c : Nat) (V : Nat → Value) (B : Nat → Nat) (k : Int) (w : World) (hn : ts.length = n) (hm : n ≤ 9223372036854775807) (hk0 : 0 ≤ k) (hk : k + (totJ ts n : Int) ≤ 9223372036854775807)
    (h0 : MarkAtJ ts b off V B k w 0 w) :
    Calls Tryz.prog 41 #[.slice (some ⟨b, off, none⟩) n c, .int .i64 k] w fun e w' =>
      e = .returned (.int .i64 (k + (totJ ts n : Int))) ∧ MarkAtJ ts b off V B k w n w' := by
  have HN := hide hn
  clear hn
  have H0 := hide h0
  clear h0
  go_enter Tryz.func41, Tryz.ntmps41
  go_wp2
  go_loopw [1, 5] (fun t i wr => ∃ j : Nat, j ≤ n ∧ t = .int .i64 (k + (totJ ts j : Int)) ∧ i = .int .i64 j ∧ Hid (MarkAtJ ts b off V B k w j wr)) (fun _ i _ => n - (intOf i).toNat)
  case atStart => exact ⟨0, Nat.zero_le _, by simp [totJ_zero], rfl, H0⟩
  case round =>
    obtain ⟨j, hj, rfl, rfl, HM⟩ := hrel
    by_cases hlt : j < n
    · have hjl : Hid (j < ts.length) := by rw [Hid, HN.out]; exact hlt
      have g1 := HM.out.cell j hjl.out
      obtain ⟨x0, g2⟩ := HM.out.th0 j hjl.out
      obtain ⟨x1, g3⟩ := HM.out.th1 j hjl.out
      have g4 := HM.out.own (off + j * 3)
      have g5 := HM.out.own (off + j * 3 + 1)
      have HT := hide (totJ_succ ts j hjl.out)
      have hle := totJ_le ts (j + 1) n hlt
      have HR := hide (HM.out.mid (m := k + (totJ ts j : Int)) hjl.out)
      have HSt := hide (fun w' h1 h2 => HM.out.step (w' := w') hjl.out h1 h2)
      have hb : k + (totJ ts j : Int) + 1 + 1 + ((ts.getD j oj0).2.2.length : Int) ≤ 9223372036854775807 := by have := HT.out; omega
      obtain ⟨lj, hlj⟩ : ∃ lj, (ts.getD j oj0).2.2.length = lj := ⟨_, rfl⟩
      have HLj := hide hlj
      rw [hlj] at hb HT
      have hkt : 0 ≤ k + (totJ ts j : Int) := by omega
      unfold markCellsJ mJ at HR HSt
      clear hle hlj
      go_wp2_with fail
      refine (markI HR.out.1 HR.out.2 (by omega) (by rw [HLj.out]; exact hb)).mono ?_
      rintro e w' ⟨he, hr, hw⟩
      rw [HLj.out] at he
      subst he
      have HS := hide (HSt.out w' hr hw)
      clear hr hw g1 g2 g3 g4 g5
      go_wp2
      go_roundw
      case rel => exact ⟨j + 1, hlt, by rw [HT.out]; go_num, by go_num, HS.out⟩
      case measure => simp [intOf]; omega
    · have : j = n := by omega
      subst this
      go_wp2
      go_ret
      exact ⟨rfl, HM.out⟩

theorem markEn_none (ao : Option Addr) (c : Nat) (k : Int) (w : World) :
    Calls Tryz.prog 41 #[.slice ao 0 c, .int .i64 k] w fun e w' => e = .returned (.int .i64 k) ∧ w' = w := by
  go_enter Tryz.func41, Tryz.ntmps41
  go_wp2
  go_loopw [1, 5] (fun t i wr => t = .int .i64 k ∧ i = .int .i64 0 ∧ wr = w) (fun _ _ _ => 0)
  case atStart => exact ⟨rfl, rfl, rfl⟩
  case round =>
    obtain ⟨rfl, rfl, rfl⟩ := hrel
    go_wp2
    go_ret
    exact ⟨rfl, rfl⟩

/-- 'markEntryS' of steps that lie apart. -/
theorem markEn {S : Nat → Prop} {w : World} {v : Value} {ts : List Oj} {k : Int} (hv : OwJ S w v ts) (hk0 : 0 ≤ k) (hk : k + (totJ ts ts.length : Int) ≤ 9223372036854775807) :
    Calls Tryz.prog 41 #[v, .int .i64 k] w fun e w' =>
      e = .returned (.int .i64 (k + (totJ ts ts.length : Int))) ∧ RdJ S w' v (mkJ k ts) ∧ Wr S w w' := by
  obtain ⟨ao, c, b, off, V, B, rfl, ⟨hm, hcap⟩, h, h4⟩ := hv
  by_cases hne : ts = []
  · subst hne
    exact (markEn_none _ _ _ _).mono fun e w' ⟨he, hw⟩ => ⟨by simpa [totJ] using he, ⟨ao, c, by simp [mkJ], by simp [mkJ], fun h => absurd rfl h⟩, by subst hw; exact Wr.refl _ _⟩
  · obtain ⟨rfl, hb, hfz⟩ := h hne
    refine (markEn_cells ts _ b off c V B k w rfl hm hk0 hk ⟨fun i hi => (h4 i hi).2.2.1, fun i hi => ⟨_, (h4 i hi).1⟩, fun i hi => ⟨_, (h4 i hi).2.1⟩, fun i hi => absurd hi (Nat.not_lt_zero _), fun i hi => absurd hi (Nat.not_lt_zero _), fun i hi => absurd hi (Nat.not_lt_zero _), fun i _ hi => (h4 i hi).2.2.2.1, hfz, fun i hi hn => ((h4 i hi).2.2.2.2 hn).2, Wr.refl _ _⟩).mono fun e w' ⟨he, hM⟩ => ⟨he, ?_, ?_⟩
    · refine ⟨_, c, by rw [mkJ_len], by rw [mkJ_len]; exact hm, fun _ => ⟨b, off, V, rfl, hb, fun i hi => ?_⟩⟩
      rw [mkJ_len] at hi
      rw [mkJ_at _ _ _ hi]
      refine ⟨hM.flg i hi hi, hM.num i hi hi, hM.cell i hi, (hM.done i hi hi).narrow fun hn x hx => ?_⟩
      rw [mkI_ne] at hn
      subst hx
      exact ((h4 i hi).2.2.2.2 (fun e0 => hn (by rw [e0]; rfl))).1
    · refine hM.wr.mono fun x hx => ?_
      rcases hx with rfl | ⟨i, hi, hn, rfl⟩
      · exact hb
      · exact ((h4 i hi).2.2.2.2 hn).1

set_option maxHeartbeats 1000000 in
set_option maxRecDepth 4000 in
theorem heldEn_cells (ts : List Oj) (n b off c : Nat) (V : Nat → Value) (k : Int) (w : World) (hn : ts.length = n) (hm : n ≤ 9223372036854775807) (hk0 : 0 ≤ k) (hk : k + (totJ ts n : Int) ≤ 9223372036854775807)
    (hx : ∀ i, i < n → w.cell? ⟨b, off + i * 3, none⟩ = some (.int .i64 (mJ (k + (totJ ts i : Int)))) ∧ w.cell? ⟨b, off + i * 3 + 1, none⟩ = some (.int .i64 (k + (totJ ts i : Int) + 1)) ∧ w.cell? ⟨b, off + i * 3 + 2, none⟩ = some (V i) ∧ ∃ S, RdI S w (V i) (mkI (k + (totJ ts i : Int) + 1 + 1) (ts.getD i oj0).2.2.length)) :
    Calls Tryz.prog 67 #[.slice (some ⟨b, off, none⟩) n c, .int .i64 k] w fun e w' =>
      e = .returned (.int .i64 (k + (totJ ts n : Int))) ∧ ∃ q, w' = w.drewN q := by
  have HN := hide hn
  clear hn
  have HX := hide hx
  clear hx
  go_enter Tryz.func67, Tryz.ntmps67
  go_wp2
  go_loopw [1, 5] (fun t i wr => ∃ j : Nat, j ≤ n ∧ t = .int .i64 (k + (totJ ts j : Int)) ∧ i = .int .i64 j ∧ Hid (∃ q, wr = w.drewN q)) (fun _ i _ => n - (intOf i).toNat)
  case atStart => exact ⟨0, Nat.zero_le _, by simp [totJ_zero], rfl, 0, rfl⟩
  case round =>
    obtain ⟨j, hj, rfl, rfl, HQ⟩ := hrel
    by_cases hlt : j < n
    · have hjl : Hid (j < ts.length) := by rw [Hid, HN.out]; exact hlt
      have g0 : wr.cell? ⟨b, off + j * 3, none⟩ = some (.int .i64 (mJ (k + (totJ ts j : Int)))) := by obtain ⟨q, rfl⟩ := HQ; exact (HX.out j hlt).1
      have g1 : wr.cell? ⟨b, off + j * 3 + 1, none⟩ = some (.int .i64 (k + (totJ ts j : Int) + 1)) := by obtain ⟨q, rfl⟩ := HQ; exact (HX.out j hlt).2.1
      have g2 : wr.cell? ⟨b, off + j * 3 + 2, none⟩ = some (V j) := by obtain ⟨q, rfl⟩ := HQ; exact (HX.out j hlt).2.2.1
      have HR : Hid (∃ S, RdI S wr (V j) (mkI (k + (totJ ts j : Int) + 1 + 1) (ts.getD j oj0).2.2.length)) := by obtain ⟨q, rfl⟩ := HQ; exact (HX.out j hlt).2.2.2
      have HT := hide (totJ_succ ts j hjl.out)
      have hle := totJ_le ts (j + 1) n hlt
      have hb : k + (totJ ts j : Int) + 1 + 1 + ((ts.getD j oj0).2.2.length : Int) ≤ 9223372036854775807 := by have := HT.out; omega
      have hkt : 0 ≤ k + (totJ ts j : Int) := by omega
      unfold mJ at g0
      clear hle
      go_wp2_with fail
      obtain ⟨S, hR⟩ := HR.out
      refine (heldI hR (by omega) hb).mono ?_
      clear hR
      rintro e w' ⟨rfl, q, rfl⟩
      go_wp2
      go_roundw
      case rel => exact ⟨j + 1, hlt, by rw [HT.out]; go_num, by go_num, by obtain ⟨q, rfl⟩ := HQ; exact ⟨_, World.drewN_drewN ..⟩⟩
      case measure => simp [intOf]; omega
    · have : j = n := by omega
      subst this
      go_wp2
      go_ret
      exact ⟨rfl, HQ.out⟩

theorem heldEn_none (ao : Option Addr) (c : Nat) (k : Int) (w : World) :
    Calls Tryz.prog 67 #[.slice ao 0 c, .int .i64 k] w fun e w' => e = .returned (.int .i64 k) ∧ ∃ q, w' = w.drewN q := by
  go_enter Tryz.func67, Tryz.ntmps67
  go_wp2
  go_loopw [1, 5] (fun t i wr => t = .int .i64 k ∧ i = .int .i64 0 ∧ wr = w) (fun _ _ _ => 0)
  case atStart => exact ⟨rfl, rfl, rfl⟩
  case round =>
    obtain ⟨rfl, rfl, rfl⟩ := hrel
    go_wp2
    go_ret
    exact ⟨rfl, 0, rfl⟩

/-- 'heldEntryS' of entries whose marks stand. -/
theorem heldEn {S : Nat → Prop} {w : World} {v : Value} {ts : List Oj} {k : Int} (hv : RdJ S w v (mkJ k ts)) (hk0 : 0 ≤ k) (hk : k + (totJ ts ts.length : Int) ≤ 9223372036854775807) :
    Calls Tryz.prog 67 #[v, .int .i64 k] w fun e w' =>
      e = .returned (.int .i64 (k + (totJ ts ts.length : Int))) ∧ ∃ q, w' = w.drewN q := by
  obtain ⟨ao, c, rfl, hm, h⟩ := hv
  rw [mkJ_len] at hm h ⊢
  by_cases hne : ts = []
  · subst hne
    exact (heldEn_none _ _ _ _).mono fun e w' ⟨he, hw⟩ => ⟨by simpa [totJ] using he, hw⟩
  · obtain ⟨b, off, V, rfl, _, hc⟩ := h (by rw [← List.length_pos_iff, mkJ_len, List.length_pos_iff]; exact hne)
    exact heldEn_cells ts _ b off c V k w rfl hm hk0 hk (fun i hi => by have := hc i hi; rw [mkJ_at _ _ _ hi] at this; exact ⟨this.1, this.2.1, this.2.2.1, S, this.2.2.2⟩)
end Go.Proofs.YtcmdgnemkjfckaaGreatDoor
/- 'l1Fault' and 'DiskFault' of the model, walked. -/
namespace Go.Proofs.YtcmdgnemkjfckaaGreatDoor
open Go.RowKit

theorem drewN_cell {w wr : World} (h : ∃ q, wr = w.drewN q) (a : Addr) : wr.cell? a = w.cell? a := by obtain ⟨q, rfl⟩ := h; rfl
theorem drewN_on {w wr w' : World} (h : ∃ q, wr = w.drewN q) (h' : ∃ q, w' = wr.drewN q) : ∃ q, w' = w.drewN q := by
  obtain ⟨q, rfl⟩ := h; obtain ⟨q', rfl⟩ := h'; exact ⟨_, World.drewN_drewN ..⟩

end Go.Proofs.YtcmdgnemkjfckaaGreatDoor
/- Slices of slices and of puts that are built by append, one element a round. -/
namespace Go.Proofs.YtcmdgnemkjfckaaGreatDoor
open Go.RowKit

/-- The inner lists of what has been built so far: each in a block of its own, none of them the row's. -/
structure Inner (P : Nat → Prop) (w : World) (row : Option Nat) (k : Nat) (V : Nat → Value) (Bk : Nat → Nat) (X : Nat → List Int) : Prop where
  rd : ∀ i, i < k → RdI (· = Bk i) w (V i) (X i)
  own : ∀ i, i < k → X i ≠ [] → P (Bk i) ∧ Bk i < w.heap.size ∧ (∀ o, w.frozen? ⟨Bk i, o, none⟩ = false) ∧ row ≠ some (Bk i) ∧ ∀ j, j < k → X j ≠ [] → Bk j = Bk i → j = i

theorem Inner.zero (P : Nat → Prop) (w : World) (row : Option Nat) (V : Nat → Value) (Bk : Nat → Nat) (X : Nat → List Int) : Inner P w row 0 V Bk X :=
  ⟨fun _ h => absurd h (Nat.not_lt_zero _), fun _ h => absurd h (Nat.not_lt_zero _)⟩

theorem Inner.later {P : Nat → Prop} {w w' : World} {row : Option Nat} {k : Nat} {V : Nat → Value} {Bk : Nat → Nat} {X : Nat → List Int} (h : Inner P w row k V Bk X) (hb : Below w.heap.size w w') : Inner P w' row k V Bk X :=
  ⟨fun i hi => (h.rd i hi).later hb, fun i hi hn => by
    obtain ⟨h1, h2, h3, h4, h5⟩ := h.own i hi hn
    exact ⟨h1, Nat.lt_of_lt_of_le h2 hb.size, fun o => ((bcell hb).2 _ _ h2).trans (h3 o), h4, h5⟩⟩

theorem Inner.step {P P' : Nat → Prop} {w w1 w2 w3 : World} {row : Option Nat} {k g : Nat} {V : Nat → Value} {Bk : Nat → Nat} {X : Nat → List Int} {z : Value}
    (h : Inner P w row k V Bk X) (hP : ∀ b, P b → P' b) (hN : ∀ b, w.heap.size ≤ b → P' b) (hrow : ∀ r, row = some r → r < w.heap.size) (hb1 : Below w.heap.size w w1) (hz : OwI w.heap.size w1 z (X k)) (hb2 : Below w1.heap.size w1 w2)
    (hg : w2.grownBy w3 row) (hat : row = some g ∨ g = w2.heap.size) :
    ∃ Bk', Inner P' w3 (some g) (k + 1) (fun i => if i = k then z else V i) Bk' X := by
  obtain ⟨bz, hz1, hz2⟩ := hz
  have hs1 := hb1.size
  have hs2 := hb2.size
  have keep : ∀ b o, b < w2.heap.size → some b ≠ row → w3.cell? ⟨b, o, none⟩ = w2.cell? ⟨b, o, none⟩ := fun b o hl hne => hg.cell_far ⟨b, o, none⟩ hl hne
  have keepf : ∀ b o, b < w2.heap.size → some b ≠ row → w3.frozen? ⟨b, o, none⟩ = w2.frozen? ⟨b, o, none⟩ := fun b o hl hne => hg.frozen_far ⟨b, o, none⟩ hl hne
  have h2 := (h.later hb1).later hb2
  have hz1' := hz1.later hb2
  refine ⟨fun i => if i = k then bz else Bk i, fun i hi => ?_, fun i hi hn => ?_⟩
  · by_cases e : i = k
    · subst e
      simp only [if_true]
      obtain ⟨ao, c, e1, e2, e3⟩ := hz1'
      refine ⟨ao, c, e1, e2, fun hne => ?_⟩
      obtain ⟨b, off, f1, f2, f3⟩ := e3 hne
      subst f2
      refine ⟨b, off, f1, rfl, fun t ht => ?_⟩
      rw [keep _ _ (World.block_lt_of_cell? _ _ (f3 t ht)) (fun e => by have := hrow b e.symm; have := (hz2 hne).1; omega)]
      exact f3 t ht
    · simp only [if_neg e]
      obtain ⟨ao, c, e1, e2, e3⟩ := h2.rd i (by omega)
      refine ⟨ao, c, e1, e2, fun hne => ?_⟩
      obtain ⟨b, off, f1, f2, f3⟩ := e3 hne
      subst f2
      refine ⟨Bk i, off, f1, rfl, fun t ht => ?_⟩
      rw [keep _ _ (World.block_lt_of_cell? _ _ (f3 t ht)) (fun e => (h2.own i (by omega) hne).2.2.2.1 e.symm)]
      exact f3 t ht
  · have hsz3 := hg.size
    by_cases e : i = k
    · subst e
      simp only [if_true]
      obtain ⟨k1, k2, k3⟩ := hz2 hn
      refine ⟨hN _ k1, by omega, fun o => ?_, ?_, fun j hj hj' ej => ?_⟩
      · rw [keepf _ _ (by omega) (fun e => by have := hrow bz e.symm; omega)]
        exact ((bcell hb2).2 _ _ k2).trans (k3 o)
      · intro e
        injection e with e
        rcases hat with hat | hat
        · have := hrow g hat; omega
        · omega
      · by_cases e2 : j = i
        · exact e2
        · simp only [if_neg e2] at ej
          have := (h.own j (by omega) hj').2.1
          omega
    · simp only [if_neg e]
      obtain ⟨k1, k2, k3, k4, k5⟩ := h.own i (by omega) hn
      obtain ⟨_, q2, q3, _, _⟩ := h2.own i (by omega) hn
      refine ⟨hP _ k1, by omega, fun o => ?_, ?_, fun j hj hj' ej => ?_⟩
      · rw [keepf _ _ q2 (fun e => k4 e.symm)]
        exact q3 o
      · intro e
        injection e with e
        rcases hat with hat | hat
        · exact k4 (by rw [hat, e])
        · omega
      · by_cases e2 : j = k
        · subst e2
          simp only [if_true] at ej
          have := (hz2 hj').1
          omega
        · simp only [if_neg e2] at ej
          exact k5 j (by omega) hj' ej

theorem ownsRow_later {w w' : World} {B e s : Nat} {v : Value} {n : Nat} {xs : List Value} (h : w.ownsRow B e s v n xs) (hb : Below w.heap.size w w') : w'.ownsRow B e s v n xs := by
  obtain ⟨h1, h2⟩ := h
  refine ⟨h1, ?_⟩
  rcases h2 with h2 | ⟨g, cap, cur, hv, hg, hh, r⟩
  · exact Or.inl h2
  · exact Or.inr ⟨g, cap, cur, hv, hg, by rw [hb.block g (Array.getElem?_eq_some_iff.1 hh).1]; exact hh, r⟩

/-- k rows have been built. -/
def BuiltII (P : Nat → Prop) (w : World) (v : Value) (k : Nat) (xss : List (List Int)) : Prop :=
  ∃ V Bk, w.ownsRow 0 22 1 v k ((List.range k).map V) ∧ (∀ r, v.ownBlock = some r → P r) ∧ Inner P w v.ownBlock k V Bk (fun i => xss.getD i [])

theorem BuiltII.nil (P : Nat → Prop) (w : World) (xss : List (List Int)) : BuiltII P w (.slice none 0 0) 0 xss :=
  ⟨fun _ => .bool false, fun _ => 0, World.ownsRow_nil _ _ _ _, fun _ h => (by cases h), Inner.zero _ _ _ _ _ _⟩
theorem BuiltII.later {P : Nat → Prop} {w w' : World} {v : Value} {k : Nat} {xss : List (List Int)} (h : BuiltII P w v k xss) (hb : Below w.heap.size w w') : BuiltII P w' v k xss := by
  obtain ⟨V, Bk, h1, h2, h3⟩ := h
  exact ⟨V, Bk, ownsRow_later h1 hb, h2, h3.later hb⟩
theorem Inner.mono {P P' : Nat → Prop} {w : World} {row : Option Nat} {k : Nat} {V : Nat → Value} {Bk : Nat → Nat} {X : Nat → List Int} (h : Inner P w row k V Bk X) (hP : ∀ b, P b → b < w.heap.size → P' b) : Inner P' w row k V Bk X :=
  ⟨h.rd, fun i hi hn => ⟨hP _ (h.own i hi hn).1 (h.own i hi hn).2.1, (h.own i hi hn).2⟩⟩
theorem BuiltII.mono {P P' : Nat → Prop} {w : World} {v : Value} {k : Nat} {xss : List (List Int)} (h : BuiltII P w v k xss) (hP : ∀ b, P b → b < w.heap.size → P' b) : BuiltII P' w v k xss := by
  obtain ⟨V, Bk, h1, h2, h3⟩ := h
  exact ⟨V, Bk, h1, fun r hr => hP r (h2 r hr) (h1.lt r hr).2, h3.mono hP⟩

theorem range_map_succ (k : Nat) (V : Nat → Value) (z : Value) : (List.range (k + 1)).map (fun i => if i = k then z else V i) = (List.range k).map V ++ [z] := by
  rw [List.range_succ, List.map_append]
  congr 1
  · refine List.map_congr_left fun i hi => ?_
    rw [if_neg (by have := List.mem_range.1 hi; omega)]
  · simp

theorem BuiltII.step {P P' : Nat → Prop} {w w1 w2 w3 : World} {v z : Value} {k g cap : Nat} {V : Nat → Value} {Bk : Nat → Nat} {xss : List (List Int)} (hi : Inner P w v.ownBlock k V Bk (fun i => xss.getD i [])) (hr : w.ownsRow 0 22 1 v k ((List.range k).map V)) (hpr : ∀ r, v.ownBlock = some r → P r)
    (hP : ∀ b, P b → P' b) (hN : ∀ b, w.heap.size ≤ b → P' b) (hb1 : Below w.heap.size w w1) (hz : OwI w.heap.size w1 z (xss.getD k [])) (hb2 : Below w1.heap.size w1 w2)
    (hown : w3.ownsRow 0 22 1 (.slice (some ⟨g, 0, none⟩) (k + 1) cap) (k + 1) ((List.range k).map V ++ [z])) (hg : w2.grownBy w3 v.ownBlock) (hat : v.ownBlock = some g ∨ g = w2.heap.size) :
    BuiltII P' w3 (.slice (some ⟨g, 0, none⟩) (k + 1) cap) (k + 1) xss := by
  obtain ⟨Bk', h⟩ := hi.step hP hN (fun r hr' => (hr.lt r hr').2) hb1 hz hb2 hg hat
  refine ⟨_, Bk', by rw [range_map_succ]; exact hown, fun r hr' => ?_, h⟩
  injection hr' with hr'
  subst hr'
  rcases hat with hat | hat
  · exact hP _ (hpr _ hat)
  · have h1 := hb1.size
    have h2 := hb2.size
    exact hN _ (by dsimp only; omega)

theorem BuiltII.ow {P : Nat → Prop} {w : World} {v : Value} {k : Nat} {xss : List (List Int)} (h : BuiltII P w v k xss) (hk : xss.length = k) (hm : k ≤ 9223372036854775807) : OwII (fun b => P b ∧ b < w.heap.size) w v xss := by
  obtain ⟨V, Bk, h1, hpr, h2⟩ := h
  subst hk
  rcases h1.2 with ⟨rfl, e⟩ | ⟨g, cap, cur, rfl, hg, hh, _⟩
  · have : xss = [] := List.eq_nil_of_length_eq_zero e
    subst this
    exact OwII_nil _ _
  · refine ⟨_, cap, g, 0, V, Bk, rfl, hm, fun _ => ⟨rfl, hpr g rfl, (Array.getElem?_eq_some_iff.1 hh).1⟩, fun i hi => ⟨?_, h2.rd i hi, fun hn => ?_⟩⟩
    · rw [Nat.zero_add, h1.cellAt i (by omega)]
      simp [hi]
    · obtain ⟨k1, k2, k3, k4, k5⟩ := h2.own i hi hn
      exact ⟨⟨k1, k2⟩, fun e => k4 (by rw [e]; rfl), k3, k5⟩

theorem BuiltII.shape {P : Nat → Prop} {w : World} {v : Value} {k : Nat} {xss : List (List Int)} (h : BuiltII P w v k xss) : ∃ ao c, v = .slice ao k c := by
  obtain ⟨V, Bk, h1, _⟩ := h
  rcases h1.2 with ⟨rfl, e⟩ | ⟨g, cap, cur, rfl, _⟩
  · exact ⟨none, 0, by rw [e]⟩
  · exact ⟨_, _, rfl⟩

end Go.Proofs.YtcmdgnemkjfckaaGreatDoor
/- Chapter 5: lists of objects: how much they hold, and copies of them. Made by program (genobz.py). -/
namespace Go.Proofs.YtcmdgnemkjfckaaGreatDoor
open Go.RowKit

def totX (ps : List Oj) (i : Nat) : Nat := ((ps.take i).map fun p => p.2.2.length).sum
theorem totX_zero (ps : List Oj) : totX ps 0 = 0 := by simp [totX]
theorem totX_succ (ps : List Oj) (i : Nat) (h : i < ps.length) : totX ps (i + 1) = totX ps i + (ps.getD i oj0).2.2.length := by
  unfold totX
  rw [List.take_succ_eq_append_getElem h]
  simp only [List.map_append, List.sum_append, List.map_cons, List.map_nil, List.sum_cons, List.sum_nil]
  simp [List.getD, h]
theorem totX_le (ps : List Oj) : ∀ (i j : Nat), i ≤ j → totX ps i ≤ totX ps j := by
  intro i j h
  unfold totX
  have : ps.take j = ps.take i ++ (ps.drop i).take (j - i) := by
    rw [← List.take_add]; congr 1; omega
  rw [this]; simp
/-- What the loop that copies objects knows behind j of them. -/
def ToJ (os : List Oj) (w : World) (j : Nat) (wr : World) : Prop :=
  Below w.heap.size w wr ∧ w.heap.size < wr.heap.size ∧ (∀ o, wr.frozen? ⟨w.heap.size, o, none⟩ = false) ∧ (∀ o, o < os.length * 3 → ∃ x, wr.cell? ⟨w.heap.size, o, none⟩ = some x) ∧
    ∃ (V : Nat → Value) (Bk : Nat → Nat), Inner (w.heap.size ≤ ·) wr (some w.heap.size) j V Bk (fun i => (os.getD i oj0).2.2) ∧
      ∀ i, i < j → wr.cell? ⟨w.heap.size, i * 3, none⟩ = some (.int .i64 (os.getD i oj0).1) ∧ wr.cell? ⟨w.heap.size, i * 3 + 1, none⟩ = some (.int .i64 (os.getD i oj0).2.1) ∧ wr.cell? ⟨w.heap.size, i * 3 + 2, none⟩ = some (V i)
def setJ (w : World) (B j : Nat) (a f : Int) (z : Value) : World := ((w.setCell ⟨B, j * 3, none⟩ (.int .i64 a)).setCell ⟨B, j * 3 + 1, none⟩ (.int .i64 f)).setCell ⟨B, j * 3 + 2, none⟩ z
theorem setJ_other (w : World) (B j : Nat) (a f : Int) (z : Value) (p : Addr) (h : p.block ≠ B ∨ (p.off ≠ j * 3 ∧ p.off ≠ j * 3 + 1 ∧ p.off ≠ j * 3 + 2)) : (setJ w B j a f z).cell? p = w.cell? p := by
  unfold setJ
  rw [World.cell?_setCell_other _ _ _ _ (by rintro rfl; simp at h), World.cell?_setCell_other _ _ _ _ (by rintro rfl; simp at h), World.cell?_setCell_other _ _ _ _ (by rintro rfl; simp at h)]
theorem grown_onJ {w w' w'' : World} {row : Option Nat} (h : w.grownBy w' row) (h' : w'.grownBy w'' row) : w.grownBy w'' row :=
  ⟨h'.os.trans h.os, h'.tape.trans h.tape, h'.output.trans h.output, Nat.le_trans h.size h'.size, fun b hb hne => (h'.block b (Nat.lt_of_lt_of_le hb h.size) hne).trans (h.block b hb hne)⟩
theorem setJ_grown (w : World) (B j : Nat) (a f : Int) (z : Value) : w.grownBy (setJ w B j a f z) (some B) := by
  have g : ∀ (w : World) (o : Nat) (x : Value), w.grownBy (w.setCell ⟨B, o, none⟩ x) (some B) := fun w o x => by
    have hw : Wr (· = B) w (w.setCell ⟨B, o, none⟩ x) := (Wr.refl (· = B) w).setCell (p := ⟨B, o, none⟩) rfl _
    exact ⟨hw.os, hw.tape, hw.output, hw.size, fun b hb hne => hw.block b hb (fun e => hne (by rw [e]))⟩
  exact grown_onJ (grown_onJ (g _ _ _) (g _ _ _)) (g _ _ _)
theorem ToJ.step {os : List Oj} {w : World} {j : Nat} {wr w1 : World} {z : Value} (h : ToJ os w j wr) (hj : j < os.length) (hb : Below wr.heap.size wr w1) (hz : OwI wr.heap.size w1 z (os.getD j oj0).2.2) :
    ToJ os w (j + 1) (setJ w1 w.heap.size j (os.getD j oj0).1 (os.getD j oj0).2.1 z) := by
  obtain ⟨h1, h2, h3, h4, V, Bk, h5, h6⟩ := h
  have hs := hb.size
  have hc : ∀ o, w1.cell? ⟨w.heap.size, o, none⟩ = wr.cell? ⟨w.heap.size, o, none⟩ := fun o => (bcell hb).1 _ _ h2
  have hf : ∀ o, w1.frozen? ⟨w.heap.size, o, none⟩ = false := fun o => ((bcell hb).2 _ _ h2).trans (h3 o)
  obtain ⟨x0, e0⟩ := h4 (j * 3) (by omega)
  obtain ⟨x1, e1⟩ := h4 (j * 3 + 1) (by omega)
  obtain ⟨x2, e2⟩ := h4 (j * 3 + 2) (by omega)
  have s2 : (setJ w1 w.heap.size j (os.getD j oj0).1 (os.getD j oj0).2.1 z).cell? ⟨w.heap.size, j * 3 + 2, none⟩ = some z := by
    unfold setJ
    refine World.cell?_setCell_same (u := x2) _ _ _ ?_
    rw [World.cell?_setCell_other _ _ _ _ (by simp), World.cell?_setCell_other _ _ _ _ (by simp), hc]; exact e2
  have s1 : (setJ w1 w.heap.size j (os.getD j oj0).1 (os.getD j oj0).2.1 z).cell? ⟨w.heap.size, j * 3 + 1, none⟩ = some (.int .i64 (os.getD j oj0).2.1) := by
    unfold setJ
    rw [World.cell?_setCell_other _ _ _ _ (by simp)]
    refine World.cell?_setCell_same (u := x1) _ _ _ ?_
    rw [World.cell?_setCell_other _ _ _ _ (by simp), hc]; exact e1
  have s0 : (setJ w1 w.heap.size j (os.getD j oj0).1 (os.getD j oj0).2.1 z).cell? ⟨w.heap.size, j * 3, none⟩ = some (.int .i64 (os.getD j oj0).1) := by
    unfold setJ
    rw [World.cell?_setCell_other _ _ _ _ (by simp), World.cell?_setCell_other _ _ _ _ (by simp)]
    refine World.cell?_setCell_same (u := x0) _ _ _ ?_
    rw [hc]; exact e0
  obtain ⟨Bk', hI⟩ := h5.step (P' := (w.heap.size ≤ ·)) (fun _ h => h) (fun b hb' => by have := h1.size; omega) (fun r hr => by injection hr with hr; omega) hb hz (Below.refl _ _) (setJ_grown w1 w.heap.size j (os.getD j oj0).1 (os.getD j oj0).2.1 z) (Or.inl rfl)
  refine ⟨?_, ?_, fun o => ?_, fun o ho => ?_, _, Bk', hI, fun i hi => ?_⟩
  · unfold setJ
    exact (((below_on h1 hb).setCell (Nat.le_refl _) _).setCell (Nat.le_refl _) _).setCell (Nat.le_refl _) _
  · unfold setJ; simp; omega
  · unfold setJ; rw [World.frozen?_setCell, World.frozen?_setCell, World.frozen?_setCell]; exact hf o
  · by_cases a0 : o = j * 3
    · subst a0; exact ⟨_, s0⟩
    · by_cases a1 : o = j * 3 + 1
      · subst a1; exact ⟨_, s1⟩
      · by_cases a2 : o = j * 3 + 2
        · subst a2; exact ⟨_, s2⟩
        · obtain ⟨x, hx⟩ := h4 o ho
          exact ⟨x, by rw [setJ_other _ _ _ _ _ _ _ (Or.inr ⟨a0, a1, a2⟩), hc]; exact hx⟩
  · by_cases e : i = j
    · subst e
      simp only [if_true]
      exact ⟨s0, s1, s2⟩
    · simp only [if_neg e]
      obtain ⟨k0, k1, k2⟩ := h6 i (by omega)
      exact ⟨by rw [setJ_other _ _ _ _ _ _ _ (Or.inr ⟨by dsimp only; omega, by dsimp only; omega, by dsimp only; omega⟩), hc]; exact k0, by rw [setJ_other _ _ _ _ _ _ _ (Or.inr ⟨by dsimp only; omega, by dsimp only; omega, by dsimp only; omega⟩), hc]; exact k1, by rw [setJ_other _ _ _ _ _ _ _ (Or.inr ⟨by dsimp only; omega, by dsimp only; omega, by dsimp only; omega⟩), hc]; exact k2⟩
theorem ToJ.start (os : List Oj) (w : World) (n : Nat) (hn : os.length = n) (t : TypeId) : ToJ os w 0 (w.alloc (.cells (madeCells #[.int .i64 0, .int .i64 0, .slice none 0 0] (n * 3)) t)) := by
  refine ⟨below_alloc _ _, by simp, fun o => by simp [go_sem], fun o ho => ?_, fun _ => .bool false, fun _ => 0, Inner.zero _ _ _ _ _ _, fun i hi => absurd hi (Nat.not_lt_zero _)⟩
  subst hn
  have h : o < (madeCells #[Value.int .i64 0, .int .i64 0, .slice none 0 0] (os.length * 3)).size := by rw [size_madeCells]; exact ho
  exact ⟨_, by simp [go_sem, h]; rfl⟩

end Go.Proofs.YtcmdgnemkjfckaaGreatDoor
