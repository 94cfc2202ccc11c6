/- EnS Fault3 in one text: what each says stands at its head below. -/
import Derived.Test.YtiommfabhchgdaaG11
import Derived.Test.YtiommfabhchgdaaG12
import Derived.Test.YtiommfabhchgdaaG09
/- Chapter 9: lists of entries: the laws' helpers over them. Made by program (genen.py). -/
namespace Go.Proofs.Ytiommfabhchgdaa
open Go.RowKit

theorem eqEn_cells (X : Nat → Int) (Y : Nat → Int) (V V' : Nat → Value) (n b off c b' off' c' : Nat) (w : World) (hm : n ≤ 9223372036854775807)
    (hx : ∀ i, i < n → w.cell? ⟨b, off + i * 3, none⟩ = some (.int .i64 (X i)) ∧ w.cell? ⟨b, off + i * 3 + 1, none⟩ = some (.int .i64 (Y i)) ∧ w.cell? ⟨b, off + i * 3 + 2, none⟩ = some (V i))
    (hy : ∀ i, i < n → w.cell? ⟨b', off' + i * 3, none⟩ = some (.int .i64 (X i)) ∧ w.cell? ⟨b', off' + i * 3 + 1, none⟩ = some (.int .i64 (Y i)) ∧ w.cell? ⟨b', off' + i * 3 + 2, none⟩ = some (V' i))
    (hs : ∀ i, i < n → ∃ xs S T, RdI S w (V i) xs ∧ RdI T w (V' i) xs) :
    Calls Try.prog 30 #[.slice (some ⟨b, off, none⟩) n c, .slice (some ⟨b', off', none⟩) n c'] w fun e w' =>
      e = .returned (.bool true) ∧ Below w.heap.size w w' := by
  have HX := hide hx
  have HY := hide hy
  have HS := hide hs
  clear hx hy hs
  go_enter Try.func30, Try.ntmps30
  go_wp2
  go_loopw [5] (fun i wr => ∃ k : Nat, k ≤ n ∧ i = .int .i64 k ∧ Hid (Below w.heap.size w wr)) (fun i _ => n - (intOf i).toNat)
  case atStart => exact ⟨0, Nat.zero_le _, rfl, Below.refl _ _⟩
  case round =>
    obtain ⟨k, hk, rfl, HB⟩ := hrel
    by_cases hlt : k < n
    · have g0 := cell_later HB.out (HX.out k hlt).1
      have g1 := cell_later HB.out (HX.out k hlt).2.1
      have g2 := cell_later HB.out (HX.out k hlt).2.2
      have g3 := cell_later HB.out (HY.out k hlt).1
      have g4 := cell_later HB.out (HY.out k hlt).2.1
      have g5 := cell_later HB.out (HY.out k hlt).2.2
      obtain ⟨xs, S, T, r1, r2⟩ := HS.out k hlt
      obtain ⟨a1, k1, e1⟩ := r1.shape
      obtain ⟨a2, k2, e2⟩ := r2.shape
      rw [e1] at g2 r1
      rw [e2] at g5 r2
      have R1 := hide (r1.later HB.out)
      have R2 := hide (r2.later HB.out)
      have hk0 : (0 : Int) ≤ (k : Int) := Int.natCast_nonneg _
      have hk1 : (k : Int) < (n : Int) := by omega
      clear r1 r2
      go_wp2_with fail
      go_region_held3 (fun w' => w'.cell? ⟨b, off + k * 3, none⟩ = some (.int .i64 (X k)) ∧ w'.cell? ⟨b, off + k * 3 + 1, none⟩ = some (.int .i64 (Y k)) ∧ w'.cell? ⟨b, off + k * 3 + 2, none⟩ = some (.slice a1 xs.length k1) ∧ w'.cell? ⟨b', off' + k * 3, none⟩ = some (.int .i64 (X k)) ∧ w'.cell? ⟨b', off' + k * 3 + 1, none⟩ = some (.int .i64 (Y k)) ∧ w'.cell? ⟨b', off' + k * 3 + 2, none⟩ = some (.slice a2 xs.length k2)) (first | exact ⟨g0, g1, g2, g3, g4, g5⟩ | exact ⟨c0, c1, c2, c3, c4, c5⟩)
        (first
          | (go_at_call 60; refine (eqEntry (X k) (Y k) (R1.out.drewN 1) (R2.out.drewN 1)).mono ?_; rintro e w' ⟨rfl, hb⟩; have c0 := cell_later hb g0; have c1 := cell_later hb g1; have c2 := cell_later hb g2; have c3 := cell_later hb g3; have c4 := cell_later hb g4; have c5 := cell_later hb g5; have HB' := hide hb; clear hb))
      go_wp2
      go_roundw
      case rel => exact ⟨k + 1, by omega, by go_num, below_on HB.out (below_on (below_drewN wr 1) HB'.out)⟩
      case measure => simp [intOf]; omega
    · go_wp2
      go_ret
      exact ⟨rfl, HB.out⟩

theorem eqEn_none (ao ao' : Option Addr) (c c' : Nat) (w : World) :
    Calls Try.prog 30 #[.slice ao 0 c, .slice ao' 0 c'] w fun e w' => e = .returned (.bool true) ∧ Below w.heap.size w w' := by
  go_enter Try.func30, Try.ntmps30
  go_wp2
  go_loopw [5] (fun i wr => i = .int .i64 0 ∧ wr = w) (fun _ _ => 0)
  case atStart => exact ⟨rfl, rfl⟩
  case round =>
    obtain ⟨rfl, rfl⟩ := hrel
    go_wp2
    go_ret
    exact ⟨rfl, Below.refl _ _⟩

theorem eqEn {S T : Nat → Prop} {w : World} {u v : Value} {ts : List Oj} (hu : RdJ S w u ts) (hv : RdJ T w v ts) :
    Calls Try.prog 30 #[u, v] w fun e w' => e = .returned (.bool true) ∧ Below w.heap.size w w' := by
  obtain ⟨ao, c, rfl, hm, h⟩ := hu
  obtain ⟨ao', c', rfl, _, h'⟩ := hv
  by_cases hne : ts = []
  · subst hne; exact eqEn_none _ _ _ _ _
  · obtain ⟨b, off, V, rfl, _, hc⟩ := h hne
    obtain ⟨b', off', V', rfl, _, hc'⟩ := h' hne
    exact eqEn_cells (fun i => (ts.getD i oj0).1) (fun i => (ts.getD i oj0).2.1) V V' _ _ _ _ _ _ _ _ hm (fun i hi => ⟨(hc i hi).1, (hc i hi).2.1, (hc i hi).2.2.1⟩) (fun i hi => ⟨(hc' i hi).1, (hc' i hi).2.1, (hc' i hi).2.2.1⟩) (fun i hi => ⟨_, S, T, (hc i hi).2.2.2, (hc' i hi).2.2.2⟩)

set_option maxHeartbeats 1000000 in
set_option maxRecDepth 4000 in
theorem markEn_cells (ts : List Oj) (n b off c : Nat) (V : Nat → Value) (B : Nat → Nat) (k : Int) (w : World) (hn : ts.length = n) (hm : n ≤ 9223372036854775807) (hk0 : 0 ≤ k) (hk : k + (totJ ts n : Int) ≤ 9223372036854775807)
    (h0 : MarkAtJ ts b off V B k w 0 w) :
    Calls Try.prog 32 #[.slice (some ⟨b, off, none⟩) n c, .int .i64 k] w fun e w' =>
      e = .returned (.int .i64 (k + (totJ ts n : Int))) ∧ MarkAtJ ts b off V B k w n w' := by
  have HN := hide hn
  clear hn
  have H0 := hide h0
  clear h0
  go_enter Try.func32, Try.ntmps32
  go_wp2
  go_loopw [1, 5] (fun t i wr => ∃ j : Nat, j ≤ n ∧ t = .int .i64 (k + (totJ ts j : Int)) ∧ i = .int .i64 j ∧ Hid (MarkAtJ ts b off V B k w j wr)) (fun _ i _ => n - (intOf i).toNat)
  case atStart => exact ⟨0, Nat.zero_le _, by simp [totJ_zero], rfl, H0⟩
  case round =>
    obtain ⟨j, hj, rfl, rfl, HM⟩ := hrel
    by_cases hlt : j < n
    · have hjl : Hid (j < ts.length) := by rw [Hid, HN.out]; exact hlt
      have g1 := HM.out.cell j hjl.out
      obtain ⟨x0, g2⟩ := HM.out.th0 j hjl.out
      obtain ⟨x1, g3⟩ := HM.out.th1 j hjl.out
      have g4 := HM.out.own (off + j * 3)
      have g5 := HM.out.own (off + j * 3 + 1)
      have HT := hide (totJ_succ ts j hjl.out)
      have hle := totJ_le ts (j + 1) n hlt
      have HR := hide (HM.out.mid (m := k + (totJ ts j : Int)) hjl.out)
      have HSt := hide (fun w' h1 h2 => HM.out.step (w' := w') hjl.out h1 h2)
      have hb : k + (totJ ts j : Int) + 1 + 1 + ((ts.getD j oj0).2.2.length : Int) ≤ 9223372036854775807 := by have := HT.out; omega
      obtain ⟨lj, hlj⟩ : ∃ lj, (ts.getD j oj0).2.2.length = lj := ⟨_, rfl⟩
      have HLj := hide hlj
      rw [hlj] at hb HT
      have hkt : 0 ≤ k + (totJ ts j : Int) := by omega
      unfold markCellsJ mJ at HR HSt
      clear hle hlj
      go_wp2_with fail
      refine (markI HR.out.1 HR.out.2 (by omega) (by rw [HLj.out]; exact hb)).mono ?_
      rintro e w' ⟨he, hr, hw⟩
      rw [HLj.out] at he
      subst he
      have HS := hide (HSt.out w' hr hw)
      clear hr hw g1 g2 g3 g4 g5
      go_wp2
      go_roundw
      case rel => exact ⟨j + 1, hlt, by rw [HT.out]; go_num, by go_num, HS.out⟩
      case measure => simp [intOf]; omega
    · have : j = n := by omega
      subst this
      go_wp2
      go_ret
      exact ⟨rfl, HM.out⟩

theorem markEn_none (ao : Option Addr) (c : Nat) (k : Int) (w : World) :
    Calls Try.prog 32 #[.slice ao 0 c, .int .i64 k] w fun e w' => e = .returned (.int .i64 k) ∧ w' = w := by
  go_enter Try.func32, Try.ntmps32
  go_wp2
  go_loopw [1, 5] (fun t i wr => t = .int .i64 k ∧ i = .int .i64 0 ∧ wr = w) (fun _ _ _ => 0)
  case atStart => exact ⟨rfl, rfl, rfl⟩
  case round =>
    obtain ⟨rfl, rfl, rfl⟩ := hrel
    go_wp2
    go_ret
    exact ⟨rfl, rfl⟩

/-- 'markEntryS' of steps that lie apart. -/
theorem markEn {S : Nat → Prop} {w : World} {v : Value} {ts : List Oj} {k : Int} (hv : OwJ S w v ts) (hk0 : 0 ≤ k) (hk : k + (totJ ts ts.length : Int) ≤ 9223372036854775807) :
    Calls Try.prog 32 #[v, .int .i64 k] w fun e w' =>
      e = .returned (.int .i64 (k + (totJ ts ts.length : Int))) ∧ RdJ S w' v (mkJ k ts) ∧ Wr S w w' := by
  obtain ⟨ao, c, b, off, V, B, rfl, ⟨hm, hcap⟩, h, h4⟩ := hv
  by_cases hne : ts = []
  · subst hne
    exact (markEn_none _ _ _ _).mono fun e w' ⟨he, hw⟩ => ⟨by simpa [totJ] using he, ⟨ao, c, by simp [mkJ], by simp [mkJ], fun h => absurd rfl h⟩, by subst hw; exact Wr.refl _ _⟩
  · obtain ⟨rfl, hb, hfz⟩ := h hne
    refine (markEn_cells ts _ b off c V B k w rfl hm hk0 hk ⟨fun i hi => (h4 i hi).2.2.1, fun i hi => ⟨_, (h4 i hi).1⟩, fun i hi => ⟨_, (h4 i hi).2.1⟩, fun i hi => absurd hi (Nat.not_lt_zero _), fun i hi => absurd hi (Nat.not_lt_zero _), fun i hi => absurd hi (Nat.not_lt_zero _), fun i _ hi => (h4 i hi).2.2.2.1, hfz, fun i hi hn => ((h4 i hi).2.2.2.2 hn).2, Wr.refl _ _⟩).mono fun e w' ⟨he, hM⟩ => ⟨he, ?_, ?_⟩
    · refine ⟨_, c, by rw [mkJ_len], by rw [mkJ_len]; exact hm, fun _ => ⟨b, off, V, rfl, hb, fun i hi => ?_⟩⟩
      rw [mkJ_len] at hi
      rw [mkJ_at _ _ _ hi]
      refine ⟨hM.flg i hi hi, hM.num i hi hi, hM.cell i hi, (hM.done i hi hi).narrow fun hn x hx => ?_⟩
      rw [mkI_ne] at hn
      subst hx
      exact ((h4 i hi).2.2.2.2 (fun e0 => hn (by rw [e0]; rfl))).1
    · refine hM.wr.mono fun x hx => ?_
      rcases hx with rfl | ⟨i, hi, hn, rfl⟩
      · exact hb
      · exact ((h4 i hi).2.2.2.2 hn).1

end Go.Proofs.Ytiommfabhchgdaa
/- 'l1Fault' and 'DiskFault' of the model, walked. -/
namespace Go.Proofs.Ytiommfabhchgdaa
open Go.RowKit

theorem drewN_cell {w wr : World} (h : ∃ q, wr = w.drewN q) (a : Addr) : wr.cell? a = w.cell? a := by obtain ⟨q, rfl⟩ := h; rfl
theorem drewN_on {w wr w' : World} (h : ∃ q, wr = w.drewN q) (h' : ∃ q, w' = wr.drewN q) : ∃ q, w' = w.drewN q := by
  obtain ⟨q, rfl⟩ := h; obtain ⟨q', rfl⟩ := h'; exact ⟨_, World.drewN_drewN ..⟩

end Go.Proofs.Ytiommfabhchgdaa
