/- The walks of the laws' functions that ask whether marks still stand. -/
import Derived.Test.YtiommfabhchgdaaBase
namespace Go.Proofs.Ytiommfabhchgdaa
open Go.RowKit

theorem heldI_cells (n b off c : Nat) (k : Int) (w : World) (hm : n ≤ 9223372036854775807) (hk0 : 0 ≤ k) (hk : k + (n : Int) ≤ 9223372036854775807)
    (hx : ∀ i, i < n → w.cell? ⟨b, off + i, none⟩ = some (.int .i64 (k + (i : Int)))) :
    Calls Try.prog 61 #[.slice (some ⟨b, off, none⟩) n c, .int .i64 k] w fun e w' =>
      e = .returned (.int .i64 (k + (n : Int))) ∧ ∃ q, w' = w.drewN q := by
  go_enter Try.func61, Try.ntmps61
  go_wp2
  go_loopw [1, 5] (fun t i wr => ∃ j q : Nat, j ≤ n ∧ t = .int .i64 (k + (j : Int)) ∧ i = .int .i64 j ∧ wr = w.drewN q) (fun _ i _ => n - (intOf i).toNat)
  case atStart => exact ⟨0, 0, Nat.zero_le _, by simp, rfl, rfl⟩
  case round =>
    obtain ⟨j, q, hj, rfl, rfl, rfl⟩ := hrel
    by_cases hlt : j < n
    · have g1 := hx j hlt
      go_wp2
      go_roundw
      case rel => exact ⟨j + 1, _, by omega, by go_num, by go_num, rfl⟩
      case measure => simp [intOf]; omega
    · have : j = n := by omega
      subst this
      go_wp2
      go_ret
      exact ⟨rfl, _, rfl⟩

theorem heldI_none (ao : Option Addr) (c : Nat) (k : Int) (w : World) :
    Calls Try.prog 61 #[.slice ao 0 c, .int .i64 k] w fun e w' => e = .returned (.int .i64 k) ∧ ∃ q, w' = w.drewN q := by
  go_enter Try.func61, Try.ntmps61
  go_wp2
  go_loopw [1, 5] (fun t i wr => t = .int .i64 k ∧ i = .int .i64 0 ∧ wr = w) (fun _ _ _ => 0)
  case atStart => exact ⟨rfl, rfl, rfl⟩
  case round =>
    obtain ⟨rfl, rfl, rfl⟩ := hrel
    go_wp2
    go_ret
    exact ⟨rfl, 0, rfl⟩

/-- 'heldInt64S' of a slice whose marks stand. -/
theorem heldI {S : Nat → Prop} {w : World} {v : Value} {n : Nat} {k : Int} (hv : RdI S w v (mkI k n)) (hk0 : 0 ≤ k) (hk : k + (n : Int) ≤ 9223372036854775807) :
    Calls Try.prog 61 #[v, .int .i64 k] w fun e w' =>
      e = .returned (.int .i64 (k + (n : Int))) ∧ ∃ q, w' = w.drewN q := by
  obtain ⟨ao, c, rfl, hm, h⟩ := hv
  rw [mkI_len] at hm h ⊢
  cases n with
  | zero => exact (heldI_none _ _ _ _).mono fun e w' ⟨he, hw⟩ => ⟨by simpa using he, hw⟩
  | succ n =>
    obtain ⟨b, off, rfl, _, hc⟩ := h (by simp [mkI, List.range_succ])
    exact heldI_cells _ b off _ k w hm hk0 hk (fun i hi => by rw [hc i hi, mkI_at _ _ _ hi])

theorem heldP_cells (ps : List (Int × List Int)) (n b off c : Nat) (V : Nat → Value) (k : Int) (w : World) (hn : ps.length = n) (hm : n ≤ 9223372036854775807) (hk0 : 0 ≤ k) (hk : k + (totP ps n : Int) ≤ 9223372036854775807)
    (hx : ∀ i, i < n → w.cell? ⟨b, off + i * 2, none⟩ = some (.int .i64 (k + (totP ps i : Int))) ∧ w.cell? ⟨b, off + i * 2 + 1, none⟩ = some (V i) ∧ ∃ S, RdI S w (V i) (mkI (k + (totP ps i : Int) + 1) (ps.getD i (0, [])).2.length)) :
    Calls Try.prog 33 #[.slice (some ⟨b, off, none⟩) n c, .int .i64 k] w fun e w' =>
      e = .returned (.int .i64 (k + (totP ps n : Int))) ∧ ∃ q, w' = w.drewN q := by
  have HN := hide hn
  clear hn
  have HX := hide hx
  clear hx
  go_enter Try.func33, Try.ntmps33
  go_wp2
  go_loopw [1, 5] (fun t i wr => ∃ j : Nat, j ≤ n ∧ t = .int .i64 (k + (totP ps j : Int)) ∧ i = .int .i64 j ∧ Hid (∃ q, wr = w.drewN q)) (fun _ i _ => n - (intOf i).toNat)
  case atStart => exact ⟨0, Nat.zero_le _, by simp [totP_zero], rfl, 0, rfl⟩
  case round =>
    obtain ⟨j, hj, rfl, rfl, HQ⟩ := hrel
    by_cases hlt : j < n
    · have hjl : Hid (j < ps.length) := by rw [Hid, HN.out]; exact hlt
      have g1 : wr.cell? ⟨b, off + j * 2, none⟩ = some (.int .i64 (k + (totP ps j : Int))) := by obtain ⟨q, rfl⟩ := HQ; exact (HX.out j hlt).1
      have g2 : wr.cell? ⟨b, off + j * 2 + 1, none⟩ = some (V j) := by obtain ⟨q, rfl⟩ := HQ; exact (HX.out j hlt).2.1
      have HR : Hid (∃ S, RdI S wr (V j) (mkI (k + (totP ps j : Int) + 1) (ps.getD j (0, [])).2.length)) := by obtain ⟨q, rfl⟩ := HQ; exact (HX.out j hlt).2.2
      have HT := hide (totP_succ ps j hjl.out)
      have hle := totP_le ps (j + 1) n hlt
      have hb : k + (totP ps j : Int) + 1 + ((ps.getD j (0, [])).2.length : Int) ≤ 9223372036854775807 := by have := HT.out; omega
      clear hle
      go_wp2_with fail
      obtain ⟨S, hR⟩ := HR.out
      refine (heldI hR (by omega) hb).mono ?_
      clear hR
      rintro e w' ⟨rfl, q, rfl⟩
      go_wp2
      go_roundw
      case rel => exact ⟨j + 1, hlt, by rw [HT.out]; go_num, by go_num, by obtain ⟨q, rfl⟩ := HQ; exact ⟨_, World.drewN_drewN ..⟩⟩
      case measure => simp [intOf]; omega
    · have : j = n := by omega
      subst this
      go_wp2
      go_ret
      exact ⟨rfl, HQ.out⟩

theorem heldP_none (ao : Option Addr) (c : Nat) (k : Int) (w : World) :
    Calls Try.prog 33 #[.slice ao 0 c, .int .i64 k] w fun e w' => e = .returned (.int .i64 k) ∧ ∃ q, w' = w.drewN q := by
  go_enter Try.func33, Try.ntmps33
  go_wp2
  go_loopw [1, 5] (fun t i wr => t = .int .i64 k ∧ i = .int .i64 0 ∧ wr = w) (fun _ _ _ => 0)
  case atStart => exact ⟨rfl, rfl, rfl⟩
  case round =>
    obtain ⟨rfl, rfl, rfl⟩ := hrel
    go_wp2
    go_ret
    exact ⟨rfl, 0, rfl⟩

/-- 'heldPutS' of puts whose marks stand. -/
theorem heldP {S : Nat → Prop} {w : World} {v : Value} {ps : List (Int × List Int)} {k : Int} (hv : RdP S w v (mkP k ps)) (hk0 : 0 ≤ k) (hk : k + (totP ps ps.length : Int) ≤ 9223372036854775807) :
    Calls Try.prog 33 #[v, .int .i64 k] w fun e w' =>
      e = .returned (.int .i64 (k + (totP ps ps.length : Int))) ∧ ∃ q, w' = w.drewN q := by
  obtain ⟨ao, c, rfl, hm, h⟩ := hv
  rw [mkP_len] at hm h ⊢
  by_cases hne : ps = []
  · subst hne
    exact (heldP_none _ _ _ _).mono fun e w' ⟨he, hw⟩ => ⟨by simpa [totP] using he, hw⟩
  · obtain ⟨b, off, V, rfl, _, hc⟩ := h (by rw [← List.length_pos_iff, mkP_len, List.length_pos_iff]; exact hne)
    exact heldP_cells ps _ b off c V k w rfl hm hk0 hk (fun i hi => by have := hc i hi; rw [mkP_at _ _ _ hi] at this; exact ⟨this.1, this.2.1, S, this.2.2⟩)

end Go.Proofs.Ytiommfabhchgdaa
