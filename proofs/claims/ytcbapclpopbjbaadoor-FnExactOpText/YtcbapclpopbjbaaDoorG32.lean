/- Ws2 in one text: what each says stands at its head below. -/
import Derived.Test.YtcbapclpopbjbaaDoorG31
import Derived.Deep.RegionHeld3
/- Rows of strings: the walks of the laws' functions that mark them and ask whether marks still stand; a code with such a row. -/
namespace Go.Proofs.YtcbapclpopbjbaaDoor
open Go.RowKit

def mkS (k n : Nat) : List ByteArray := (List.range n).map fun i => mtS (k + i)
theorem mkS_len (k n : Nat) : (mkS k n).length = n := by simp [mkS]
theorem mkS_at (k n i : Nat) (h : i < n) : (mkS k n).getD i emS = mtS (k + i) := by simp [mkS, List.getD, h]

/-- What a loop that marks n cells of block b knows behind j rounds. -/
structure MarkAtS (b off n k : Nat) (w : World) (j : Nat) (wr : World) : Prop where
  done : ∀ i, i < j → wr.cell? ⟨b, off + i, none⟩ = some (.string (mtS (k + i)))
  there : ∀ i, i < n → ∃ x, wr.cell? ⟨b, off + i, none⟩ = some x
  free : ∀ o, wr.frozen? ⟨b, o, none⟩ = false
  wr : Wr (· = b) w wr
theorem MarkAtS.later {b off n k : Nat} {w wr w' : World} {j : Nat} (h : MarkAtS b off n k w j wr) (hj : j < n) (hb : Below wr.heap.size wr w') : MarkAtS b off n k w j w' := by
  obtain ⟨x, hx⟩ := h.there j hj
  have hl := World.block_lt_of_cell? _ _ hx
  exact ⟨fun i hi => cell_later hb (h.done i hi), fun i hi => (h.there i hi).imp fun _ q => cell_later hb q, fun o => ((bcell hb).2 _ _ hl).trans (h.free o), h.wr.trans (Wr.of_below hb _)⟩
theorem MarkAtS.step {b off n k : Nat} {w wr : World} {j : Nat} (h : MarkAtS b off n k w j wr) (hj : j < n) :
    MarkAtS b off n k w (j + 1) (wr.setCell ⟨b, off + j, none⟩ (.string (mtS (k + j)))) := by
  obtain ⟨x, hx⟩ := h.there j hj
  refine ⟨fun i hi => ?_, fun i hi => ?_, fun o => by rw [World.frozen?_setCell]; exact h.free o, h.wr.setCell rfl _⟩
  · by_cases e : i = j
    · subst e; exact World.cell?_setCell_same _ _ _ hx
    · rw [World.cell?_setCell_other _ _ _ _ (by simp <;> omega)]; exact h.done i (by omega)
  · by_cases e : i = j
    · subst e; exact ⟨_, World.cell?_setCell_same _ _ _ hx⟩
    · rw [World.cell?_setCell_other _ _ _ _ (by simp <;> omega)]; exact h.there i hi

theorem markS_cells (n b off c k : Nat) (w : World) (hm : n ≤ 9223372036854775807) (hk0 : 1 ≤ k) (hk : k + n ≤ 9223372036854775806)
    (hx : ∀ i, i < n → ∃ x, w.cell? ⟨b, off + i, none⟩ = some x) (hf : ∀ o, w.frozen? ⟨b, o, none⟩ = false) :
    Calls Tryd.prog 26 #[.slice (some ⟨b, off, none⟩) n c, .int .i64 k] w fun e w' =>
      e = .returned (.int .i64 ((k + n : Nat) : Int)) ∧ MarkAtS b off n k w n w' := by
  go_enter Tryd.func26, Tryd.ntmps26
  go_wp2
  go_loopw [1, 5] (fun t i wr => ∃ j : Nat, j ≤ n ∧ t = .int .i64 ((k + j : Nat) : Int) ∧ i = .int .i64 j ∧ Hid (MarkAtS b off n k w j wr)) (fun _ i _ => n - (intOf i).toNat)
  case atStart => exact ⟨0, Nat.zero_le _, by simp, rfl, fun i hi => absurd hi (Nat.not_lt_zero _), hx, hf, Wr.refl _ _⟩
  case round =>
    obtain ⟨j, hj, rfl, rfl, HM⟩ := hrel
    by_cases hlt : j < n
    · clear hx hf
      obtain ⟨kj, hkj⟩ : ∃ kj, k + j = kj := ⟨_, rfl⟩
      rw [hkj]
      go_wp2_with fail
      refine (markText kj _ (by omega) (by omega)).mono ?_
      rintro e w1 ⟨rfl, hb⟩
      have HM1 := hide (HM.out.later hlt hb)
      clear hb
      obtain ⟨x, g1⟩ := HM1.out.there j hlt
      have g2 := HM1.out.free (off + j)
      have HN := hide (HM1.out.step hlt)
      rw [hkj] at HN
      go_wp2
      go_roundw
      case rel => exact ⟨j + 1, by omega, by go_num, by go_num, unhide HN⟩
      case measure => simp [intOf]; omega
    · have : j = n := by omega
      subst this
      go_wp2
      go_ret
      exact ⟨rfl, HM.out⟩
theorem markS_none (ao : Option Addr) (c k : Nat) (w : World) :
    Calls Tryd.prog 26 #[.slice ao 0 c, .int .i64 k] w fun e w' => e = .returned (.int .i64 k) ∧ w' = w := by
  go_enter Tryd.func26, Tryd.ntmps26
  go_wp2
  go_loopw [1, 5] (fun t i wr => t = .int .i64 k ∧ i = .int .i64 0 ∧ wr = w) (fun _ _ _ => 0)
  case atStart => exact ⟨rfl, rfl, rfl⟩
  case round =>
    obtain ⟨rfl, rfl, rfl⟩ := hrel
    go_wp2
    go_ret
    exact ⟨rfl, rfl⟩
/-- 'markStringS' of a slice that lies in [lo, hi). -/
theorem markS {lo hi : Nat} {w : World} {v : Value} {xs : List ByteArray} {k : Nat} (hv : IvS lo hi w v xs) (hk0 : 1 ≤ k) (hk : k + xs.length ≤ 9223372036854775806) :
    Calls Tryd.prog 26 #[v, .int .i64 k] w fun e w' =>
      e = .returned (.int .i64 ((k + xs.length : Nat) : Int)) ∧ RdS (fun b => lo ≤ b ∧ b < hi) w' v (mkS k xs.length) ∧ Wr (fun b => lo ≤ b ∧ b < hi) w w' := by
  obtain ⟨b, ⟨ao, c, rfl, hm, h⟩, h2⟩ := hv
  cases xs with
  | nil => exact (markS_none _ _ _ _).mono fun e w' ⟨he, hw⟩ => ⟨by simpa using he, ⟨ao, c, by simp [mkS], by simp [mkS], fun h => absurd rfl h⟩, by subst hw; exact Wr.refl _ _⟩
  | cons x xs =>
    obtain ⟨b', off, rfl, rfl, hc⟩ := h (by simp)
    obtain ⟨q1, q2, q3, q4⟩ := h2 (by simp)
    refine (markS_cells _ b' off _ k w hm hk0 hk (fun i hi => ⟨_, hc i hi⟩) q4).mono fun e w' ⟨he, hM⟩ => ⟨he, ?_, ?_⟩
    · refine ⟨_, c, by rw [mkS_len], by rw [mkS_len]; exact hm, fun _ => ⟨b', off, rfl, ⟨q1, q2⟩, fun i hi => ?_⟩⟩
      rw [mkS_len] at hi
      rw [mkS_at _ _ _ hi]
      exact hM.done i hi
    · exact hM.wr.mono fun y hy => by subst hy; exact ⟨q1, q2⟩

theorem heldS_cells (n b off c k : Nat) (w : World) (hm : n ≤ 9223372036854775807) (hk0 : 1 ≤ k) (hk : k + n ≤ 9223372036854775806)
    (hx : ∀ i, i < n → w.cell? ⟨b, off + i, none⟩ = some (.string (mtS (k + i)))) :
    Calls Tryd.prog 27 #[.slice (some ⟨b, off, none⟩) n c, .int .i64 k] w fun e w' =>
      e = .returned (.int .i64 ((k + n : Nat) : Int)) ∧ Below w.heap.size w w' := by
  have HX := hide hx
  clear hx
  go_enter Tryd.func27, Tryd.ntmps27
  go_wp2
  go_loopw [1, 5] (fun t i wr => ∃ j : Nat, j ≤ n ∧ t = .int .i64 ((k + j : Nat) : Int) ∧ i = .int .i64 j ∧ Hid (Below w.heap.size w wr)) (fun _ i _ => n - (intOf i).toNat)
  case atStart => exact ⟨0, Nat.zero_le _, by simp, rfl, Below.refl _ _⟩
  case round =>
    obtain ⟨j, hj, rfl, rfl, HB⟩ := hrel
    by_cases hlt : j < n
    · have g1 := cell_later HB.out (HX.out j hlt)
      obtain ⟨kj, hkj⟩ : ∃ kj, k + j = kj := ⟨_, rfl⟩
      rw [hkj] at g1 ⊢
      go_wp2_with fail
      go_region_held3 (fun w' => w'.cell? ⟨b, off + j, none⟩ = some (.string (mtS kj))) (first | exact g1 | exact i1)
        (first | (go_at_call 48; refine (markText kj _ (by omega) (by omega)).mono ?_; rintro e w1 ⟨rfl, hb⟩; have i1 : w1.cell? ⟨b, off + j, none⟩ = some (.string (mtS kj)) := cell_later hb g1; have HB1 := hide (below_on (below_on HB.out (below_drewN _ 1)) hb); clear hb))
      go_wp2
      go_roundw
      case rel => exact ⟨j + 1, by omega, by go_num, by go_num, unhide HB1⟩
      case measure => simp [intOf]; omega
    · have : j = n := by omega
      subst this
      go_wp2
      go_ret
      exact ⟨rfl, HB.out⟩
theorem heldS_none (ao : Option Addr) (c k : Nat) (w : World) :
    Calls Tryd.prog 27 #[.slice ao 0 c, .int .i64 k] w fun e w' => e = .returned (.int .i64 k) ∧ Below w.heap.size w w' := by
  go_enter Tryd.func27, Tryd.ntmps27
  go_wp2
  go_loopw [1, 5] (fun t i wr => t = .int .i64 k ∧ i = .int .i64 0 ∧ wr = w) (fun _ _ _ => 0)
  case atStart => exact ⟨rfl, rfl, rfl⟩
  case round =>
    obtain ⟨rfl, rfl, rfl⟩ := hrel
    go_wp2
    go_ret
    exact ⟨rfl, Below.refl _ _⟩
/-- 'heldStringS' of a slice whose marks stand. -/
theorem heldS {S : Nat → Prop} {w : World} {v : Value} {n k : Nat} (hv : RdS S w v (mkS k n)) (hk0 : 1 ≤ k) (hk : k + n ≤ 9223372036854775806) :
    Calls Tryd.prog 27 #[v, .int .i64 k] w fun e w' => e = .returned (.int .i64 ((k + n : Nat) : Int)) ∧ Below w.heap.size w w' := by
  obtain ⟨ao, c, rfl, hm, h⟩ := hv
  rw [mkS_len] at hm h ⊢
  cases n with
  | zero => exact (heldS_none _ _ _ _).mono fun e w' ⟨he, hw⟩ => ⟨by simpa using he, hw⟩
  | succ n =>
    obtain ⟨b, off, rfl, _, hc⟩ := h (by simp [mkS, List.range_succ])
    exact heldS_cells _ b off _ k w hm hk0 hk (fun i hi => by rw [hc i hi, mkS_at _ _ _ hi])

/-- 'eqWordsResult' of two readings of one result. -/
theorem eqWordsResult {S T : Nat → Prop} {w : World} {x : Int} {u v : Value} {xs : List ByteArray} (hu : RdS S w u xs) (hv : RdS T w v xs) :
    Calls Tryd.prog 8 #[.agg #[.int .i64 x, u], .agg #[.int .i64 x, v]] w fun e w' => e = .returned (.bool true) ∧ Below w.heap.size w w' := by
  have HU := hide hu
  have HV := hide hv
  clear hu hv
  go_enter Tryd.func8, Tryd.ntmps8
  go_wp2_with fail
  refine (eqS ((HU.out.later (below_alloc _ _)).later (below_alloc _ _)) ((HV.out.later (below_alloc _ _)).later (below_alloc _ _))).mono ?_
  rintro e w' ⟨rfl, q, rfl⟩
  go_wp2
  go_ret
  exact ⟨rfl, below_on (below_on (below_alloc _ _) (below_alloc _ _)) (below_drewN _ _)⟩
/-- 'markWordsResult' of a list in [lo, hi). -/
theorem markWordsResult {lo hi : Nat} {w : World} {x : Int} {u : Value} {xs : List ByteArray} {k : Nat} (hu : IvS lo hi w u xs) (hk0 : 1 ≤ k) (hk : k + xs.length ≤ 9223372036854775806) :
    Calls Tryd.prog 9 #[.agg #[.int .i64 x, u], .int .i64 k] w fun e w' =>
      e = .returned (.int .i64 ((k + xs.length : Nat) : Int)) ∧ RdS (fun b => lo ≤ b ∧ b < hi) w' u (mkS k xs.length) ∧ Wr (fun b => lo ≤ b ∧ b < hi) w w' := by
  have HU := hide hu
  clear hu
  go_enter Tryd.func9, Tryd.ntmps9
  go_wp2_with fail
  refine (markS (HU.out.later (below_alloc _ _)) hk0 hk).mono ?_
  rintro e w' ⟨rfl, hr, hw⟩
  have HR := hide hr
  have HW := hide hw
  clear hr hw
  go_wp2
  go_ret
  exact ⟨rfl, HR.out, (Wr.of_below (below_alloc _ _) _).trans HW.out⟩
/-- 'heldWordsResult' of a list whose marks stand. -/
theorem heldWordsResult {S : Nat → Prop} {w : World} {x : Int} {u : Value} {n k : Nat} (hu : RdS S w u (mkS k n)) (hk0 : 1 ≤ k) (hk : k + n ≤ 9223372036854775806) :
    Calls Tryd.prog 10 #[.agg #[.int .i64 x, u], .int .i64 k] w fun e w' =>
      e = .returned (.int .i64 ((k + n : Nat) : Int)) ∧ Below w.heap.size w w' := by
  have HU := hide hu
  clear hu
  go_enter Tryd.func10, Tryd.ntmps10
  go_wp2_with fail
  refine (heldS (HU.out.later (below_alloc _ _)) hk0 hk).mono ?_
  rintro e w' ⟨rfl, hb⟩
  have HB := hide (below_on (below_alloc _ _) hb)
  clear hb
  have hn : ¬ ((k + n : Nat) : Int) < 0 := by omega
  obtain ⟨m, hm⟩ : ∃ m, k + n = m := ⟨_, rfl⟩
  rw [hm] at hn ⊢
  go_wp2
  go_ret
  exact ⟨by rw [hm]; rfl, HB.out⟩
end Go.Proofs.YtcbapclpopbjbaaDoor
