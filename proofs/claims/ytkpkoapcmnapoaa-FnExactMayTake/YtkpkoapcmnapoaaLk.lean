/- Chapter 6: lists of owners: readings of them, and the laws' helpers over them. -/
import Derived.Test.YtkpkoapcmnapoaaIv
namespace Go.Proofs.Ytkpkoapcmnapoaa
open Go.RowKit

/-- An owner: the lock's place, and who has it. -/
abbrev Wn := Int × Int
def wn0 : Wn := (0, 0)

/-- The slice value v reads as the owners os (two cells each), all of them in a block of S. -/
def RdO (S : Nat → Prop) (w : World) (v : Value) (os : List Wn) : Prop :=
  ∃ (ao : Option Addr) (c : Nat), v = .slice ao os.length (os.length + c) ∧ os.length ≤ 9223372036854775807 ∧
    (os ≠ [] → ∃ b off, ao = some ⟨b, off, none⟩ ∧ S b ∧ ∀ i, i < os.length → w.cell? ⟨b, off + i * 2, none⟩ = some (.int .i64 (os.getD i wn0).1) ∧ w.cell? ⟨b, off + i * 2 + 1, none⟩ = some (.int .i64 (os.getD i wn0).2))
theorem RdO.shape {S : Nat → Prop} {w : World} {v : Value} {os : List Wn} (h : RdO S w v os) : ∃ ao c, v = .slice ao os.length c := by
  obtain ⟨ao, c, h1, _⟩ := h
  exact ⟨ao, _, h1⟩
theorem RdO.max {S : Nat → Prop} {w : World} {v : Value} {os : List Wn} (h : RdO S w v os) : os.length ≤ 9223372036854775807 := by
  obtain ⟨ao, c, _, h2, _⟩ := h
  exact h2
theorem RdO.later {S : Nat → Prop} {w w' : World} {v : Value} {os : List Wn} (h : RdO S w v os) (hb : Below w.heap.size w w') : RdO S w' v os := by
  obtain ⟨ao, c, h1, h2, h3⟩ := h
  refine ⟨ao, c, h1, h2, fun hne => ?_⟩
  obtain ⟨b, off, e, hs, hc⟩ := h3 hne
  exact ⟨b, off, e, hs, fun i hi => ⟨cell_later hb (hc i hi).1, cell_later hb (hc i hi).2⟩⟩
theorem RdO.wr {S T : Nat → Prop} {w w' : World} {v : Value} {os : List Wn} (h : RdO S w v os) (hw : Wr T w w') (hd : os ≠ [] → ∀ b, S b → ¬ T b) : RdO S w' v os := by
  obtain ⟨ao, c, h1, h2, h3⟩ := h
  refine ⟨ao, c, h1, h2, fun hne => ?_⟩
  obtain ⟨b, off, e, hs, hc⟩ := h3 hne
  exact ⟨b, off, e, hs, fun i hi => ⟨cell_wr hw (hc i hi).1 (hd hne b hs), cell_wr hw (hc i hi).2 (hd hne b hs)⟩⟩
theorem RdO.narrow {S T : Nat → Prop} {w : World} {v : Value} {os : List Wn} (h : RdO S w v os) (hT : os ≠ [] → ∀ b, S b → T b) : RdO T w v os := by
  obtain ⟨ao, c, h1, h2, h3⟩ := h
  refine ⟨ao, c, h1, h2, fun hne => ?_⟩
  obtain ⟨b, off, e, hb, hc⟩ := h3 hne
  exact ⟨b, off, e, hT hne b hb, hc⟩
theorem RdO.drewN {S : Nat → Prop} {w : World} {v : Value} {os : List Wn} (h : RdO S w v os) (n : Nat) : RdO S (w.drewN n) v os := h
/-- The cells of the k-th owner. -/
theorem RdO.at {S : Nat → Prop} {w : World} {ao : Option Addr} {n c : Nat} {os : List Wn} (h : RdO S w (.slice ao n c) os) {k : Nat} (hk : k < os.length) :
    ∃ b off, ao = some ⟨b, off, none⟩ ∧ w.cell? ⟨b, off + k * 2, none⟩ = some (.int .i64 (os.getD k wn0).1) ∧ w.cell? ⟨b, off + k * 2 + 1, none⟩ = some (.int .i64 (os.getD k wn0).2) := by
  obtain ⟨ao', c', h1, _, h3⟩ := h
  injection h1 with e1 e2 e3
  subst e1
  obtain ⟨b, off, e, _, hc⟩ := h3 (by rintro rfl; exact absurd hk (Nat.not_lt_zero _))
  exact ⟨b, off, e, (hc k hk).1, (hc k hk).2⟩

/-- .. in one block that is the call's own, from B on. -/
def OwO (B : Nat) (w : World) (v : Value) (os : List Wn) : Prop :=
  ∃ b, RdO (· = b) w v os ∧ (os ≠ [] → B ≤ b ∧ b < w.heap.size ∧ ∀ o, w.frozen? ⟨b, o, none⟩ = false)
theorem OwO.rd {B : Nat} {w : World} {v : Value} {os : List Wn} (h : OwO B w v os) : RdO (fun b => B ≤ b ∧ b < w.heap.size) w v os := by
  obtain ⟨b, h1, h2⟩ := h
  exact h1.narrow fun hne x hx => hx ▸ ⟨(h2 hne).1, (h2 hne).2.1⟩
theorem OwO.shape {B : Nat} {w : World} {v : Value} {os : List Wn} (h : OwO B w v os) : ∃ ao c, v = .slice ao os.length c := by
  obtain ⟨b, h1, h2⟩ := h
  exact h1.shape
theorem OwO.mono {B B' : Nat} {w : World} {v : Value} {os : List Wn} (h : OwO B w v os) (hB : B' ≤ B) : OwO B' w v os := by
  obtain ⟨b, h1, h2⟩ := h
  exact ⟨b, h1, fun hne => ⟨Nat.le_trans hB (h2 hne).1, (h2 hne).2⟩⟩
theorem OwO.wr {B : Nat} {T : Nat → Prop} {w w' : World} {v : Value} {os : List Wn} (h : OwO B w v os) (hw : Wr T w w') (hd : ∀ b, B ≤ b → b < w.heap.size → ¬ T b) : OwO B w' v os := by
  obtain ⟨b, h1, h2⟩ := h
  refine ⟨b, h1.wr hw (fun hne x hx => by subst hx; exact hd _ (h2 hne).1 (h2 hne).2.1), fun hne => ?_⟩
  obtain ⟨k1, k2, k3⟩ := h2 hne
  exact ⟨k1, Nat.lt_of_lt_of_le k2 hw.size, fun o => by rw [hw.frz _ _ k2]; exact k3 o⟩
theorem OwO.later {B : Nat} {w w' : World} {v : Value} {os : List Wn} (h : OwO B w v os) (hb : Below w.heap.size w w') : OwO B w' v os :=
  h.wr (Wr.of_below hb fun _ => False) fun _ _ _ => id
theorem OwO_nil (B : Nat) (w : World) : OwO B w (.slice none 0 0) [] := ⟨0, ⟨none, 0, by simp, by simp, fun h => absurd rfl h⟩, fun h => absurd rfl h⟩

/-- Owners in one block of [lo, hi), not frozen. -/
def IvO (lo hi : Nat) (w : World) (v : Value) (os : List Wn) : Prop :=
  ∃ b, RdO (· = b) w v os ∧ (os ≠ [] → lo ≤ b ∧ b < hi ∧ b < w.heap.size ∧ ∀ o, w.frozen? ⟨b, o, none⟩ = false)
theorem OwO.iv {B : Nat} {w : World} {v : Value} {os : List Wn} (h : OwO B w v os) : IvO B w.heap.size w v os := by
  obtain ⟨b, h1, h2⟩ := h
  exact ⟨b, h1, fun hne => ⟨(h2 hne).1, (h2 hne).2.1, (h2 hne).2.1, (h2 hne).2.2⟩⟩
theorem IvO.wr {lo hi : Nat} {T : Nat → Prop} {w w' : World} {v : Value} {os : List Wn} (h : IvO lo hi w v os) (hw : Wr T w w') (hd : ∀ b, lo ≤ b → b < hi → ¬ T b) : IvO lo hi w' v os := by
  obtain ⟨b, h1, h2⟩ := h
  refine ⟨b, h1.wr hw (fun hne x hx => by subst hx; exact hd _ (h2 hne).1 (h2 hne).2.1), fun hne => ?_⟩
  obtain ⟨k1, k2, k3, k4⟩ := h2 hne
  exact ⟨k1, k2, Nat.lt_of_lt_of_le k3 hw.size, fun o => by rw [hw.frz _ _ k3]; exact k4 o⟩
theorem IvO.later {lo hi : Nat} {w w' : World} {v : Value} {os : List Wn} (h : IvO lo hi w v os) (hb : Below w.heap.size w w') : IvO lo hi w' v os :=
  h.wr (Wr.of_below hb fun _ => False) fun _ _ _ => id
theorem IvO.rd {lo hi : Nat} {w : World} {v : Value} {os : List Wn} (h : IvO lo hi w v os) : RdO (fun b => lo ≤ b ∧ b < hi) w v os := by
  obtain ⟨b, h1, h2⟩ := h
  exact h1.narrow fun hne x hx => hx ▸ ⟨(h2 hne).1, (h2 hne).2.1⟩

/-- What marking lays into n owners. -/
def mkO (k : Int) (n : Nat) : List Wn := (List.range n).map fun (i : Nat) => (k + 2 * (i : Int), k + 2 * (i : Int) + 1)
theorem mkO_len (k : Int) (n : Nat) : (mkO k n).length = n := by simp [mkO]
theorem mkO_at (k : Int) (n i : Nat) (h : i < n) : (mkO k n).getD i wn0 = (k + 2 * (i : Int), k + 2 * (i : Int) + 1) := by simp [mkO, List.getD, h]
theorem mkO_ne {k : Int} {n : Nat} : mkO k n ≠ [] ↔ n ≠ 0 := by
  rw [← List.length_pos_iff, mkO_len]; omega

/-- 'szOwnerS'. -/
theorem szO {S : Nat → Prop} {w : World} {v : Value} {os : List Wn} {left : Int} (hv : RdO S w v os) (h0 : 0 ≤ left) (h1 : left ≤ 1048576) :
    Calls Try.prog 9 #[v, .int .i64 left] w fun e w' => e = .returned (.int .i64 (szv left (os.length : Int))) ∧ Below w.heap.size w w' := by
  obtain ⟨ao, c, rfl, hm, _⟩ := hv
  obtain ⟨n, hn⟩ : ∃ n, os.length = n := ⟨_, rfl⟩
  rw [hn] at hm ⊢
  clear hn
  by_cases h : (n : Int) ≤ left
  · have HZ := hide (szv_yes h)
    go_enter Try.func9, Try.ntmps9
    go_wp2
    go_ret
    exact ⟨ret_int HZ.out.symm, Below.refl _ _⟩
  · have HZ := hide (szv_no (left := left) (s := (n : Int)) (by omega))
    go_enter Try.func9, Try.ntmps9
    go_wp2
    go_ret
    exact ⟨ret_int HZ.out.symm, Below.refl _ _⟩

/-- 'eqOwner' of two readings of one owner. -/
theorem eqOwner (x y : Int) (w : World) :
    Calls Try.prog 36 #[.agg #[.int .i64 x, .int .i64 y], .agg #[.int .i64 x, .int .i64 y]] w fun e w' => e = .returned (.bool true) ∧ Below w.heap.size w w' := by
  go_enter Try.func36, Try.ntmps36
  go_wp2
  go_ret
  exact ⟨rfl, below_on (below_alloc _ _) (below_alloc _ _)⟩

theorem eqO_cells (X Y : Nat → Int) (n b off c b' off' c' : Nat) (w : World) (hm : n ≤ 9223372036854775807)
    (hx : ∀ i, i < n → w.cell? ⟨b, off + i * 2, none⟩ = some (.int .i64 (X i)) ∧ w.cell? ⟨b, off + i * 2 + 1, none⟩ = some (.int .i64 (Y i)))
    (hy : ∀ i, i < n → w.cell? ⟨b', off' + i * 2, none⟩ = some (.int .i64 (X i)) ∧ w.cell? ⟨b', off' + i * 2 + 1, none⟩ = some (.int .i64 (Y i))) :
    Calls Try.prog 13 #[.slice (some ⟨b, off, none⟩) n c, .slice (some ⟨b', off', none⟩) n c'] w fun e w' =>
      e = .returned (.bool true) ∧ Below w.heap.size w w' := by
  have HX := hide hx
  have HY := hide hy
  clear hx hy
  go_enter Try.func13, Try.ntmps13
  go_wp2
  go_loopw [5] (fun i wr => ∃ k : Nat, k ≤ n ∧ i = .int .i64 k ∧ Hid (Below w.heap.size w wr)) (fun i _ => n - (intOf i).toNat)
  case atStart => exact ⟨0, Nat.zero_le _, rfl, Below.refl _ _⟩
  case round =>
    obtain ⟨k, hk, rfl, HB⟩ := hrel
    by_cases hlt : k < n
    · have g0 := cell_later HB.out (HX.out k hlt).1
      have g1 := cell_later HB.out (HX.out k hlt).2
      have g2 := cell_later HB.out (HY.out k hlt).1
      have g3 := cell_later HB.out (HY.out k hlt).2
      have hk0 : (0 : Int) ≤ (k : Int) := Int.natCast_nonneg _
      have hk1 : (k : Int) < (n : Int) := by omega
      go_wp2_with fail
      go_region_held3 (fun w' => w'.cell? ⟨b, off + k * 2, none⟩ = some (.int .i64 (X k)) ∧ w'.cell? ⟨b, off + k * 2 + 1, none⟩ = some (.int .i64 (Y k)) ∧ w'.cell? ⟨b', off' + k * 2, none⟩ = some (.int .i64 (X k)) ∧ w'.cell? ⟨b', off' + k * 2 + 1, none⟩ = some (.int .i64 (Y k))) (first | exact ⟨g0, g1, g2, g3⟩ | exact ⟨c0, c1, c2, c3⟩)
        (first
          | (go_at_call 36; refine (eqOwner (X k) (Y k) _).mono ?_; rintro e w' ⟨rfl, hb⟩; have c0 := cell_later hb g0; have c1 := cell_later hb g1; have c2 := cell_later hb g2; have c3 := cell_later hb g3; have HB' := hide hb; clear hb))
      go_wp2
      go_roundw
      case rel => exact ⟨k + 1, by omega, by go_num, below_on HB.out (below_on (below_drewN wr 1) HB'.out)⟩
      case measure => simp [intOf]; omega
    · go_wp2
      go_ret
      exact ⟨rfl, HB.out⟩
theorem eqO_none (ao ao' : Option Addr) (c c' : Nat) (w : World) :
    Calls Try.prog 13 #[.slice ao 0 c, .slice ao' 0 c'] w fun e w' => e = .returned (.bool true) ∧ Below w.heap.size w w' := by
  go_enter Try.func13, Try.ntmps13
  go_wp2
  go_loopw [5] (fun i wr => i = .int .i64 0 ∧ wr = w) (fun _ _ => 0)
  case atStart => exact ⟨rfl, rfl⟩
  case round =>
    obtain ⟨rfl, rfl⟩ := hrel
    go_wp2
    go_ret
    exact ⟨rfl, Below.refl _ _⟩
theorem eqO {S T : Nat → Prop} {w : World} {u v : Value} {os : List Wn} (hu : RdO S w u os) (hv : RdO T w v os) :
    Calls Try.prog 13 #[u, v] w fun e w' => e = .returned (.bool true) ∧ Below w.heap.size w w' := by
  obtain ⟨ao, c, rfl, hm, h⟩ := hu
  obtain ⟨ao', c', rfl, _, h'⟩ := hv
  by_cases hne : os = []
  · subst hne; exact eqO_none _ _ _ _ _
  · obtain ⟨b, off, rfl, _, hc⟩ := h hne
    obtain ⟨b', off', rfl, _, hc'⟩ := h' hne
    exact eqO_cells (fun i => (os.getD i wn0).1) (fun i => (os.getD i wn0).2) _ _ _ _ _ _ _ _ hm hc hc'

/-- What marking has done behind j owners. -/
structure MarkAtO (b off n : Nat) (k : Int) (w : World) (j : Nat) (wr : World) : Prop where
  done : ∀ i, i < j → wr.cell? ⟨b, off + i * 2, none⟩ = some (.int .i64 (k + 2 * (i : Int))) ∧ wr.cell? ⟨b, off + i * 2 + 1, none⟩ = some (.int .i64 (k + 2 * (i : Int) + 1))
  there : ∀ i, i < n → (∃ x, wr.cell? ⟨b, off + i * 2, none⟩ = some x) ∧ ∃ x, wr.cell? ⟨b, off + i * 2 + 1, none⟩ = some x
  free : ∀ o, wr.frozen? ⟨b, o, none⟩ = false
  wr : Wr (· = b) w wr
theorem MarkAtO.step {b off n : Nat} {k : Int} {w wr : World} {j : Nat} (h : MarkAtO b off n k w j wr) (hj : j < n) :
    MarkAtO b off n k w (j + 1) ((wr.setCell ⟨b, off + j * 2, none⟩ (.int .i64 (k + 2 * (j : Int)))).setCell ⟨b, off + j * 2 + 1, none⟩ (.int .i64 (k + 2 * (j : Int) + 1))) := by
  obtain ⟨⟨x, hx⟩, y, hy⟩ := h.there j hj
  have hw := (((Wr.refl (· = b) wr).setCell (p := ⟨b, off + j * 2, none⟩) rfl (.int .i64 (k + 2 * (j : Int)))).setCell (p := ⟨b, off + j * 2 + 1, none⟩) rfl (.int .i64 (k + 2 * (j : Int) + 1)))
  have s1 : ((wr.setCell ⟨b, off + j * 2, none⟩ (.int .i64 (k + 2 * (j : Int)))).setCell ⟨b, off + j * 2 + 1, none⟩ (.int .i64 (k + 2 * (j : Int) + 1))).cell? ⟨b, off + j * 2, none⟩ = some (.int .i64 (k + 2 * (j : Int))) := by
    rw [World.cell?_setCell_other _ _ _ _ (by simp)]
    exact World.cell?_setCell_same _ _ _ hx
  have s2 : ((wr.setCell ⟨b, off + j * 2, none⟩ (.int .i64 (k + 2 * (j : Int)))).setCell ⟨b, off + j * 2 + 1, none⟩ (.int .i64 (k + 2 * (j : Int) + 1))).cell? ⟨b, off + j * 2 + 1, none⟩ = some (.int .i64 (k + 2 * (j : Int) + 1)) :=
    World.cell?_setCell_same _ _ _ ((World.cell?_setCell_other _ _ _ _ (by simp)).trans hy)
  have s3 : ∀ o, o ≠ off + j * 2 → o ≠ off + j * 2 + 1 → ((wr.setCell ⟨b, off + j * 2, none⟩ (.int .i64 (k + 2 * (j : Int)))).setCell ⟨b, off + j * 2 + 1, none⟩ (.int .i64 (k + 2 * (j : Int) + 1))).cell? ⟨b, o, none⟩ = wr.cell? ⟨b, o, none⟩ := by
    intro o h1 h2
    rw [World.cell?_setCell_other _ _ _ _ (by intro e; exact h2 (congrArg Addr.off e).symm), World.cell?_setCell_other _ _ _ _ (by intro e; exact h1 (congrArg Addr.off e).symm)]
  refine ⟨fun i hi => ?_, fun i hi => ?_, fun o => by rw [World.frozen?_setCell, World.frozen?_setCell]; exact h.free o, h.wr.trans hw⟩
  · by_cases e : i = j
    · subst e; exact ⟨s1, s2⟩
    · rw [s3 _ (by omega) (by omega), s3 _ (by omega) (by omega)]
      exact h.done i (by omega)
  · by_cases e : i = j
    · subst e; exact ⟨⟨_, s1⟩, _, s2⟩
    · rw [s3 _ (by omega) (by omega), s3 _ (by omega) (by omega)]
      exact h.there i hi

set_option maxHeartbeats 1000000 in
set_option maxRecDepth 4000 in
theorem markO_cells (n b off c : Nat) (k : Int) (w : World) (hm : n ≤ 9223372036854775807) (hk0 : 0 ≤ k) (hk : k + 2 * (n : Int) ≤ 9223372036854775807)
    (h0 : MarkAtO b off n k w 0 w) :
    Calls Try.prog 17 #[.slice (some ⟨b, off, none⟩) n c, .int .i64 k] w fun e w' =>
      e = .returned (.int .i64 (k + 2 * (n : Int))) ∧ MarkAtO b off n k w n w' := by
  have H0 := hide h0
  clear h0
  go_enter Try.func17, Try.ntmps17
  go_wp2
  go_loopw [1, 5] (fun t i wr => ∃ j : Nat, j ≤ n ∧ t = .int .i64 (k + 2 * (j : Int)) ∧ i = .int .i64 j ∧ Hid (MarkAtO b off n k w j wr)) (fun _ i _ => n - (intOf i).toNat)
  case atStart => exact ⟨0, Nat.zero_le _, by simp, rfl, H0⟩
  case round =>
    obtain ⟨j, hj, rfl, rfl, HM⟩ := hrel
    by_cases hlt : j < n
    · obtain ⟨⟨x, g1⟩, y, g2⟩ := HM.out.there j hlt
      have g3 := HM.out.free (off + j * 2)
      have g4 := HM.out.free (off + j * 2 + 1)
      have HN := hide (HM.out.step hlt)
      have hkt : 0 ≤ k + 2 * (j : Int) := by omega
      have hb : k + 2 * (j : Int) + 1 + 1 ≤ 9223372036854775807 := by omega
      go_wp2
      go_roundw
      case rel => exact ⟨j + 1, by omega, by go_num, by go_num, unhide HN⟩
      case measure => simp [intOf]; omega
    · have : j = n := by omega
      subst this
      go_wp2
      go_ret
      exact ⟨rfl, HM.out⟩
theorem markO_none (ao : Option Addr) (c : Nat) (k : Int) (w : World) :
    Calls Try.prog 17 #[.slice ao 0 c, .int .i64 k] w fun e w' => e = .returned (.int .i64 k) ∧ w' = w := by
  go_enter Try.func17, Try.ntmps17
  go_wp2
  go_loopw [1, 5] (fun t i wr => t = .int .i64 k ∧ i = .int .i64 0 ∧ wr = w) (fun _ _ _ => 0)
  case atStart => exact ⟨rfl, rfl, rfl⟩
  case round =>
    obtain ⟨rfl, rfl, rfl⟩ := hrel
    go_wp2
    go_ret
    exact ⟨rfl, rfl⟩

/-- Owners in [lo, hi) whose marks stand from k on. -/
def MkO (k : Int) (lo hi : Nat) (w : World) (v : Value) (n : Nat) : Prop := RdO (fun b => lo ≤ b ∧ b < hi) w v (mkO k n)
theorem MkO.wr {k : Int} {lo hi : Nat} {V : Nat → Prop} {w w' : World} {v : Value} {n : Nat} (h : MkO k lo hi w v n) (hw : Wr V w w') (hd : ∀ b, lo ≤ b → b < hi → ¬ V b) : MkO k lo hi w' v n :=
  RdO.wr h hw fun _ b hb => hd b hb.1 hb.2
theorem MkO.later {k : Int} {lo hi : Nat} {w w' : World} {v : Value} {n : Nat} (h : MkO k lo hi w v n) (hb : Below w.heap.size w w') : MkO k lo hi w' v n := RdO.later h hb

/-- 'markOwnerS' of owners in [lo, hi). -/
theorem markO {lo hi : Nat} {w : World} {v : Value} {os : List Wn} {k : Int} (hv : IvO lo hi w v os) (hk0 : 0 ≤ k) (hk : k + 2 * (os.length : Int) ≤ 9223372036854775807) :
    Calls Try.prog 17 #[v, .int .i64 k] w fun e w' =>
      e = .returned (.int .i64 (k + 2 * (os.length : Int))) ∧ MkO k lo hi w' v os.length ∧ Wr (fun b => lo ≤ b ∧ b < hi) w w' := by
  obtain ⟨b0, ⟨ao, c, rfl, hm, h⟩, h2⟩ := hv
  by_cases hne : os = []
  · subst hne
    exact (markO_none _ _ _ _).mono fun e w' ⟨he, hw⟩ => ⟨by simpa using he, ⟨ao, c, by simp [mkO], by simp [mkO], fun h => absurd rfl h⟩, by subst hw; exact Wr.refl _ _⟩
  · obtain ⟨b, off, rfl, rfl, hc⟩ := h hne
    obtain ⟨q1, q2, q3, q4⟩ := h2 hne
    refine (markO_cells _ b off _ k w hm hk0 hk ⟨fun i hi => absurd hi (Nat.not_lt_zero _), fun i hi => ⟨⟨_, (hc i hi).1⟩, _, (hc i hi).2⟩, q4, Wr.refl _ _⟩).mono fun e w' ⟨he, hM⟩ => ⟨he, ?_, hM.wr.mono fun x hx => by subst hx; exact ⟨q1, q2⟩⟩
    refine ⟨_, c, by rw [mkO_len], by rw [mkO_len]; exact hm, fun _ => ⟨b, off, rfl, ⟨q1, q2⟩, fun i hi => ?_⟩⟩
    rw [mkO_len] at hi
    rw [mkO_at _ _ _ hi]
    exact hM.done i hi
theorem markOIv {lo hi : Nat} {w : World} {v : Value} {os : List Wn} {k : Int} (hv : IvO lo hi w v os) (hk0 : 0 ≤ k) (hk : k + 2 * (os.length : Int) ≤ 9223372036854775807) :
    Calls Try.prog 17 #[v, .int .i64 k] w fun e w' => e = .returned (.int .i64 (k + 2 * (os.length : Int))) ∧ Wr (fun b => lo ≤ b ∧ b < hi) w w' :=
  (markO hv hk0 hk).mono fun _ _ ⟨h1, _, h3⟩ => ⟨h1, h3⟩

theorem heldO_cells (n b off c : Nat) (k : Int) (w : World) (hm : n ≤ 9223372036854775807) (hk0 : 0 ≤ k) (hk : k + 2 * (n : Int) ≤ 9223372036854775807)
    (hx : ∀ i, i < n → w.cell? ⟨b, off + i * 2, none⟩ = some (.int .i64 (k + 2 * (i : Int))) ∧ w.cell? ⟨b, off + i * 2 + 1, none⟩ = some (.int .i64 (k + 2 * (i : Int) + 1))) :
    Calls Try.prog 45 #[.slice (some ⟨b, off, none⟩) n c, .int .i64 k] w fun e w' =>
      e = .returned (.int .i64 (k + 2 * (n : Int))) ∧ ∃ q, w' = w.drewN q := by
  have HX := hide hx
  clear hx
  go_enter Try.func45, Try.ntmps45
  go_wp2
  go_loopw [1, 5] (fun t i wr => ∃ j q : Nat, j ≤ n ∧ t = .int .i64 (k + 2 * (j : Int)) ∧ i = .int .i64 j ∧ wr = w.drewN q) (fun _ i _ => n - (intOf i).toNat)
  case atStart => exact ⟨0, 0, Nat.zero_le _, by simp, rfl, rfl⟩
  case round =>
    obtain ⟨j, q, hj, rfl, rfl, rfl⟩ := hrel
    by_cases hlt : j < n
    · obtain ⟨g1, g2⟩ := HX.out j hlt
      have hkt : 0 ≤ k + 2 * (j : Int) := by omega
      have hb : k + 2 * (j : Int) + 1 + 1 ≤ 9223372036854775807 := by omega
      go_wp2
      go_roundw
      case rel => exact ⟨j + 1, _, by omega, by go_num, by go_num, rfl⟩
      case measure => simp [intOf]; omega
    · have : j = n := by omega
      subst this
      go_wp2
      go_ret
      exact ⟨rfl, _, rfl⟩
theorem heldO_none (ao : Option Addr) (c : Nat) (k : Int) (w : World) :
    Calls Try.prog 45 #[.slice ao 0 c, .int .i64 k] w fun e w' => e = .returned (.int .i64 k) ∧ ∃ q, w' = w.drewN q := by
  go_enter Try.func45, Try.ntmps45
  go_wp2
  go_loopw [1, 5] (fun t i wr => t = .int .i64 k ∧ i = .int .i64 0 ∧ wr = w) (fun _ _ _ => 0)
  case atStart => exact ⟨rfl, rfl, rfl⟩
  case round =>
    obtain ⟨rfl, rfl, rfl⟩ := hrel
    go_wp2
    go_ret
    exact ⟨rfl, 0, rfl⟩
theorem heldO {S : Nat → Prop} {w : World} {v : Value} {n : Nat} {k : Int} (hv : RdO S w v (mkO k n)) (hk0 : 0 ≤ k) (hk : k + 2 * (n : Int) ≤ 9223372036854775807) :
    Calls Try.prog 45 #[v, .int .i64 k] w fun e w' => e = .returned (.int .i64 (k + 2 * (n : Int))) ∧ ∃ q, w' = w.drewN q := by
  obtain ⟨ao, c, rfl, hm, h⟩ := hv
  rw [mkO_len] at hm h ⊢
  cases n with
  | zero => exact (heldO_none _ _ _ _).mono fun e w' ⟨he, hw⟩ => ⟨by simpa using he, hw⟩
  | succ n =>
    obtain ⟨b, off, rfl, _, hc⟩ := h (mkO_ne.2 (by omega))
    exact heldO_cells _ b off _ k w hm hk0 hk (fun i hi => by have := hc i hi; rw [mkO_at _ _ _ hi] at this; exact this)

/-- 'toOwner'. -/
theorem toOwner (x y : Int) (w : World) :
    Calls Try.prog 33 #[.agg #[.int .i64 x, .int .i64 y]] w fun e w' => e = .returned (.agg #[.int .i64 x, .int .i64 y]) ∧ Below w.heap.size w w' := by
  go_enter Try.func33, Try.ntmps33
  go_wp2
  refine bodyPost_ret (v := .agg #[.int .i64 x, .int .i64 y]) (by simp [results, Try.results33, go_sem]) rfl ⟨rfl, ?_⟩
  exact below_on (below_on (below_alloc _ _) (below_alloc _ _)) (below_alloc _ _)

theorem Try.infoOwner : (Try.prog.info? 50).map (fun i => (i.zero, i.size, i.bytes)) = some (some (.agg #[.int .i64 0, .int .i64 0]), 2, 16) := by kernel_rfl
theorem run_make_own (n : Nat) (hn : n ≤ 1048576) (w : World) :
    (Instr.makeSlice 25 (.int .i64 (n : Int)) (.int .i64 (n : Int))).run Try.prog w = .ok (.slice (some ⟨w.heap.size, 0, none⟩) n n) (w.alloc (.cells (madeCells #[.int .i64 0, .int .i64 0] (n * 2)) 50)) := by
  obtain ⟨i, hi, hz, hs, hb⟩ := info_parts Try.infoOwner
  have hr := run_make (P := Try.prog) w 25 50 i (.agg #[.int .i64 0, .int .i64 0]) Try.underlying25 hi hz .i64 .i64 n n (by omega) (Int.le_refl _) (by rw [hb]; omega) (by omega)
  simp only [Int.toNat_natCast, hs] at hr
  exact hr
end Go.Proofs.Ytkpkoapcmnapoaa
