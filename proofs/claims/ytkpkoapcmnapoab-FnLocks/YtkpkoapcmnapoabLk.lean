/- Chapter 6: lists of owners: readings of them, and the laws' helpers over them. -/
import Derived.Test.YtkpkoapcmnapoabIv
namespace Go.Proofs.Ytkpkoapcmnapoab
open Go.RowKit

/-- An owner: the lock's place, and who has it. -/
abbrev Wn := Int × Int
def wn0 : Wn := (0, 0)

/-- The slice value v reads as the owners os (two cells each), all of them in a block of S. -/
def RdO (S : Nat → Prop) (w : World) (v : Value) (os : List Wn) : Prop :=
  ∃ (ao : Option Addr) (c : Nat), v = .slice ao os.length (os.length + c) ∧ os.length ≤ 9223372036854775807 ∧
    (os ≠ [] → ∃ b off, ao = some ⟨b, off, none⟩ ∧ S b ∧ ∀ i, i < os.length → w.cell? ⟨b, off + i * 2, none⟩ = some (.int .i64 (os.getD i wn0).1) ∧ w.cell? ⟨b, off + i * 2 + 1, none⟩ = some (.int .i64 (os.getD i wn0).2))
theorem RdO.shape {S : Nat → Prop} {w : World} {v : Value} {os : List Wn} (h : RdO S w v os) : ∃ ao c, v = .slice ao os.length c := by
  obtain ⟨ao, c, h1, _⟩ := h
  exact ⟨ao, _, h1⟩
theorem RdO.max {S : Nat → Prop} {w : World} {v : Value} {os : List Wn} (h : RdO S w v os) : os.length ≤ 9223372036854775807 := by
  obtain ⟨ao, c, _, h2, _⟩ := h
  exact h2
theorem RdO.later {S : Nat → Prop} {w w' : World} {v : Value} {os : List Wn} (h : RdO S w v os) (hb : Below w.heap.size w w') : RdO S w' v os := by
  obtain ⟨ao, c, h1, h2, h3⟩ := h
  refine ⟨ao, c, h1, h2, fun hne => ?_⟩
  obtain ⟨b, off, e, hs, hc⟩ := h3 hne
  exact ⟨b, off, e, hs, fun i hi => ⟨cell_later hb (hc i hi).1, cell_later hb (hc i hi).2⟩⟩
theorem RdO.wr {S T : Nat → Prop} {w w' : World} {v : Value} {os : List Wn} (h : RdO S w v os) (hw : Wr T w w') (hd : os ≠ [] → ∀ b, S b → ¬ T b) : RdO S w' v os := by
  obtain ⟨ao, c, h1, h2, h3⟩ := h
  refine ⟨ao, c, h1, h2, fun hne => ?_⟩
  obtain ⟨b, off, e, hs, hc⟩ := h3 hne
  exact ⟨b, off, e, hs, fun i hi => ⟨cell_wr hw (hc i hi).1 (hd hne b hs), cell_wr hw (hc i hi).2 (hd hne b hs)⟩⟩
theorem RdO.narrow {S T : Nat → Prop} {w : World} {v : Value} {os : List Wn} (h : RdO S w v os) (hT : os ≠ [] → ∀ b, S b → T b) : RdO T w v os := by
  obtain ⟨ao, c, h1, h2, h3⟩ := h
  refine ⟨ao, c, h1, h2, fun hne => ?_⟩
  obtain ⟨b, off, e, hb, hc⟩ := h3 hne
  exact ⟨b, off, e, hT hne b hb, hc⟩
theorem RdO.drewN {S : Nat → Prop} {w : World} {v : Value} {os : List Wn} (h : RdO S w v os) (n : Nat) : RdO S (w.drewN n) v os := h
/-- The cells of the k-th owner. -/
theorem RdO.at {S : Nat → Prop} {w : World} {ao : Option Addr} {n c : Nat} {os : List Wn} (h : RdO S w (.slice ao n c) os) {k : Nat} (hk : k < os.length) :
    ∃ b off, ao = some ⟨b, off, none⟩ ∧ w.cell? ⟨b, off + k * 2, none⟩ = some (.int .i64 (os.getD k wn0).1) ∧ w.cell? ⟨b, off + k * 2 + 1, none⟩ = some (.int .i64 (os.getD k wn0).2) := by
  obtain ⟨ao', c', h1, _, h3⟩ := h
  injection h1 with e1 e2 e3
  subst e1
  obtain ⟨b, off, e, _, hc⟩ := h3 (by rintro rfl; exact absurd hk (Nat.not_lt_zero _))
  exact ⟨b, off, e, (hc k hk).1, (hc k hk).2⟩

/-- .. in one block that is the call's own, from B on. -/
def OwO (B : Nat) (w : World) (v : Value) (os : List Wn) : Prop :=
  ∃ b, RdO (· = b) w v os ∧ (os ≠ [] → B ≤ b ∧ b < w.heap.size ∧ ∀ o, w.frozen? ⟨b, o, none⟩ = false)
theorem OwO.rd {B : Nat} {w : World} {v : Value} {os : List Wn} (h : OwO B w v os) : RdO (fun b => B ≤ b ∧ b < w.heap.size) w v os := by
  obtain ⟨b, h1, h2⟩ := h
  exact h1.narrow fun hne x hx => hx ▸ ⟨(h2 hne).1, (h2 hne).2.1⟩
theorem OwO.shape {B : Nat} {w : World} {v : Value} {os : List Wn} (h : OwO B w v os) : ∃ ao c, v = .slice ao os.length c := by
  obtain ⟨b, h1, h2⟩ := h
  exact h1.shape
theorem OwO.mono {B B' : Nat} {w : World} {v : Value} {os : List Wn} (h : OwO B w v os) (hB : B' ≤ B) : OwO B' w v os := by
  obtain ⟨b, h1, h2⟩ := h
  exact ⟨b, h1, fun hne => ⟨Nat.le_trans hB (h2 hne).1, (h2 hne).2⟩⟩
theorem OwO.wr {B : Nat} {T : Nat → Prop} {w w' : World} {v : Value} {os : List Wn} (h : OwO B w v os) (hw : Wr T w w') (hd : ∀ b, B ≤ b → b < w.heap.size → ¬ T b) : OwO B w' v os := by
  obtain ⟨b, h1, h2⟩ := h
  refine ⟨b, h1.wr hw (fun hne x hx => by subst hx; exact hd _ (h2 hne).1 (h2 hne).2.1), fun hne => ?_⟩
  obtain ⟨k1, k2, k3⟩ := h2 hne
  exact ⟨k1, Nat.lt_of_lt_of_le k2 hw.size, fun o => by rw [hw.frz _ _ k2]; exact k3 o⟩
theorem OwO.later {B : Nat} {w w' : World} {v : Value} {os : List Wn} (h : OwO B w v os) (hb : Below w.heap.size w w') : OwO B w' v os :=
  h.wr (Wr.of_below hb fun _ => False) fun _ _ _ => id
theorem OwO_nil (B : Nat) (w : World) : OwO B w (.slice none 0 0) [] := ⟨0, ⟨none, 0, by simp, by simp, fun h => absurd rfl h⟩, fun h => absurd rfl h⟩

/-- Owners in one block of [lo, hi), not frozen. -/
def IvO (lo hi : Nat) (w : World) (v : Value) (os : List Wn) : Prop :=
  ∃ b, RdO (· = b) w v os ∧ (os ≠ [] → lo ≤ b ∧ b < hi ∧ b < w.heap.size ∧ ∀ o, w.frozen? ⟨b, o, none⟩ = false)
theorem OwO.iv {B : Nat} {w : World} {v : Value} {os : List Wn} (h : OwO B w v os) : IvO B w.heap.size w v os := by
  obtain ⟨b, h1, h2⟩ := h
  exact ⟨b, h1, fun hne => ⟨(h2 hne).1, (h2 hne).2.1, (h2 hne).2.1, (h2 hne).2.2⟩⟩
theorem IvO.wr {lo hi : Nat} {T : Nat → Prop} {w w' : World} {v : Value} {os : List Wn} (h : IvO lo hi w v os) (hw : Wr T w w') (hd : ∀ b, lo ≤ b → b < hi → ¬ T b) : IvO lo hi w' v os := by
  obtain ⟨b, h1, h2⟩ := h
  refine ⟨b, h1.wr hw (fun hne x hx => by subst hx; exact hd _ (h2 hne).1 (h2 hne).2.1), fun hne => ?_⟩
  obtain ⟨k1, k2, k3, k4⟩ := h2 hne
  exact ⟨k1, k2, Nat.lt_of_lt_of_le k3 hw.size, fun o => by rw [hw.frz _ _ k3]; exact k4 o⟩
theorem IvO.later {lo hi : Nat} {w w' : World} {v : Value} {os : List Wn} (h : IvO lo hi w v os) (hb : Below w.heap.size w w') : IvO lo hi w' v os :=
  h.wr (Wr.of_below hb fun _ => False) fun _ _ _ => id
theorem IvO.rd {lo hi : Nat} {w : World} {v : Value} {os : List Wn} (h : IvO lo hi w v os) : RdO (fun b => lo ≤ b ∧ b < hi) w v os := by
  obtain ⟨b, h1, h2⟩ := h
  exact h1.narrow fun hne x hx => hx ▸ ⟨(h2 hne).1, (h2 hne).2.1⟩

/-- What marking lays into n owners. -/
def mkO (k : Int) (n : Nat) : List Wn := (List.range n).map fun (i : Nat) => (k + 2 * (i : Int), k + 2 * (i : Int) + 1)
theorem mkO_len (k : Int) (n : Nat) : (mkO k n).length = n := by simp [mkO]
theorem mkO_at (k : Int) (n i : Nat) (h : i < n) : (mkO k n).getD i wn0 = (k + 2 * (i : Int), k + 2 * (i : Int) + 1) := by simp [mkO, List.getD, h]
theorem mkO_ne {k : Int} {n : Nat} : mkO k n ≠ [] ↔ n ≠ 0 := by
  rw [← List.length_pos_iff, mkO_len]; omega

/-- What marking has done behind j owners. -/
structure MarkAtO (b off n : Nat) (k : Int) (w : World) (j : Nat) (wr : World) : Prop where
  done : ∀ i, i < j → wr.cell? ⟨b, off + i * 2, none⟩ = some (.int .i64 (k + 2 * (i : Int))) ∧ wr.cell? ⟨b, off + i * 2 + 1, none⟩ = some (.int .i64 (k + 2 * (i : Int) + 1))
  there : ∀ i, i < n → (∃ x, wr.cell? ⟨b, off + i * 2, none⟩ = some x) ∧ ∃ x, wr.cell? ⟨b, off + i * 2 + 1, none⟩ = some x
  free : ∀ o, wr.frozen? ⟨b, o, none⟩ = false
  wr : Wr (· = b) w wr
theorem MarkAtO.step {b off n : Nat} {k : Int} {w wr : World} {j : Nat} (h : MarkAtO b off n k w j wr) (hj : j < n) :
    MarkAtO b off n k w (j + 1) ((wr.setCell ⟨b, off + j * 2, none⟩ (.int .i64 (k + 2 * (j : Int)))).setCell ⟨b, off + j * 2 + 1, none⟩ (.int .i64 (k + 2 * (j : Int) + 1))) := by
  obtain ⟨⟨x, hx⟩, y, hy⟩ := h.there j hj
  have hw := (((Wr.refl (· = b) wr).setCell (p := ⟨b, off + j * 2, none⟩) rfl (.int .i64 (k + 2 * (j : Int)))).setCell (p := ⟨b, off + j * 2 + 1, none⟩) rfl (.int .i64 (k + 2 * (j : Int) + 1)))
  have s1 : ((wr.setCell ⟨b, off + j * 2, none⟩ (.int .i64 (k + 2 * (j : Int)))).setCell ⟨b, off + j * 2 + 1, none⟩ (.int .i64 (k + 2 * (j : Int) + 1))).cell? ⟨b, off + j * 2, none⟩ = some (.int .i64 (k + 2 * (j : Int))) := by
    rw [World.cell?_setCell_other _ _ _ _ (by simp)]
    exact World.cell?_setCell_same _ _ _ hx
  have s2 : ((wr.setCell ⟨b, off + j * 2, none⟩ (.int .i64 (k + 2 * (j : Int)))).setCell ⟨b, off + j * 2 + 1, none⟩ (.int .i64 (k + 2 * (j : Int) + 1))).cell? ⟨b, off + j * 2 + 1, none⟩ = some (.int .i64 (k + 2 * (j : Int) + 1)) :=
    World.cell?_setCell_same _ _ _ ((World.cell?_setCell_other _ _ _ _ (by simp)).trans hy)
  have s3 : ∀ o, o ≠ off + j * 2 → o ≠ off + j * 2 + 1 → ((wr.setCell ⟨b, off + j * 2, none⟩ (.int .i64 (k + 2 * (j : Int)))).setCell ⟨b, off + j * 2 + 1, none⟩ (.int .i64 (k + 2 * (j : Int) + 1))).cell? ⟨b, o, none⟩ = wr.cell? ⟨b, o, none⟩ := by
    intro o h1 h2
    rw [World.cell?_setCell_other _ _ _ _ (by intro e; exact h2 (congrArg Addr.off e).symm), World.cell?_setCell_other _ _ _ _ (by intro e; exact h1 (congrArg Addr.off e).symm)]
  refine ⟨fun i hi => ?_, fun i hi => ?_, fun o => by rw [World.frozen?_setCell, World.frozen?_setCell]; exact h.free o, h.wr.trans hw⟩
  · by_cases e : i = j
    · subst e; exact ⟨s1, s2⟩
    · rw [s3 _ (by omega) (by omega), s3 _ (by omega) (by omega)]
      exact h.done i (by omega)
  · by_cases e : i = j
    · subst e; exact ⟨⟨_, s1⟩, _, s2⟩
    · rw [s3 _ (by omega) (by omega), s3 _ (by omega) (by omega)]
      exact h.there i hi

/-- Owners in [lo, hi) whose marks stand from k on. -/
def MkO (k : Int) (lo hi : Nat) (w : World) (v : Value) (n : Nat) : Prop := RdO (fun b => lo ≤ b ∧ b < hi) w v (mkO k n)
theorem MkO.wr {k : Int} {lo hi : Nat} {V : Nat → Prop} {w w' : World} {v : Value} {n : Nat} (h : MkO k lo hi w v n) (hw : Wr V w w') (hd : ∀ b, lo ≤ b → b < hi → ¬ V b) : MkO k lo hi w' v n :=
  RdO.wr h hw fun _ b hb => hd b hb.1 hb.2
theorem MkO.later {k : Int} {lo hi : Nat} {w w' : World} {v : Value} {n : Nat} (h : MkO k lo hi w v n) (hb : Below w.heap.size w w') : MkO k lo hi w' v n := RdO.later h hb

theorem Try.infoOwner : (Try.prog.info? 40).map (fun i => (i.zero, i.size, i.bytes)) = some (some (.agg #[.int .i64 0, .int .i64 0]), 2, 16) := by kernel_rfl
theorem run_make_own (n : Nat) (hn : n ≤ 1048576) (w : World) :
    (Instr.makeSlice 24 (.int .i64 (n : Int)) (.int .i64 (n : Int))).run Try.prog w = .ok (.slice (some ⟨w.heap.size, 0, none⟩) n n) (w.alloc (.cells (madeCells #[.int .i64 0, .int .i64 0] (n * 2)) 40)) := by
  obtain ⟨i, hi, hz, hs, hb⟩ := info_parts Try.infoOwner
  have hr := run_make (P := Try.prog) w 24 40 i (.agg #[.int .i64 0, .int .i64 0]) Try.underlying24 hi hz .i64 .i64 n n (by omega) (Int.le_refl _) (by rw [hb]; omega) (by omega)
  simp only [Int.toNat_natCast, hs] at hr
  exact hr
end Go.Proofs.Ytkpkoapcmnapoab
