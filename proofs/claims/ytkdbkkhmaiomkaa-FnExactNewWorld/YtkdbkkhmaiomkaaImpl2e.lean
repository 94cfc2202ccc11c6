/- Chapter 2, the program's side: 'impl.readHeader', walked. Made by program. -/
import Derived.Test.YtkdbkkhmaiomkaaImpl2d
import Derived.Test.YtkdbkkhmaiomkaaBuilt4
import Derived.WalkMore
namespace Go.Proofs.Ytkdbkkhmaiomkaa
open Go.RowKit

theorem scope_falls {P : Program} {a : Act} {w : World} {Q : Exit → Act → World → Prop} {c : Code} (J : Nat → Act → World → Prop) (μ : Nat → Act → World → Nat)
    (pass : ∀ l a w, J l a w → ∃ rest, findLabel c l = some (Code.skip.seq rest) ∧ rest.wp P (jumps (fun l' a' w' => J l' a' w' ∧ μ l' a' w' < μ l a w) Q) a w)
    (first : (∀ l rest a w, findLabel c l = some (Code.skip.seq rest) → J l a w → rest.wp P (jumps J Q) a w) → c.wp P (jumps J Q) a w) : (Code.scope c).wp P Q a w := by
  refine scope_labels J μ (first fun l rest a w hf hJ => ?_) (fun l a w hJ => ?_)
  · obtain ⟨rest', hf', hwp⟩ := pass l a w hJ
    rw [hf] at hf'
    injection hf' with hf'
    injection hf' with _ hf'
    subst hf'
    refine wp_mono hwp fun e a' w' h => ?_
    cases e with
    | goto l' => exact h.1
    | _ => exact h
  · obtain ⟨rest', hf', hwp⟩ := pass l a w hJ
    exact ⟨_, hf', wp_seq (wp_skip hwp)⟩

/-- The addresses that a half tells of; whether two halves are those of a header. -/
def adrH (L : List Int) : List Int := (L.drop 3).take (L.getD 2 0).toNat
def okH (L M : List Int) : Prop := L = M ∧ L.getD 2 0 ≤ 24 ∧ headF (L.getD 0 0) (L.getD 1 0) (adrH L) = 0 ∧ ∀ i, 3 + (L.getD 2 0).toNat ≤ i → i < 32 → L.getD i 0 = 0

/-- What 'readHeader' has made when ad has been read. -/
structure ReadAt (w : World) (A : List Value) (s t : Int) (ad : List Int) (ao : Option Addr) (m c : Nat) (wx : World) : Prop where
  below : Below w.heap.size w wx
  size : w.heap.size + 4 ≤ wx.heap.size
  first : wx.rangeAt w.heap.size 0 A
  r0 : wx.cell? ⟨w.heap.size + 1 + 1, 0, none⟩ = some (.int .i64 0)
  r1 : wx.cell? ⟨w.heap.size + 1 + 1, 1, none⟩ = some (.int .i64 0)
  r2 : wx.cell? ⟨w.heap.size + 1 + 1, 2, none⟩ = some (.slice none 0 0)
  rf : ∀ o, wx.frozen? ⟨w.heap.size + 1 + 1, o, none⟩ = false
  h0 : wx.cell? ⟨w.heap.size + 1 + 1 + 1, 0, none⟩ = some (.int .i64 s)
  h1 : wx.cell? ⟨w.heap.size + 1 + 1 + 1, 1, none⟩ = some (.int .i64 t)
  h2 : wx.cell? ⟨w.heap.size + 1 + 1 + 1, 2, none⟩ = some (.slice ao m c)
  hf : ∀ o, wx.frozen? ⟨w.heap.size + 1 + 1 + 1, o, none⟩ = false
  own : wx.ownsRow (w.heap.size + 4) 2 1 (.slice ao m c) m (ad.map (Value.int .i64))

theorem ReadAt.drewN {w wx : World} {A : List Value} {s t : Int} {ad : List Int} {ao : Option Addr} {m c : Nat} (h : ReadAt w A s t ad ao m c wx) (n : Nat) : ReadAt w A s t ad ao m c (wx.drewN n) :=
  ⟨below_on h.below (below_drewN _ n), h.size, h.first, h.r0, h.r1, h.r2, h.rf, h.h0, h.h1, h.h2, h.hf, h.own⟩

/-- One address more. -/
theorem ReadAt.step {w wr w3 : World} {A : List Value} {s t x : Int} {ad : List Int} {ao : Option Addr} {m c g cap : Nat} (h : ReadAt w A s t ad ao m c wr)
    (hown : w3.ownsRow (w.heap.size + 4) 2 1 (.slice (some ⟨g, 0, none⟩) (m + 1) cap) (m + 1) ((ad ++ [x]).map (Value.int .i64)))
    (hgrow : (wr.drew.alloc (.cells #[.int .i64 x] 2)).grownBy w3 (Value.slice ao m c).ownBlock) :
    ReadAt w A s t (ad ++ [x]) (some ⟨g, 0, none⟩) (m + 1) cap (w3.setCell ⟨w.heap.size + 1 + 1 + 1, 2, none⟩ (.slice (some ⟨g, 0, none⟩) (m + 1) cap)) := by
  have hB : Below (w.heap.size + 4) wr w3 := (((below_drewN wr 1).mono h.size).trans ((below_alloc wr.drew (.cells #[.int .i64 x] 2)).mono h.size)).grown hgrow (by simp; have := h.size; omega) (fun r hr => (h.own.lt r hr).1)
  have hc : ∀ b o, b < w.heap.size + 4 → w3.cell? ⟨b, o, none⟩ = wr.cell? ⟨b, o, none⟩ := fun b o hb => hB.cell (p := ⟨b, o, none⟩) hb
  have hz : ∀ b o, b < w.heap.size + 4 → w3.frozen? ⟨b, o, none⟩ = wr.frozen? ⟨b, o, none⟩ := fun b o hb => hB.frozen (p := ⟨b, o, none⟩) hb
  have hs := hB.size
  refine ⟨(h.below.trans (hB.mono (by omega))).setCell (by simp; omega) _, by simp; have := h.size; omega, fun j v hv => ?_, ?_, ?_, ?_, fun o => ?_, ?_, ?_, ?_, fun o => ?_, ?_⟩
  · rw [World.cell?_setCell_other _ _ _ _ (by intro e; injection e with e _; omega), hc _ _ (by omega)]; exact h.first j v hv
  · rw [World.cell?_setCell_other _ _ _ _ (by intro e; injection e with e _; omega), hc _ _ (by omega)]; exact h.r0
  · rw [World.cell?_setCell_other _ _ _ _ (by intro e; injection e with e _; omega), hc _ _ (by omega)]; exact h.r1
  · rw [World.cell?_setCell_other _ _ _ _ (by intro e; injection e with e _; omega), hc _ _ (by omega)]; exact h.r2
  · rw [World.frozen?_setCell, hz _ _ (by omega)]; exact h.rf o
  · rw [World.cell?_setCell_other _ _ _ _ (by intro e; injection e with _ e; omega), hc _ _ (by omega)]; exact h.h0
  · rw [World.cell?_setCell_other _ _ _ _ (by intro e; injection e with _ e; omega), hc _ _ (by omega)]; exact h.h1
  · exact World.cell?_setCell_same _ _ _ ((hc _ _ (by omega)).trans h.h2)
  · rw [World.frozen?_setCell, hz _ _ (by omega)]; exact h.hf o
  · exact ownsRow_set hown (fun e => by have := (hown.lt _ e).1; omega)

/-- What stands at each jump of 'readHeader'. -/
def readJ (w : World) (A B : List Value) (L M : List Int) (k : Nat) (s t : Int) (l : Nat) (a : Act) (wx : World) : Prop :=
  (l = 2 ∧ ∃ (j : Nat) (x7 x8 : Int) (ao : Option Addr) (c : Nat) (u9 u10 u11 u12 u13 u14 u15 u16 u17 u18 u19 u20 u21 u22 u23 u24 u25 u26 u27 u28 u29 u30 u31 u32 u33 u34 u35 u36 u37 u38 u39 u40 u41 u42 u43 u44 u45 u46 u47 u48 u49 u50 u51 u52 : Value), a = { tmps := #[.agg A.toArray, .agg B.toArray, .pointer (some ⟨w.heap.size, 0, none⟩), .pointer (some ⟨w.heap.size + 1, 0, none⟩), .pointer (some ⟨w.heap.size + 1 + 1, 0, none⟩), .bool false, .pointer (some ⟨w.heap.size + 1 + 1 + 1, 0, none⟩), .int .u16 x7, .int .u16 x8, u9, u10, u11, u12, u13, u14, u15, u16, u17, u18, u19, u20, u21, u22, u23, u24, u25, u26, u27, u28, u29, u30, u31, u32, u33, u34, u35, u36, u37, u38, u39, u40, u41, u42, u43, u44, u45, u46, u47, u48, u49, u50, u51, u52], defers := [] } ∧ x7 = 3 + (j : Int) ∧ x8 = (k : Int) - (j : Int) ∧ j ≤ k ∧ k ≤ 24 ∧ L = M ∧ Hid (ReadAt w A s t ((L.drop 3).take j) ao j c wx)) ∨
  (l = 1 ∧ ∃ (p : Nat) (x7 x8 : Int) (ao : Option Addr) (c : Nat) (u9 u10 u11 u12 u13 u14 u15 u16 u17 u18 u19 u20 u21 u22 u23 u24 u25 u26 u27 u28 u29 u30 u31 u32 u33 u34 u35 u36 u37 u38 u39 u40 u41 u42 u43 u44 u45 u46 u47 u48 u49 u50 u51 u52 : Value), a = { tmps := #[.agg A.toArray, .agg B.toArray, .pointer (some ⟨w.heap.size, 0, none⟩), .pointer (some ⟨w.heap.size + 1, 0, none⟩), .pointer (some ⟨w.heap.size + 1 + 1, 0, none⟩), .bool false, .pointer (some ⟨w.heap.size + 1 + 1 + 1, 0, none⟩), .int .u16 x7, .int .u16 x8, u9, u10, u11, u12, u13, u14, u15, u16, u17, u18, u19, u20, u21, u22, u23, u24, u25, u26, u27, u28, u29, u30, u31, u32, u33, u34, u35, u36, u37, u38, u39, u40, u41, u42, u43, u44, u45, u46, u47, u48, u49, u50, u51, u52], defers := [] } ∧ x7 = (p : Int) ∧ 3 + k ≤ p ∧ p ≤ 32 ∧ k ≤ 24 ∧ L = M ∧ (∀ i, 3 + k ≤ i → i < p → L.getD i 0 = 0) ∧ Hid (ReadAt w A s t ((L.drop 3).take k) ao k c wx)) ∨
  (l = 3 ∧ ∃ (x7 x8 : Int) (ao : Option Addr) (c : Nat) (u9 u10 u11 u12 u13 u14 u15 u16 u17 u18 u19 u20 u21 u22 u23 u24 u25 u26 u27 u28 u29 u30 u31 u32 u33 u34 u35 u36 u37 u38 u39 u40 u41 u42 u43 u44 u45 u46 u47 u48 u49 u50 u51 u52 : Value), a = { tmps := #[.agg A.toArray, .agg B.toArray, .pointer (some ⟨w.heap.size, 0, none⟩), .pointer (some ⟨w.heap.size + 1, 0, none⟩), .pointer (some ⟨w.heap.size + 1 + 1, 0, none⟩), .bool false, .pointer (some ⟨w.heap.size + 1 + 1 + 1, 0, none⟩), .int .u16 x7, .int .u16 x8, u9, u10, u11, u12, u13, u14, u15, u16, u17, u18, u19, u20, u21, u22, u23, u24, u25, u26, u27, u28, u29, u30, u31, u32, u33, u34, u35, u36, u37, u38, u39, u40, u41, u42, u43, u44, u45, u46, u47, u48, u49, u50, u51, u52], defers := [] } ∧ k ≤ 24 ∧ L = M ∧ (∀ i, 3 + k ≤ i → i < 32 → L.getD i 0 = 0) ∧ Hid (ReadAt w A s t ((L.drop 3).take k) ao k c wx)) ∨
  (l = 0 ∧ ∃ (x7 x8 : Int) (ao : Option Addr) (ad : List Int) (m c : Nat) (u9 u10 u11 u12 u13 u14 u15 u16 u17 u18 u19 u20 u21 u22 u23 u24 u25 u26 u27 u28 u29 u30 u31 u32 u33 u34 u35 u36 u37 u38 u39 u40 u41 u42 u43 u44 u45 u46 u47 u48 u49 u50 u51 u52 : Value), a = { tmps := #[.agg A.toArray, .agg B.toArray, .pointer (some ⟨w.heap.size, 0, none⟩), .pointer (some ⟨w.heap.size + 1, 0, none⟩), .pointer (some ⟨w.heap.size + 1 + 1, 0, none⟩), .bool false, .pointer (some ⟨w.heap.size + 1 + 1 + 1, 0, none⟩), .int .u16 x7, .int .u16 x8, u9, u10, u11, u12, u13, u14, u15, u16, u17, u18, u19, u20, u21, u22, u23, u24, u25, u26, u27, u28, u29, u30, u31, u32, u33, u34, u35, u36, u37, u38, u39, u40, u41, u42, u43, u44, u45, u46, u47, u48, u49, u50, u51, u52], defers := [] } ∧ ¬ okH L M ∧ Hid (ReadAt w A s t ad ao m c wx))

/-- .. and how far it is to the end. -/
def readM (l : Nat) (a : Act) (_ : World) : Nat :=
  if l = 2 then 100 + (intOf (a.tmps.getD 8 undef)).toNat else if l = 1 then 90 - (intOf (a.tmps.getD 7 undef)).toNat else if l = 3 then 10 else 0

def readPost (L M : List Int) (w : World) (e : Ending) (w' : World) : Prop :=
  ∃ s t z ad ok, e = .returned (.tuple #[.agg #[.int .i64 s, .int .i64 t, z], .bool ok]) ∧ Below w.heap.size w w' ∧ OwI w.heap.size w' z ad ∧ ad.length ≤ 24 ∧
      (ok = true ↔ okH L M) ∧ (ok = true → s = L.getD 0 0 ∧ t = L.getD 1 0 ∧ ad = adrH L)

end Go.Proofs.Ytkdbkkhmaiomkaa
