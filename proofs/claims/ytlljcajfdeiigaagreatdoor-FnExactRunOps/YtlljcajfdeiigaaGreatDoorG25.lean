/- Rn1 Iv5 in one text: what each says stands at its head below. -/
import Derived.Test.YtlljcajfdeiigaaGreatDoorG10
import Derived.Test.YtlljcajfdeiigaaGreatDoorG24
import Derived.Test.YtlljcajfdeiigaaGreatDoorG08
import Derived.Test.YtlljcajfdeiigaaGreatDoorG17
/- Chapter 12: operations one behind the other. -/
namespace Go.Proofs.YtlljcajfdeiigaaGreatDoor
open Go.RowKit

def roF (os : List Rf) : Int := cfr (fun i => opF (os.getD i rf0)) os.length 0
def roC (r : Rf) (os : List Rf) : Int := if rfF r ≠ 0 then rfF r else if 60 < os.length then 2 else roF os
/-- The store behind k of them. -/
def roR (r : Rf) (os : List Rf) : Nat → Rf
  | 0 => r
  | k + 1 => dyR (roR r os k) (os.getD k rf0)
/-- How many of the first k had a reply. -/
def roN (r : Rf) (os : List Rf) : Nat → Int
  | 0 => 0
  | k + 1 => roN r os k + (if dyC (roR r os k) (os.getD k rf0) = 0 then 0 else 1)
theorem roR_tot {r : Rf} {os : List Rf} (h : totR r ≤ 1048576) : ∀ k, totR (roR r os k) ≤ 1048576
  | 0 => h
  | k + 1 => dyR_tot (roR_tot h k)
theorem roN_le (r : Rf) (os : List Rf) : ∀ k : Nat, 0 ≤ roN r os k ∧ roN r os k ≤ (k : Int)
  | 0 => by simp [roN]
  | k + 1 => by
    have h := roN_le r os k
    unfold roN
    split <;> push_cast <;> omega
def roV (r : Rf) (os : List Rf) : Int := if roC r os = 0 then roN r os os.length else 0
def roA (r : Rf) (os : List Rf) : Rf := if roC r os = 0 then roR r os os.length else rf0
theorem ro_bad {r : Rf} {os : List Rf} (h : rfF r ≠ 0) : roC r os = rfF r ∧ roV r os = 0 ∧ roA r os = rf0 := by
  have hc : roC r os = rfF r := by unfold roC; rw [if_pos h]
  have hn : ¬ roC r os = 0 := by rw [hc]; exact h
  exact ⟨hc, by unfold roV; rw [if_neg hn], by unfold roA; rw [if_neg hn]⟩
theorem ro_many {r : Rf} {os : List Rf} (h : rfF r = 0) (h1 : 60 < os.length) : roC r os = 2 ∧ roV r os = 0 ∧ roA r os = rf0 := by
  have hc : roC r os = 2 := by unfold roC; rw [if_neg (fun k => k h), if_pos h1]
  have hn : ¬ roC r os = 0 := by rw [hc]; decide
  exact ⟨hc, by unfold roV; rw [if_neg hn], by unfold roA; rw [if_neg hn]⟩
theorem ro_op {r : Rf} {os : List Rf} (h : rfF r = 0) (h1 : ¬ 60 < os.length) (h2 : roF os ≠ 0) : roC r os = roF os ∧ roV r os = 0 ∧ roA r os = rf0 := by
  have hc : roC r os = roF os := by unfold roC; rw [if_neg (fun k => k h), if_neg h1]
  have hn : ¬ roC r os = 0 := by rw [hc]; exact h2
  exact ⟨hc, by unfold roV; rw [if_neg hn], by unfold roA; rw [if_neg hn]⟩
theorem ro_ok {r : Rf} {os : List Rf} (h : rfF r = 0) (h1 : ¬ 60 < os.length) (h2 : roF os = 0) : roC r os = 0 ∧ roV r os = roN r os os.length ∧ roA r os = roR r os os.length := by
  have hc : roC r os = 0 := by unfold roC; rw [if_neg (fun k => k h), if_neg h1]; exact h2
  exact ⟨hc, by unfold roV; rw [if_pos hc], by unfold roA; rw [if_pos hc]⟩
theorem roF_all {os : List Rf} (h : roF os = 0) : ∀ i, i < os.length → opF (os.getD i rf0) = 0 := fun i hi => (cfr_all (g := fun i => opF (os.getD i rf0)) os.length 0).1 h i (Nat.zero_le _) (by omega)
theorem roA_tot (r : Rf) (os : List Rf) : totR (roA r os) ≤ 1048576 := by
  unfold roA
  split
  · rename_i h
    have h0 : rfF r = 0 := by
      by_cases k : rfF r = 0
      · exact k
      · rw [(ro_bad k).1] at h; exact absurd h k
    exact roR_tot (tot_of h0) _
  · rw [totR_zero]; decide
/-- .. read, the cap of each one's entries no smaller than their length. -/
def RdOpsC (w : World) (v : Value) (os : List Rf) : Prop :=
  ∃ (ao : Option Addr) (c : Nat), v = .slice ao os.length c ∧ os.length ≤ 9223372036854775807 ∧ (os ≠ [] → ∃ (b off : Nat) (Y Z : Nat → Value), ao = some ⟨b, off, none⟩ ∧ ∀ i, i < os.length → RdOp w b (off + i * 6) (Y i) (Z i) (os.getD i rf0) ∧ capE (Z i))
theorem RdOpsC.shape {w : World} {v : Value} {os : List Rf} (h : RdOpsC w v os) : ∃ ao c, v = .slice ao os.length c ∧ os.length ≤ 9223372036854775807 := by
  obtain ⟨ao, c, h1, h2, _⟩ := h
  exact ⟨ao, c, h1, h2⟩
theorem RdOpsC.later {w w' : World} {v : Value} {os : List Rf} (h : RdOpsC w v os) (hb : Below w.heap.size w w') : RdOpsC w' v os := by
  obtain ⟨ao, c, h1, h2, h3⟩ := h
  refine ⟨ao, c, h1, h2, fun hne => ?_⟩
  obtain ⟨b, off, Y, Z, e, hc⟩ := h3 hne
  exact ⟨b, off, Y, Z, e, fun i hi => ⟨(hc i hi).1.later hb, (hc i hi).2⟩⟩
theorem RdOpsC.at {w : World} {ao : Option Addr} {n c : Nat} {os : List Rf} (h : RdOpsC w (.slice ao n c) os) {k : Nat} (hk : k < os.length) : ∃ b off y z, ao = some ⟨b, off, none⟩ ∧ RdOp w b (off + k * 6) y z (os.getD k rf0) ∧ capE z := by
  obtain ⟨ao', c', e, hm, h⟩ := h
  injection e with e1 e2 e3
  obtain ⟨b, off, Y, Z, e4, hc⟩ := h (by rintro rfl; exact absurd hk (Nat.not_lt_zero _))
  exact ⟨b, off, Y k, Z k, e1.trans e4, hc k hk⟩
theorem OwOps.rdC {lo hi : Nat} {w : World} {v : Value} {os : List Rf} (h : OwOps lo hi w v os) : RdOpsC w v os := by
  obtain ⟨b, c, Y, Z, L, h1, h2, _, _, _, _, h7⟩ := h
  exact ⟨_, c, h1, by omega, fun _ => ⟨b, 0, Y, Z, rfl, fun i hi => ⟨by rw [Nat.zero_add]; exact (h7 i hi).rd, (h7 i hi).iv.capE⟩⟩⟩
end Go.Proofs.YtlljcajfdeiigaaGreatDoor
/- Stores into two or three cells of a variable; what is elsewhere stays. -/
namespace Go.Proofs.YtlljcajfdeiigaaGreatDoor
open Go.RowKit

theorem set2_other {w : World} {b h o : Nat} {x y : Value} (hb : b ≠ h) : ((w.setCell ⟨h, 0, none⟩ x).setCell ⟨h, 1, none⟩ y).cell? ⟨b, o, none⟩ = w.cell? ⟨b, o, none⟩ := by
  rw [World.cell?_setCell_other _ _ _ _ (by intro e; injection e with e1 _; exact hb e1.symm), World.cell?_setCell_other _ _ _ _ (by intro e; injection e with e1 _; exact hb e1.symm)]
theorem set3_other {w : World} {b h o : Nat} {x y z : Value} (hb : b ≠ h) : (((w.setCell ⟨h, 0, none⟩ x).setCell ⟨h, 1, none⟩ y).setCell ⟨h, 2, none⟩ z).cell? ⟨b, o, none⟩ = w.cell? ⟨b, o, none⟩ := by
  rw [World.cell?_setCell_other _ _ _ _ (by intro e; injection e with e1 _; exact hb e1.symm), set2_other hb]
end Go.Proofs.YtlljcajfdeiigaaGreatDoor
