/- Rn1 Rh1 Iv5 in one text: what each says stands at its head below. -/
import Derived.Test.YtcmdgnemkjfckaaGreatDoorG11
import Derived.Test.YtcmdgnemkjfckaaGreatDoorG27
import Derived.Test.YtcmdgnemkjfckaaGreatDoorG08
import Derived.Test.YtcmdgnemkjfckaaGreatDoorG12
import Derived.Test.YtcmdgnemkjfckaaGreatDoorG22
import Derived.Test.YtcmdgnemkjfckaaGreatDoorG19
/- Chapter 12: operations one behind the other. -/
namespace Go.Proofs.YtcmdgnemkjfckaaGreatDoor
open Go.RowKit

def roF (os : List Rf) : Int := cfr (fun i => opF (os.getD i rf0)) os.length 0
def roC (r : Rf) (os : List Rf) : Int := if rfF r ≠ 0 then rfF r else if 60 < os.length then 2 else roF os
/-- The store behind k of them. -/
def roR (r : Rf) (os : List Rf) : Nat → Rf
  | 0 => r
  | k + 1 => dyR (roR r os k) (os.getD k rf0)
/-- How many of the first k had a reply. -/
def roN (r : Rf) (os : List Rf) : Nat → Int
  | 0 => 0
  | k + 1 => roN r os k + (if dyC (roR r os k) (os.getD k rf0) = 0 then 0 else 1)
theorem roR_tot {r : Rf} {os : List Rf} (h : totR r ≤ 1048576) : ∀ k, totR (roR r os k) ≤ 1048576
  | 0 => h
  | k + 1 => dyR_tot (roR_tot h k)
theorem roN_le (r : Rf) (os : List Rf) : ∀ k : Nat, 0 ≤ roN r os k ∧ roN r os k ≤ (k : Int)
  | 0 => by simp [roN]
  | k + 1 => by
    have h := roN_le r os k
    unfold roN
    split <;> push_cast <;> omega
def roV (r : Rf) (os : List Rf) : Int := if roC r os = 0 then roN r os os.length else 0
def roA (r : Rf) (os : List Rf) : Rf := if roC r os = 0 then roR r os os.length else rf0
theorem ro_bad {r : Rf} {os : List Rf} (h : rfF r ≠ 0) : roC r os = rfF r ∧ roV r os = 0 ∧ roA r os = rf0 := by
  have hc : roC r os = rfF r := by unfold roC; rw [if_pos h]
  have hn : ¬ roC r os = 0 := by rw [hc]; exact h
  exact ⟨hc, by unfold roV; rw [if_neg hn], by unfold roA; rw [if_neg hn]⟩
theorem ro_many {r : Rf} {os : List Rf} (h : rfF r = 0) (h1 : 60 < os.length) : roC r os = 2 ∧ roV r os = 0 ∧ roA r os = rf0 := by
  have hc : roC r os = 2 := by unfold roC; rw [if_neg (fun k => k h), if_pos h1]
  have hn : ¬ roC r os = 0 := by rw [hc]; decide
  exact ⟨hc, by unfold roV; rw [if_neg hn], by unfold roA; rw [if_neg hn]⟩
theorem ro_op {r : Rf} {os : List Rf} (h : rfF r = 0) (h1 : ¬ 60 < os.length) (h2 : roF os ≠ 0) : roC r os = roF os ∧ roV r os = 0 ∧ roA r os = rf0 := by
  have hc : roC r os = roF os := by unfold roC; rw [if_neg (fun k => k h), if_neg h1]
  have hn : ¬ roC r os = 0 := by rw [hc]; exact h2
  exact ⟨hc, by unfold roV; rw [if_neg hn], by unfold roA; rw [if_neg hn]⟩
theorem ro_ok {r : Rf} {os : List Rf} (h : rfF r = 0) (h1 : ¬ 60 < os.length) (h2 : roF os = 0) : roC r os = 0 ∧ roV r os = roN r os os.length ∧ roA r os = roR r os os.length := by
  have hc : roC r os = 0 := by unfold roC; rw [if_neg (fun k => k h), if_neg h1]; exact h2
  exact ⟨hc, by unfold roV; rw [if_pos hc], by unfold roA; rw [if_pos hc]⟩
theorem roF_all {os : List Rf} (h : roF os = 0) : ∀ i, i < os.length → opF (os.getD i rf0) = 0 := fun i hi => (cfr_all (g := fun i => opF (os.getD i rf0)) os.length 0).1 h i (Nat.zero_le _) (by omega)
theorem roA_tot (r : Rf) (os : List Rf) : totR (roA r os) ≤ 1048576 := by
  unfold roA
  split
  · rename_i h
    have h0 : rfF r = 0 := by
      by_cases k : rfF r = 0
      · exact k
      · rw [(ro_bad k).1] at h; exact absurd h k
    exact roR_tot (tot_of h0) _
  · rw [totR_zero]; decide
/-- .. read, the cap of each one's entries no smaller than their length. -/
def RdOpsC (w : World) (v : Value) (os : List Rf) : Prop :=
  ∃ (ao : Option Addr) (c : Nat), v = .slice ao os.length c ∧ os.length ≤ 9223372036854775807 ∧ (os ≠ [] → ∃ (b off : Nat) (Y Z : Nat → Value), ao = some ⟨b, off, none⟩ ∧ ∀ i, i < os.length → RdOp w b (off + i * 6) (Y i) (Z i) (os.getD i rf0) ∧ capE (Z i))
theorem RdOpsC.shape {w : World} {v : Value} {os : List Rf} (h : RdOpsC w v os) : ∃ ao c, v = .slice ao os.length c ∧ os.length ≤ 9223372036854775807 := by
  obtain ⟨ao, c, h1, h2, _⟩ := h
  exact ⟨ao, c, h1, h2⟩
theorem RdOpsC.later {w w' : World} {v : Value} {os : List Rf} (h : RdOpsC w v os) (hb : Below w.heap.size w w') : RdOpsC w' v os := by
  obtain ⟨ao, c, h1, h2, h3⟩ := h
  refine ⟨ao, c, h1, h2, fun hne => ?_⟩
  obtain ⟨b, off, Y, Z, e, hc⟩ := h3 hne
  exact ⟨b, off, Y, Z, e, fun i hi => ⟨(hc i hi).1.later hb, (hc i hi).2⟩⟩
theorem RdOpsC.at {w : World} {ao : Option Addr} {n c : Nat} {os : List Rf} (h : RdOpsC w (.slice ao n c) os) {k : Nat} (hk : k < os.length) : ∃ b off y z, ao = some ⟨b, off, none⟩ ∧ RdOp w b (off + k * 6) y z (os.getD k rf0) ∧ capE z := by
  obtain ⟨ao', c', e, hm, h⟩ := h
  injection e with e1 e2 e3
  obtain ⟨b, off, Y, Z, e4, hc⟩ := h (by rintro rfl; exact absurd hk (Nat.not_lt_zero _))
  exact ⟨b, off, Y k, Z k, e1.trans e4, hc k hk⟩
theorem OwOps.rdC {lo hi : Nat} {w : World} {v : Value} {os : List Rf} (h : OwOps lo hi w v os) : RdOpsC w v os := by
  obtain ⟨b, c, Y, Z, L, h1, h2, _, _, _, _, h7⟩ := h
  exact ⟨_, c, h1, by omega, fun _ => ⟨b, 0, Y, Z, rfl, fun i hi => ⟨by rw [Nat.zero_add]; exact (h7 i hi).rd, (h7 i hi).iv.capE⟩⟩⟩
end Go.Proofs.YtcmdgnemkjfckaaGreatDoor
/- Chapter 15: what was done, done once more: the mathematics; threads read with the caps of their entries. -/
namespace Go.Proofs.YtcmdgnemkjfckaaGreatDoor
open Go.RowKit

/-- The operation that one of them speaks of. -/
def rhO (ts : List Tq) (d : Dn) : Rf := (ts.getD d.1.toNat tq0).os.getD d.2.1.toNat rf0
/-- It is a place of a thread. -/
def rhP (ts : List Tq) (d : Dn) : Prop := 0 ≤ d.1 ∧ d.1 < (ts.length : Int)
/-- .. and of an operation of that one's. -/
def rhQ (ts : List Tq) (d : Dn) : Prop := 0 ≤ d.2.1 ∧ d.2.1 < ((ts.getD d.1.toNat tq0).os.length : Int)
instance (ts : List Tq) (d : Dn) : Decidable (rhP ts d) := by unfold rhP; exact inferInstance
instance (ts : List Tq) (d : Dn) : Decidable (rhQ ts d) := by unfold rhQ; exact inferInstance
def rhG (ts : List Tq) (d : Dn) : Int := if rhP ts d then (if rhQ ts d then opF (rhO ts d) else 3) else 3
theorem rhG_op {ts : List Tq} {d : Dn} (h : rhP ts d) (h1 : rhQ ts d) : rhG ts d = opF (rhO ts d) := by unfold rhG; rw [if_pos h, if_pos h1]
theorem rhG_at {ts : List Tq} {d : Dn} (h : rhP ts d) (h1 : ¬ rhQ ts d) : rhG ts d = 3 := by unfold rhG; rw [if_pos h, if_neg h1]
theorem rhG_th {ts : List Tq} {d : Dn} (h : ¬ rhP ts d) : rhG ts d = 3 := by unfold rhG; rw [if_neg h]
theorem rhG_ok {ts : List Tq} {d : Dn} (h : rhG ts d = 0) : rhP ts d ∧ rhQ ts d ∧ opF (rhO ts d) = 0 := by
  by_cases h1 : rhP ts d
  · by_cases h2 : rhQ ts d
    · rw [rhG_op h1 h2] at h; exact ⟨h1, h2, h⟩
    · rw [rhG_at h1 h2] at h; exact absurd h (by decide)
  · rw [rhG_th h1] at h; exact absurd h (by decide)
def rhF (ts : List Tq) (ds : List Dn) : Int := cfr (fun i => rhG ts (ds.getD i dn0)) ds.length 0
def rhC (r : Rf) (ts : List Tq) (ds : List Dn) : Int := if rfF r ≠ 0 then rfF r else if 8 < ts.length ∨ 60 < ds.length then 2 else rhF ts ds
/-- The store behind k of them. -/
def rhR (r : Rf) (ts : List Tq) (ds : List Dn) : Nat → Rf
  | 0 => r
  | k + 1 => dyR (rhR r ts ds k) (rhO ts (ds.getD k dn0))
/-- How many of the first k had another reply or value. -/
def rhN (r : Rf) (ts : List Tq) (ds : List Dn) : Nat → Int
  | 0 => 0
  | k + 1 => rhN r ts ds k + (if dyC (rhR r ts ds k) (rhO ts (ds.getD k dn0)) = (ds.getD k dn0).2.2.1 ∧ dyV (rhR r ts ds k) (rhO ts (ds.getD k dn0)) = (ds.getD k dn0).2.2.2 then 0 else 1)
theorem rhR_tot {r : Rf} {ts : List Tq} {ds : List Dn} (h : totR r ≤ 1048576) : ∀ k, totR (rhR r ts ds k) ≤ 1048576
  | 0 => h
  | k + 1 => dyR_tot (rhR_tot h k)
theorem rhN_le (r : Rf) (ts : List Tq) (ds : List Dn) : ∀ k : Nat, 0 ≤ rhN r ts ds k ∧ rhN r ts ds k ≤ (k : Int)
  | 0 => by simp [rhN]
  | k + 1 => by
    have h := rhN_le r ts ds k
    unfold rhN
    split <;> push_cast <;> omega
def rhV (r : Rf) (ts : List Tq) (ds : List Dn) : Int := if rhC r ts ds = 0 then rhN r ts ds ds.length else 0
def rhA (r : Rf) (ts : List Tq) (ds : List Dn) : Rf := if rhC r ts ds = 0 then rhR r ts ds ds.length else rf0
theorem rhC_bad {r : Rf} {ts : List Tq} {ds : List Dn} (h : rfF r ≠ 0) : rhC r ts ds = rfF r := by unfold rhC; rw [if_pos h]
theorem rhC_many {r : Rf} {ts : List Tq} {ds : List Dn} (h : rfF r = 0) (h1 : 8 < ts.length ∨ 60 < ds.length) : rhC r ts ds = 2 := by unfold rhC; rw [if_neg (fun k => k h), if_pos h1]
theorem rhC_op {r : Rf} {ts : List Tq} {ds : List Dn} (h : rfF r = 0) (h1 : ¬ (8 < ts.length ∨ 60 < ds.length)) : rhC r ts ds = rhF ts ds := by unfold rhC; rw [if_neg (fun k => k h), if_neg h1]
theorem rh_bad {r : Rf} {ts : List Tq} {ds : List Dn} (h : rhC r ts ds ≠ 0) : rhV r ts ds = 0 ∧ rhA r ts ds = rf0 :=
  ⟨by unfold rhV; rw [if_neg h], by unfold rhA; rw [if_neg h]⟩
theorem rh_ok {r : Rf} {ts : List Tq} {ds : List Dn} (h : rhC r ts ds = 0) : rhV r ts ds = rhN r ts ds ds.length ∧ rhA r ts ds = rhR r ts ds ds.length ∧ rfF r = 0 ∧ ¬ (8 < ts.length ∨ 60 < ds.length) ∧ rhF ts ds = 0 := by
  refine ⟨by unfold rhV; rw [if_pos h], by unfold rhA; rw [if_pos h], ?_⟩
  have h0 : rfF r = 0 := by
    by_cases k : rfF r = 0
    · exact k
    · rw [rhC_bad k] at h; exact absurd h k
  have h1 : ¬ (8 < ts.length ∨ 60 < ds.length) := fun k => by rw [rhC_many h0 k] at h; exact absurd h (by decide)
  exact ⟨h0, h1, by rw [rhC_op h0 h1] at h; exact h⟩
theorem rhF_all {ts : List Tq} {ds : List Dn} (h : rhF ts ds = 0) : ∀ i, i < ds.length → rhG ts (ds.getD i dn0) = 0 := fun i hi => (cfr_all (g := fun i => rhG ts (ds.getD i dn0)) ds.length 0).1 h i (Nat.zero_le _) (by omega)
theorem rhA_tot (r : Rf) (ts : List Tq) (ds : List Dn) : totR (rhA r ts ds) ≤ 1048576 := by
  by_cases h : rhC r ts ds = 0
  · obtain ⟨_, e, h0, _⟩ := rh_ok h
    rw [e]
    exact rhR_tot (tot_of h0) _
  · rw [(rh_bad h).2, totR_zero]; decide

/-- Threads read, the cap of each entry list of theirs no smaller than its length. -/
structure RdThC (w : World) (b o : Nat) (y : Value) (t : Tq) : Prop where
  c0 : w.cell? ⟨b, o, none⟩ = some y
  c1 : w.cell? ⟨b, o + 1, none⟩ = some (.int .i64 t.pc)
  c2 : w.cell? ⟨b, o + 2, none⟩ = some (.int .i64 t.nd)
  rO : RdOpsC w y t.os
theorem RdThC.later {w w' : World} {b o : Nat} {y : Value} {t : Tq} (h : RdThC w b o y t) (hb : Below w.heap.size w w') : RdThC w' b o y t :=
  ⟨cell_later hb h.c0, cell_later hb h.c1, cell_later hb h.c2, h.rO.later hb⟩
def RdThsC (w : World) (v : Value) (ts : List Tq) : Prop :=
  ∃ (ao : Option Addr) (c : Nat), v = .slice ao ts.length c ∧ ts.length ≤ 9223372036854775807 ∧ (ts ≠ [] → ∃ (b off : Nat) (Y : Nat → Value), ao = some ⟨b, off, none⟩ ∧ ∀ i, i < ts.length → RdThC w b (off + i * 3) (Y i) (ts.getD i tq0))
theorem RdThsC.shape {w : World} {v : Value} {ts : List Tq} (h : RdThsC w v ts) : ∃ ao c, v = .slice ao ts.length c ∧ ts.length ≤ 9223372036854775807 := by
  obtain ⟨ao, c, h1, h2, _⟩ := h
  exact ⟨ao, c, h1, h2⟩
theorem RdThsC.later {w w' : World} {v : Value} {ts : List Tq} (h : RdThsC w v ts) (hb : Below w.heap.size w w') : RdThsC w' v ts := by
  obtain ⟨ao, c, h1, h2, h3⟩ := h
  refine ⟨ao, c, h1, h2, fun hne => ?_⟩
  obtain ⟨b, off, Y, e, hc⟩ := h3 hne
  exact ⟨b, off, Y, e, fun i hi => (hc i hi).later hb⟩
theorem RdThsC.at {w : World} {ao : Option Addr} {n c : Nat} {ts : List Tq} (h : RdThsC w (.slice ao n c) ts) {k : Nat} (hk : k < ts.length) : ∃ b off y, ao = some ⟨b, off, none⟩ ∧ RdThC w b (off + k * 3) y (ts.getD k tq0) := by
  obtain ⟨ao', c', e, hm, h⟩ := h
  injection e with e1 e2 e3
  obtain ⟨b, off, Y, e4, hc⟩ := h (by rintro rfl; exact absurd hk (Nat.not_lt_zero _))
  exact ⟨b, off, Y k, e1.trans e4, hc k hk⟩
theorem OwThs.rdC {lo hi : Nat} {w : World} {v : Value} {ts : List Tq} (h : OwThs lo hi w v ts) : RdThsC w v ts := by
  obtain ⟨b, c, Y, L, h1, h2, _, _, _, _, h7⟩ := h
  exact ⟨_, c, h1, by omega, fun _ => ⟨b, 0, Y, rfl, fun i hi => by rw [Nat.zero_add]; exact ⟨(h7 i hi).c0, (h7 i hi).c1, (h7 i hi).c2, (h7 i hi).iv.rdC⟩⟩⟩

/-- What one of them speaks of, as it lies in memory: the thread's cell, the operation's six. -/
structure RhAt (w : World) (b1 o1 b2 o2 i j n m : Nat) (c2 : Nat) (x : Rf) (u v : Value) : Prop where
  th : w.cell? ⟨b1, o1 + i * 3, none⟩ = some (.slice (some ⟨b2, o2, none⟩) m c2)
  op : RdOp w b2 (o2 + j * 6) u v x
  cap : capE v
  hi : i < n
  hj : j < m
  hm : m ≤ 9223372036854775807
theorem rh_at {w : World} {ao : Option Addr} {n c : Nat} {ts : List Tq} {d : Dn} (h : RdThsC w (.slice ao n c) ts) (hn : ts.length = n) (hp : rhP ts d) (hq : rhQ ts d) :
    ∃ (b1 o1 b2 o2 i j m c2 : Nat) (u v : Value), ao = some ⟨b1, o1, none⟩ ∧ d.1 = (i : Int) ∧ d.2.1 = (j : Int) ∧ RhAt w b1 o1 b2 o2 i j n m c2 (rhO ts d) u v := by
  obtain ⟨i, hi⟩ := Int.eq_ofNat_of_zero_le hp.1
  obtain ⟨j, hj⟩ := Int.eq_ofNat_of_zero_le hq.1
  have h1 : i < ts.length := by have := hp.2; omega
  obtain ⟨b1, o1, y, rfl, ht⟩ := h.at h1
  have e : d.1.toNat = i := by omega
  have e2 : d.2.1.toNat = j := by omega
  have h2 : j < (ts.getD i tq0).os.length := by have := hq.2; rw [e] at this; omega
  obtain ⟨ay, cy, rfl, hlm⟩ := ht.rO.shape
  obtain ⟨b2, o2, u, v, rfl, hr, hc⟩ := ht.rO.at h2
  refine ⟨b1, o1, b2, o2, i, j, _, cy, u, v, rfl, hi, hj, ht.c0, ?_, hc, by omega, h2, hlm⟩
  unfold rhO
  rw [e, e2]
  exact hr
theorem RhAt.later {w w' : World} {b1 o1 b2 o2 i j n m c2 : Nat} {x : Rf} {u v : Value} (h : RhAt w b1 o1 b2 o2 i j n m c2 x u v) (hb : Below w.heap.size w w') : RhAt w' b1 o1 b2 o2 i j n m c2 x u v :=
  ⟨cell_later hb h.th, h.op.later hb, h.cap, h.hi, h.hj, h.hm⟩
theorem forgetXh {F : Exit → Act → World → Prop} {e : Exit} {a : Act} {w0 : World} (R : World → Prop) (h0 : R w0) (h : ∀ w, R w → F e a w) : F e a w0 := h _ h0
end Go.Proofs.YtcmdgnemkjfckaaGreatDoor
/- Stores into two or three cells of a variable; what is elsewhere stays. -/
namespace Go.Proofs.YtcmdgnemkjfckaaGreatDoor
open Go.RowKit

theorem set2_other {w : World} {b h o : Nat} {x y : Value} (hb : b ≠ h) : ((w.setCell ⟨h, 0, none⟩ x).setCell ⟨h, 1, none⟩ y).cell? ⟨b, o, none⟩ = w.cell? ⟨b, o, none⟩ := by
  rw [World.cell?_setCell_other _ _ _ _ (by intro e; injection e with e1 _; exact hb e1.symm), World.cell?_setCell_other _ _ _ _ (by intro e; injection e with e1 _; exact hb e1.symm)]
theorem set3_other {w : World} {b h o : Nat} {x y z : Value} (hb : b ≠ h) : (((w.setCell ⟨h, 0, none⟩ x).setCell ⟨h, 1, none⟩ y).setCell ⟨h, 2, none⟩ z).cell? ⟨b, o, none⟩ = w.cell? ⟨b, o, none⟩ := by
  rw [World.cell?_setCell_other _ _ _ _ (by intro e; injection e with e1 _; exact hb e1.symm), set2_other hb]
end Go.Proofs.YtcmdgnemkjfckaaGreatDoor
