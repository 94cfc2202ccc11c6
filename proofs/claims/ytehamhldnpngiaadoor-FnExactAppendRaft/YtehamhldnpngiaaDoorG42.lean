/- Cp2 Cp3 Ef2 Cp4 in one text: what each says stands at its head below. -/
import Derived.Test.YtehamhldnpngiaaDoorG40
import Derived.Test.YtehamhldnpngiaaDoorG30
import Derived.Test.YtehamhldnpngiaaDoorG18
import Derived.Test.YtehamhldnpngiaaDoorG36
import Derived.Test.YtehamhldnpngiaaDoorG39
/- Chapter 10: the fault of a store with data, a store with another snapshot: the program's side. Made by program (gencp2.py). -/
namespace Go.Proofs.YtehamhldnpngiaaDoor
open Go.RowKit

/-- The code of a store with data. -/
def dfF (r : Rf) (xs : List Int) : Int := if rfF r ≠ 0 then rfF r else daF xs
theorem dfF_bad {r : Rf} {xs : List Int} (h : rfF r ≠ 0) : dfF r xs = rfF r := by unfold dfF; rw [if_pos h]
theorem dfF_ok {r : Rf} {xs : List Int} (h : rfF r = 0) : dfF r xs = daF xs := by unfold dfF; rw [if_neg (by simp [h])]
end Go.Proofs.YtehamhldnpngiaaDoor
/- Chapter 10: 'CompactRaft' of the program, walked. Made by program (gencp3.py). -/
namespace Go.Proofs.YtehamhldnpngiaaDoor
open Go.RowKit

theorem df_zero {r : Rf} {xs : List Int} (h : dfF r xs = 0) : rfF r = 0 ∧ daF xs = 0 := by
  by_cases h0 : rfF r = 0
  · rw [dfF_ok h0] at h; exact ⟨h0, h⟩
  · rw [dfF_bad h0] at h; exact absurd h h0
theorem cpC_df {r : Rf} {i : Int} {xs : List Int} : cpC r i xs = if dfF r xs ≠ 0 then dfF r xs else if i ≤ r.si then 6 else tmC r i := by
  unfold cpC dfF
  by_cases h0 : rfF r = 0
  · simp [h0]
  · simp [h0]
theorem cp_bad {r : Rf} {i : Int} {xs : List Int} (h : dfF r xs ≠ 0) : cpC r i xs = dfF r xs ∧ cpR r i xs = rf0 := by
  have hc : cpC r i xs = dfF r xs := by rw [cpC_df, if_pos h]
  exact ⟨hc, by unfold cpR; rw [if_neg (by rw [hc]; exact h)]⟩
theorem cp_lo {r : Rf} {i : Int} {xs : List Int} (h : dfF r xs = 0) (h1 : i ≤ r.si) : cpC r i xs = 6 ∧ cpR r i xs = rf0 := by
  have hc : cpC r i xs = 6 := by rw [cpC_df, if_neg (by simp [h]), if_pos h1]
  exact ⟨hc, by unfold cpR; rw [if_neg (by rw [hc]; decide)]⟩
theorem cp_hi {r : Rf} {i : Int} {xs : List Int} (h : dfF r xs = 0) (h1 : r.si + (r.lg.length : Int) < i) : cpC r i xs = 4 ∧ cpR r i xs = rf0 := by
  have hl : lastR r = r.si + (r.lg.length : Int) := rfl
  have hc : cpC r i xs = 4 := by rw [cpC_df, if_neg (by simp [h]), if_neg (by omega)]; unfold tmC; rw [if_neg (by omega), if_pos (by omega)]
  exact ⟨hc, by unfold cpR; rw [if_neg (by rw [hc]; decide)]⟩
theorem cp_ok {r : Rf} {i : Int} {xs : List Int} (k : Nat) (h : dfF r xs = 0) (h1 : i - (r.si + 1) = (k : Int)) (h2 : k < r.lg.length) : cpC r i xs = 0 ∧ cpR r i xs = ⟨r.tm, r.vt, i, (r.lg.getD k oj0).2.1, xs, r.lg.drop (k + 1)⟩ ∧ (r.lg.getD k oj0).1 = i ∧ tmV r i = (r.lg.getD k oj0).2.1 ∧ tmC r i = 0 := by
  have hl : lastR r = r.si + (r.lg.length : Int) := rfl
  have ht : tmC r i = 0 := by unfold tmC; rw [if_neg (by omega), if_neg (by omega)]
  have hc : cpC r i xs = 0 := by rw [cpC_df, if_neg (by simp [h]), if_neg (by omega), ht]
  have hi := rfF_iff.1 (df_zero h).1
  have e1 : (i - r.si - 1).toNat = k := by omega
  have e2 : (i - r.si).toNat = k + 1 := by omega
  have hv : tmV r i = (r.lg.getD k oj0).2.1 := by unfold tmV; rw [if_pos ht, if_neg (by omega), e1]
  refine ⟨hc, by unfold cpR; rw [if_pos hc, hv, e2], ?_, hv, ht⟩
  have h3 := log_at hi.lo k h2
  have h4 := (hi.lk (by rintro e; rw [e] at h2; simp at h2)).1
  rw [h3, h4]; omega

end Go.Proofs.YtehamhldnpngiaaDoor
/- Chapter 10: 'EntriesFrom' of the program, walked. Made by program (genef.py). -/
namespace Go.Proofs.YtehamhldnpngiaaDoor
open Go.RowKit

theorem ef_bad {r : Rf} {i n : Int} (h : rfF r ≠ 0) : efC r i n = rfF r ∧ efR r i n = [] := by
  have hc : efC r i n = rfF r := by unfold efC; rw [if_neg h]
  exact ⟨hc, by unfold efR; rw [if_neg (by rw [hc]; exact h)]⟩
theorem ef_rng {r : Rf} {i n : Int} (h : rfF r = 0) (h1 : ¬ (0 ≤ n ∧ n ≤ 14)) : efC r i n = 3 ∧ efR r i n = [] := by
  have hc : efC r i n = 3 := by unfold efC; rw [if_pos h, if_neg h1]
  exact ⟨hc, by unfold efR; rw [if_neg (by rw [hc]; decide)]⟩
theorem ef_lo {r : Rf} {i n : Int} (h : rfF r = 0) (h1 : 0 ≤ n ∧ n ≤ 14) (h2 : i ≤ r.si) : efC r i n = 6 ∧ efR r i n = [] := by
  have hc : efC r i n = 6 := by unfold efC; rw [if_pos h, if_pos h1, if_pos h2]
  exact ⟨hc, by unfold efR; rw [if_neg (by rw [hc]; decide)]⟩
theorem ef_hi {r : Rf} {i n : Int} (h : rfF r = 0) (h1 : 0 ≤ n ∧ n ≤ 14) (h2 : r.si + (r.lg.length : Int) + 1 < i) : efC r i n = 4 ∧ efR r i n = [] := by
  have hc : efC r i n = 4 := by unfold efC; rw [if_pos h, if_pos h1, if_neg (by omega), if_pos (show lastR r + 1 < i from h2)]
  exact ⟨hc, by unfold efR; rw [if_neg (by rw [hc]; decide)]⟩
theorem ef_ok {r : Rf} {i n : Int} (k q : Nat) (h : rfF r = 0) (h1 : 0 ≤ n ∧ n ≤ 14) (h2 : i - (r.si + 1) = (k : Int)) (h3 : k ≤ r.lg.length) (h4 : (q : Int) = n ∨ (q = r.lg.length - k ∧ (q : Int) ≤ n)) : efC r i n = 0 ∧ efR r i n = (r.lg.drop k).take q := by
  have hl : lastR r = r.si + (r.lg.length : Int) := rfl
  have hc : efC r i n = 0 := by unfold efC; rw [if_pos h, if_pos h1, if_neg (by omega), if_neg (by omega)]
  refine ⟨hc, ?_⟩
  have e : (i - r.si - 1).toNat = k := by omega
  unfold efR
  rw [if_pos hc, e]
  rcases h4 with h4 | ⟨h4, h5⟩
  · rw [← h4]; simp
  · rw [List.take_of_length_le (by simp; omega), List.take_of_length_le (by simp; omega)]

end Go.Proofs.YtehamhldnpngiaaDoor
/- Chapter 10: 'CompactRaft' of the model, walked. Made by program (gencp4.py). -/
namespace Go.Proofs.YtehamhldnpngiaaDoor
open Go.RowKit

theorem IvR_made2 {A C lo : Nat} {w w' : World} {y z : Value} {xs : List Int} {ps : List Oj} (hj : OwJ (fun b => A ≤ b ∧ b < C) w z ps) (ho : OwI C w y xs) (h1 : lo ≤ A) (h2 : A ≤ C) (h3 : C ≤ w.heap.size) (hw : Wr (fun b => b < A) w w') : IvR lo w'.heap.size w' y z xs ps := by
  obtain ⟨b, k1, k2⟩ := ho
  refine ⟨b, fun b => A ≤ b ∧ b < C, k1.wr hw (fun hn x hx e => by subst hx; have := (k2 hn).1; omega), fun hn => ?_, Nat.le_refl _, fun x hx => ⟨by omega, Nat.lt_of_lt_of_le hx.2 (Nat.le_trans h3 hw.size)⟩, hj.wr hw fun x hx e => by omega⟩
  obtain ⟨g1, g3, g4⟩ := k2 hn
  exact ⟨by omega, Nat.lt_of_lt_of_le g3 hw.size, fun h => by omega, fun o => (hw.frz _ _ g3).trans (g4 o)⟩
theorem Res7.wr {w wr w1 : World} {r : Nat} {T : Nat → Prop} (h : Res7 w wr r) (hw : Wr T wr w1) (hr : ¬ T r) (hT : ∀ b, T b → w.heap.size ≤ b) : Res7 w w1 r := by
  obtain ⟨c0, c1, c2, c3, c4, c5, c6⟩ := h.v
  exact ⟨h.below.trans (hw.below h.below.size hT), ⟨(hw.cell h.lt hr).trans c0, (hw.cell h.lt hr).trans c1, (hw.cell h.lt hr).trans c2, (hw.cell h.lt hr).trans c3, (hw.cell h.lt hr).trans c4, (hw.cell h.lt hr).trans c5, (hw.cell h.lt hr).trans c6⟩, fun o => (hw.frz _ _ h.lt).trans (h.fr o), h.ge⟩

theorem forgetC {P : Program} {f : Nat} {args : Array Value} {Q : Ending → World → Prop} {w0 : World} (R : World → Prop) (h0 : R w0) (h : ∀ w, R w → Calls P f args w Q) : Calls P f args w0 Q := h _ h0

theorem cq_bad {r : Rf} {i : Int} {xs : List Int} (h : rfF r ≠ 0) : cpC r i xs = rfF r ∧ cpR r i xs = rf0 := by
  have h2 := dfF_bad (xs := xs) h
  have h3 := cp_bad (r := r) (i := i) (xs := xs) (by rw [h2]; exact h)
  rw [h2] at h3; exact h3
theorem cq_data {r : Rf} {i : Int} {xs : List Int} (h : rfF r = 0) (h' : daF xs ≠ 0) : cpC r i xs = daF xs ∧ cpR r i xs = rf0 := by
  have h2 := dfF_ok (xs := xs) h
  have h3 := cp_bad (r := r) (i := i) (xs := xs) (by rw [h2]; exact h')
  rw [h2] at h3; exact h3
theorem cq_lo {r : Rf} {i : Int} {xs : List Int} (h : rfF r = 0) (h' : daF xs = 0) (h1 : i ≤ r.si) : cpC r i xs = 6 ∧ cpR r i xs = rf0 := cp_lo (by rw [dfF_ok h]; exact h') h1
theorem cq_hi {r : Rf} {i : Int} {xs : List Int} (h : rfF r = 0) (h' : daF xs = 0) (h1 : r.si + (r.lg.length : Int) < i) : cpC r i xs = 4 ∧ cpR r i xs = rf0 ∧ tmC r i = 4 := by
  have h2 := cp_hi (i := i) (show dfF r xs = 0 by rw [dfF_ok h]; exact h') h1
  have hl : lastR r = r.si + (r.lg.length : Int) := rfl
  exact ⟨h2.1, h2.2, by unfold tmC; rw [if_neg (by omega), if_pos (by omega)]⟩
theorem cq_ok {r : Rf} {i : Int} {xs : List Int} (k : Nat) (h : rfF r = 0) (h' : daF xs = 0) (h1 : i - (r.si + 1) = (k : Int)) (h2 : k < r.lg.length) : cpC r i xs = 0 ∧ cpR r i xs = ⟨r.tm, r.vt, i, tmV r i, xs, r.lg.drop (k + 1)⟩ ∧ tmC r i = 0 := by
  obtain ⟨e1, e2, _, e3, e4⟩ := cp_ok (i := i) k (show dfF r xs = 0 by rw [dfF_ok h]; exact h') h1 h2
  exact ⟨e1, by rw [e2, e3], e4⟩

end Go.Proofs.YtehamhldnpngiaaDoor
