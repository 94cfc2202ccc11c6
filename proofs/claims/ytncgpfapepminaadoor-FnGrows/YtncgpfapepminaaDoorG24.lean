/- In1 in one text: what each says stands at its head below. -/
import Derived.Test.YtncgpfapepminaaDoorG23
/- Chapter 10: 'InstallRaft' of the program, walked. Made by program (geninst.py). -/
namespace Go.Proofs.YtncgpfapepminaaDoor
open Go.RowKit

theorem run_eql_iface_nilR {P : Program} (w : World) {ti : TypeId} {ms : Array (String × TypeId)} (tp : TypeId) (v : Value) (hi : P.underlying ti = some (.interface ms)) :
    (binOp .eql ti (.iface tp v) .nilIface).run P w = .ok (.bool false) w := by
  have h : ∀ d : Nat, (Op.equalIn (d + 1) ti (.iface tp v) .nilIface).run P w = .ok false w := fun d => by simp [Op.equalIn, run_underlying hi]
  simp only [binOp]
  simp [Op.equal, Op.maxDepth, h 9999]
theorem run_eql_nil_nilR {P : Program} (w : World) {ti : TypeId} {ms : Array (String × TypeId)} (hi : P.underlying ti = some (.interface ms)) :
    (binOp .eql ti .nilIface .nilIface).run P w = .ok (.bool true) w := by
  have h : ∀ d : Nat, (Op.equalIn (d + 1) ti .nilIface .nilIface).run P w = .ok true w := fun d => by simp [Op.equalIn, run_underlying hi]
  simp only [binOp]
  simp [Op.equal, Op.maxDepth, h 9999]

theorem RdJ_nilR (w : World) : RdJ (fun _ => False) w (.slice none 0 0) [] := (OwJ_nil (fun _ => False) w).rd
theorem in_bad {r : Rf} {i t : Int} {xs : List Int} (h : dfF r xs ≠ 0) : inC r i t xs = dfF r xs ∧ inR r i t xs = rf0 := by
  have hc : inC r i t xs = dfF r xs := by
    unfold inC dfF
    by_cases h0 : rfF r = 0
    · have h1 : daF xs ≠ 0 := by rw [dfF_ok h0] at h; exact h
      simp [h0, h1]
    · simp [h0]
  exact ⟨hc, by unfold inR; rw [if_neg (by rw [hc]; exact h)]⟩
theorem in_rng {r : Rf} {i t : Int} {xs : List Int} (h : dfF r xs = 0) (h1 : ¬ ((1 ≤ i ∧ i ≤ 9999) ∧ 1 ≤ t ∧ t ≤ r.tm)) : inC r i t xs = 3 ∧ inR r i t xs = rf0 := by
  have hc : inC r i t xs = 3 := by unfold inC; rw [if_neg (by simp [(df_zero h).1]), if_neg (by simp [(df_zero h).2]), if_pos h1]
  exact ⟨hc, by unfold inR; rw [if_neg (by rw [hc]; decide)]⟩
theorem in_lo {r : Rf} {i t : Int} {xs : List Int} (h : dfF r xs = 0) (h1 : (1 ≤ i ∧ i ≤ 9999) ∧ 1 ≤ t ∧ t ≤ r.tm) (h2 : i ≤ r.si) : inC r i t xs = 6 ∧ inR r i t xs = rf0 := by
  have hc : inC r i t xs = 6 := by unfold inC; rw [if_neg (by simp [(df_zero h).1]), if_neg (by simp [(df_zero h).2]), if_neg (fun h => h h1), if_pos h2]
  exact ⟨hc, by unfold inR; rw [if_neg (by rw [hc]; decide)]⟩
theorem in_st {r : Rf} {i t : Int} {xs : List Int} (h : dfF r xs = 0) (h1 : (1 ≤ i ∧ i ≤ 9999) ∧ 1 ≤ t ∧ t ≤ r.tm) (h2 : ¬ i ≤ r.si) (h3 : t < r.st) : inC r i t xs = 10 ∧ inR r i t xs = rf0 := by
  have hc : inC r i t xs = 10 := by unfold inC; rw [if_neg (by simp [(df_zero h).1]), if_neg (by simp [(df_zero h).2]), if_neg (fun h => h h1), if_neg h2, if_pos h3]
  exact ⟨hc, by unfold inR; rw [if_neg (by rw [hc]; decide)]⟩
theorem in_ok {r : Rf} {i t : Int} {xs : List Int} (h : dfF r xs = 0) (h1 : (1 ≤ i ∧ i ≤ 9999) ∧ 1 ≤ t ∧ t ≤ r.tm) (h2 : ¬ i ≤ r.si) (h3 : ¬ t < r.st) : inC r i t xs = 0 ∧ inR r i t xs = ⟨r.tm, r.vt, i, t, xs, if tmC r i = 0 ∧ tmV r i = t then r.lg.drop (i - r.si).toNat else []⟩ := by
  have hc : inC r i t xs = 0 := by unfold inC; rw [if_neg (by simp [(df_zero h).1]), if_neg (by simp [(df_zero h).2]), if_neg (fun h => h h1), if_neg h2, if_neg h3]
  exact ⟨hc, by unfold inR; rw [if_pos hc]⟩
theorem in_far {r : Rf} {i t : Int} {xs : List Int} (h : dfF r xs = 0) (h1 : (1 ≤ i ∧ i ≤ 9999) ∧ 1 ≤ t ∧ t ≤ r.tm) (h2 : r.si + (r.lg.length : Int) < i) (h3 : ¬ t < r.st) : inC r i t xs = 0 ∧ inR r i t xs = ⟨r.tm, r.vt, i, t, xs, []⟩ ∧ tmC r i = 4 := by
  have hl : lastR r = r.si + (r.lg.length : Int) := rfl
  have ht : tmC r i = 4 := by unfold tmC; rw [if_neg (by omega), if_pos (by omega)]
  obtain ⟨e1, e2⟩ := in_ok (xs := xs) h h1 (by omega) h3
  refine ⟨e1, ?_, ht⟩
  rw [e2, if_neg (by rw [ht]; rintro ⟨h, _⟩; cases h)]
theorem in_at {r : Rf} {i t : Int} {xs : List Int} (k : Nat) (h : dfF r xs = 0) (h1 : (1 ≤ i ∧ i ≤ 9999) ∧ 1 ≤ t ∧ t ≤ r.tm) (h2 : i - (r.si + 1) = (k : Int)) (h2' : k < r.lg.length) (h3 : ¬ t < r.st) : inC r i t xs = 0 ∧ inR r i t xs = ⟨r.tm, r.vt, i, t, xs, if (r.lg.getD k oj0).2.1 = t then r.lg.drop (k + 1) else []⟩ ∧ tmC r i = 0 ∧ tmV r i = (r.lg.getD k oj0).2.1 ∧ (r.lg.getD k oj0).1 = i := by
  obtain ⟨_, _, g1, g2, g3⟩ := cp_ok (i := i) (xs := xs) k h h2 h2'
  obtain ⟨e1, e2⟩ := in_ok (xs := xs) h h1 (by omega) h3
  refine ⟨e1, ?_, g3, g2, g1⟩
  have e : (i - r.si).toNat = k + 1 := by omega
  rw [e2, e, g3, g2]
  simp

end Go.Proofs.YtncgpfapepminaaDoor
