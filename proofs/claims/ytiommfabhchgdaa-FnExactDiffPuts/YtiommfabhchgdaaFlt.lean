/- Small whole numbers as floats, and back. -/
import Derived.Test.YtiommfabhchgdaaBase
namespace Go.Proofs.Ytiommfabhchgdaa
open Go.RowKit

/-- The float64 of a whole number. -/
def fl (n : Nat) : Nat := FloatKind.f64.nearest (n : Int)

theorem cut_even_zero (neg : Bool) (m : Nat) : Ieee.Toward.even.cut neg m 0 = m := by
  simp [Ieee.Toward.cut, Nat.mod_one]

theorem fl_zero : fl 0 = 0 := by decide

theorem fl_form (n L : Nat) (hn : n ≠ 0) (hl : n.log2 = L) (hL : L ≤ 15) : fl n = (L + 1022) * 4503599627370496 + n * 2 ^ (52 - L) := by
  have hlt : n < 65536 := by
    have : n < 2 ^ 16 := (Nat.log2_lt hn).1 (by omega)
    simpa using this
  unfold fl FloatKind.nearest FloatKind.encode Ieee.Format.write Ieee.Format.nearest
  simp only [Int.natAbs_natCast]
  rw [if_neg hn]
  simp only [hl]
  have e1 : max ((0 : Int) + ((L : Nat) : Int) - ((FloatKind.f64.format.fractionBits : Nat) : Int)) FloatKind.f64.format.leastPlace = (L : Int) - 52 := by
    simp only [FloatKind.format, Ieee.double, Ieee.Format.leastPlace]
    omega
  rw [e1]
  have e2 : ((L : Int) - 52 - 0).toNat = 0 := by omega
  have e3 : ((0 : Int) - ((L : Int) - 52)).toNat = 52 - L := by omega
  rw [e2, e3, cut_even_zero, Nat.shiftLeft_eq]
  have e4 : ((L : Int) - 52 - FloatKind.f64.format.leastPlace).toNat = L + 1022 := by
    simp only [FloatKind.format, Ieee.double, Ieee.Format.leastPlace]
    omega
  have e5 : FloatKind.f64.format.binade = 4503599627370496 := by decide
  have e6 : FloatKind.f64.format.infRung = 9218868437227405312 := by decide
  have e7 : decide (((n : Nat) : Int) < 0) = false := by simp
  rw [e4, e5, e6, e7]
  simp only [Ieee.Format.word]
  have h2 : n * 2 ^ (52 - L) < 9007199254740992 := by
    have h3 : n < 2 ^ (L + 1) := (Nat.log2_lt hn).1 (by omega)
    calc n * 2 ^ (52 - L) < 2 ^ (L + 1) * 2 ^ (52 - L) := Nat.mul_lt_mul_of_pos_right h3 (Nat.two_pow_pos _)
      _ = 2 ^ 53 := by rw [← Nat.pow_add]; congr 1; omega
      _ = 9007199254740992 := by decide
  rw [Nat.min_eq_left (by omega)]
  simp

theorem fl_read (n L : Nat) (hn : n ≠ 0) (hl : n.log2 = L) (hL : L ≤ 15) : FloatKind.f64.decode (fl n) = .number false (n * 2 ^ (52 - L)) ((L : Int) - 52) := by
  have h2 : n * 2 ^ (52 - L) < 9007199254740992 := by
    have h3 : n < 2 ^ (L + 1) := (Nat.log2_lt hn).1 (by omega)
    calc n * 2 ^ (52 - L) < 2 ^ (L + 1) * 2 ^ (52 - L) := Nat.mul_lt_mul_of_pos_right h3 (Nat.two_pow_pos _)
      _ = 2 ^ 53 := by rw [← Nat.pow_add]; congr 1; omega
      _ = 9007199254740992 := by decide
  have h1 : 4503599627370496 ≤ n * 2 ^ (52 - L) := by
    have h3 : 2 ^ L ≤ n := (Nat.le_log2 hn).1 (by omega)
    calc 4503599627370496 = 2 ^ 52 := by decide
      _ = 2 ^ L * 2 ^ (52 - L) := by rw [← Nat.pow_add]; congr 1; omega
      _ ≤ n * 2 ^ (52 - L) := Nat.mul_le_mul_right _ h3
  rw [fl_form n L hn hl hL]
  generalize n * 2 ^ (52 - L) = m at h1 h2 ⊢
  have e5 : FloatKind.f64.format.binade = 4503599627370496 := by decide
  have e6 : FloatKind.f64.format.infRung = 9218868437227405312 := by decide
  have e7 : FloatKind.f64.format.signWeight = 9223372036854775808 := by decide
  have e8 : FloatKind.f64.format.leastPlace = -1074 := by decide
  unfold FloatKind.decode Ieee.Format.read
  simp only [e5, e6, e7, e8]
  have r : (L + 1022) * 4503599627370496 + m < 9218868437227405312 := by omega
  have r1 : ((L + 1022) * 4503599627370496 + m) % 9223372036854775808 = (L + 1022) * 4503599627370496 + m := Nat.mod_eq_of_lt (by omega)
  have r2 : ((L + 1022) * 4503599627370496 + m) / 9223372036854775808 = 0 := Nat.div_eq_of_lt (by omega)
  rw [r1, r2, if_neg (by omega), if_pos r]
  congr 1
  · omega
  · omega

theorem fl_toInt (n : Nat) (h : n ≤ 65535) : (FloatKind.f64.decode (fl n)).toInt .zero = some (n : Int) := by
  by_cases hn : n = 0
  · subst hn
    decide
  · have hL : n.log2 ≤ 15 := by
      have : n.log2 < 16 := (Nat.log2_lt hn).2 (by omega)
      omega
    obtain ⟨L, hl⟩ : ∃ L, n.log2 = L := ⟨_, rfl⟩
    rw [hl] at hL
    rw [fl_read n L hn hl hL]
    have h1 : 4503599627370496 ≤ n * 2 ^ (52 - L) := by
      have h3 : 2 ^ L ≤ n := (Nat.le_log2 hn).1 (by omega)
      calc 4503599627370496 = 2 ^ 52 := by decide
        _ = 2 ^ L * 2 ^ (52 - L) := by rw [← Nat.pow_add]; congr 1; omega
        _ ≤ n * 2 ^ (52 - L) := Nat.mul_le_mul_right _ h3
    unfold Ieee.Datum.toInt Ieee.Datum.integral
    have e1 : ((L : Int) - 52).toNat = 0 := by omega
    have e2 : (-((L : Int) - 52)).toNat = 52 - L := by omega
    simp only [e1, e2, Nat.shiftLeft_zero]
    have h4 : 52 ≤ (n * 2 ^ (52 - L)).log2 := (Nat.le_log2 (by omega)).2 (by simpa using h1)
    have e3 : Ieee.Toward.zero.cut false (n * 2 ^ (52 - L)) (52 - L) = n := by
      unfold Ieee.Toward.cut
      simp only [Nat.min_eq_left (show 52 - L ≤ (n * 2 ^ (52 - L)).log2 + 2 by omega), Nat.one_shiftLeft]
      rw [Nat.mul_div_cancel _ (Nat.two_pow_pos _)]
      simp
    rw [e3]
    simp [Ieee.signed]

theorem fl_ne (n : Nat) (h : n ≤ 65535) (hn : n ≠ 0) : (FloatKind.f64.format.order (fl n) 0 == some Ordering.eq) = false := by
  have hL : n.log2 ≤ 15 := by
    have : n.log2 < 16 := (Nat.log2_lt hn).2 (by omega)
    omega
  obtain ⟨L, hl⟩ : ∃ L, n.log2 = L := ⟨_, rfl⟩
  rw [hl] at hL
  have h0 := fl_read n L hn hl hL
  have hz : FloatKind.f64.format.read 0 = .number false 0 (-1074) := by decide
  unfold FloatKind.decode at h0
  unfold Ieee.Format.order
  rw [h0, hz]
  unfold Ieee.Datum.order
  have e1 : min ((L : Int) - 52) (-1074) = -1074 := by omega
  simp only [e1, Ieee.signed]
  simp
  exact ⟨hn, by exact_mod_cast Nat.ne_of_gt (Nat.two_pow_pos (52 - L))⟩
end Go.Proofs.Ytiommfabhchgdaa
