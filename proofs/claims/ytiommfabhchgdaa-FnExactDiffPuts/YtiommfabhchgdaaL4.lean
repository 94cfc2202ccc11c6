/- Chapter 4, the model's side: 'l4Last', 'l4Puts', walked. -/
import Derived.Test.YtiommfabhchgdaaHomeF
import Derived.Test.YtiommfabhchgdaaFault3
import Derived.Test.YtiommfabhchgdaaSpec2
namespace Go.Proofs.Ytiommfabhchgdaa
open Go.RowKit

set_option maxHeartbeats 1000000 in
set_option maxRecDepth 4000 in
theorem l4Last {S : Nat → Prop} {w : World} {v : Value} {qs : List (Int × List Int)} (a : Int) (hv : RdP S w v qs) :
    Calls Try.prog 83 #[v, .int .i64 a] w fun e w' => w' = w ∧ ((e = .returned (.int .i64 (-1)) ∧ ∀ j, j < qs.length → (qs.getD j (0, [])).1 ≠ a) ∨ ∃ i : Nat, e = .returned (.int .i64 (i : Int)) ∧ i < qs.length ∧ (qs.getD i (0, [])).1 = a ∧ ∀ j, i < j → j < qs.length → (qs.getD j (0, [])).1 ≠ a) := by
  obtain ⟨ao, c, rfl, hm⟩ := hv.shape
  have HV := hide hv
  obtain ⟨n, hn⟩ : ∃ n, qs.length = n := ⟨_, rfl⟩
  have HN := hide hn
  rw [hn] at HV hm ⊢
  clear hv hn
  have hw0 : IntKind.i64.wrap ((n : Int) - 1) = (n : Int) - 1 := by simp [IntKind.wrap, IntKind.bits, IntKind.signed]; omega
  go_enter Try.func83, Try.ntmps83
  go_wp2
  go_loopw [5] (fun i wr => ∃ k : Nat, k ≤ n ∧ i = .int .i64 ((k : Int) - 1) ∧ Hid (∀ j, k ≤ j → j < n → (qs.getD j (0, [])).1 ≠ a) ∧ wr = w) (fun i _ => (intOf i + 1).toNat)
  case atStart => exact ⟨n, Nat.le_refl _, rfl, fun j h1 h2 => by omega, rfl⟩
  case round =>
    obtain ⟨k, hk, rfl, HA, rfl⟩ := hrel
    by_cases hk0 : k = 0
    · subst hk0
      have HR : Hid (∀ j, j < n → (qs.getD j (0, [])).1 ≠ a) := fun j hj => HA.out j (Nat.zero_le _) hj
      go_wp2
      go_ret
      exact ⟨rfl, Or.inl ⟨rfl, HR.out⟩⟩
    · obtain ⟨i, rfl⟩ : ∃ i, k = i + 1 := ⟨k - 1, by omega⟩
      have e1 : ((i + 1 : Nat) : Int) - 1 = (i : Int) := by omega
      rw [e1]
      obtain ⟨b, off, V, rfl, q1, _, _⟩ := HV.out.at (k := i) (by rw [HN.out]; omega)
      obtain ⟨x, hx⟩ : ∃ x, (qs.getD i (0, [])).1 = x := ⟨_, rfl⟩
      have HX := hide hx
      rw [hx] at q1
      have hi0 : (0 : Int) ≤ (i : Int) := Int.natCast_nonneg _
      have hi1 : (i : Int) < (n : Int) := by omega
      have hwi : IntKind.i64.wrap ((i : Int) - 1) = (i : Int) - 1 := by simp [IntKind.wrap, IntKind.bits, IntKind.signed]; omega
      clear hx e1
      by_cases hxa : x = a
      · subst hxa
        have HR : Hid (∀ j, i < j → j < n → (qs.getD j (0, [])).1 ≠ x) := fun j h1 h2 => HA.out j h1 h2
        go_wp2
        go_ret
        exact ⟨rfl, Or.inr ⟨i, rfl, by omega, HX.out, HR.out⟩⟩
      · have HA2 : Hid (∀ j, i ≤ j → j < n → (qs.getD j (0, [])).1 ≠ a) := by
          intro j h1 h2
          by_cases e : j = i
          · subst e; rw [HX.out]; exact hxa
          · exact HA.out j (by omega) h2
        go_wp2
        go_roundw
        case rel => exact ⟨i, by omega, by first | rfl | go_num, HA2.out, by simp⟩
        case measure => simp [intOf]; try omega

set_option maxHeartbeats 1000000 in
set_option maxRecDepth 4000 in
theorem l4Puts {T : Nat → Prop} {w : World} {v : Value} {ps : List (Int × List Int)} (hv : RdP T w v ps) :
    Calls Try.prog 62 #[v] w fun e w' => e = .returned (.int .i64 (hpF 60 ps)) ∧ ∃ q, w' = w.drewN q := by
  obtain ⟨ao, c, rfl, hm'⟩ := hv.shape
  have HV := hide hv
  obtain ⟨m, hm⟩ : ∃ m, ps.length = m := ⟨_, rfl⟩
  have HM := hide hm
  rw [hm] at HV hm' ⊢
  clear hv hm
  by_cases h70 : 60 < m
  · have HZ := hide (show hpF 60 ps = 2 by unfold hpF; rw [if_pos (by rw [HM.out]; exact h70)])
    go_enter Try.func62, Try.ntmps62
    go_wp2
    go_ret
    exact ⟨ret_int HZ.out.symm, 0, rfl⟩
  · have HE := hide (show hpF 60 ps = firstP 40 ps by unfold hpF; rw [if_neg (by rw [HM.out]; exact h70)])
    go_enter Try.func62, Try.ntmps62
    go_wp2
    go_loopw [3] (fun i wr => ∃ j : Nat, j ≤ m ∧ i = .int .i64 j ∧ Hid (firstP 40 ps = firstP 40 (ps.drop j)) ∧ Hid (∃ q, wr = w.drewN q)) (fun i _ => m - (intOf i).toNat)
    case atStart => exact ⟨0, Nat.zero_le _, rfl, by simp [Hid], ⟨0, rfl⟩⟩
    case round =>
      obtain ⟨j, hj, rfl, HG, HB2⟩ := hrel
      by_cases hlt2 : j < m
      · obtain ⟨b2, off2, V2, rfl, q1, q2, q3⟩ := HV.out.at (k := j) (by rw [HM.out]; exact hlt2)
        have g1 := (drewN_cell HB2.out _).trans q1
        have g2 := (drewN_cell HB2.out _).trans q2
        have R2 : Hid (RdI T wr V2 (ps.getD j (0, [])).2) := by obtain ⟨q, rfl⟩ := HB2; exact q3
        obtain ⟨x, hx⟩ : ∃ x, (ps.getD j (0, [])).1 = x := ⟨_, rfl⟩
        have HX := hide hx
        rw [hx] at g1
        clear q1 q2 q3 hx
        by_cases hat : 0 ≤ x ∧ x < 40
        · obtain ⟨ha1, ha2⟩ := hat
          by_cases hw : wordsF (ps.getD j (0, [])).2 = 0
          · have HF2 := hide (HG.out.trans (firstP_ok (by rw [HM.out]; exact hlt2) (by rw [HX.out]; exact ⟨ha1, ha2⟩) hw))
            have HW := hide hw
            clear hw
            go_wp2_with fail
            refine (l2Home_yes x ha1 (by omega) _).mono ?_
            rintro e w1 ⟨rfl, rfl⟩
            go_wp2_with fail
            refine (l1Words R2.out).mono ?_
            rintro e w' ⟨he, hq⟩
            rw [HW.out] at he
            subst he
            have HB3 := hide (drewN_on HB2.out hq)
            clear hq
            go_wp2
            go_roundw
            case rel => exact ⟨j + 1, by omega, by go_num, HF2.out, HB3.out⟩
            case measure => simp [intOf]; omega
          · have HF2 := hide (HE.out.trans (HG.out.trans (firstP_no (by rw [HM.out]; exact hlt2) (by rw [HX.out]; exact ⟨ha1, ha2⟩) hw)))
            obtain ⟨z, hz⟩ : ∃ z, wordsF (ps.getD j (0, [])).2 = z := ⟨_, rfl⟩
            have HW := hide hz
            rw [hz] at hw
            clear hz
            go_wp2_with fail
            refine (l2Home_yes x ha1 (by omega) _).mono ?_
            rintro e w1 ⟨rfl, rfl⟩
            go_wp2_with fail
            refine (l1Words R2.out).mono ?_
            rintro e w' ⟨he, hq⟩
            rw [HW.out] at he
            subst he
            have HB3 := hide (drewN_on HB2.out hq)
            clear hq
            go_wp2
            go_ret
            exact ⟨ret_int (by rw [HF2.out, HW.out]), HB3.out⟩
        · have HZ := hide (HE.out.trans (HG.out.trans (firstP_at (n := 40) (by rw [HM.out]; exact hlt2) (by rw [HX.out]; exact hat))))
          have HA := hide (show x < 0 ∨ 39 < x by omega)
          clear hat
          go_wp2_with fail
          refine (l2Home_no x HA.out _).mono ?_
          rintro e w1 ⟨rfl, rfl⟩
          go_wp2
          go_ret
          exact ⟨ret_int HZ.out.symm, HB2.out⟩
      · have HZ := hide (HE.out.trans (HG.out.trans (firstP_end (by rw [HM.out]; omega))))
        go_wp2
        go_ret
        exact ⟨ret_int HZ.out.symm, HB2.out⟩
end Go.Proofs.Ytiommfabhchgdaa
