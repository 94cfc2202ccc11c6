/- Puts into homes, the program's side: 'homePutsFault', walked. -/
import Derived.Test.YtiommfabhchgdaaFault2
import Derived.Test.YtiommfabhchgdaaImpl2
namespace Go.Proofs.Ytiommfabhchgdaa
open Go.RowKit

/-- The fault of puts that go into homes. -/
def hpF (most : Nat) (ps : List (Int × List Int)) : Int := if most < ps.length then 2 else firstP 40 ps

set_option maxHeartbeats 1000000 in
set_option maxRecDepth 4000 in
theorem homePutsFault {T : Nat → Prop} {w : World} {v : Value} {ps : List (Int × List Int)} (most : Nat) (hv : RdP T w v ps) :
    Calls Try.prog 67 #[v, .int .i64 (most : Int)] w fun e w' => e = .returned (.int .i64 (hpF most ps)) ∧ Below w.heap.size w w' := by
  obtain ⟨ao, c, rfl, hm'⟩ := hv.shape
  have HV := hide hv
  obtain ⟨m, hm⟩ : ∃ m, ps.length = m := ⟨_, rfl⟩
  have HM := hide hm
  rw [hm] at HV hm' ⊢
  clear hv hm
  by_cases h70 : most < m
  · have HZ := hide (show hpF most ps = 2 by unfold hpF; rw [if_pos (by rw [HM.out]; exact h70)])
    go_enter Try.func67, Try.ntmps67
    go_wp2
    go_ret
    exact ⟨ret_int HZ.out.symm, Below.refl _ _⟩
  · have HE := hide (show hpF most ps = firstP 40 ps by unfold hpF; rw [if_neg (by rw [HM.out]; exact h70)])
    go_enter Try.func67, Try.ntmps67
    go_wp2
    go_loopw [14] (fun i wr => ∃ j : Nat, j ≤ m ∧ i = .int .i64 j ∧ Hid (firstP 40 ps = firstP 40 (ps.drop j)) ∧ Hid (Below w.heap.size w wr)) (fun i _ => m - (intOf i).toNat)
    case atStart => exact ⟨0, Nat.zero_le _, rfl, by simp [Hid], Below.refl _ _⟩
    case round =>
      obtain ⟨j, hj, rfl, HG, HB2⟩ := hrel
      by_cases hlt2 : j < m
      · obtain ⟨b2, off2, V2, rfl, q1, q2, q3⟩ := HV.out.at (k := j) (by rw [HM.out]; exact hlt2)
        obtain ⟨ao3, c3, rfl⟩ := q3.shape
        have g1 := cell_later HB2.out q1
        have g2 := cell_later HB2.out q2
        have R2 := hide (q3.later HB2.out)
        obtain ⟨x, hx⟩ : ∃ x, (ps.getD j (0, [])).1 = x := ⟨_, rfl⟩
        obtain ⟨l, hl⟩ : ∃ l, (ps.getD j (0, [])).2.length = l := ⟨_, rfl⟩
        have HX := hide hx
        have HL := hide hl
        rw [hx] at g1
        rw [hl] at g2 R2
        clear q1 q2 q3 hx hl
        by_cases hat : 0 ≤ x ∧ x < 40
        · obtain ⟨ha1, ha2⟩ := hat
          have hn1 : ¬ x < 0 := by omega
          have hn2 : ¬ 40 ≤ x := by omega
          by_cases hw : wordsF (ps.getD j (0, [])).2 = 0
          · have HF2 := hide (HG.out.trans (firstP_ok (by rw [HM.out]; exact hlt2) (by rw [HX.out]; exact ⟨ha1, ha2⟩) hw))
            have HW := hide hw
            clear hw
            go_wp2_with fail
            refine (isHome_yes x ha1 ha2 _).mono ?_
            rintro e w' ⟨rfl, rfl⟩
            go_wp2_with fail
            refine (wordsFault (R2.out.later (below_alloc _ _))).mono ?_
            rintro e w' ⟨he, q, rfl⟩
            rw [HW.out] at he
            subst he
            go_wp2
            go_roundw
            case rel => exact ⟨j + 1, by omega, by go_num, HF2.out, below_on HB2.out (below_on (below_alloc _ _) (below_drewN _ q))⟩
            case measure => simp [intOf]; omega
          · have HF2 := hide (HE.out.trans (HG.out.trans (firstP_no (by rw [HM.out]; exact hlt2) (by rw [HX.out]; exact ⟨ha1, ha2⟩) hw)))
            obtain ⟨z, hz⟩ : ∃ z, wordsF (ps.getD j (0, [])).2 = z := ⟨_, rfl⟩
            have HW := hide hz
            rw [hz] at hw
            clear hz
            go_wp2_with fail
            refine (isHome_yes x ha1 ha2 _).mono ?_
            rintro e w' ⟨rfl, rfl⟩
            go_wp2_with fail
            refine (wordsFault (R2.out.later (below_alloc _ _))).mono ?_
            rintro e w' ⟨he, q, rfl⟩
            rw [HW.out] at he
            subst he
            go_wp2
            go_ret
            exact ⟨ret_int (by rw [HF2.out, HW.out]), below_on HB2.out (below_on (below_alloc _ _) (below_drewN _ q))⟩
        · have HZ := hide (HE.out.trans (HG.out.trans (firstP_at (n := 40) (by rw [HM.out]; exact hlt2) (by rw [HX.out]; exact hat))))
          have HA := hide hat
          clear hat
          go_wp2_with fail
          refine (isHome_no x HA.out _).mono ?_
          rintro e w' ⟨rfl, rfl⟩
          go_wp2
          go_ret
          exact ⟨ret_int HZ.out.symm, below_on HB2.out (below_alloc _ _)⟩
      · have HZ := hide (HE.out.trans (HG.out.trans (firstP_end (by rw [HM.out]; omega))))
        go_wp2
        go_ret
        exact ⟨ret_int HZ.out.symm, HB2.out⟩
end Go.Proofs.Ytiommfabhchgdaa
