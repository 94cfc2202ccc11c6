/- 'l1Fault' and 'DiskFault' of the model, walked. -/
import Derived.Test.YtbjmmhcbjcngcaaFault2
namespace Go.Proofs.Ytbjmmhcbjcngcaa
open Go.RowKit

theorem drewN_cell {w wr : World} (h : ∃ q, wr = w.drewN q) (a : Addr) : wr.cell? a = w.cell? a := by obtain ⟨q, rfl⟩ := h; rfl
theorem drewN_on {w wr w' : World} (h : ∃ q, wr = w.drewN q) (h' : ∃ q, w' = wr.drewN q) : ∃ q, w' = w.drewN q := by
  obtain ⟨q, rfl⟩ := h; obtain ⟨q', rfl⟩ := h'; exact ⟨_, World.drewN_drewN ..⟩

set_option maxHeartbeats 1000000 in
theorem l1Fault_cells {S T : Nat → Prop} (xss : List (List Int)) (ps : List (Int × List Int)) (n m bd : Nat) (ao ao' : Option Addr) (c c' : Nat) (w : World) (hn : xss.length = n) (hm : ps.length = m) (hn' : n ≤ 9223372036854775807) (hm' : m ≤ 9223372036854775807)
    (hd0 : w.cell? ⟨bd, 0, none⟩ = some (.slice ao n c)) (hd1 : w.cell? ⟨bd, 1, none⟩ = some (.slice ao' m c'))
    (hu : RdII S w (.slice ao n c) xss) (hv : RdP T w (.slice ao' m c') ps) :
    Calls Try.prog 47 #[.pointer (some ⟨bd, 0, none⟩)] w fun e w' => e = .returned (.int .i64 (diskF xss ps)) ∧ ∃ q, w' = w.drewN q := by
  have HU := hide hu
  have HV := hide hv
  have HN := hide hn
  have HM := hide hm
  clear hu hv hn hm
  by_cases h70 : 70 < n
  · have HZ := hide (diskF_many (xss := xss) (ps := ps) (by rw [HN.out]; exact Or.inl h70))
    go_enter Try.func47, Try.ntmps47
    go_wp2
    go_ret
    exact ⟨ret_int HZ.out.symm, 0, rfl⟩
  · by_cases h200 : 200 < m
    · have HZ := hide (diskF_many (xss := xss) (ps := ps) (by rw [HM.out]; exact Or.inr h200))
      go_enter Try.func47, Try.ntmps47
      go_wp2
      go_ret
      exact ⟨ret_int HZ.out.symm, 0, rfl⟩
    · have HS := hide (show ¬ (70 < xss.length ∨ 200 < ps.length) by rw [HN.out, HM.out]; omega)
      go_enter Try.func47, Try.ntmps47
      go_wp2
      go_loopw [3] (fun i wr => ∃ k : Nat, k ≤ n ∧ i = .int .i64 k ∧ Hid (firstF xss = firstF (xss.drop k)) ∧ Hid (∃ q, wr = w.drewN q)) (fun i _ => n - (intOf i).toNat)
      case atStart => exact ⟨0, Nat.zero_le _, rfl, by simp [Hid], 0, rfl⟩
      case round =>
        obtain ⟨k, hk, rfl, HF, HB⟩ := hrel
        have d0 := (drewN_cell HB.out _).trans hd0
        have d1 := (drewN_cell HB.out _).trans hd1
        by_cases hlt : k < n
        · obtain ⟨b, off, V, rfl, q1, q2⟩ := HU.out.at (k := k) (by rw [HN.out]; exact hlt)
          have g1 := (drewN_cell HB.out _).trans q1
          have R1 : Hid (RdI S wr V (xss.getD k [])) := by obtain ⟨q, rfl⟩ := HB; exact q2
          clear q1 q2
          by_cases hw : wordsF (xss.getD k []) = 0
          · have HF2 := hide (HF.out.trans (firstF_ok (by rw [HN.out]; exact hlt) hw))
            have HW := hide hw
            clear hw
            go_wp2_with fail
            refine (l1Words R1.out).mono ?_
            rintro e w' ⟨he, hq⟩
            rw [HW.out] at he
            subst he
            have HB2 := hide (drewN_on HB.out hq)
            clear hq
            go_wp2
            go_roundw
            case rel => exact ⟨k + 1, by omega, by go_num, HF2.out, HB2.out⟩
            case measure => simp [intOf]; omega
          · have HF2 := hide ((diskF_rows HS.out (by rw [HF.out, firstF_no (by rw [HN.out]; exact hlt) hw]; exact hw)).trans (HF.out.trans (firstF_no (by rw [HN.out]; exact hlt) hw)))
            obtain ⟨z, hz⟩ : ∃ z, wordsF (xss.getD k []) = z := ⟨_, rfl⟩
            have HW := hide hz
            rw [hz] at hw
            clear hz
            go_wp2_with fail
            refine (l1Words R1.out).mono ?_
            rintro e w' ⟨he, hq⟩
            rw [HW.out] at he
            subst he
            have HB2 := hide (drewN_on HB.out hq)
            clear hq
            go_wp2
            go_ret
            exact ⟨ret_int (by rw [HF2.out, HW.out]), HB2.out⟩
        · have hkn : k = n := by omega
          subst hkn
          have HE := hide (diskF_puts HS.out (HF.out.trans (firstF_end (by rw [HN.out]; exact Nat.le_refl _))))
          clear HF
          go_wp2
          go_loopw [5] (fun i wr => ∃ j : Nat, j ≤ m ∧ i = .int .i64 j ∧ Hid (firstP xss.length ps = firstP xss.length (ps.drop j)) ∧ Hid (∃ q, wr = w.drewN q)) (fun i _ => m - (intOf i).toNat)
          case atStart => exact ⟨0, Nat.zero_le _, rfl, by simp [Hid], HB.out⟩
          case round =>
            obtain ⟨j, hj, rfl, HG, HB2⟩ := hrel
            clear HB d0 d1
            have d0 := (drewN_cell HB2.out _).trans hd0
            have d1 := (drewN_cell HB2.out _).trans hd1
            by_cases hlt2 : j < m
            · obtain ⟨b2, off2, V2, rfl, q1, q2, q3⟩ := HV.out.at (k := j) (by rw [HM.out]; exact hlt2)
              have g1 := (drewN_cell HB2.out _).trans q1
              have g2 := (drewN_cell HB2.out _).trans q2
              have R2 : Hid (RdI T wr V2 (ps.getD j (0, [])).2) := by obtain ⟨q, rfl⟩ := HB2; exact q3
              obtain ⟨x, hx⟩ : ∃ x, (ps.getD j (0, [])).1 = x := ⟨_, rfl⟩
              have HX := hide hx
              rw [hx] at g1
              clear q1 q2 q3 hx
              by_cases hat : 0 ≤ x ∧ x < (k : Int)
              · obtain ⟨ha1, ha2⟩ := hat
                have ha3 : x ≤ (k : Int) - 1 := by omega
                go_wp2_with fail
                go_quiet ((go_at_call 59; exact Calls.quiet_of_same (l1In_yes _ _ _ ha1 ha3 _)))
                have g2' := g2
                by_cases hw : wordsF (ps.getD j (0, [])).2 = 0
                · have HF2 := hide (HG.out.trans (firstP_ok (by rw [HM.out]; exact hlt2) (by rw [HX.out, HN.out]; exact ⟨ha1, ha2⟩) hw))
                  have HW := hide hw
                  clear hw
                  go_wp2_with fail
                  refine (l1Words (R2.out.drewN nq)).mono ?_
                  rintro e w' ⟨he, hq⟩
                  rw [HW.out] at he
                  subst he
                  have HB3 := hide (drewN_on (drewN_on HB2.out ⟨nq, rfl⟩) hq)
                  clear hq
                  go_wp2
                  go_roundw
                  case rel => exact ⟨j + 1, by omega, by go_num, HF2.out, HB3.out⟩
                  case measure => simp [intOf]; omega
                · have HF2 := hide (HE.out.trans (HG.out.trans (firstP_no (by rw [HM.out]; exact hlt2) (by rw [HX.out, HN.out]; exact ⟨ha1, ha2⟩) hw)))
                  obtain ⟨z, hz⟩ : ∃ z, wordsF (ps.getD j (0, [])).2 = z := ⟨_, rfl⟩
                  have HW := hide hz
                  rw [hz] at hw
                  clear hz
                  go_wp2_with fail
                  refine (l1Words (R2.out.drewN nq)).mono ?_
                  rintro e w' ⟨he, hq⟩
                  rw [HW.out] at he
                  subst he
                  have HB3 := hide (drewN_on (drewN_on HB2.out ⟨nq, rfl⟩) hq)
                  clear hq
                  go_wp2
                  go_ret
                  exact ⟨ret_int (by rw [HF2.out, HW.out]), HB3.out⟩
              · have HZ := hide (HE.out.trans (HG.out.trans (firstP_at (by rw [HM.out]; exact hlt2) (by rw [HX.out, HN.out]; exact hat))))
                have HA := hide (show x < 0 ∨ (k : Int) - 1 < x by omega)
                clear hat
                go_wp2_with fail
                go_quiet ((go_at_call 59; exact Calls.quiet_of_same (l1In_no _ _ _ HA.out _)))
                go_wp2
                go_ret
                exact ⟨ret_int HZ.out.symm, drewN_on HB2.out ⟨_, rfl⟩⟩
            · have HZ := hide (HE.out.trans (HG.out.trans (firstP_end (by rw [HM.out]; omega))))
              go_wp2
              go_ret
              exact ⟨ret_int HZ.out.symm, HB2.out⟩

/-- 'spec.l1Fault' of a reading behind a pointer. -/
theorem l1Fault {S T : Nat → Prop} {w : World} {u v : Value} {bd : Nat} {xss : List (List Int)} {ps : List (Int × List Int)} (hd0 : w.cell? ⟨bd, 0, none⟩ = some u) (hd1 : w.cell? ⟨bd, 1, none⟩ = some v) (hu : RdII S w u xss) (hv : RdP T w v ps) :
    Calls Try.prog 47 #[.pointer (some ⟨bd, 0, none⟩)] w fun e w' => e = .returned (.int .i64 (diskF xss ps)) ∧ ∃ q, w' = w.drewN q := by
  obtain ⟨ao, c, rfl, hn⟩ := hu.shape
  obtain ⟨ao', c', rfl, hm⟩ := hv.shape
  exact l1Fault_cells xss ps _ _ bd ao ao' c c' w rfl rfl hn hm hd0 hd1 hu hv
end Go.Proofs.Ytbjmmhcbjcngcaa
