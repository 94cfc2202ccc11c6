/- 'DiskFault' of the program and of the model, walked. -/
import Derived.Test.YtbjmmhcbjcngcaaFault
namespace Go.Proofs.Ytbjmmhcbjcngcaa
open Go.RowKit

theorem isPlace_yes (n c : Nat) (ao : Option Addr) (v : Value) (at_ : Int) (w : World) (h1 : 0 ≤ at_) (h2 : at_ < (n : Int)) :
    Calls Try.prog 74 #[.agg #[.slice ao n c, v], .int .i64 at_] w fun e w' => e = .returned (.bool true) ∧ Below w.heap.size w w' := by
  go_enter Try.func74, Try.ntmps74
  go_wp2
  go_ret
  exact ⟨by simp, below_alloc _ _⟩

theorem isPlace_no (n c : Nat) (ao : Option Addr) (v : Value) (at_ : Int) (w : World) (h : ¬ (0 ≤ at_ ∧ at_ < (n : Int))) :
    Calls Try.prog 74 #[.agg #[.slice ao n c, v], .int .i64 at_] w fun e w' => e = .returned (.bool false) ∧ Below w.heap.size w w' := by
  by_cases h1 : at_ < 0
  · clear h
    go_enter Try.func74, Try.ntmps74
    go_wp2
    go_ret
    exact ⟨by simp, below_alloc _ _⟩
  · have h2 : (n : Int) ≤ at_ := by omega
    clear h
    go_enter Try.func74, Try.ntmps74
    go_wp2
    go_ret
    exact ⟨by simp [h2], below_alloc _ _⟩

theorem RdII.at {S : Nat → Prop} {w : World} {ao : Option Addr} {n c : Nat} {xss : List (List Int)} (h : RdII S w (.slice ao n c) xss) {k : Nat} (hk : k < xss.length) :
    ∃ b off V, ao = some ⟨b, off, none⟩ ∧ w.cell? ⟨b, off + k, none⟩ = some V ∧ RdI S w V (xss.getD k []) := by
  obtain ⟨ao', c', e, _, h3⟩ := h
  injection e with e1 e2 e3
  subst e1
  obtain ⟨b, off, V, rfl, _, hc⟩ := h3 (by rintro rfl; exact absurd hk (Nat.not_lt_zero _))
  exact ⟨b, off, V k, rfl, (hc k hk).1, (hc k hk).2⟩

theorem RdP.at {S : Nat → Prop} {w : World} {ao : Option Addr} {n c : Nat} {ps : List (Int × List Int)} (h : RdP S w (.slice ao n c) ps) {k : Nat} (hk : k < ps.length) :
    ∃ b off V, ao = some ⟨b, off, none⟩ ∧ w.cell? ⟨b, off + k * 2, none⟩ = some (.int .i64 (ps.getD k (0, [])).1) ∧ w.cell? ⟨b, off + k * 2 + 1, none⟩ = some V ∧ RdI S w V (ps.getD k (0, [])).2 := by
  obtain ⟨ao', c', e, _, h3⟩ := h
  injection e with e1 e2 e3
  subst e1
  obtain ⟨b, off, V, rfl, _, hc⟩ := h3 (by rintro rfl; exact absurd hk (Nat.not_lt_zero _))
  exact ⟨b, off, V k, rfl, (hc k hk).1, (hc k hk).2.1, (hc k hk).2.2⟩

theorem RdII.shape {S : Nat → Prop} {w : World} {v : Value} {xss : List (List Int)} (h : RdII S w v xss) : ∃ ao c, v = .slice ao xss.length c ∧ xss.length ≤ 9223372036854775807 := by
  obtain ⟨ao, c, h1, h2, _⟩ := h
  exact ⟨ao, c, h1, h2⟩
theorem RdP.shape {S : Nat → Prop} {w : World} {v : Value} {ps : List (Int × List Int)} (h : RdP S w v ps) : ∃ ao c, v = .slice ao ps.length c ∧ ps.length ≤ 9223372036854775807 := by
  obtain ⟨ao, c, h1, h2, _⟩ := h
  exact ⟨ao, c, h1, h2⟩

set_option maxHeartbeats 1000000 in
theorem implFault_cells {S T : Nat → Prop} (xss : List (List Int)) (ps : List (Int × List Int)) (n m : Nat) (ao ao' : Option Addr) (c c' : Nat) (w : World) (hn : xss.length = n) (hm : ps.length = m) (hn' : n ≤ 9223372036854775807) (hm' : m ≤ 9223372036854775807)
    (hu : RdII S w (.slice ao n c) xss) (hv : RdP T w (.slice ao' m c') ps) :
    Calls Try.prog 63 #[.agg #[.slice ao n c, .slice ao' m c']] w fun e w' => e = .returned (.int .i64 (diskF xss ps)) ∧ Below w.heap.size w w' := by
  have HU := hide hu
  have HV := hide hv
  have HN := hide hn
  have HM := hide hm
  clear hu hv hn hm
  by_cases h70 : 70 < n
  · have HZ := hide (diskF_many (xss := xss) (ps := ps) (by rw [HN.out]; exact Or.inl h70))
    go_enter Try.func63, Try.ntmps63
    go_wp2
    go_ret
    exact ⟨ret_int HZ.out.symm, below_alloc _ _⟩
  · by_cases h200 : 200 < m
    · have HZ := hide (diskF_many (xss := xss) (ps := ps) (by rw [HM.out]; exact Or.inr h200))
      go_enter Try.func63, Try.ntmps63
      go_wp2
      go_ret
      exact ⟨ret_int HZ.out.symm, below_alloc _ _⟩
    · have HS := hide (show ¬ (70 < xss.length ∨ 200 < ps.length) by rw [HN.out, HM.out]; omega)
      go_enter Try.func63, Try.ntmps63
      go_wp2
      go_loopw [22] (fun i wr => ∃ k : Nat, k ≤ n ∧ i = .int .i64 k ∧ Hid (firstF xss = firstF (xss.drop k)) ∧ Hid (Below (w.alloc (.cells #[.slice ao n c, .slice ao' m c'] 32)).heap.size (w.alloc (.cells #[.slice ao n c, .slice ao' m c'] 32)) wr)) (fun i _ => n - (intOf i).toNat)
      case atStart => exact ⟨0, Nat.zero_le _, rfl, by simp [Hid], Below.refl _ _⟩
      case round =>
        obtain ⟨k, hk, rfl, HF, HB⟩ := hrel
        by_cases hlt : k < n
        · obtain ⟨b, off, V, rfl, q1, q2⟩ := HU.out.at (k := k) (by rw [HN.out]; exact hlt)
          have g1 := cell_later HB.out (cell_later (below_alloc w _) q1)
          have R1 := hide ((q2.later (below_alloc w _)).later HB.out)
          clear q1 q2
          by_cases hw : wordsF (xss.getD k []) = 0
          · have HF2 := hide (HF.out.trans (firstF_ok (by rw [HN.out]; exact hlt) hw))
            have HW := hide hw
            clear hw
            go_wp2_with fail
            refine (wordsFault R1.out).mono ?_
            rintro e w' ⟨he, q, rfl⟩
            rw [HW.out] at he
            subst he
            go_wp2
            go_roundw
            case rel => exact ⟨k + 1, by omega, by go_num, HF2.out, below_on HB.out (below_drewN _ q)⟩
            case measure => simp [intOf]; omega
          · have HF2 := hide ((diskF_rows HS.out (by rw [HF.out, firstF_no (by rw [HN.out]; exact hlt) hw]; exact hw)).trans (HF.out.trans (firstF_no (by rw [HN.out]; exact hlt) hw)))
            obtain ⟨z, hz⟩ : ∃ z, wordsF (xss.getD k []) = z := ⟨_, rfl⟩
            have HW := hide hz
            rw [hz] at hw
            clear hz
            go_wp2_with fail
            refine (wordsFault R1.out).mono ?_
            rintro e w' ⟨he, q, rfl⟩
            rw [HW.out] at he
            subst he
            go_wp2
            go_ret
            exact ⟨ret_int (by rw [HF2.out, HW.out]), below_on (below_alloc _ _) (below_on HB.out (below_drewN _ q))⟩
        · have hkn : k = n := by omega
          subst hkn
          have HE := hide (diskF_puts HS.out (HF.out.trans (firstF_end (by rw [HN.out]; exact Nat.le_refl _))))
          have g1 : wr.cell? ⟨w.heap.size, 1, none⟩ = some (.slice ao' m c') := cell_later HB.out (by simp [go_sem])
          clear HF
          go_wp2
          go_loopw [35] (fun i wr => ∃ j : Nat, j ≤ m ∧ i = .int .i64 j ∧ Hid (firstP xss.length ps = firstP xss.length (ps.drop j)) ∧ Hid (Below (w.alloc (.cells #[.slice ao k c, .slice ao' m c'] 32)).heap.size (w.alloc (.cells #[.slice ao k c, .slice ao' m c'] 32)) wr)) (fun i _ => m - (intOf i).toNat)
          case atStart => exact ⟨0, Nat.zero_le _, rfl, by simp [Hid], HB.out⟩
          case round =>
            obtain ⟨j, hj, rfl, HG, HB2⟩ := hrel
            clear HB g1
            by_cases hlt2 : j < m
            · obtain ⟨b2, off2, V2, rfl, q1, q2, q3⟩ := HV.out.at (k := j) (by rw [HM.out]; exact hlt2)
              obtain ⟨ao3, c3, rfl⟩ := q3.shape
              have g1 := cell_later HB2.out (cell_later (below_alloc w _) q1)
              have g2 := cell_later HB2.out (cell_later (below_alloc w _) q2)
              have R2 := hide ((q3.later (below_alloc w _)).later HB2.out)
              have g3 : wr.cell? ⟨w.heap.size, 0, none⟩ = some (.slice ao k c) := cell_later HB2.out (by simp [go_sem])
              have g4 : wr.cell? ⟨w.heap.size, 1, none⟩ = some (.slice (some ⟨b2, off2, none⟩) m c') := cell_later HB2.out (by simp [go_sem])
              have hz1 : w.heap.size < wr.heap.size := by have := HB2.out.size; simp at this; omega
              obtain ⟨x, hx⟩ : ∃ x, (ps.getD j (0, [])).1 = x := ⟨_, rfl⟩
              obtain ⟨l, hl⟩ : ∃ l, (ps.getD j (0, [])).2.length = l := ⟨_, rfl⟩
              have HX := hide hx
              have HL := hide hl
              rw [hx] at g1
              rw [hl] at g2 R2
              clear q1 q2 q3 hx hl
              by_cases hat : 0 ≤ x ∧ x < (k : Int)
              · obtain ⟨ha1, ha2⟩ := hat
                go_wp2_with fail
                refine (isPlace_yes k c ao _ x _ ha1 ha2).mono ?_
                rintro e w1 ⟨rfl, hb1⟩
                have g5 : w1.cell? ⟨wr.heap.size, 1, none⟩ = some (.slice ao3 l c3) := cell_later hb1 (by simp [go_sem])
                have R3 := hide ((R2.out.later (below_alloc _ _)).later hb1)
                have HB3 := hide (below_on HB2.out (below_on (below_alloc _ _) hb1))
                clear hb1 g1 g2 g3 g4 R2
                by_cases hw : wordsF (ps.getD j (0, [])).2 = 0
                · have HF2 := hide (HG.out.trans (firstP_ok (by rw [HM.out]; exact hlt2) (by rw [HX.out, HN.out]; exact ⟨ha1, ha2⟩) hw))
                  have HW := hide hw
                  clear hw
                  go_wp2_with fail
                  refine (wordsFault R3.out).mono ?_
                  rintro e w' ⟨he, q, rfl⟩
                  rw [HW.out] at he
                  subst he
                  go_wp2
                  go_roundw
                  case rel => exact ⟨j + 1, by omega, by go_num, HF2.out, below_on HB3.out (below_drewN _ q)⟩
                  case measure => simp [intOf]; omega
                · have HF2 := hide (HE.out.trans (HG.out.trans (firstP_no (by rw [HM.out]; exact hlt2) (by rw [HX.out, HN.out]; exact ⟨ha1, ha2⟩) hw)))
                  obtain ⟨z, hz⟩ : ∃ z, wordsF (ps.getD j (0, [])).2 = z := ⟨_, rfl⟩
                  have HW := hide hz
                  rw [hz] at hw
                  clear hz
                  go_wp2_with fail
                  refine (wordsFault R3.out).mono ?_
                  rintro e w' ⟨he, q, rfl⟩
                  rw [HW.out] at he
                  subst he
                  go_wp2
                  go_ret
                  exact ⟨ret_int (by rw [HF2.out, HW.out]), below_on (below_alloc _ _) (below_on HB3.out (below_drewN _ q))⟩
              · have HZ := hide (HE.out.trans (HG.out.trans (firstP_at (by rw [HM.out]; exact hlt2) (by rw [HX.out, HN.out]; exact hat))))
                have HA := hide hat
                clear hat
                go_wp2_with fail
                refine (isPlace_no k c ao _ x _ HA.out).mono ?_
                rintro e w1 ⟨rfl, hb1⟩
                have HB3 := hide (below_on HB2.out (below_on (below_alloc _ _) hb1))
                clear hb1 g1 g2 g3 g4 R2
                go_wp2
                go_ret
                exact ⟨ret_int HZ.out.symm, below_on (below_alloc _ _) HB3.out⟩
            · have HZ := hide (HE.out.trans (HG.out.trans (firstP_end (by rw [HM.out]; omega))))
              go_wp2
              go_ret
              exact ⟨ret_int HZ.out.symm, below_on (below_alloc _ _) HB2.out⟩

/-- 'impl.DiskFault' of a reading. -/
theorem implFault {S T : Nat → Prop} {w : World} {u v : Value} {xss : List (List Int)} {ps : List (Int × List Int)} (hu : RdII S w u xss) (hv : RdP T w v ps) :
    Calls Try.prog 63 #[.agg #[u, v]] w fun e w' => e = .returned (.int .i64 (diskF xss ps)) ∧ Below w.heap.size w w' := by
  obtain ⟨ao, c, rfl, hn⟩ := hu.shape
  obtain ⟨ao', c', rfl, hm⟩ := hv.shape
  exact implFault_cells xss ps _ _ ao ao' c c' w rfl rfl hn hm hu hv
end Go.Proofs.Ytbjmmhcbjcngcaa
