/- The law 'FnTears', walked. Made by program in part. -/
import Derived.Test.YtfichaljjkjcoaaDraw3
import Derived.Test.YtfichaljjkjcoaaTears
namespace Go.Proofs.Ytfichaljjkjcoaa
open Go.RowKit

theorem lwBig (ao : Option Addr) (n c : Nat) (w : World) (hn : n ≤ 9223372036854775807) :
    Calls Try.prog 9 #[.slice ao n c] w fun e w' => e = .returned (.bool (decide (1048576 < n))) ∧ w' = w := by
  by_cases h : 1048576 < n
  · go_enter Try.func9, Try.ntmps9
    go_wp2
    go_ret
    exact ⟨by simp; omega, rfl⟩
  · go_enter Try.func9, Try.ntmps9
    go_wp2
    go_ret
    exact ⟨by simp; omega, rfl⟩

theorem joinT_at {X Y : List Int} (i : Nat) : (joinT (X.take 32) (Y.drop 32)).getD i 0 = if i < 32 then X.getD i 0 else Y.getD i 0 := by
  by_cases hb : Y.drop 32 = []
  · rw [hb, joinT_none]
    have hl : Y.length ≤ 32 := by have := congrArg List.length hb; simp at this; omega
    by_cases h : i < 32
    · rw [if_pos h]; simp [List.getD, h]
    · rw [if_neg h]
      simp only [List.getD]
      rw [List.getElem?_eq_none (by simp; omega), List.getElem?_eq_none (by omega)]
  · rw [joinT_some hb]
    by_cases h : i < 32
    · rw [if_pos h]
      by_cases hx : i < X.length
      · rw [List.append_assoc]
        simp only [List.getD]
        rw [List.getElem?_append_left (by simp; omega)]
        simp [h]
      · simp only [List.getD]
        rw [List.append_assoc, List.getElem?_append_right (by simp; omega), List.getElem?_eq_none (l := X) (by omega), List.getElem?_append_left (by simp; omega), List.getElem?_replicate]
        split <;> rfl
    · rw [if_neg h]
      simp only [List.getD]
      have hl : (X.take 32 ++ List.replicate (32 - (X.take 32).length) (0 : Int)).length = 32 := by simp; omega
      rw [List.getElem?_append_right (by rw [hl]; omega), hl, List.getElem?_drop]
      congr 2
      omega

theorem tear_at (old next : List Int) (p : Int) (i : Nat) : (tear old next p).getD i 0 = if i < 32 then (if p = 1 ∨ p = 2 then next else old).getD i 0 else (if p = 1 ∨ p = 3 then next else old).getD i 0 := by
  unfold tear tearA tearB
  split <;> split <;> exact joinT_at i

theorem field_ints0 (x y : Value) (w : World) : (Instr.field 39 (.agg #[x, y]) 0).run Try.prog w = .ok x w := by
  simp [Instr.field, run_underlying Try.underlying39, asAgg, part, isAgg, run_underlying Try.underlying2]
theorem field_ints1 (x y : Value) (w : World) : (Instr.field 39 (.agg #[x, y]) 1).run Try.prog w = .ok y w := by
  simp [Instr.field, run_underlying Try.underlying39, asAgg, part, isAgg, run_underlying Try.underlying28]

set_option linter.unusedSimpArgs false in
set_option maxHeartbeats 16000000 in
set_option maxRecDepth 4000 in
theorem lawTears {w : World} {v : Value} {bs : List Nat} (hv : RdB w.heap.size w v bs) :
    Calls Try.prog 4 #[v] w fun e w' => e = .returned (.bool true) ∧ Below w.heap.size w w' := by
  have HV := hide hv
  obtain ⟨ao, c, rfl, h2, h3⟩ := hv
  clear h3
  go_enter Try.func4, Try.ntmps4
  go_wp2_with fail
  refine (lwBig ao bs.length c w (by omega)).mono ?_
  rintro e wx ⟨he, hwx⟩
  rw [decide_eq_false (by omega : ¬ 1048576 < bs.length)] at he
  rw [he, hwx]
  clear he hwx
  go_wp2_with fail
  refine (drawTear HV.out).mono ?_
  rintro e w1 ⟨z1, z2, old, next, p, rfl, hb1, hl1, hl2, hr1, hr2⟩
  have HB1 := hide hb1
  have HR1 := hide hr1
  have HR2 := hide hr2
  obtain ⟨ao1, c1, rfl⟩ := hr1.shape
  obtain ⟨ao2, c2, rfl⟩ := hr2.shape
  obtain ⟨lo, hlo⟩ : ∃ lo, old.length = lo := ⟨_, rfl⟩
  obtain ⟨ln, hln⟩ : ∃ ln, next.length = ln := ⟨_, rfl⟩
  have HLo := hide hlo
  have HLn := hide hln
  rw [hlo] at HR1 hl1 ⊢
  rw [hln] at HR2 hl2 ⊢
  clear hb1 hr1 hr2 hlo hln
  go_wp2_with fail
  refine (implTear p HR1.out HR2.out).mono ?_
  rintro e w2 ⟨zr, rfl, hb2, ho2⟩
  obtain ⟨aor, cr, rfl⟩ := ho2.shape
  obtain ⟨lr, hlr⟩ : ∃ lr, (tearXs old next p).length = lr := ⟨_, rfl⟩
  have HLr := hide hlr
  rw [hlr] at ho2 ⊢
  obtain ⟨code, hcode⟩ : ∃ code, tearF old next p = code := ⟨_, rfl⟩
  have HCo := hide hcode
  rw [hcode]
  have HB2 := hide hb2
  have HO2 := hide ho2
  clear hb2 ho2 hlr hcode
  have AV := hide (below_alloc w2 (.cells #[.int .i64 code, .slice aor lr cr] 39))
  have m0 : (w2.alloc (.cells #[.int .i64 code, .slice aor lr cr] 39)).cell? ⟨w2.heap.size, 0, none⟩ = some (.int .i64 code) := by simp [go_sem]
  have m1 : (w2.alloc (.cells #[.int .i64 code, .slice aor lr cr] 39)).cell? ⟨w2.heap.size, 1, none⟩ = some (.slice aor lr cr) := by simp [go_sem]
  have HBa := hide (HB1.out.trans ((below_on HB2.out AV.out).mono HB1.out.size))
  have HSp := hide (fun (q : Nat) => specTear (w := (w2.alloc (.cells #[.int .i64 code, .slice aor lr cr] 39)).drewN q) p ((HR1.out.later (below_on HB2.out AV.out)).drewN q) ((HR2.out.later (below_on HB2.out AV.out)).drewN q))
  rw [HCo.out] at HSp
  have fd0 := field_ints0
  have fd1 := field_ints1
  by_cases hc0 : code = 0

  · subst hc0
    have HF : Hid (wordsF old = 0 ∧ wordsF next = 0 ∧ 0 ≤ p ∧ p ≤ 3) := by
      have := HCo.out
      unfold tearF at this
      split at this
      · rename_i h1
        split at this
        · rename_i h2
          split at this
          · rename_i h3
            exact ⟨h1, h2, h3⟩
          · exact absurd this (by decide)
        · rename_i h2
          exact absurd this h2
      · rename_i h1
        exact absurd this h1
    have HTx : Hid (tearXs old next p = tear old next p) := by unfold Hid tearXs; rw [if_pos HCo.out]
    have hlr64 : lr ≤ 64 := by rw [← HLr.out, HTx.out]; exact tear_len (wordsF_zero HF.out.1).1 (wordsF_zero HF.out.2.1).1
    have RO := hide (HR1.out.later (below_on HB2.out AV.out))
    have RN := hide (HR2.out.later (below_on HB2.out AV.out))
    have RR := hide ((HO2.out.later AV.out).rd)
    obtain ⟨W, hW⟩ : ∃ W, w2.alloc (.cells #[.int .i64 0, .slice aor lr cr] 39) = W := ⟨_, rfl⟩
    have HWe := hide hW
    have hWs : w2.heap.size < W.heap.size := by rw [← hW]; simp
    rw [hW] at m0 m1 HBa HSp RO RN RR
    go_wp2_with fail
    clear hW
    go_loopw [7] (fun i wr => ∃ k : Nat, k ≤ 64 ∧ i = .int .i64 k ∧ wr = W) (fun i _ => 64 - (intOf i).toNat)
    case atStart => exact ⟨0, by omega, rfl, rfl⟩
    case round =>
      obtain ⟨k, hk, rfl, rfl⟩ := hrel
      by_cases hlt : k < 64
      · have HAt := hide (tear_at old next p k)
        have gO : Hid (k < lo → ∃ b off, ao1 = some ⟨b, off, none⟩ ∧ wr.cell? ⟨b, off + k, none⟩ = some (.int .i64 (old.getD k 0))) := fun h => RO.out.at (by rw [HLo.out]; exact h)
        have gN : Hid (k < ln → ∃ b off, ao2 = some ⟨b, off, none⟩ ∧ wr.cell? ⟨b, off + k, none⟩ = some (.int .i64 (next.getD k 0))) := fun h => RN.out.at (by rw [HLn.out]; exact h)
        have gR : Hid (k < lr → ∃ b off, aor = some ⟨b, off, none⟩ ∧ wr.cell? ⟨b, off + k, none⟩ = some (.int .i64 ((tear old next p).getD k 0))) := fun h => by have := RR.out.at (k := k) (by rw [HLr.out]; exact h); rwa [HTx.out] at this
        have zO : Hid (¬ k < lo → old.getD k 0 = 0) := fun h => by simp [List.getD, List.getElem?_eq_none (show old.length ≤ k by rw [HLo.out]; omega)]
        have zN : Hid (¬ k < ln → next.getD k 0 = 0) := fun h => by simp [List.getD, List.getElem?_eq_none (show next.length ≤ k by rw [HLn.out]; omega)]
        have zR : Hid (¬ k < lr → (tear old next p).getD k 0 = 0) := fun h => by rw [← HTx.out]; simp [List.getD, List.getElem?_eq_none (show (tearXs old next p).length ≤ k by rw [HLr.out]; omega)]
        obtain ⟨X, hX⟩ : ∃ X, (tear old next p).getD k 0 = X := ⟨_, rfl⟩
        have HX := hide hX
        rw [hX] at HAt gR zR
        clear hX
        have hp4 : p = 0 ∨ p = 1 ∨ p = 2 ∨ p = 3 := by have := HF.out; omega
        clear RO RN RR HR1 HR2 HO2 HSp HF HTx
        by_cases h32 : k < 32
        · rcases hp4 with rfl | rfl | rfl | rfl
          · have hXF : X = old.getD k 0 := by rw [HAt.out]; simp [h32]
            have HXF := hide hXF
            clear hXF
            by_cases hF : k < lo
            · obtain ⟨b, off, rfl, q1⟩ := gO.out hF
              rw [← HXF.out] at q1
              by_cases hR : k < lr
              · obtain ⟨b', off', rfl, q2⟩ := gR.out hR
                clear gO gN gR zO zN zR HAt HX HXF HCo
                go_wp2
                go_roundw
                case rel => exact ⟨k + 1, hlt, by go_num, by simp⟩
                case measure => simp [intOf]; omega
              · have hX0 : X = 0 := zR.out hR
                subst hX0
                clear gO gN gR zO zN zR HAt HX HXF HCo
                go_wp2
                go_roundw
                case rel => exact ⟨k + 1, hlt, by go_num, by simp⟩
                case measure => simp [intOf]; omega
            · have hX0 : X = 0 := HXF.out.trans (zO.out hF)
              subst hX0
              by_cases hR : k < lr
              · obtain ⟨b', off', rfl, q2⟩ := gR.out hR
                clear gO gN gR zO zN zR HAt HX HXF HCo
                go_wp2
                go_roundw
                case rel => exact ⟨k + 1, hlt, by go_num, by simp⟩
                case measure => simp [intOf]; omega
              · skip
                clear gO gN gR zO zN zR HAt HX HXF HCo
                go_wp2
                go_roundw
                case rel => exact ⟨k + 1, hlt, by go_num, by simp⟩
                case measure => simp [intOf]; omega
          · have hXF : X = next.getD k 0 := by rw [HAt.out]; simp [h32]
            have HXF := hide hXF
            clear hXF
            by_cases hF : k < ln
            · obtain ⟨b, off, rfl, q1⟩ := gN.out hF
              rw [← HXF.out] at q1
              by_cases hR : k < lr
              · obtain ⟨b', off', rfl, q2⟩ := gR.out hR
                clear gO gN gR zO zN zR HAt HX HXF HCo
                go_wp2
                go_roundw
                case rel => exact ⟨k + 1, hlt, by go_num, by simp⟩
                case measure => simp [intOf]; omega
              · have hX0 : X = 0 := zR.out hR
                subst hX0
                clear gO gN gR zO zN zR HAt HX HXF HCo
                go_wp2
                go_roundw
                case rel => exact ⟨k + 1, hlt, by go_num, by simp⟩
                case measure => simp [intOf]; omega
            · have hX0 : X = 0 := HXF.out.trans (zN.out hF)
              subst hX0
              by_cases hR : k < lr
              · obtain ⟨b', off', rfl, q2⟩ := gR.out hR
                clear gO gN gR zO zN zR HAt HX HXF HCo
                go_wp2
                go_roundw
                case rel => exact ⟨k + 1, hlt, by go_num, by simp⟩
                case measure => simp [intOf]; omega
              · skip
                clear gO gN gR zO zN zR HAt HX HXF HCo
                go_wp2
                go_roundw
                case rel => exact ⟨k + 1, hlt, by go_num, by simp⟩
                case measure => simp [intOf]; omega
          · have hXF : X = next.getD k 0 := by rw [HAt.out]; simp [h32]
            have HXF := hide hXF
            clear hXF
            by_cases hF : k < ln
            · obtain ⟨b, off, rfl, q1⟩ := gN.out hF
              rw [← HXF.out] at q1
              by_cases hR : k < lr
              · obtain ⟨b', off', rfl, q2⟩ := gR.out hR
                clear gO gN gR zO zN zR HAt HX HXF HCo
                go_wp2
                go_roundw
                case rel => exact ⟨k + 1, hlt, by go_num, by simp⟩
                case measure => simp [intOf]; omega
              · have hX0 : X = 0 := zR.out hR
                subst hX0
                clear gO gN gR zO zN zR HAt HX HXF HCo
                go_wp2
                go_roundw
                case rel => exact ⟨k + 1, hlt, by go_num, by simp⟩
                case measure => simp [intOf]; omega
            · have hX0 : X = 0 := HXF.out.trans (zN.out hF)
              subst hX0
              by_cases hR : k < lr
              · obtain ⟨b', off', rfl, q2⟩ := gR.out hR
                clear gO gN gR zO zN zR HAt HX HXF HCo
                go_wp2
                go_roundw
                case rel => exact ⟨k + 1, hlt, by go_num, by simp⟩
                case measure => simp [intOf]; omega
              · skip
                clear gO gN gR zO zN zR HAt HX HXF HCo
                go_wp2
                go_roundw
                case rel => exact ⟨k + 1, hlt, by go_num, by simp⟩
                case measure => simp [intOf]; omega
          · have hXF : X = old.getD k 0 := by rw [HAt.out]; simp [h32]
            have HXF := hide hXF
            clear hXF
            by_cases hF : k < lo
            · obtain ⟨b, off, rfl, q1⟩ := gO.out hF
              rw [← HXF.out] at q1
              by_cases hR : k < lr
              · obtain ⟨b', off', rfl, q2⟩ := gR.out hR
                clear gO gN gR zO zN zR HAt HX HXF HCo
                go_wp2
                go_roundw
                case rel => exact ⟨k + 1, hlt, by go_num, by simp⟩
                case measure => simp [intOf]; omega
              · have hX0 : X = 0 := zR.out hR
                subst hX0
                clear gO gN gR zO zN zR HAt HX HXF HCo
                go_wp2
                go_roundw
                case rel => exact ⟨k + 1, hlt, by go_num, by simp⟩
                case measure => simp [intOf]; omega
            · have hX0 : X = 0 := HXF.out.trans (zO.out hF)
              subst hX0
              by_cases hR : k < lr
              · obtain ⟨b', off', rfl, q2⟩ := gR.out hR
                clear gO gN gR zO zN zR HAt HX HXF HCo
                go_wp2
                go_roundw
                case rel => exact ⟨k + 1, hlt, by go_num, by simp⟩
                case measure => simp [intOf]; omega
              · skip
                clear gO gN gR zO zN zR HAt HX HXF HCo
                go_wp2
                go_roundw
                case rel => exact ⟨k + 1, hlt, by go_num, by simp⟩
                case measure => simp [intOf]; omega
        · rcases hp4 with rfl | rfl | rfl | rfl
          · have hXF : X = old.getD k 0 := by rw [HAt.out]; simp [h32]
            have HXF := hide hXF
            clear hXF
            by_cases hF : k < lo
            · obtain ⟨b, off, rfl, q1⟩ := gO.out hF
              rw [← HXF.out] at q1
              by_cases hR : k < lr
              · obtain ⟨b', off', rfl, q2⟩ := gR.out hR
                clear gO gN gR zO zN zR HAt HX HXF HCo
                go_wp2
                go_roundw
                case rel => exact ⟨k + 1, hlt, by go_num, by simp⟩
                case measure => simp [intOf]; omega
              · have hX0 : X = 0 := zR.out hR
                subst hX0
                clear gO gN gR zO zN zR HAt HX HXF HCo
                go_wp2
                go_roundw
                case rel => exact ⟨k + 1, hlt, by go_num, by simp⟩
                case measure => simp [intOf]; omega
            · have hX0 : X = 0 := HXF.out.trans (zO.out hF)
              subst hX0
              by_cases hR : k < lr
              · obtain ⟨b', off', rfl, q2⟩ := gR.out hR
                clear gO gN gR zO zN zR HAt HX HXF HCo
                go_wp2
                go_roundw
                case rel => exact ⟨k + 1, hlt, by go_num, by simp⟩
                case measure => simp [intOf]; omega
              · skip
                clear gO gN gR zO zN zR HAt HX HXF HCo
                go_wp2
                go_roundw
                case rel => exact ⟨k + 1, hlt, by go_num, by simp⟩
                case measure => simp [intOf]; omega
          · have hXF : X = next.getD k 0 := by rw [HAt.out]; simp [h32]
            have HXF := hide hXF
            clear hXF
            by_cases hF : k < ln
            · obtain ⟨b, off, rfl, q1⟩ := gN.out hF
              rw [← HXF.out] at q1
              by_cases hR : k < lr
              · obtain ⟨b', off', rfl, q2⟩ := gR.out hR
                clear gO gN gR zO zN zR HAt HX HXF HCo
                go_wp2
                go_roundw
                case rel => exact ⟨k + 1, hlt, by go_num, by simp⟩
                case measure => simp [intOf]; omega
              · have hX0 : X = 0 := zR.out hR
                subst hX0
                clear gO gN gR zO zN zR HAt HX HXF HCo
                go_wp2
                go_roundw
                case rel => exact ⟨k + 1, hlt, by go_num, by simp⟩
                case measure => simp [intOf]; omega
            · have hX0 : X = 0 := HXF.out.trans (zN.out hF)
              subst hX0
              by_cases hR : k < lr
              · obtain ⟨b', off', rfl, q2⟩ := gR.out hR
                clear gO gN gR zO zN zR HAt HX HXF HCo
                go_wp2
                go_roundw
                case rel => exact ⟨k + 1, hlt, by go_num, by simp⟩
                case measure => simp [intOf]; omega
              · skip
                clear gO gN gR zO zN zR HAt HX HXF HCo
                go_wp2
                go_roundw
                case rel => exact ⟨k + 1, hlt, by go_num, by simp⟩
                case measure => simp [intOf]; omega
          · have hXF : X = old.getD k 0 := by rw [HAt.out]; simp [h32]
            have HXF := hide hXF
            clear hXF
            by_cases hF : k < lo
            · obtain ⟨b, off, rfl, q1⟩ := gO.out hF
              rw [← HXF.out] at q1
              by_cases hR : k < lr
              · obtain ⟨b', off', rfl, q2⟩ := gR.out hR
                clear gO gN gR zO zN zR HAt HX HXF HCo
                go_wp2
                go_roundw
                case rel => exact ⟨k + 1, hlt, by go_num, by simp⟩
                case measure => simp [intOf]; omega
              · have hX0 : X = 0 := zR.out hR
                subst hX0
                clear gO gN gR zO zN zR HAt HX HXF HCo
                go_wp2
                go_roundw
                case rel => exact ⟨k + 1, hlt, by go_num, by simp⟩
                case measure => simp [intOf]; omega
            · have hX0 : X = 0 := HXF.out.trans (zO.out hF)
              subst hX0
              by_cases hR : k < lr
              · obtain ⟨b', off', rfl, q2⟩ := gR.out hR
                clear gO gN gR zO zN zR HAt HX HXF HCo
                go_wp2
                go_roundw
                case rel => exact ⟨k + 1, hlt, by go_num, by simp⟩
                case measure => simp [intOf]; omega
              · skip
                clear gO gN gR zO zN zR HAt HX HXF HCo
                go_wp2
                go_roundw
                case rel => exact ⟨k + 1, hlt, by go_num, by simp⟩
                case measure => simp [intOf]; omega
          · have hXF : X = next.getD k 0 := by rw [HAt.out]; simp [h32]
            have HXF := hide hXF
            clear hXF
            by_cases hF : k < ln
            · obtain ⟨b, off, rfl, q1⟩ := gN.out hF
              rw [← HXF.out] at q1
              by_cases hR : k < lr
              · obtain ⟨b', off', rfl, q2⟩ := gR.out hR
                clear gO gN gR zO zN zR HAt HX HXF HCo
                go_wp2
                go_roundw
                case rel => exact ⟨k + 1, hlt, by go_num, by simp⟩
                case measure => simp [intOf]; omega
              · have hX0 : X = 0 := zR.out hR
                subst hX0
                clear gO gN gR zO zN zR HAt HX HXF HCo
                go_wp2
                go_roundw
                case rel => exact ⟨k + 1, hlt, by go_num, by simp⟩
                case measure => simp [intOf]; omega
            · have hX0 : X = 0 := HXF.out.trans (zN.out hF)
              subst hX0
              by_cases hR : k < lr
              · obtain ⟨b', off', rfl, q2⟩ := gR.out hR
                clear gO gN gR zO zN zR HAt HX HXF HCo
                go_wp2
                go_roundw
                case rel => exact ⟨k + 1, hlt, by go_num, by simp⟩
                case measure => simp [intOf]; omega
              · skip
                clear gO gN gR zO zN zR HAt HX HXF HCo
                go_wp2
                go_roundw
                case rel => exact ⟨k + 1, hlt, by go_num, by simp⟩
                case measure => simp [intOf]; omega
      · have hk64 : k = 64 := by omega
        subst hk64
        go_wp2_with fail
        go_region_held3 (fun w' => w'.cell? ⟨w2.heap.size, 1, none⟩ = some (.slice aor lr cr)) (first | exact m1 | exact e0) (first | (go_at_call 15; refine (HSp.out 1).mono ?_; rintro e w4 ⟨z4, rfl, hb4, ho4⟩; obtain ⟨ao4, c4, hz4⟩ := ho4.shape; rw [HLr.out] at hz4; subst hz4; have e0 := cell_later hb4 m1; have HB4 := hide (HBa.out.trans ((below_on (below_drewN _ 1) hb4).mono HBa.out.size)); clear hb4 ho4))
        go_wp2
        go_ret
        exact ⟨rfl, HB4.out⟩
  · go_wp2_with fail
    go_region_held3 (fun w' => w'.cell? ⟨w2.heap.size, 0, none⟩ = some (.int .i64 code)) (first | exact m0 | exact e0) (first | (go_at_call 15; refine (HSp.out 1).mono ?_; rintro e w4 ⟨z4, rfl, hb4, ho4⟩; obtain ⟨ao4, c4, hz4⟩ := ho4.shape; rw [HLr.out] at hz4; subst hz4; have e0 := cell_later hb4 m0; have HB4 := hide (HBa.out.trans ((below_on (below_drewN _ 1) hb4).mono HBa.out.size)); clear hb4 ho4))
    go_wp2
    go_ret
    exact ⟨rfl, HB4.out⟩
end Go.Proofs.Ytfichaljjkjcoaa
