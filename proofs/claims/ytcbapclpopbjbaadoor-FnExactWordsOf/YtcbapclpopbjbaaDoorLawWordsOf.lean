/- The law 'FnExactWordsOf' walked, out of what the program's function and the model's leave. -/
import Derived.Test.YtcbapclpopbjbaaDoorWs5
namespace Go.Proofs.YtcbapclpopbjbaaDoor
open Go.RowKit

theorem IvS.shape {lo hi : Nat} {w : World} {v : Value} {xs : List ByteArray} (h : IvS lo hi w v xs) : ∃ ao c, v = .slice ao xs.length c := by
  obtain ⟨b, h1, _⟩ := h
  exact h1.shape

set_option maxHeartbeats 2000000 in
theorem lawWordsOf (s : ByteArray) (w : World) (hm : MaxL w) :
    Calls Tryd.prog 3 #[.string s] w fun e w' => e = .returned (.bool true) ∧ Below w.heap.size w w' := by
  by_cases hs : s.size ≤ 1048576
  · have h0 : 0 < w.heap.size := by obtain ⟨m, hm⟩ := hm; exact World.block_lt_of_cell? _ _ hm
    have HM := hide hm
    clear hm
    have hl : (wordsB s).length ≤ 1048577 := by have := wsK_len (cutB 32 s) (cutB 32 s).length; have := cutB_len 32 s; rw [wordsB]; omega
    obtain ⟨rs, hrs⟩ : ∃ rs, wordsB s = rs := ⟨_, rfl⟩
    have HS := hide (fun w => specWordsOf s w hs)
    have HI := hide (fun w hm => implWordsOf s w hm hs)
    rw [hrs] at hl
    simp only [hrs] at HS HI
    clear hrs
    have hnn : ¬ 1048576 < s.size := by omega
    go_enter Tryd.func3, Tryd.ntmps3
    go_wp2_with fail
    refine (HS.out _).mono ?_
    rintro e w1 ⟨zW, rfl, hb, ho⟩
    obtain ⟨aW, cW, rfl⟩ := ho.shape
    have z1 := hb.size
    have BB := hide hb
    have FW := hide ho
    clear hb ho
    go_wp2_with fail
    have A1 := below_alloc w1 (.cells #[.int .i64 0, .slice aW rs.length cW] 24)
    refine (HI.out _ (HM.out.later (below_on BB.out A1))).mono ?_
    rintro e w2 ⟨zG, rfl, hb, ho⟩
    obtain ⟨aG, cG, rfl⟩ := ho.shape
    have z2 : w1.heap.size + 1 ≤ w2.heap.size := by have := hb.size; simpa using this
    have VW := hide ((Var2_new w1 (.int .i64 0) (.slice aW rs.length cW) 24).later hb)
    have GW := hide ((FW.out.later A1).later hb)
    have BC := hide (below_on (below_on BB.out A1) hb)
    have FG : Hid (IvS (w1.heap.size + 1) w2.heap.size w2 (.slice aG rs.length cG) rs) := by simpa [Hid] using ho
    clear hb ho FW BB A1
    have lt0 := VW.out.lt
    obtain ⟨c0, c1⟩ := VW.out
    go_wp2_with fail
    have A2 := below_alloc w2 (.cells #[.int .i64 0, .slice aG rs.length cG] 24)
    refine (eqWordsResult (FG.out.later A2).rd (GW.out.later A2).rd).mono ?_
    rintro e w3 ⟨rfl, hb⟩
    have z3 : w2.heap.size + 1 ≤ w3.heap.size := by have := hb.size; simpa using this
    have VG := hide ((Var2_new w2 (.int .i64 0) (.slice aG rs.length cG) 24).later hb)
    have VW3 := hide ((VW.out.later A2).later hb)
    have GW3 := hide ((GW.out.later A2).later hb)
    have FG3 := hide ((FG.out.later A2).later hb)
    have B3 := hide (below_on (below_on BC.out A2) hb)
    clear hb c0 c1 lt0 VW GW FG BC A2
    have lt0 := VG.out.lt
    obtain ⟨c0, c1⟩ := VG.out
    go_wp2_with fail
    refine (markWordsResult (k := 1) FG3.out (by omega) (by omega)).mono ?_
    rintro e w4 ⟨rfl, hr, hw⟩
    have z4 := hw.size
    have VG4 := hide (VG.out.wr hw (by simp <;> omega))
    have VW4 := hide (VW3.out.wr hw (by simp <;> omega))
    have GW4 := hide (GW3.out.wr hw (by intro b; simp <;> omega))
    have B4 := hide (B3.out.trans (hw.below (by omega) (by intro b hb; omega)))
    have R4 := hide hr
    clear hr hw c0 c1 lt0 VG VW3 GW3 FG3 B3
    obtain ⟨m, hmm⟩ : ∃ m, 1 + rs.length = m := ⟨_, rfl⟩
    have HMm := hide hmm
    rw [hmm]
    clear hmm
    have lt0 := VG4.out.lt
    obtain ⟨c0, c1⟩ := VG4.out
    go_wp2_with fail
    refine (heldWordsResult (k := 1) R4.out (by omega) (by omega)).mono ?_
    rintro e w5 ⟨rfl, hb⟩
    rw [HMm.out]
    have z5 := hb.size
    have VG5 := hide (VG4.out.later hb)
    have VW5 := hide (VW4.out.later hb)
    have GW5 := hide (GW4.out.later hb)
    have R5 := hide (R4.out.later hb)
    have B5 := hide (below_on B4.out hb)
    clear hb c0 c1 lt0 VG4 VW4 GW4 R4 B4
    go_wp2_with fail
    refine (HI.out _ (HM.out.later B5.out)).mono ?_
    rintro e w6 ⟨zH, rfl, hb, ho⟩
    obtain ⟨aH, cH, rfl⟩ := ho.shape
    have z6 := hb.size
    have VG6 := hide (VG5.out.later hb)
    have VW6 := hide (VW5.out.later hb)
    have GW6 := hide (GW5.out.later hb)
    have R6 := hide (R5.out.later hb)
    have B6 := hide (below_on B5.out hb)
    have FH := hide ho
    clear hb ho VG5 VW5 GW5 R5 B5
    have lt0 := VW6.out.lt
    obtain ⟨c0, c1⟩ := VW6.out
    go_wp2_with fail
    have A6 := below_alloc w6 (.cells #[.int .i64 0, .slice aH rs.length cH] 24)
    refine (eqWordsResult (FH.out.later A6).rd (GW6.out.later A6).rd).mono ?_
    rintro e w7 ⟨rfl, hb⟩
    have VG7 := hide ((VG6.out.later A6).later hb)
    have R7 := hide ((R6.out.later A6).later hb)
    have B7 := hide (below_on (below_on B6.out A6) hb)
    clear hb c0 c1 lt0 VG6 VW6 GW6 R6 B6 FH A6
    have lt0 := VG7.out.lt
    obtain ⟨c0, c1⟩ := VG7.out
    go_wp2_with fail
    refine (heldWordsResult (k := 1) R7.out (by omega) (by omega)).mono ?_
    rintro e w8 ⟨rfl, hb⟩
    rw [HMm.out]
    have B8 := hide (below_on B7.out hb)
    clear hb c0 c1 lt0 VG7 R7 B7
    go_wp2
    go_ret
    exact ⟨rfl, B8.out⟩
  · have hbig : 1048576 < s.size := by omega
    clear hs hm
    go_enter Tryd.func3, Tryd.ntmps3
    go_wp2
    go_ret
    exact ⟨rfl, Below.refl _ _⟩
end Go.Proofs.YtcbapclpopbjbaaDoor
