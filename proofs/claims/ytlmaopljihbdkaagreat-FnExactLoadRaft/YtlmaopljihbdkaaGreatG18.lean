/- Fi1 Fi FiS FiZ FiV Built3 BuiltFi in one text: what each says stands at its head below. -/
import Derived.Test.YtlmaopljihbdkaaGreatG17
import Derived.Test.YtlmaopljihbdkaaGreatG10
import Derived.Test.YtlmaopljihbdkaaGreatG05
import Derived.BigQuiet
import Derived.Test.YtlmaopljihbdkaaGreatG06
import Derived.Test.YtlmaopljihbdkaaGreatG08
import Derived.Test.YtlmaopljihbdkaaGreatG14
/- Chapter 8: the fault of one file, both sides walked. -/
namespace Go.Proofs.YtlmaopljihbdkaaGreat
open Go.RowKit

theorem isName_yes (a : Int) (h1 : 1 ≤ a) (h2 : a ≤ 99) (w : World) : Calls Tryz.prog 224 #[.int .i64 a] w fun e w' => e = .returned (.bool true) ∧ w' = w := by
  have h1' : a ≥ 1 := h1
  go_enter Tryz.func224, Tryz.ntmps224
  go_wp2
  go_ret
  exact ⟨rfl, rfl⟩
theorem isName_no (a : Int) (h : ¬ (1 ≤ a ∧ a ≤ 99)) (w : World) : Calls Tryz.prog 224 #[.int .i64 a] w fun e w' => e = .returned (.bool false) ∧ w' = w := by
  by_cases h1 : 1 ≤ a
  · have h2 : ¬ a ≤ 99 := fun h2 => h ⟨h1, h2⟩
    have h1' : a ≥ 1 := h1
    clear h
    go_enter Tryz.func224, Tryz.ntmps224
    go_wp2
    go_ret
    exact ⟨rfl, rfl⟩
  · have h1' : ¬ a ≥ 1 := h1
    clear h
    go_enter Tryz.func224, Tryz.ntmps224
    go_wp2
    go_ret
    exact ⟨rfl, rfl⟩
theorem quo8 (s : Int) (h0 : 0 ≤ s) : (s + 7).tdiv 8 = nbF s := by
  unfold nbF
  exact Int.tdiv_eq_ediv_of_nonneg (by omega)
theorem blocksForI (s : Int) (h0 : 0 ≤ s) (h1 : s ≤ 1048576) (w : World) : Calls Tryz.prog 171 #[.int .i64 s] w fun e w' => e = .returned (.int .i64 (nbF s)) ∧ w' = w := by
  have e1 : IntKind.i64.wrap (s + 8) = s + 8 := by simp [IntKind.wrap, IntKind.bits, IntKind.signed]; omega
  have e2 : IntKind.i64.wrap (s + 8 - 1) = s + 7 := by simp [IntKind.wrap, IntKind.bits, IntKind.signed]; omega
  have e3 : IntKind.i64.wrap ((s + 7).tdiv 8) = nbF s := by rw [quo8 s h0]; unfold nbF; simp [IntKind.wrap, IntKind.bits, IntKind.signed]; omega
  go_enter Tryz.func171, Tryz.ntmps171
  go_wp2
  go_ret
  exact ⟨rfl, rfl⟩
theorem l8For (s : Int) (h0 : 0 ≤ s) (h1 : s ≤ 1048576) (w : World) : Calls Tryz.prog 117 #[.int .i64 s] w fun e w' => e = .returned (.int .i64 (nbF s)) ∧ w' = w := by
  have e1 : IntKind.i64.wrap (s + 8) = s + 8 := by simp [IntKind.wrap, IntKind.bits, IntKind.signed]; omega
  have e2 : IntKind.i64.wrap (s + 8 - 1) = s + 7 := by simp [IntKind.wrap, IntKind.bits, IntKind.signed]; omega
  have e3 : IntKind.i64.wrap ((s + 7).tdiv 8) = nbF s := by rw [quo8 s h0]; unfold nbF; simp [IntKind.wrap, IntKind.bits, IntKind.signed]; omega
  go_enter Tryz.func117, Tryz.ntmps117
  go_wp2
  go_ret
  exact ⟨rfl, rfl⟩
theorem oneF_range {p : Oj} (h : ¬ ((1 ≤ p.1 ∧ p.1 ≤ 99) ∧ 0 ≤ p.2.1 ∧ p.2.1 ≤ 40)) : oneF p = 3 := by unfold oneF; rw [if_pos h]
theorem oneF_form {p : Oj} (h : (1 ≤ p.1 ∧ p.1 ≤ 99) ∧ 0 ≤ p.2.1 ∧ p.2.1 ≤ 40) (h2 : (p.2.2.length : Int) ≠ nbF p.2.1) : oneF p = 1 := by unfold oneF; rw [if_neg (fun k => k h), if_pos h2]
theorem oneF_rest {p : Oj} (h : (1 ≤ p.1 ∧ p.1 ≤ 99) ∧ 0 ≤ p.2.1 ∧ p.2.1 ≤ 40) (h2 : (p.2.2.length : Int) = nbF p.2.1) : oneF p = if p.2.2.all inB = true then 0 else 3 := by unfold oneF; rw [if_neg (fun k => k h), if_neg (fun k => k h2)]

set_option maxHeartbeats 2000000 in
set_option maxRecDepth 4000 in
theorem implFileFault {S : Nat → Prop} {w : World} {b off : Nat} {p : Oj} (hp : RdFp S w b off p) :
    Calls Tryz.prog 200 #[.pointer (some ⟨b, off, none⟩)] w fun e w' => e = .returned (.int .i64 (oneF p)) ∧ ∃ q, w' = w.drewN q := by
  obtain ⟨y, g0, g1, g2, hy⟩ := hp
  obtain ⟨a, s, xs⟩ := p
  dsimp only at g0 g1 g2 hy
  obtain ⟨ay, cy, rfl⟩ := hy.shape
  have hm := hy.max
  have HY := hide hy
  obtain ⟨l, hl⟩ : ∃ l, xs.length = l := ⟨_, rfl⟩
  have HL := hide hl
  rw [hl] at g2 HY hm
  clear hy hl
  obtain ⟨R, hR⟩ : ∃ R, oneF (a, s, xs) = R := ⟨_, rfl⟩
  have HR := hide hR
  rw [hR]
  clear hR
  by_cases hn : 1 ≤ a ∧ a ≤ 99
  · have HN := hide hn
    clear hn
    by_cases h0 : s < 0
    · have HE : Hid ((3 : Int) = R) := (oneF_range (p := (a, s, xs)) (fun h => by have h' : 0 ≤ s := h.2.1; omega)).symm.trans HR.out
      go_enter Tryz.func200, Tryz.ntmps200
      go_wp2_with fail
      refine (isName_yes a HN.out.1 HN.out.2 w).mono ?_
      rintro e w' ⟨rfl, hw⟩
      have hw := hw.symm
      subst hw
      go_wp2
      go_ret
      exact ⟨ret_intF HE.out, 0, rfl⟩
    · by_cases h1 : 40 < s
      · have HE : Hid ((3 : Int) = R) := (oneF_range (p := (a, s, xs)) (fun h => by have h' : s ≤ 40 := h.2.2; omega)).symm.trans HR.out
        go_enter Tryz.func200, Tryz.ntmps200
        go_wp2_with fail
        refine (isName_yes a HN.out.1 HN.out.2 w).mono ?_
        rintro e w' ⟨rfl, hw⟩
        have hw := hw.symm
        subst hw
        go_wp2
        go_ret
        exact ⟨ret_intF HE.out, 0, rfl⟩
      · have HG : Hid ((1 ≤ a ∧ a ≤ 99) ∧ 0 ≤ s ∧ s ≤ 40) := ⟨HN.out, by omega, by omega⟩
        have hnb : 0 ≤ nbF s ∧ nbF s ≤ 5 := by unfold nbF; omega
        by_cases h2 : (l : Int) = nbF s
        · have HF := hide (oneF_rest (p := (a, s, xs)) HG.out (by show ((xs.length : Nat) : Int) = _; rw [HL.out]; exact h2))
          have HC := hide (blocksForI s HG.out.2.1 (by have := HG.out.2.2; omega))
          rw [← h2] at HC
          clear h2 hnb
          go_enter Tryz.func200, Tryz.ntmps200
          go_wp2_with fail
          refine (isName_yes a HN.out.1 HN.out.2 w).mono ?_
          rintro e w' ⟨rfl, hw⟩
          have hw := hw.symm
          subst hw
          go_wp2_with fail
          go_quiet ((go_at_call 171; exact Calls.quiet_of_same (HC.out _)))
          have g2q : (w.drewN nq).cell? ⟨b, off + 2, none⟩ = some (.slice ay l cy) := g2
          go_wp2
          go_loopw [41] (fun i wr => ∃ (k : Nat), k ≤ l ∧ i = .int .i64 k ∧ Hid (∀ j, j < k → inB (xs.getD j 0) = true) ∧ wr = w.drewN nq) (fun i _ => l - (RowKit.intOf i).toNat)
          case atStart => exact ⟨0, Nat.zero_le _, rfl, fun j hj => absurd hj (Nat.not_lt_zero _), by first | rfl | trivial⟩
          case round =>
            obtain ⟨k, hk, rfl, HA, rfl⟩ := hrel
            by_cases hlt : k < l
            · obtain ⟨b2, off2, rfl, q1⟩ := HY.out.at (k := k) (by rw [HL.out]; exact hlt)
              obtain ⟨x, hx⟩ : ∃ x, xs.getD k 0 = x := ⟨_, rfl⟩
              rw [hx] at q1
              have q1' : (w.drewN nq).cell? ⟨b2, off2 + k, none⟩ = some (.int .i64 x) := q1
              clear q1
              have HX := hide hx
              have hk0 : (0 : Int) ≤ (k : Int) := by omega
              have hk1 : (k : Int) < (l : Int) := by omega
              clear hx
              by_cases hb1 : x < 3
              · have HE : Hid ((3 : Int) = R) := by
                  rw [Hid, ← HR.out, HF.out, if_neg]
                  intro h
                  have := List.all_eq_true.1 h x (by rw [← HX.out]; simp [List.getD, show k < xs.length by rw [HL.out]; exact hlt])
                  simp [inB] at this
                  omega
                go_wp2
                go_ret
                exact ⟨ret_intF HE.out, _, rfl⟩
              · by_cases hb2 : 22 < x
                · have HE : Hid ((3 : Int) = R) := by
                    rw [Hid, ← HR.out, HF.out, if_neg]
                    intro h
                    have := List.all_eq_true.1 h x (by rw [← HX.out]; simp [List.getD, show k < xs.length by rw [HL.out]; exact hlt])
                    simp [inB] at this
                    omega
                  go_wp2
                  go_ret
                  exact ⟨ret_intF HE.out, _, rfl⟩
                · have HA' : Hid (∀ j, j < k + 1 → inB (xs.getD j 0) = true) := fun j hj => by
                    by_cases e : j = k
                    · subst e; rw [HX.out]; simp [inB]; omega
                    · exact HA.out j (by omega)
                  go_wp2
                  go_roundw
                  case rel => exact ⟨k + 1, hlt, by go_num, HA'.out, by first | rfl | trivial⟩
                  case measure => simp [RowKit.intOf]; omega
            · have hkn : k = l := by omega
              subst hkn
              have HE : Hid ((0 : Int) = R) := by
                rw [Hid, ← HR.out, HF.out, if_pos]
                rw [List.all_eq_true]
                intro x hx
                obtain ⟨i, hi, rfl⟩ := List.mem_iff_getElem.1 hx
                have := HA.out i (by rw [← HL.out]; exact hi)
                simpa [List.getD, hi] using this
              go_wp2
              go_ret
              exact ⟨ret_intF HE.out, _, rfl⟩
        · have HE : Hid ((1 : Int) = R) := (oneF_form (p := (a, s, xs)) HG.out (by show ((xs.length : Nat) : Int) ≠ _; rw [HL.out]; exact h2)).symm.trans HR.out
          have HC := hide (blocksForI s HG.out.2.1 (by have := HG.out.2.2; omega))
          obtain ⟨N, hN⟩ : ∃ N, nbF s = N := ⟨_, rfl⟩
          rw [hN] at h2 HC
          have h2b : ((l : Int) == N) = false := by simpa using h2
          clear hN hnb
          go_enter Tryz.func200, Tryz.ntmps200
          go_wp2_with fail
          refine (isName_yes a HN.out.1 HN.out.2 w).mono ?_
          rintro e w' ⟨rfl, hw⟩
          have hw := hw.symm
          subst hw
          go_wp2_with fail
          go_quiet ((go_at_call 171; exact Calls.quiet_of_same (HC.out _)))
          go_wp2
          go_ret
          exact ⟨ret_intF HE.out, _, rfl⟩
  · have HE : Hid ((3 : Int) = R) := (oneF_range (p := (a, s, xs)) (fun h => hn h.1)).symm.trans HR.out
    have HN := hide hn
    clear hn
    go_enter Tryz.func200, Tryz.ntmps200
    go_wp2_with fail
    refine (isName_no a HN.out w).mono ?_
    rintro e w' ⟨rfl, hw⟩
    have hw := hw.symm
    subst hw
    go_wp2
    go_ret
    exact ⟨ret_intF HE.out, 0, rfl⟩
theorem l8SizeY (s : Int) (h0 : 0 ≤ s) (h1 : s ≤ 40) (w : World) : Calls Tryz.prog 201 #[.int .i64 s] w fun e w' => e = .returned (.bool true) ∧ w' = w := by
  go_enter Tryz.func201, Tryz.ntmps201
  go_wp2_with fail
  refine (l1In_yes s 0 40 h0 h1 w).mono ?_
  rintro e w' ⟨rfl, hw⟩
  have hw := hw.symm
  subst hw
  go_wp2
  go_ret
  exact ⟨rfl, rfl⟩
theorem l8SizeN (s : Int) (h : s < 0 ∨ 40 < s) (w : World) : Calls Tryz.prog 201 #[.int .i64 s] w fun e w' => e = .returned (.bool false) ∧ w' = w := by
  go_enter Tryz.func201, Tryz.ntmps201
  go_wp2_with fail
  refine (l1In_no s 0 40 h w).mono ?_
  rintro e w' ⟨rfl, hw⟩
  have hw := hw.symm
  subst hw
  go_wp2
  go_ret
  exact ⟨rfl, rfl⟩

set_option maxHeartbeats 2000000 in
set_option maxRecDepth 4000 in
theorem l8One {S : Nat → Prop} {w : World} {b off : Nat} {p : Oj} (hp : RdFp S w b off p) :
    Calls Tryz.prog 177 #[.pointer (some ⟨b, off, none⟩)] w fun e w' => e = .returned (.int .i64 (oneF p)) ∧ ∃ q, w' = w.drewN q := by
  obtain ⟨y, g0, g1, g2, hy⟩ := hp
  obtain ⟨a, s, xs⟩ := p
  dsimp only at g0 g1 g2 hy
  obtain ⟨ay, cy, rfl⟩ := hy.shape
  have hm := hy.max
  have HY := hide hy
  obtain ⟨l, hl⟩ : ∃ l, xs.length = l := ⟨_, rfl⟩
  have HL := hide hl
  rw [hl] at g2 HY hm
  clear hy hl
  obtain ⟨R, hR⟩ : ∃ R, oneF (a, s, xs) = R := ⟨_, rfl⟩
  have HR := hide hR
  rw [hR]
  clear hR
  by_cases hn : 1 ≤ a ∧ a ≤ 99
  · have HN := hide hn
    clear hn
    by_cases h0 : 0 ≤ s ∧ s ≤ 40
    · have HG : Hid ((1 ≤ a ∧ a ≤ 99) ∧ 0 ≤ s ∧ s ≤ 40) := ⟨HN.out, h0⟩
      clear h0
      by_cases h2 : (l : Int) = nbF s
      · have HF := hide (oneF_rest (p := (a, s, xs)) HG.out (by show ((xs.length : Nat) : Int) = _; rw [HL.out]; exact h2))
        have HC := hide (l8For s HG.out.2.1 (by have := HG.out.2.2; omega))
        rw [← h2] at HC
        clear h2
        go_enter Tryz.func177, Tryz.ntmps177
        go_wp2_with fail
        refine (l1In_yes a 1 99 HN.out.1 HN.out.2 w).mono ?_
        rintro e w' ⟨rfl, hw⟩
        have hw := hw.symm
        subst hw
        go_wp2_with fail
        refine (l8SizeY s HG.out.2.1 HG.out.2.2 _).mono ?_
        rintro e w' ⟨rfl, hw⟩
        have hw := hw.symm
        subst hw
        go_wp2_with fail
        go_quiet ((go_at_call 117; exact Calls.quiet_of_same (HC.out _)))
        have g2q : (w.drewN nq).cell? ⟨b, off + 2, none⟩ = some (.slice ay l cy) := g2
        clear g0 g1 g2
        go_wp2
        go_loopw [3] (fun i wr => ∃ (k : Nat), k ≤ l ∧ i = .int .i64 k ∧ Hid (∀ j, j < k → inB (xs.getD j 0) = true) ∧ wr = w.drewN nq) (fun i _ => l - (RowKit.intOf i).toNat)
        case atStart => exact ⟨0, Nat.zero_le _, rfl, fun j hj => absurd hj (Nat.not_lt_zero _), by first | rfl | trivial⟩
        case round =>
          obtain ⟨k, hk, rfl, HA, rfl⟩ := hrel
          by_cases hlt : k < l
          · obtain ⟨b2, off2, rfl, q1⟩ := HY.out.at (k := k) (by rw [HL.out]; exact hlt)
            obtain ⟨x, hx⟩ : ∃ x, xs.getD k 0 = x := ⟨_, rfl⟩
            rw [hx] at q1
            have q1' : (w.drewN nq).cell? ⟨b2, off2 + k, none⟩ = some (.int .i64 x) := q1
            clear q1
            have HX := hide hx
            have hk0 : (0 : Int) ≤ (k : Int) := by omega
            have hk1 : (k : Int) < (l : Int) := by omega
            clear hx
            by_cases hb1 : 3 ≤ x ∧ x ≤ 22
            · have HA' : Hid (∀ j, j < k + 1 → inB (xs.getD j 0) = true) := fun j hj => by
                by_cases e : j = k
                · subst e; rw [HX.out]; simp [inB]; omega
                · exact HA.out j (by omega)
              have HI := hide (fun W => l1In_yes x 3 22 hb1.1 hb1.2 W)
              clear hb1
              go_wp2_with fail
              refine (HI.out _).mono ?_
              rintro e w2 ⟨rfl, hw⟩
              have hw := hw.symm
              subst hw
              go_wp2
              go_roundw
              case rel => exact ⟨k + 1, hlt, by go_num, HA'.out, by first | rfl | trivial⟩
              case measure => simp [RowKit.intOf]; omega
            · have HE : Hid ((3 : Int) = R) := by
                rw [Hid, ← HR.out, HF.out, if_neg]
                intro h
                have := List.all_eq_true.1 h x (by rw [← HX.out]; simp [List.getD, show k < xs.length by rw [HL.out]; exact hlt])
                simp [inB] at this
                omega
              have HI := hide (fun W => l1In_no x 3 22 (by omega) W)
              clear hb1
              go_wp2_with fail
              refine (HI.out _).mono ?_
              rintro e w2 ⟨rfl, hw⟩
              have hw := hw.symm
              subst hw
              go_wp2
              go_ret
              exact ⟨ret_intF HE.out, _, rfl⟩
          · have hkn : k = l := by omega
            subst hkn
            have HE : Hid ((0 : Int) = R) := by
              rw [Hid, ← HR.out, HF.out, if_pos]
              rw [List.all_eq_true]
              intro x hx
              obtain ⟨i, hi, rfl⟩ := List.mem_iff_getElem.1 hx
              have := HA.out i (by rw [← HL.out]; exact hi)
              simpa [List.getD, hi] using this
            go_wp2
            go_ret
            exact ⟨ret_intF HE.out, _, rfl⟩
      · have HE : Hid ((1 : Int) = R) := (oneF_form (p := (a, s, xs)) HG.out (by show ((xs.length : Nat) : Int) ≠ _; rw [HL.out]; exact h2)).symm.trans HR.out
        have HC := hide (l8For s HG.out.2.1 (by have := HG.out.2.2; omega))
        obtain ⟨N, hN⟩ : ∃ N, nbF s = N := ⟨_, rfl⟩
        rw [hN] at h2 HC
        have h2b : ((l : Int) == N) = false := by simpa using h2
        clear hN
        go_enter Tryz.func177, Tryz.ntmps177
        go_wp2_with fail
        refine (l1In_yes a 1 99 HN.out.1 HN.out.2 w).mono ?_
        rintro e w' ⟨rfl, hw⟩
        have hw := hw.symm
        subst hw
        go_wp2_with fail
        refine (l8SizeY s HG.out.2.1 HG.out.2.2 _).mono ?_
        rintro e w' ⟨rfl, hw⟩
        have hw := hw.symm
        subst hw
        go_wp2_with fail
        go_quiet ((go_at_call 117; exact Calls.quiet_of_same (HC.out _)))
        go_wp2
        go_ret
        exact ⟨ret_intF HE.out, _, rfl⟩
    · have HE : Hid ((3 : Int) = R) := (oneF_range (p := (a, s, xs)) (fun h => h0 h.2)).symm.trans HR.out
      have HS := hide (fun W => l8SizeN s (by omega) W)
      clear h0
      go_enter Tryz.func177, Tryz.ntmps177
      go_wp2_with fail
      refine (l1In_yes a 1 99 HN.out.1 HN.out.2 w).mono ?_
      rintro e w' ⟨rfl, hw⟩
      have hw := hw.symm
      subst hw
      go_wp2_with fail
      refine (HS.out _).mono ?_
      rintro e w' ⟨rfl, hw⟩
      have hw := hw.symm
      subst hw
      go_wp2
      go_ret
      exact ⟨ret_intF HE.out, 0, rfl⟩
  · have HE : Hid ((3 : Int) = R) := (oneF_range (p := (a, s, xs)) (fun h => hn h.1)).symm.trans HR.out
    have HN := hide (fun W => l1In_no a 1 99 (by omega) W)
    clear hn
    go_enter Tryz.func177, Tryz.ntmps177
    go_wp2_with fail
    refine (HN.out w).mono ?_
    rintro e w' ⟨rfl, hw⟩
    have hw := hw.symm
    subst hw
    go_wp2
    go_ret
    exact ⟨ret_intF HE.out, 0, rfl⟩
end Go.Proofs.YtlmaopljihbdkaaGreat
/- The laws' helpers over File. Made by program (genfi.py). -/
namespace Go.Proofs.YtlmaopljihbdkaaGreat
open Go.RowKit
end Go.Proofs.YtlmaopljihbdkaaGreat
/- Chapter 8: lists of files: the laws' helpers over them. Made by program (genfi.py). -/
namespace Go.Proofs.YtlmaopljihbdkaaGreat
open Go.RowKit
end Go.Proofs.YtlmaopljihbdkaaGreat
/- Chapter 8: lists of files: how much they hold, and copies of them. Made by program (genfi.py). -/
namespace Go.Proofs.YtlmaopljihbdkaaGreat
open Go.RowKit
theorem Tryz.infoFile : (Tryz.prog.info? 114).map (fun i => (i.zero, i.size, i.bytes)) = some (some (.agg #[.int .i64 0, .int .i64 0, .slice none 0 0]), 3, 40) := by kernel_rfl

theorem run_make_file (n : Nat) (hn : n ≤ 1048576) (w : World) :
    (Instr.makeSlice 111 (.int .i64 (n : Int)) (.int .i64 (n : Int))).run Tryz.prog w = .ok (.slice (some ⟨w.heap.size, 0, none⟩) n n) (w.alloc (.cells (madeCells #[.int .i64 0, .int .i64 0, .slice none 0 0] (n * 3)) 114)) := by
  obtain ⟨i, hi, hz, hs, hb⟩ := info_parts Tryz.infoFile
  have hr := run_make (P := Tryz.prog) w 111 114 i (.agg #[.int .i64 0, .int .i64 0, .slice none 0 0]) Tryz.underlying111 hi hz .i64 .i64 n n (by omega) (Int.le_refl _) (by rw [hb]; omega) (by omega)
  simp only [Int.toNat_natCast, hs] at hr
  exact hr

/-- The cap of a slice is no smaller than its length. -/
def capOk : Value → Prop
  | .slice _ n c => n ≤ c
  | _ => True
end Go.Proofs.YtlmaopljihbdkaaGreat
/- Chapter 8: files among the arguments; a code with files. Made by program (genfi.py). -/
namespace Go.Proofs.YtlmaopljihbdkaaGreat
open Go.RowKit


/-- What a call that ends in a code and files is to leave. -/
def EndsFi (x : Int) (rs : List Oj) (w : World) (e : Ending) (w' : World) : Prop :=
  ∃ z, e = .returned (.agg #[.int .i64 x, z]) ∧ Below w.heap.size w w' ∧ OwJ (fun b => w.heap.size ≤ b ∧ b < w'.heap.size) w' z rs

theorem IvJ.mono {lo hi lo' : Nat} {w : World} {v : Value} {ps : List Oj} (h : IvJ lo hi w v ps) (h1 : lo' ≤ lo) : IvJ lo' hi w v ps := by
  obtain ⟨S, k0, k1, k2⟩ := h
  exact ⟨S, k0, fun b hb => ⟨Nat.le_trans h1 (k1 b hb).1, (k1 b hb).2⟩, k2⟩
end Go.Proofs.YtlmaopljihbdkaaGreat
/- 'spec.l1Puts' and 'spec.l1Copy', walked. -/
namespace Go.Proofs.YtlmaopljihbdkaaGreat
open Go.RowKit

theorem BuiltP.empty (w : World) (P : Nat → Prop) (hP : P w.heap.size) (ps : List (Int × List Int)) : BuiltP P (w.alloc (.cells #[] 74)) (.slice (some ⟨w.heap.size, 0, none⟩) 0 0) 0 ps :=
  ⟨fun _ => .bool false, fun _ => 0, World.ownsRow_made w #[] 0 (Nat.zero_le _) (by unfold maxLen; omega) (by simp), fun r h => by injection h with h; subst h; exact hP, Inner.zero _ _ _ _ _ _⟩

set_option maxHeartbeats 1000000 in
set_option maxRecDepth 4000 in
/-- 'spec.l1Puts' of a reading. -/
theorem l1Puts {S : Nat → Prop} {w : World} {u : Value} {ps : List (Int × List Int)} (hu : RdP S w u ps) (hm : ps.length ≤ 1048576) (hl : ∀ i, i < ps.length → (ps.getD i (0, [])).2.length ≤ 1048576) :
    Calls Tryz.prog 120 #[u] w fun e w' => ∃ z, e = .returned z ∧ Below w.heap.size w w' ∧ BuiltP (w.heap.size ≤ ·) w' z ps.length ps := by
  obtain ⟨ao, c, rfl, _⟩ := hu.shape
  obtain ⟨i0, hi, hz0, hz1, hz2⟩ := info_parts Tryz.infoPut
  have HU := hide hu
  have HL := hide hl
  obtain ⟨n, hn⟩ : ∃ n, ps.length = n := ⟨_, rfl⟩
  rw [hn] at hm ⊢
  have HN := hide hn
  rw [hn] at HU
  clear hu hl hn
  go_enter Tryz.func120, Tryz.ntmps120
  go_wp2
  go_loopw [3, 4] (fun v i wr => ∃ k : Nat, k ≤ n ∧ i = .int .i64 k ∧ Hid (BuiltP (w.heap.size ≤ ·) wr v k ps) ∧ Hid (Below w.heap.size w wr)) (fun _ i _ => n - (intOf i).toNat)
  case atStart => exact ⟨0, Nat.zero_le _, rfl, BuiltP.empty _ _ (Nat.le_refl _) _, below_alloc _ _⟩
  case round =>
    obtain ⟨k, hk, rfl, HBu, HB⟩ := hrel
    by_cases hlt : k < n
    · obtain ⟨b, off, V, rfl, q1, q2, q3⟩ := HU.out.at (k := k) (by rw [HN.out]; exact hlt)
      obtain ⟨ao3, c3, rfl⟩ := q3.shape
      have g1 := cell_later HB.out q1
      have g2 := cell_later HB.out q2
      obtain ⟨x, hx⟩ : ∃ x, (ps.getD k (0, [])).1 = x := ⟨_, rfl⟩
      obtain ⟨l, hl⟩ : ∃ l, (ps.getD k (0, [])).2.length = l := ⟨_, rfl⟩
      have HX := hide hx
      have HLen := hide hl
      have HLk := hide (HL.out k (by rw [HN.out]; exact hlt))
      have R := hide (q3.later HB.out)
      rw [hx] at g1
      rw [hl] at g2 R
      have hbl := World.block_lt_of_cell? _ _ q1
      obtain ⟨V2, Bk2, hown, hpr, hin⟩ := HBu.out
      have HOw0 := hide hown
      have HPr := hide hpr
      have HIn := hide hin
      have hz := HB.out.size
      have hk0 : (0 : Int) ≤ (k : Int) := Int.natCast_nonneg _
      have hk1 : (k : Int) < (n : Int) := by omega
      clear q1 q2 q3 hx hl hin hown hpr
      go_wp2_with fail
      go_region_held3 (fun w' => w'.cell? ⟨b, off + k * 2, none⟩ = some (.int .i64 x) ∧ w'.cell? ⟨b, off + k * 2 + 1, none⟩ = some (.slice ao3 l c3)) (first | exact ⟨g1, g2⟩ | exact ⟨e0, e1⟩ | exact ⟨cell_later (below_alloc _ _) e0, cell_later (below_alloc _ _) e1⟩ | exact ⟨s0, s1⟩)
        (first
          | (go_at_call 119; refine (l1Ints (R.out.drewN 1) HLk.out).mono ?_; rintro e w1 ⟨z, rfl, hb1, ho1⟩; obtain ⟨ao4, c4, rfl⟩ := ho1.shape; have e0 : w1.cell? ⟨b, off + k * 2, none⟩ = some (.int .i64 x) := cell_later hb1 g1; have e1 : w1.cell? ⟨b, off + k * 2 + 1, none⟩ = some (.slice ao3 l c3) := cell_later hb1 g2; have HB1 := hide (below_on (below_drewN wr 1) hb1); have HO1 := hide ho1; have hzz : wr.heap.size ≤ w1.heap.size := hb1.size; clear hb1 ho1)
          | (refine step_append_lies _ (by rfl) _ _ _ (by rfl) 0 74 i0 (.agg #[.int .i64 0, .slice none 0 0]) 2 32 Tryz.underlying27 hi hz0 hz1 hz2 rfl (by omega) _ k _ (by rfl) (ownsRow_later (ownsRow_later HOw0.out HB1.out) (below_alloc w1 (.cells #[.int .i64 x, .slice ao4 (ps.getD k (0, [])).2.length c4] 74))) ⟨w1.heap.size, 0, none⟩ 1 1 [.int .i64 x, .slice ao4 (ps.getD k (0, [])).2.length c4] (by rfl) (by rfl) (World.news_of_block (cs := #[.int .i64 x, .slice ao4 (ps.getD k (0, [])).2.length c4]) (t := 74) (fr := (0, 0)) (heap_alloc_new w1 _)) cells2_one (by omega) (by unfold maxLen; omega) (by omega) (Nat.zero_le _) (w1.heap.size + 1) (by simp) ?_; intro g cap w3 hown3 hgrow hat hlt3; have s0 : w3.cell? ⟨b, off + k * 2, none⟩ = some (.int .i64 x) := (hgrow.cell_far _ (by simp; omega) (fun e => by have := HPr.out _ e.symm; dsimp only at this; omega)).trans (cell_later (below_alloc _ _) e0); have s1 : w3.cell? ⟨b, off + k * 2 + 1, none⟩ = some (.slice ao3 l c3) := (hgrow.cell_far _ (by simp; omega) (fun e => by have := HPr.out _ e.symm; dsimp only at this; omega)).trans (cell_later (below_alloc _ _) e1)))
      have HS := hide (BuiltP.step (P' := (w.heap.size ≤ ·)) HIn.out HOw0.out HPr.out (fun _ h => h) (fun b hb => Nat.le_trans hz hb) HB1.out HO1.out (below_alloc w1 (.cells #[.int .i64 x, .slice ao4 (ps.getD k (0, [])).2.length c4] 74)) (by rw [HX.out]; exact hown3) hgrow (by simpa using hat))
      have HB3 := hide ((below_on (below_on HB.out HB1.out) (below_alloc w1 (.cells #[.int .i64 x, .slice ao4 (ps.getD k (0, [])).2.length c4] 74))).grown hgrow (by simp; omega) (fun r hr => HPr.out r hr))
      clear hown3 hgrow hat s0 s1 e0 e1 hzz
      go_wp2
      go_roundw
      case rel => exact ⟨k + 1, hlt, by go_num, HS.out, HB3.out⟩
      case measure => simp [intOf]; omega
    · have hkn : k = n := by omega
      subst hkn
      go_wp2
      go_ret
      exact ⟨_, rfl, HB.out, HBu.out⟩
end Go.Proofs.YtlmaopljihbdkaaGreat
/- Chapter 8: files that are built by append. Made by program (genfi.py). -/
namespace Go.Proofs.YtlmaopljihbdkaaGreat
open Go.RowKit


/-- The cells of k files. -/
def cellsFi (ts : List Oj) (k : Nat) (V : Nat → Value) : List Value :=
  (List.range (k * 3)).map fun t => if t % 3 = 0 then .int .i64 (ts.getD (t / 3) oj0).1 else if t % 3 = 1 then .int .i64 (ts.getD (t / 3) oj0).2.1 else V (t / 3)
theorem cellsFi_len (ts : List Oj) (k : Nat) (V : Nat → Value) : (cellsFi ts k V).length = k * 3 := by simp [cellsFi]
theorem cellsFi_flg (ts : List Oj) (k : Nat) (V : Nat → Value) (i : Nat) (h : i < k) : (cellsFi ts k V)[i * 3]? = some (.int .i64 (ts.getD i oj0).1) := by
  unfold cellsFi
  rw [List.getElem?_map, List.getElem?_range (by omega)]
  simp only [Option.map_some]
  rw [if_pos (by omega), show i * 3 / 3 = i by omega]
theorem cellsFi_num (ts : List Oj) (k : Nat) (V : Nat → Value) (i : Nat) (h : i < k) : (cellsFi ts k V)[i * 3 + 1]? = some (.int .i64 (ts.getD i oj0).2.1) := by
  unfold cellsFi
  rw [List.getElem?_map, List.getElem?_range (by omega)]
  simp only [Option.map_some]
  rw [if_neg (by omega), if_pos (by omega), show (i * 3 + 1) / 3 = i by omega]
theorem cellsFi_words (ts : List Oj) (k : Nat) (V : Nat → Value) (i : Nat) (h : i < k) : (cellsFi ts k V)[i * 3 + 2]? = some (V i) := by
  unfold cellsFi
  rw [List.getElem?_map, List.getElem?_range (by omega)]
  simp only [Option.map_some]
  rw [if_neg (by omega), if_neg (by omega), show (i * 3 + 2) / 3 = i by omega]
theorem cellsFi_next (ts : List Oj) (k : Nat) (V : Nat → Value) : cellsFi ts (k + 1) V = cellsFi ts k V ++ [.int .i64 (ts.getD k oj0).1, .int .i64 (ts.getD k oj0).2.1, V k] := by
  unfold cellsFi
  rw [show (k + 1) * 3 = k * 3 + 1 + 1 + 1 by omega, List.range_succ, List.range_succ, List.range_succ]
  simp only [List.map_append, List.append_assoc, List.map_cons, List.map_nil, List.singleton_append]
  congr 1
  rw [if_pos (by omega), if_neg (by omega), if_pos (by omega), if_neg (by omega), if_neg (by omega), show k * 3 / 3 = k by omega, show (k * 3 + 1) / 3 = k by omega, show (k * 3 + 1 + 1) / 3 = k by omega]
  rfl
theorem cellsFi_congr (ts : List Oj) (k : Nat) (V V' : Nat → Value) (h : ∀ i, i < k → V i = V' i) : cellsFi ts k V = cellsFi ts k V' := by
  unfold cellsFi
  refine List.map_congr_left fun t ht => ?_
  have := List.mem_range.1 ht
  rw [h (t / 3) (by omega)]
theorem cellsFi_ext (ts ts' : List Oj) (k : Nat) (V : Nat → Value) (h : ∀ i, i < k → ts.getD i oj0 = ts'.getD i oj0) : cellsFi ts k V = cellsFi ts' k V := by
  unfold cellsFi
  refine List.map_congr_left fun t ht => ?_
  have := List.mem_range.1 ht
  rw [h (t / 3) (by omega)]
/-- k files have been built. -/
def BuiltFi (P : Nat → Prop) (w : World) (v : Value) (k : Nat) (ts : List Oj) : Prop :=
  ∃ V Bk, w.ownsRow 0 114 3 v k (cellsFi ts k V) ∧ (∀ r, v.ownBlock = some r → P r) ∧ Inner P w v.ownBlock k V Bk (fun i => (ts.getD i oj0).2.2)
theorem BuiltFi.nil (P : Nat → Prop) (w : World) (ts : List Oj) : BuiltFi P w (.slice none 0 0) 0 ts :=
  ⟨fun _ => .bool false, fun _ => 0, World.ownsRow_nil _ _ _ _, fun _ h => (by cases h), Inner.zero _ _ _ _ _ _⟩
theorem BuiltFi.empty (w : World) (P : Nat → Prop) (hP : P w.heap.size) (ts : List Oj) : BuiltFi P (w.alloc (.cells #[] 114)) (.slice (some ⟨w.heap.size, 0, none⟩) 0 0) 0 ts :=
  ⟨fun _ => .bool false, fun _ => 0, World.ownsRow_made w #[] 0 (Nat.zero_le _) (by unfold maxLen; omega) (by simp), fun r h => by injection h with h; subst h; exact hP, Inner.zero _ _ _ _ _ _⟩
theorem BuiltFi.later {P : Nat → Prop} {w w' : World} {v : Value} {k : Nat} {ts : List Oj} (h : BuiltFi P w v k ts) (hb : Below w.heap.size w w') : BuiltFi P w' v k ts := by
  obtain ⟨V, Bk, h1, h2, h3⟩ := h
  exact ⟨V, Bk, ownsRow_later h1 hb, h2, h3.later hb⟩
theorem BuiltFi.mono {P P' : Nat → Prop} {w : World} {v : Value} {k : Nat} {ts : List Oj} (h : BuiltFi P w v k ts) (hP : ∀ b, P b → b < w.heap.size → P' b) : BuiltFi P' w v k ts := by
  obtain ⟨V, Bk, h1, h2, h3⟩ := h
  exact ⟨V, Bk, h1, fun r hr => hP r (h2 r hr) (h1.lt r hr).2, h3.mono hP⟩
theorem BuiltFi.shape {P : Nat → Prop} {w : World} {v : Value} {k : Nat} {ts : List Oj} (h : BuiltFi P w v k ts) : ∃ ao c, v = .slice ao k c := by
  obtain ⟨V, Bk, h1, _⟩ := h
  rcases h1.2 with ⟨rfl, e⟩ | ⟨g, cap, cur, rfl, _⟩
  · exact ⟨none, 0, by rw [e]⟩
  · exact ⟨_, _, rfl⟩
theorem BuiltFi.step {P P' : Nat → Prop} {w w1 w2 w3 : World} {v z : Value} {k g cap : Nat} {V : Nat → Value} {Bk : Nat → Nat} {ts : List Oj} (hi : Inner P w v.ownBlock k V Bk (fun i => (ts.getD i oj0).2.2)) (hr : w.ownsRow 0 114 3 v k (cellsFi ts k V)) (hpr : ∀ r, v.ownBlock = some r → P r)
    (hP : ∀ b, P b → P' b) (hN : ∀ b, w.heap.size ≤ b → P' b) (hb1 : Below w.heap.size w w1) (hz : OwI w.heap.size w1 z (ts.getD k oj0).2.2) (hb2 : Below w1.heap.size w1 w2)
    (hown : w3.ownsRow 0 114 3 (.slice (some ⟨g, 0, none⟩) (k + 1) cap) (k + 1) (cellsFi ts k V ++ [.int .i64 (ts.getD k oj0).1, .int .i64 (ts.getD k oj0).2.1, z])) (hg : w2.grownBy w3 v.ownBlock) (hat : v.ownBlock = some g ∨ g = w2.heap.size) :
    BuiltFi P' w3 (.slice (some ⟨g, 0, none⟩) (k + 1) cap) (k + 1) ts := by
  obtain ⟨Bk', h⟩ := hi.step hP hN (fun r hr' => (hr.lt r hr').2) hb1 hz hb2 hg hat
  refine ⟨_, Bk', ?_, fun r hr' => ?_, h⟩
  · rw [cellsFi_next, cellsFi_congr ts k _ V (fun i hi => by rw [if_neg (by omega)]), if_pos rfl]
    exact hown
  · injection hr' with hr'
    subst hr'
    rcases hat with hat | hat
    · exact hP _ (hpr _ hat)
    · have h1 := hb1.size
      have h2 := hb2.size
      exact hN _ (by dsimp only; omega)
theorem BuiltFi.ow {P : Nat → Prop} {w : World} {v : Value} {k : Nat} {ts : List Oj} (h : BuiltFi P w v k ts) (hk : ts.length = k) (hm : k ≤ 9223372036854775807) : OwJ (fun b => P b ∧ b < w.heap.size) w v ts := by
  obtain ⟨V, Bk, h1, hpr, h2⟩ := h
  subst hk
  rcases h1.2 with ⟨rfl, e⟩ | ⟨g, cap, cur, rfl, hg, hh, hnc, _⟩
  · have : ts = [] := List.eq_nil_of_length_eq_zero e
    subst this
    exact OwJ_nil _ _
  · refine ⟨_, cap, g, 0, V, Bk, rfl, ⟨hm, hnc⟩, fun _ => ⟨rfl, ⟨hpr g rfl, (Array.getElem?_eq_some_iff.1 hh).1⟩, fun o => h1.frozenAt o⟩, fun i hi => ⟨?_, ?_, ?_, h2.rd i hi, fun hn => ?_⟩⟩
    · rw [Nat.zero_add, h1.cellAt (i * 3) (by omega)]
      exact cellsFi_flg _ _ _ _ hi
    · rw [Nat.zero_add, h1.cellAt (i * 3 + 1) (by omega)]
      exact cellsFi_num _ _ _ _ hi
    · rw [Nat.zero_add, h1.cellAt (i * 3 + 2) (by omega)]
      exact cellsFi_words _ _ _ _ hi
    · obtain ⟨k1, k2, k3, k4, k5⟩ := h2.own i hi hn
      exact ⟨⟨k1, k2⟩, fun e => k4 (by rw [e]; rfl), k3, k5⟩
theorem cellsFi_one {x y : Int} {ao : Option Addr} {n c : Nat} : ∀ u ∈ ([.int .i64 x, .int .i64 y, .slice ao n c] : List Value), u.oneCell' = true := by
  intro u hu
  simp at hu
  rcases hu with rfl | rfl | rfl <;> rfl
/-- The end of a function that stores a code and files into its result's variable. -/
theorem ret_files {w w3 : World} {P : Nat → Prop} {r : Nat} {z x : Value} {ts : List Oj} (hb : Below w.heap.size w w3) (hr : w.heap.size ≤ r) (ho : OwJ P w3 z ts) (hP : ∀ b, P b → r < b ∧ b < w3.heap.size) :
    Below w.heap.size w ((w3.setCell ⟨r, 0, none⟩ x).setCell ⟨r, 1, none⟩ z) ∧ OwJ (fun b => w.heap.size ≤ b ∧ b < ((w3.setCell ⟨r, 0, none⟩ x).setCell ⟨r, 1, none⟩ z).heap.size) ((w3.setCell ⟨r, 0, none⟩ x).setCell ⟨r, 1, none⟩ z) z ts := by
  have hw : Wr (fun y => y = r) w3 ((w3.setCell ⟨r, 0, none⟩ x).setCell ⟨r, 1, none⟩ z) := ((Wr.refl (fun y => y = r) _).setCell (p := ⟨r, 0, none⟩) rfl _).setCell (p := ⟨r, 1, none⟩) rfl _
  exact ⟨(hb.setCell (p := ⟨r, 0, none⟩) hr _).setCell (p := ⟨r, 1, none⟩) hr _, (ho.wr hw (fun b h1 e => by have := (hP b h1).1; omega)).mono fun b h1 => by have := hP b h1; simp; omega⟩
theorem Tryz.infoFl : (Tryz.prog.info? 114).map (fun i => (i.zero, i.size, i.bytes)) = some (some (.agg #[.int .i64 0, .int .i64 0, .slice none 0 0]), 3, 40) := by kernel_rfl
end Go.Proofs.YtlmaopljihbdkaaGreat
