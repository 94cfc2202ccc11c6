/- Fi1 Fi FiS FiZ FiV in one text: what each says stands at its head below. -/
import Derived.Test.YtlmaopljihbdkaaGreatG25
import Derived.Test.YtlmaopljihbdkaaGreatG16
import Derived.Test.YtlmaopljihbdkaaGreatG07
import Derived.BigQuiet
import Derived.Test.YtlmaopljihbdkaaGreatG09
import Derived.Test.YtlmaopljihbdkaaGreatG11
import Derived.Test.YtlmaopljihbdkaaGreatG12
/- Chapter 8: the fault of one file, both sides walked. -/
namespace Go.Proofs.YtlmaopljihbdkaaGreat
open Go.RowKit

theorem isName_yes (a : Int) (h1 : 1 ≤ a) (h2 : a ≤ 99) (w : World) : Calls Tryz.prog 224 #[.int .i64 a] w fun e w' => e = .returned (.bool true) ∧ w' = w := by
  have h1' : a ≥ 1 := h1
  go_enter Tryz.func224, Tryz.ntmps224
  go_wp2
  go_ret
  exact ⟨rfl, rfl⟩
theorem isName_no (a : Int) (h : ¬ (1 ≤ a ∧ a ≤ 99)) (w : World) : Calls Tryz.prog 224 #[.int .i64 a] w fun e w' => e = .returned (.bool false) ∧ w' = w := by
  by_cases h1 : 1 ≤ a
  · have h2 : ¬ a ≤ 99 := fun h2 => h ⟨h1, h2⟩
    have h1' : a ≥ 1 := h1
    clear h
    go_enter Tryz.func224, Tryz.ntmps224
    go_wp2
    go_ret
    exact ⟨rfl, rfl⟩
  · have h1' : ¬ a ≥ 1 := h1
    clear h
    go_enter Tryz.func224, Tryz.ntmps224
    go_wp2
    go_ret
    exact ⟨rfl, rfl⟩
theorem quo8 (s : Int) (h0 : 0 ≤ s) : (s + 7).tdiv 8 = nbF s := by
  unfold nbF
  exact Int.tdiv_eq_ediv_of_nonneg (by omega)
theorem blocksForI (s : Int) (h0 : 0 ≤ s) (h1 : s ≤ 1048576) (w : World) : Calls Tryz.prog 171 #[.int .i64 s] w fun e w' => e = .returned (.int .i64 (nbF s)) ∧ w' = w := by
  have e1 : IntKind.i64.wrap (s + 8) = s + 8 := by simp [IntKind.wrap, IntKind.bits, IntKind.signed]; omega
  have e2 : IntKind.i64.wrap (s + 8 - 1) = s + 7 := by simp [IntKind.wrap, IntKind.bits, IntKind.signed]; omega
  have e3 : IntKind.i64.wrap ((s + 7).tdiv 8) = nbF s := by rw [quo8 s h0]; unfold nbF; simp [IntKind.wrap, IntKind.bits, IntKind.signed]; omega
  go_enter Tryz.func171, Tryz.ntmps171
  go_wp2
  go_ret
  exact ⟨rfl, rfl⟩
theorem l8For (s : Int) (h0 : 0 ≤ s) (h1 : s ≤ 1048576) (w : World) : Calls Tryz.prog 117 #[.int .i64 s] w fun e w' => e = .returned (.int .i64 (nbF s)) ∧ w' = w := by
  have e1 : IntKind.i64.wrap (s + 8) = s + 8 := by simp [IntKind.wrap, IntKind.bits, IntKind.signed]; omega
  have e2 : IntKind.i64.wrap (s + 8 - 1) = s + 7 := by simp [IntKind.wrap, IntKind.bits, IntKind.signed]; omega
  have e3 : IntKind.i64.wrap ((s + 7).tdiv 8) = nbF s := by rw [quo8 s h0]; unfold nbF; simp [IntKind.wrap, IntKind.bits, IntKind.signed]; omega
  go_enter Tryz.func117, Tryz.ntmps117
  go_wp2
  go_ret
  exact ⟨rfl, rfl⟩
theorem oneF_range {p : Oj} (h : ¬ ((1 ≤ p.1 ∧ p.1 ≤ 99) ∧ 0 ≤ p.2.1 ∧ p.2.1 ≤ 40)) : oneF p = 3 := by unfold oneF; rw [if_pos h]
theorem oneF_form {p : Oj} (h : (1 ≤ p.1 ∧ p.1 ≤ 99) ∧ 0 ≤ p.2.1 ∧ p.2.1 ≤ 40) (h2 : (p.2.2.length : Int) ≠ nbF p.2.1) : oneF p = 1 := by unfold oneF; rw [if_neg (fun k => k h), if_pos h2]
theorem oneF_rest {p : Oj} (h : (1 ≤ p.1 ∧ p.1 ≤ 99) ∧ 0 ≤ p.2.1 ∧ p.2.1 ≤ 40) (h2 : (p.2.2.length : Int) = nbF p.2.1) : oneF p = if p.2.2.all inB = true then 0 else 3 := by unfold oneF; rw [if_neg (fun k => k h), if_neg (fun k => k h2)]

set_option maxHeartbeats 2000000 in
set_option maxRecDepth 4000 in
theorem implFileFault {S : Nat → Prop} {w : World} {b off : Nat} {p : Oj} (hp : RdFp S w b off p) :
    Calls Tryz.prog 200 #[.pointer (some ⟨b, off, none⟩)] w fun e w' => e = .returned (.int .i64 (oneF p)) ∧ ∃ q, w' = w.drewN q := by
  obtain ⟨y, g0, g1, g2, hy⟩ := hp
  obtain ⟨a, s, xs⟩ := p
  dsimp only at g0 g1 g2 hy
  obtain ⟨ay, cy, rfl⟩ := hy.shape
  have hm := hy.max
  have HY := hide hy
  obtain ⟨l, hl⟩ : ∃ l, xs.length = l := ⟨_, rfl⟩
  have HL := hide hl
  rw [hl] at g2 HY hm
  clear hy hl
  obtain ⟨R, hR⟩ : ∃ R, oneF (a, s, xs) = R := ⟨_, rfl⟩
  have HR := hide hR
  rw [hR]
  clear hR
  by_cases hn : 1 ≤ a ∧ a ≤ 99
  · have HN := hide hn
    clear hn
    by_cases h0 : s < 0
    · have HE : Hid ((3 : Int) = R) := (oneF_range (p := (a, s, xs)) (fun h => by have h' : 0 ≤ s := h.2.1; omega)).symm.trans HR.out
      go_enter Tryz.func200, Tryz.ntmps200
      go_wp2_with fail
      refine (isName_yes a HN.out.1 HN.out.2 w).mono ?_
      rintro e w' ⟨rfl, hw⟩
      have hw := hw.symm
      subst hw
      go_wp2
      go_ret
      exact ⟨ret_intF HE.out, 0, rfl⟩
    · by_cases h1 : 40 < s
      · have HE : Hid ((3 : Int) = R) := (oneF_range (p := (a, s, xs)) (fun h => by have h' : s ≤ 40 := h.2.2; omega)).symm.trans HR.out
        go_enter Tryz.func200, Tryz.ntmps200
        go_wp2_with fail
        refine (isName_yes a HN.out.1 HN.out.2 w).mono ?_
        rintro e w' ⟨rfl, hw⟩
        have hw := hw.symm
        subst hw
        go_wp2
        go_ret
        exact ⟨ret_intF HE.out, 0, rfl⟩
      · have HG : Hid ((1 ≤ a ∧ a ≤ 99) ∧ 0 ≤ s ∧ s ≤ 40) := ⟨HN.out, by omega, by omega⟩
        have hnb : 0 ≤ nbF s ∧ nbF s ≤ 5 := by unfold nbF; omega
        by_cases h2 : (l : Int) = nbF s
        · have HF := hide (oneF_rest (p := (a, s, xs)) HG.out (by show ((xs.length : Nat) : Int) = _; rw [HL.out]; exact h2))
          have HC := hide (blocksForI s HG.out.2.1 (by have := HG.out.2.2; omega))
          rw [← h2] at HC
          clear h2 hnb
          go_enter Tryz.func200, Tryz.ntmps200
          go_wp2_with fail
          refine (isName_yes a HN.out.1 HN.out.2 w).mono ?_
          rintro e w' ⟨rfl, hw⟩
          have hw := hw.symm
          subst hw
          go_wp2_with fail
          go_quiet ((go_at_call 171; exact Calls.quiet_of_same (HC.out _)))
          have g2q : (w.drewN nq).cell? ⟨b, off + 2, none⟩ = some (.slice ay l cy) := g2
          go_wp2
          go_loopw [41] (fun i wr => ∃ (k : Nat), k ≤ l ∧ i = .int .i64 k ∧ Hid (∀ j, j < k → inB (xs.getD j 0) = true) ∧ wr = w.drewN nq) (fun i _ => l - (RowKit.intOf i).toNat)
          case atStart => exact ⟨0, Nat.zero_le _, rfl, fun j hj => absurd hj (Nat.not_lt_zero _), by first | rfl | trivial⟩
          case round =>
            obtain ⟨k, hk, rfl, HA, rfl⟩ := hrel
            by_cases hlt : k < l
            · obtain ⟨b2, off2, rfl, q1⟩ := HY.out.at (k := k) (by rw [HL.out]; exact hlt)
              obtain ⟨x, hx⟩ : ∃ x, xs.getD k 0 = x := ⟨_, rfl⟩
              rw [hx] at q1
              have q1' : (w.drewN nq).cell? ⟨b2, off2 + k, none⟩ = some (.int .i64 x) := q1
              clear q1
              have HX := hide hx
              have hk0 : (0 : Int) ≤ (k : Int) := by omega
              have hk1 : (k : Int) < (l : Int) := by omega
              clear hx
              by_cases hb1 : x < 3
              · have HE : Hid ((3 : Int) = R) := by
                  rw [Hid, ← HR.out, HF.out, if_neg]
                  intro h
                  have := List.all_eq_true.1 h x (by rw [← HX.out]; simp [List.getD, show k < xs.length by rw [HL.out]; exact hlt])
                  simp [inB] at this
                  omega
                go_wp2
                go_ret
                exact ⟨ret_intF HE.out, _, rfl⟩
              · by_cases hb2 : 22 < x
                · have HE : Hid ((3 : Int) = R) := by
                    rw [Hid, ← HR.out, HF.out, if_neg]
                    intro h
                    have := List.all_eq_true.1 h x (by rw [← HX.out]; simp [List.getD, show k < xs.length by rw [HL.out]; exact hlt])
                    simp [inB] at this
                    omega
                  go_wp2
                  go_ret
                  exact ⟨ret_intF HE.out, _, rfl⟩
                · have HA' : Hid (∀ j, j < k + 1 → inB (xs.getD j 0) = true) := fun j hj => by
                    by_cases e : j = k
                    · subst e; rw [HX.out]; simp [inB]; omega
                    · exact HA.out j (by omega)
                  go_wp2
                  go_roundw
                  case rel => exact ⟨k + 1, hlt, by go_num, HA'.out, by first | rfl | trivial⟩
                  case measure => simp [RowKit.intOf]; omega
            · have hkn : k = l := by omega
              subst hkn
              have HE : Hid ((0 : Int) = R) := by
                rw [Hid, ← HR.out, HF.out, if_pos]
                rw [List.all_eq_true]
                intro x hx
                obtain ⟨i, hi, rfl⟩ := List.mem_iff_getElem.1 hx
                have := HA.out i (by rw [← HL.out]; exact hi)
                simpa [List.getD, hi] using this
              go_wp2
              go_ret
              exact ⟨ret_intF HE.out, _, rfl⟩
        · have HE : Hid ((1 : Int) = R) := (oneF_form (p := (a, s, xs)) HG.out (by show ((xs.length : Nat) : Int) ≠ _; rw [HL.out]; exact h2)).symm.trans HR.out
          have HC := hide (blocksForI s HG.out.2.1 (by have := HG.out.2.2; omega))
          obtain ⟨N, hN⟩ : ∃ N, nbF s = N := ⟨_, rfl⟩
          rw [hN] at h2 HC
          have h2b : ((l : Int) == N) = false := by simpa using h2
          clear hN hnb
          go_enter Tryz.func200, Tryz.ntmps200
          go_wp2_with fail
          refine (isName_yes a HN.out.1 HN.out.2 w).mono ?_
          rintro e w' ⟨rfl, hw⟩
          have hw := hw.symm
          subst hw
          go_wp2_with fail
          go_quiet ((go_at_call 171; exact Calls.quiet_of_same (HC.out _)))
          go_wp2
          go_ret
          exact ⟨ret_intF HE.out, _, rfl⟩
  · have HE : Hid ((3 : Int) = R) := (oneF_range (p := (a, s, xs)) (fun h => hn h.1)).symm.trans HR.out
    have HN := hide hn
    clear hn
    go_enter Tryz.func200, Tryz.ntmps200
    go_wp2_with fail
    refine (isName_no a HN.out w).mono ?_
    rintro e w' ⟨rfl, hw⟩
    have hw := hw.symm
    subst hw
    go_wp2
    go_ret
    exact ⟨ret_intF HE.out, 0, rfl⟩
theorem l8SizeY (s : Int) (h0 : 0 ≤ s) (h1 : s ≤ 40) (w : World) : Calls Tryz.prog 201 #[.int .i64 s] w fun e w' => e = .returned (.bool true) ∧ w' = w := by
  go_enter Tryz.func201, Tryz.ntmps201
  go_wp2_with fail
  refine (l1In_yes s 0 40 h0 h1 w).mono ?_
  rintro e w' ⟨rfl, hw⟩
  have hw := hw.symm
  subst hw
  go_wp2
  go_ret
  exact ⟨rfl, rfl⟩
theorem l8SizeN (s : Int) (h : s < 0 ∨ 40 < s) (w : World) : Calls Tryz.prog 201 #[.int .i64 s] w fun e w' => e = .returned (.bool false) ∧ w' = w := by
  go_enter Tryz.func201, Tryz.ntmps201
  go_wp2_with fail
  refine (l1In_no s 0 40 h w).mono ?_
  rintro e w' ⟨rfl, hw⟩
  have hw := hw.symm
  subst hw
  go_wp2
  go_ret
  exact ⟨rfl, rfl⟩

set_option maxHeartbeats 2000000 in
set_option maxRecDepth 4000 in
theorem l8One {S : Nat → Prop} {w : World} {b off : Nat} {p : Oj} (hp : RdFp S w b off p) :
    Calls Tryz.prog 177 #[.pointer (some ⟨b, off, none⟩)] w fun e w' => e = .returned (.int .i64 (oneF p)) ∧ ∃ q, w' = w.drewN q := by
  obtain ⟨y, g0, g1, g2, hy⟩ := hp
  obtain ⟨a, s, xs⟩ := p
  dsimp only at g0 g1 g2 hy
  obtain ⟨ay, cy, rfl⟩ := hy.shape
  have hm := hy.max
  have HY := hide hy
  obtain ⟨l, hl⟩ : ∃ l, xs.length = l := ⟨_, rfl⟩
  have HL := hide hl
  rw [hl] at g2 HY hm
  clear hy hl
  obtain ⟨R, hR⟩ : ∃ R, oneF (a, s, xs) = R := ⟨_, rfl⟩
  have HR := hide hR
  rw [hR]
  clear hR
  by_cases hn : 1 ≤ a ∧ a ≤ 99
  · have HN := hide hn
    clear hn
    by_cases h0 : 0 ≤ s ∧ s ≤ 40
    · have HG : Hid ((1 ≤ a ∧ a ≤ 99) ∧ 0 ≤ s ∧ s ≤ 40) := ⟨HN.out, h0⟩
      clear h0
      by_cases h2 : (l : Int) = nbF s
      · have HF := hide (oneF_rest (p := (a, s, xs)) HG.out (by show ((xs.length : Nat) : Int) = _; rw [HL.out]; exact h2))
        have HC := hide (l8For s HG.out.2.1 (by have := HG.out.2.2; omega))
        rw [← h2] at HC
        clear h2
        go_enter Tryz.func177, Tryz.ntmps177
        go_wp2_with fail
        refine (l1In_yes a 1 99 HN.out.1 HN.out.2 w).mono ?_
        rintro e w' ⟨rfl, hw⟩
        have hw := hw.symm
        subst hw
        go_wp2_with fail
        refine (l8SizeY s HG.out.2.1 HG.out.2.2 _).mono ?_
        rintro e w' ⟨rfl, hw⟩
        have hw := hw.symm
        subst hw
        go_wp2_with fail
        go_quiet ((go_at_call 117; exact Calls.quiet_of_same (HC.out _)))
        have g2q : (w.drewN nq).cell? ⟨b, off + 2, none⟩ = some (.slice ay l cy) := g2
        clear g0 g1 g2
        go_wp2
        go_loopw [3] (fun i wr => ∃ (k : Nat), k ≤ l ∧ i = .int .i64 k ∧ Hid (∀ j, j < k → inB (xs.getD j 0) = true) ∧ wr = w.drewN nq) (fun i _ => l - (RowKit.intOf i).toNat)
        case atStart => exact ⟨0, Nat.zero_le _, rfl, fun j hj => absurd hj (Nat.not_lt_zero _), by first | rfl | trivial⟩
        case round =>
          obtain ⟨k, hk, rfl, HA, rfl⟩ := hrel
          by_cases hlt : k < l
          · obtain ⟨b2, off2, rfl, q1⟩ := HY.out.at (k := k) (by rw [HL.out]; exact hlt)
            obtain ⟨x, hx⟩ : ∃ x, xs.getD k 0 = x := ⟨_, rfl⟩
            rw [hx] at q1
            have q1' : (w.drewN nq).cell? ⟨b2, off2 + k, none⟩ = some (.int .i64 x) := q1
            clear q1
            have HX := hide hx
            have hk0 : (0 : Int) ≤ (k : Int) := by omega
            have hk1 : (k : Int) < (l : Int) := by omega
            clear hx
            by_cases hb1 : 3 ≤ x ∧ x ≤ 22
            · have HA' : Hid (∀ j, j < k + 1 → inB (xs.getD j 0) = true) := fun j hj => by
                by_cases e : j = k
                · subst e; rw [HX.out]; simp [inB]; omega
                · exact HA.out j (by omega)
              have HI := hide (fun W => l1In_yes x 3 22 hb1.1 hb1.2 W)
              clear hb1
              go_wp2_with fail
              refine (HI.out _).mono ?_
              rintro e w2 ⟨rfl, hw⟩
              have hw := hw.symm
              subst hw
              go_wp2
              go_roundw
              case rel => exact ⟨k + 1, hlt, by go_num, HA'.out, by first | rfl | trivial⟩
              case measure => simp [RowKit.intOf]; omega
            · have HE : Hid ((3 : Int) = R) := by
                rw [Hid, ← HR.out, HF.out, if_neg]
                intro h
                have := List.all_eq_true.1 h x (by rw [← HX.out]; simp [List.getD, show k < xs.length by rw [HL.out]; exact hlt])
                simp [inB] at this
                omega
              have HI := hide (fun W => l1In_no x 3 22 (by omega) W)
              clear hb1
              go_wp2_with fail
              refine (HI.out _).mono ?_
              rintro e w2 ⟨rfl, hw⟩
              have hw := hw.symm
              subst hw
              go_wp2
              go_ret
              exact ⟨ret_intF HE.out, _, rfl⟩
          · have hkn : k = l := by omega
            subst hkn
            have HE : Hid ((0 : Int) = R) := by
              rw [Hid, ← HR.out, HF.out, if_pos]
              rw [List.all_eq_true]
              intro x hx
              obtain ⟨i, hi, rfl⟩ := List.mem_iff_getElem.1 hx
              have := HA.out i (by rw [← HL.out]; exact hi)
              simpa [List.getD, hi] using this
            go_wp2
            go_ret
            exact ⟨ret_intF HE.out, _, rfl⟩
      · have HE : Hid ((1 : Int) = R) := (oneF_form (p := (a, s, xs)) HG.out (by show ((xs.length : Nat) : Int) ≠ _; rw [HL.out]; exact h2)).symm.trans HR.out
        have HC := hide (l8For s HG.out.2.1 (by have := HG.out.2.2; omega))
        obtain ⟨N, hN⟩ : ∃ N, nbF s = N := ⟨_, rfl⟩
        rw [hN] at h2 HC
        have h2b : ((l : Int) == N) = false := by simpa using h2
        clear hN
        go_enter Tryz.func177, Tryz.ntmps177
        go_wp2_with fail
        refine (l1In_yes a 1 99 HN.out.1 HN.out.2 w).mono ?_
        rintro e w' ⟨rfl, hw⟩
        have hw := hw.symm
        subst hw
        go_wp2_with fail
        refine (l8SizeY s HG.out.2.1 HG.out.2.2 _).mono ?_
        rintro e w' ⟨rfl, hw⟩
        have hw := hw.symm
        subst hw
        go_wp2_with fail
        go_quiet ((go_at_call 117; exact Calls.quiet_of_same (HC.out _)))
        go_wp2
        go_ret
        exact ⟨ret_intF HE.out, _, rfl⟩
    · have HE : Hid ((3 : Int) = R) := (oneF_range (p := (a, s, xs)) (fun h => h0 h.2)).symm.trans HR.out
      have HS := hide (fun W => l8SizeN s (by omega) W)
      clear h0
      go_enter Tryz.func177, Tryz.ntmps177
      go_wp2_with fail
      refine (l1In_yes a 1 99 HN.out.1 HN.out.2 w).mono ?_
      rintro e w' ⟨rfl, hw⟩
      have hw := hw.symm
      subst hw
      go_wp2_with fail
      refine (HS.out _).mono ?_
      rintro e w' ⟨rfl, hw⟩
      have hw := hw.symm
      subst hw
      go_wp2
      go_ret
      exact ⟨ret_intF HE.out, 0, rfl⟩
  · have HE : Hid ((3 : Int) = R) := (oneF_range (p := (a, s, xs)) (fun h => hn h.1)).symm.trans HR.out
    have HN := hide (fun W => l1In_no a 1 99 (by omega) W)
    clear hn
    go_enter Tryz.func177, Tryz.ntmps177
    go_wp2_with fail
    refine (HN.out w).mono ?_
    rintro e w' ⟨rfl, hw⟩
    have hw := hw.symm
    subst hw
    go_wp2
    go_ret
    exact ⟨ret_intF HE.out, 0, rfl⟩
end Go.Proofs.YtlmaopljihbdkaaGreat
/- The laws' helpers over File. Made by program (genfi.py). -/
namespace Go.Proofs.YtlmaopljihbdkaaGreat
open Go.RowKit
end Go.Proofs.YtlmaopljihbdkaaGreat
/- Chapter 8: lists of files: the laws' helpers over them. Made by program (genfi.py). -/
namespace Go.Proofs.YtlmaopljihbdkaaGreat
open Go.RowKit
end Go.Proofs.YtlmaopljihbdkaaGreat
/- Chapter 8: lists of files: how much they hold, and copies of them. Made by program (genfi.py). -/
namespace Go.Proofs.YtlmaopljihbdkaaGreat
open Go.RowKit
theorem Tryz.infoFile : (Tryz.prog.info? 114).map (fun i => (i.zero, i.size, i.bytes)) = some (some (.agg #[.int .i64 0, .int .i64 0, .slice none 0 0]), 3, 40) := by kernel_rfl

theorem run_make_file (n : Nat) (hn : n ≤ 1048576) (w : World) :
    (Instr.makeSlice 111 (.int .i64 (n : Int)) (.int .i64 (n : Int))).run Tryz.prog w = .ok (.slice (some ⟨w.heap.size, 0, none⟩) n n) (w.alloc (.cells (madeCells #[.int .i64 0, .int .i64 0, .slice none 0 0] (n * 3)) 114)) := by
  obtain ⟨i, hi, hz, hs, hb⟩ := info_parts Tryz.infoFile
  have hr := run_make (P := Tryz.prog) w 111 114 i (.agg #[.int .i64 0, .int .i64 0, .slice none 0 0]) Tryz.underlying111 hi hz .i64 .i64 n n (by omega) (Int.le_refl _) (by rw [hb]; omega) (by omega)
  simp only [Int.toNat_natCast, hs] at hr
  exact hr

/-- The cap of a slice is no smaller than its length. -/
def capOk : Value → Prop
  | .slice _ n c => n ≤ c
  | _ => True
end Go.Proofs.YtlmaopljihbdkaaGreat
/- Chapter 8: files among the arguments; a code with files. Made by program (genfi.py). -/
namespace Go.Proofs.YtlmaopljihbdkaaGreat
open Go.RowKit


/-- What a call that ends in a code and files is to leave. -/
def EndsFi (x : Int) (rs : List Oj) (w : World) (e : Ending) (w' : World) : Prop :=
  ∃ z, e = .returned (.agg #[.int .i64 x, z]) ∧ Below w.heap.size w w' ∧ OwJ (fun b => w.heap.size ≤ b ∧ b < w'.heap.size) w' z rs

theorem IvJ.mono {lo hi lo' : Nat} {w : World} {v : Value} {ps : List Oj} (h : IvJ lo hi w v ps) (h1 : lo' ≤ lo) : IvJ lo' hi w v ps := by
  obtain ⟨S, k0, k1, k2⟩ := h
  exact ⟨S, k0, fun b hb => ⟨Nat.le_trans h1 (k1 b hb).1, (k1 b hb).2⟩, k2⟩
end Go.Proofs.YtlmaopljihbdkaaGreat
