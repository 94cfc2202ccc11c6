/- Chapter 6: the fault of owners, both sides walked. -/
import Derived.Test.YtkpkoapcmnapoabLk2
namespace Go.Proofs.Ytkpkoapcmnapoab
open Go.RowKit

theorem isHomeY (v : Int) (h1 : 0 ≤ v) (h2 : v < 40) (w : World) : Calls Try.prog 17 #[.int .i64 v] w fun e w' => e = .returned (.bool true) ∧ w' = w := by
  go_enter Try.func17, Try.ntmps17
  go_wp2
  go_ret
  exact ⟨rfl, rfl⟩
theorem isHomeN (v : Int) (h : ¬ (0 ≤ v ∧ v < 40)) (w : World) : Calls Try.prog 17 #[.int .i64 v] w fun e w' => e = .returned (.bool false) ∧ w' = w := by
  by_cases h0 : 0 ≤ v
  · have h1 : ¬ v < 40 := fun h2 => h ⟨h0, h2⟩
    clear h
    go_enter Try.func17, Try.ntmps17
    go_wp2
    go_ret
    exact ⟨rfl, rfl⟩
  · have h1 : v < 0 := by omega
    clear h h0
    go_enter Try.func17, Try.ntmps17
    go_wp2
    go_ret
    exact ⟨rfl, rfl⟩
theorem isTxnY (v : Int) (h1 : 0 < v) (h2 : v ≤ 99) (w : World) : Calls Try.prog 16 #[.int .i64 v] w fun e w' => e = .returned (.bool true) ∧ w' = w := by
  go_enter Try.func16, Try.ntmps16
  go_wp2
  go_ret
  exact ⟨rfl, rfl⟩
theorem isTxnN (v : Int) (h : ¬ (0 < v ∧ v ≤ 99)) (w : World) : Calls Try.prog 16 #[.int .i64 v] w fun e w' => e = .returned (.bool false) ∧ w' = w := by
  by_cases h0 : 0 < v
  · have h1 : ¬ v ≤ 99 := fun h2 => h ⟨h0, h2⟩
    clear h
    go_enter Try.func16, Try.ntmps16
    go_wp2
    go_ret
    exact ⟨rfl, rfl⟩
  · have h1 : v ≤ 0 := by omega
    clear h h0
    go_enter Try.func16, Try.ntmps16
    go_wp2
    go_ret
    exact ⟨rfl, rfl⟩
theorem l1InY (v lo hi : Int) (h1 : lo ≤ v) (h2 : v ≤ hi) (w : World) : Calls Try.prog 39 #[.int .i64 v, .int .i64 lo, .int .i64 hi] w fun e w' => e = .returned (.bool true) ∧ w' = w := by
  go_enter Try.func39, Try.ntmps39
  go_wp2
  go_ret
  exact ⟨rfl, rfl⟩
theorem l1InN (v lo hi : Int) (h : ¬ (lo ≤ v ∧ v ≤ hi)) (w : World) : Calls Try.prog 39 #[.int .i64 v, .int .i64 lo, .int .i64 hi] w fun e w' => e = .returned (.bool false) ∧ w' = w := by
  by_cases h0 : lo ≤ v
  · have h1 : ¬ v ≤ hi := fun h2 => h ⟨h0, h2⟩
    clear h
    go_enter Try.func39, Try.ntmps39
    go_wp2
    go_ret
    exact ⟨rfl, rfl⟩
  · clear h
    go_enter Try.func39, Try.ntmps39
    go_wp2
    go_ret
    exact ⟨rfl, rfl⟩
theorem l2HomeY (v : Int) (h1 : 0 ≤ v) (h2 : v < 40) (w : World) : Calls Try.prog 24 #[.int .i64 v] w fun e w' => e = .returned (.bool true) ∧ w' = w := by
  go_enter Try.func24, Try.ntmps24
  go_wp2_with fail
  refine (l1InY v 0 39 (by omega) (by omega) _).mono ?_
  rintro e w' ⟨rfl, rfl⟩
  go_wp2
  go_ret
  exact ⟨rfl, rfl⟩
theorem l2HomeN (v : Int) (h : ¬ (0 ≤ v ∧ v < 40)) (w : World) : Calls Try.prog 24 #[.int .i64 v] w fun e w' => e = .returned (.bool false) ∧ w' = w := by
  go_enter Try.func24, Try.ntmps24
  go_wp2_with fail
  refine (l1InN v 0 39 (by omega) _).mono ?_
  rintro e w' ⟨rfl, rfl⟩
  go_wp2
  go_ret
  exact ⟨rfl, rfl⟩
theorem l6TxnY (v : Int) (h1 : 0 < v) (h2 : v ≤ 99) (w : World) : Calls Try.prog 23 #[.int .i64 v] w fun e w' => e = .returned (.bool true) ∧ w' = w := by
  go_enter Try.func23, Try.ntmps23
  go_wp2_with fail
  refine (l1InY v 1 99 (by omega) (by omega) _).mono ?_
  rintro e w' ⟨rfl, rfl⟩
  go_wp2
  go_ret
  exact ⟨rfl, rfl⟩
theorem l6TxnN (v : Int) (h : ¬ (0 < v ∧ v ≤ 99)) (w : World) : Calls Try.prog 23 #[.int .i64 v] w fun e w' => e = .returned (.bool false) ∧ w' = w := by
  go_enter Try.func23, Try.ntmps23
  go_wp2_with fail
  refine (l1InN v 1 99 (by omega) _).mono ?_
  rintro e w' ⟨rfl, rfl⟩
  go_wp2
  go_ret
  exact ⟨rfl, rfl⟩

/-- What is asked of the i-th owner. -/
def stF (os : List Wn) (i : Nat) : Int :=
  if ¬ (0 ≤ (os.getD i wn0).1 ∧ (os.getD i wn0).1 < 40) then 3 else if ¬ (0 < (os.getD i wn0).2 ∧ (os.getD i wn0).2 ≤ 99) then 3 else if 0 < i ∧ (os.getD i wn0).1 ≤ (os.getD (i - 1) wn0).1 then 1 else 0
/-- .. of n owners, from the k-th on: the first code. -/
def fromF (os : List Wn) : Nat → Nat → Int
  | 0, _ => 0
  | n + 1, k => if stF os k = 0 then fromF os n (k + 1) else stF os k
/-- The fault of owners. -/
def ownF (os : List Wn) : Int := if 40 < os.length then 2 else fromF os os.length 0
theorem fromF_ok {os : List Wn} {m j : Nat} (hj : j < m) (h : stF os j = 0) : fromF os (m - j) j = fromF os (m - (j + 1)) (j + 1) := by
  rw [show m - j = (m - (j + 1)) + 1 by omega, fromF, if_pos h]
theorem fromF_no {os : List Wn} {m j : Nat} (hj : j < m) (h : stF os j ≠ 0) : fromF os (m - j) j = stF os j := by
  rw [show m - j = (m - (j + 1)) + 1 by omega, fromF, if_neg h]
theorem fromF_end {os : List Wn} {m j : Nat} (hj : ¬ j < m) : fromF os (m - j) j = 0 := by
  rw [show m - j = 0 by omega, fromF]
theorem fromF_all {os : List Wn} : ∀ (n k : Nat), fromF os n k = 0 → ∀ i, k ≤ i → i < k + n → stF os i = 0
  | 0, k, _, i, h1, h2 => by omega
  | n + 1, k, h, i, h1, h2 => by
    rw [fromF] at h
    by_cases hs : stF os k = 0
    · rw [if_pos hs] at h
      by_cases e : i = k
      · rw [e]; exact hs
      · exact fromF_all n (k + 1) h i (by omega) (by omega)
    · rw [if_neg hs] at h
      exact absurd h hs
/-- What owners without a fault are. -/
structure Own (os : List Wn) : Prop where
  len : os.length ≤ 40
  home : ∀ i, i < os.length → 0 ≤ (os.getD i wn0).1 ∧ (os.getD i wn0).1 < 40
  txn : ∀ i, i < os.length → 0 < (os.getD i wn0).2 ∧ (os.getD i wn0).2 ≤ 99
  up : ∀ i, i + 1 < os.length → (os.getD i wn0).1 < (os.getD (i + 1) wn0).1
theorem own_of {os : List Wn} (h : ownF os = 0) : Own os := by
  unfold ownF at h
  by_cases hl : 40 < os.length
  · rw [if_pos hl] at h; exact absurd h (by decide)
  · rw [if_neg hl] at h
    have ha : ∀ i, i < os.length → stF os i = 0 := fun i hi => fromF_all _ _ h i (Nat.zero_le _) (by omega)
    refine ⟨by omega, fun i hi => ?_, fun i hi => ?_, fun i hi => ?_⟩
    · have := ha i hi
      unfold stF at this
      by_cases h1 : 0 ≤ (os.getD i wn0).1 ∧ (os.getD i wn0).1 < 40
      · exact h1
      · rw [if_pos h1] at this; exact absurd this (by decide)
    · have := ha i hi
      unfold stF at this
      by_cases h1 : 0 ≤ (os.getD i wn0).1 ∧ (os.getD i wn0).1 < 40
      · rw [if_neg (fun h => h h1)] at this
        by_cases h2 : 0 < (os.getD i wn0).2 ∧ (os.getD i wn0).2 ≤ 99
        · exact h2
        · rw [if_pos h2] at this; exact absurd this (by decide)
      · rw [if_pos h1] at this; exact absurd this (by decide)
    · have := ha (i + 1) hi
      unfold stF at this
      by_cases h3 : 0 < i + 1 ∧ (os.getD (i + 1) wn0).1 ≤ (os.getD (i + 1 - 1) wn0).1
      · simp only [if_pos h3] at this
        split at this <;> (try split at this) <;> exact absurd this (by decide)
      · rw [show i + 1 - 1 = i by omega] at h3
        omega
theorem own_up {os : List Wn} (h : Own os) : ∀ (i j : Nat), i < j → j < os.length → (os.getD i wn0).1 < (os.getD j wn0).1 := by
  intro i j
  induction j with
  | zero => intro h; omega
  | succ j ih =>
    intro h1 h2
    have h3 := h.up j h2
    by_cases e : i = j
    · rw [e]; exact h3
    · have := ih (by omega) (by omega); omega

set_option maxHeartbeats 1000000 in
set_option maxRecDepth 4000 in
theorem implOwnersFault {S : Nat → Prop} {w : World} {v : Value} {os : List Wn} (hv : RdO S w v os) :
    Calls Try.prog 12 #[v] w fun e w' => e = .returned (.int .i64 (ownF os)) ∧ Below w.heap.size w w' := by
  obtain ⟨ao, c, rfl⟩ := hv.shape
  have hm := hv.max
  have HV := hide hv
  obtain ⟨m, hmm⟩ : ∃ m, os.length = m := ⟨_, rfl⟩
  have HM := hide hmm
  rw [hmm] at HV hm ⊢
  clear hv hmm
  by_cases h40 : 40 < m
  · have HZ := hide (show ownF os = 2 by unfold ownF; rw [if_pos (by rw [HM.out]; exact h40)])
    go_enter Try.func12, Try.ntmps12
    go_wp2
    go_ret
    exact ⟨ret_int HZ.out.symm, Below.refl _ _⟩
  · have HE := hide (show ownF os = fromF os m 0 by unfold ownF; rw [if_neg (by rw [HM.out]; exact h40), HM.out])
    go_enter Try.func12, Try.ntmps12
    go_wp2
    go_loopw [10] (fun i wr => ∃ j : Nat, j ≤ m ∧ i = .int .i64 j ∧ Hid (ownF os = fromF os (m - j) j) ∧ Hid (Below w.heap.size w wr)) (fun i _ => m - (intOf i).toNat)
    case atStart => exact ⟨0, Nat.zero_le _, rfl, HE.out, Below.refl _ _⟩
    case round =>
      obtain ⟨k, hk, rfl, HG, HB⟩ := hrel
      by_cases hlt : k < m
      · obtain ⟨b, off, rfl, q1, q2⟩ := HV.out.at (k := k) (by rw [HM.out]; exact hlt)
        have g1 := cell_later HB.out q1
        have g2 := cell_later HB.out q2
        have HS := hide (fun (x : Int) => (show os.getD k wn0 = os.getD k wn0 from rfl))
        obtain ⟨x, hx⟩ : ∃ x, (os.getD k wn0).1 = x := ⟨_, rfl⟩
        obtain ⟨y, hy⟩ : ∃ y, (os.getD k wn0).2 = y := ⟨_, rfl⟩
        rw [hx] at g1
        rw [hy] at g2
        have HX := hide hx
        have HY := hide hy
        clear q1 q2 hx hy HS
        by_cases hat : 0 ≤ x ∧ x < 40
        · by_cases htx : 0 < y ∧ y ≤ 99
          · have HAt := hide hat
            have HTx := hide htx
            obtain ⟨ha1, ha2⟩ := hat
            obtain ⟨ht1, ht2⟩ := htx
            by_cases hk0 : k = 0
            · subst hk0
              have g1' : wr.cell? ⟨b, off, none⟩ = some (.int .i64 x) := by simpa using g1
              have g2' : wr.cell? ⟨b, off + 1, none⟩ = some (.int .i64 y) := by simpa using g2
              clear g1 g2
              have HF2 := hide (HG.out.trans (fromF_ok hlt (by unfold stF; rw [HX.out, HY.out, if_neg (fun h => h HAt.out), if_neg (fun h => h HTx.out), if_neg (by omega)])))
              go_wp2_with fail
              refine (isHomeY x ha1 ha2 _).mono ?_
              rintro e w' ⟨rfl, rfl⟩
              go_wp2_with fail
              refine (isTxnY y ht1 ht2 _).mono ?_
              rintro e w' ⟨rfl, rfl⟩
              go_wp2_with fail
              go_quiet (fail)
              have HBq := hide ((below_on (below_on HB.out (below_alloc wr (.cells #[.int .i64 x, .int .i64 y] 40))) (below_drewN _ nq)))
              go_wp2
              go_roundw
              case rel => exact ⟨0 + 1, by omega, by go_num, HF2.out, HBq.out⟩
              case measure => simp [intOf]; omega
            · obtain ⟨j, hjk⟩ : ∃ j, k = j + 1 := ⟨k - 1, by omega⟩
              obtain ⟨b', off', e', q1', _⟩ := HV.out.at (k := j) (by rw [HM.out]; omega)
              injection e' with e'
              injection e' with e1 e2
              subst e1 e2
              have g0 := cell_later (below_on HB.out (below_alloc wr (.cells #[.int .i64 x, .int .i64 y] 40))) q1'
              obtain ⟨z, hz⟩ : ∃ z, (os.getD j wn0).1 = z := ⟨_, rfl⟩
              rw [hz] at g0
              have HZ := hide hz
              clear hz q1'
              have hw1 : IntKind.i64.wrap ((k : Int) - 1) = (j : Int) := by simp [IntKind.wrap, IntKind.bits, IntKind.signed]; omega
              have hkp : 0 < k := by omega
              have hj0 : (0 : Int) < (k : Int) := by omega
              have hjp : (0 : Int) ≤ (j : Int) := by omega
              have hjn : (j : Int) < (m : Int) := by omega
              have HJK := hide hjk
              clear hk0 hjk
              by_cases hxz : x ≤ z
              · have HF2 := hide (HG.out.trans ((fromF_no hlt (by unfold stF; rw [HX.out, HY.out, if_neg (fun h => h HAt.out), if_neg (fun h => h HTx.out), show k - 1 = j by have := HJK.out; omega, HZ.out, if_pos ⟨by omega, hxz⟩]; decide)).trans (show stF os k = 1 by unfold stF; rw [HX.out, HY.out, if_neg (fun h => h HAt.out), if_neg (fun h => h HTx.out), show k - 1 = j by have := HJK.out; omega, HZ.out, if_pos ⟨by omega, hxz⟩])))
                go_wp2_with fail
                refine (isHomeY x ha1 ha2 _).mono ?_
                rintro e w' ⟨rfl, rfl⟩
                go_wp2_with fail
                refine (isTxnY y ht1 ht2 _).mono ?_
                rintro e w' ⟨rfl, rfl⟩
                go_wp2_with fail
                go_quiet (fail)
                have HBq := hide ((below_on (below_on HB.out (below_alloc wr (.cells #[.int .i64 x, .int .i64 y] 40))) (below_drewN _ nq)))
                go_wp2
                go_ret
                exact ⟨ret_int HF2.out.symm, HBq.out⟩
              · have HF2 := hide (HG.out.trans (fromF_ok hlt (by unfold stF; rw [HX.out, HY.out, if_neg (fun h => h HAt.out), if_neg (fun h => h HTx.out), show k - 1 = j by have := HJK.out; omega, HZ.out, if_neg (fun h => hxz h.2)])))
                go_wp2_with fail
                refine (isHomeY x ha1 ha2 _).mono ?_
                rintro e w' ⟨rfl, rfl⟩
                go_wp2_with fail
                refine (isTxnY y ht1 ht2 _).mono ?_
                rintro e w' ⟨rfl, rfl⟩
                go_wp2_with fail
                go_quiet (fail)
                have HBq := hide ((below_on (below_on HB.out (below_alloc wr (.cells #[.int .i64 x, .int .i64 y] 40))) (below_drewN _ nq)))
                go_wp2
                go_roundw
                case rel => exact ⟨k + 1, by omega, by go_num, HF2.out, HBq.out⟩
                case measure => simp [intOf]; omega
          · have HZ : Hid (ownF os = 3) := by
              have h : stF os k = 3 := by unfold stF; rw [HX.out, HY.out, if_neg (fun h => h hat), if_pos htx]
              exact HG.out.trans ((fromF_no hlt (by rw [h]; decide)).trans h)
            have HTx := hide htx
            obtain ⟨ha1, ha2⟩ := hat
            clear htx
            go_wp2_with fail
            refine (isHomeY x ha1 ha2 _).mono ?_
            rintro e w' ⟨rfl, rfl⟩
            go_wp2_with fail
            refine (isTxnN y HTx.out _).mono ?_
            rintro e w' ⟨rfl, rfl⟩
            go_wp2
            go_ret
            exact ⟨ret_int HZ.out.symm, (below_on HB.out (below_alloc wr (.cells #[.int .i64 x, .int .i64 y] 40)))⟩
        · have HZ : Hid (ownF os = 3) := by
            have h : stF os k = 3 := by unfold stF; rw [HX.out, if_pos hat]
            exact HG.out.trans ((fromF_no hlt (by rw [h]; decide)).trans h)
          have HA := hide hat
          clear hat
          go_wp2_with fail
          refine (isHomeN x HA.out _).mono ?_
          rintro e w' ⟨rfl, rfl⟩
          go_wp2
          go_ret
          exact ⟨ret_int HZ.out.symm, (below_on HB.out (below_alloc wr (.cells #[.int .i64 x, .int .i64 y] 40)))⟩
      · have HZ := hide (HG.out.trans (fromF_end hlt))
        go_wp2
        go_ret
        exact ⟨ret_int HZ.out.symm, HB.out⟩

set_option maxHeartbeats 1000000 in
set_option maxRecDepth 4000 in
theorem l6Fault {S : Nat → Prop} {w : World} {v : Value} {os : List Wn} (hv : RdO S w v os) :
    Calls Try.prog 22 #[v] w fun e w' => e = .returned (.int .i64 (ownF os)) ∧ Below w.heap.size w w' := by
  obtain ⟨ao, c, rfl⟩ := hv.shape
  have hm := hv.max
  have HV := hide hv
  obtain ⟨m, hmm⟩ : ∃ m, os.length = m := ⟨_, rfl⟩
  have HM := hide hmm
  rw [hmm] at HV hm ⊢
  clear hv hmm
  by_cases h40 : 40 < m
  · have HZ := hide (show ownF os = 2 by unfold ownF; rw [if_pos (by rw [HM.out]; exact h40)])
    go_enter Try.func22, Try.ntmps22
    go_wp2
    go_ret
    exact ⟨ret_int HZ.out.symm, Below.refl _ _⟩
  · have HE := hide (show ownF os = fromF os m 0 by unfold ownF; rw [if_neg (by rw [HM.out]; exact h40), HM.out])
    go_enter Try.func22, Try.ntmps22
    go_wp2
    go_loopw [3] (fun i wr => ∃ j : Nat, j ≤ m ∧ i = .int .i64 j ∧ Hid (ownF os = fromF os (m - j) j) ∧ Hid (Below w.heap.size w wr)) (fun i _ => m - (intOf i).toNat)
    case atStart => exact ⟨0, Nat.zero_le _, rfl, HE.out, Below.refl _ _⟩
    case round =>
      obtain ⟨k, hk, rfl, HG, HB⟩ := hrel
      by_cases hlt : k < m
      · obtain ⟨b, off, rfl, q1, q2⟩ := HV.out.at (k := k) (by rw [HM.out]; exact hlt)
        have g1 := cell_later HB.out q1
        have g2 := cell_later HB.out q2
        have HS := hide (fun (x : Int) => (show os.getD k wn0 = os.getD k wn0 from rfl))
        obtain ⟨x, hx⟩ : ∃ x, (os.getD k wn0).1 = x := ⟨_, rfl⟩
        obtain ⟨y, hy⟩ : ∃ y, (os.getD k wn0).2 = y := ⟨_, rfl⟩
        rw [hx] at g1
        rw [hy] at g2
        have HX := hide hx
        have HY := hide hy
        clear q1 q2 hx hy HS
        by_cases hat : 0 ≤ x ∧ x < 40
        · by_cases htx : 0 < y ∧ y ≤ 99
          · have HAt := hide hat
            have HTx := hide htx
            obtain ⟨ha1, ha2⟩ := hat
            obtain ⟨ht1, ht2⟩ := htx
            by_cases hk0 : k = 0
            · subst hk0
              have g1' : wr.cell? ⟨b, off, none⟩ = some (.int .i64 x) := by simpa using g1
              have g2' : wr.cell? ⟨b, off + 1, none⟩ = some (.int .i64 y) := by simpa using g2
              clear g1 g2
              have HF2 := hide (HG.out.trans (fromF_ok hlt (by unfold stF; rw [HX.out, HY.out, if_neg (fun h => h HAt.out), if_neg (fun h => h HTx.out), if_neg (by omega)])))
              go_wp2_with fail
              refine (l2HomeY x ha1 ha2 _).mono ?_
              rintro e w' ⟨rfl, rfl⟩
              go_wp2_with fail
              refine (l6TxnY y ht1 ht2 _).mono ?_
              rintro e w' ⟨rfl, rfl⟩
              go_wp2_with fail
              go_quiet (fail)
              have HBq := hide ((below_on HB.out (below_drewN _ nq)))
              go_wp2
              go_roundw
              case rel => exact ⟨0 + 1, by omega, by go_num, HF2.out, HBq.out⟩
              case measure => simp [intOf]; omega
            · obtain ⟨j, hjk⟩ : ∃ j, k = j + 1 := ⟨k - 1, by omega⟩
              obtain ⟨b', off', e', q1', _⟩ := HV.out.at (k := j) (by rw [HM.out]; omega)
              injection e' with e'
              injection e' with e1 e2
              subst e1 e2
              have g0 := cell_later HB.out q1'
              obtain ⟨z, hz⟩ : ∃ z, (os.getD j wn0).1 = z := ⟨_, rfl⟩
              rw [hz] at g0
              have HZ := hide hz
              clear hz q1'
              have hw1 : IntKind.i64.wrap ((k : Int) - 1) = (j : Int) := by simp [IntKind.wrap, IntKind.bits, IntKind.signed]; omega
              have hkp : 0 < k := by omega
              have hj0 : (0 : Int) < (k : Int) := by omega
              have hjp : (0 : Int) ≤ (j : Int) := by omega
              have hjn : (j : Int) < (m : Int) := by omega
              have HJK := hide hjk
              clear hk0 hjk
              by_cases hxz : x ≤ z
              · have HF2 := hide (HG.out.trans ((fromF_no hlt (by unfold stF; rw [HX.out, HY.out, if_neg (fun h => h HAt.out), if_neg (fun h => h HTx.out), show k - 1 = j by have := HJK.out; omega, HZ.out, if_pos ⟨by omega, hxz⟩]; decide)).trans (show stF os k = 1 by unfold stF; rw [HX.out, HY.out, if_neg (fun h => h HAt.out), if_neg (fun h => h HTx.out), show k - 1 = j by have := HJK.out; omega, HZ.out, if_pos ⟨by omega, hxz⟩])))
                go_wp2_with fail
                refine (l2HomeY x ha1 ha2 _).mono ?_
                rintro e w' ⟨rfl, rfl⟩
                go_wp2_with fail
                refine (l6TxnY y ht1 ht2 _).mono ?_
                rintro e w' ⟨rfl, rfl⟩
                go_wp2_with fail
                go_quiet (fail)
                have HBq := hide ((below_on HB.out (below_drewN _ nq)))
                go_wp2
                go_ret
                exact ⟨ret_int HF2.out.symm, HBq.out⟩
              · have HF2 := hide (HG.out.trans (fromF_ok hlt (by unfold stF; rw [HX.out, HY.out, if_neg (fun h => h HAt.out), if_neg (fun h => h HTx.out), show k - 1 = j by have := HJK.out; omega, HZ.out, if_neg (fun h => hxz h.2)])))
                go_wp2_with fail
                refine (l2HomeY x ha1 ha2 _).mono ?_
                rintro e w' ⟨rfl, rfl⟩
                go_wp2_with fail
                refine (l6TxnY y ht1 ht2 _).mono ?_
                rintro e w' ⟨rfl, rfl⟩
                go_wp2_with fail
                go_quiet (fail)
                have HBq := hide ((below_on HB.out (below_drewN _ nq)))
                go_wp2
                go_roundw
                case rel => exact ⟨k + 1, by omega, by go_num, HF2.out, HBq.out⟩
                case measure => simp [intOf]; omega
          · have HZ : Hid (ownF os = 3) := by
              have h : stF os k = 3 := by unfold stF; rw [HX.out, HY.out, if_neg (fun h => h hat), if_pos htx]
              exact HG.out.trans ((fromF_no hlt (by rw [h]; decide)).trans h)
            have HTx := hide htx
            obtain ⟨ha1, ha2⟩ := hat
            clear htx
            go_wp2_with fail
            refine (l2HomeY x ha1 ha2 _).mono ?_
            rintro e w' ⟨rfl, rfl⟩
            go_wp2_with fail
            refine (l6TxnN y HTx.out _).mono ?_
            rintro e w' ⟨rfl, rfl⟩
            go_wp2
            go_ret
            exact ⟨ret_int HZ.out.symm, HB.out⟩
        · have HZ : Hid (ownF os = 3) := by
            have h : stF os k = 3 := by unfold stF; rw [HX.out, if_pos hat]
            exact HG.out.trans ((fromF_no hlt (by rw [h]; decide)).trans h)
          have HA := hide hat
          clear hat
          go_wp2_with fail
          refine (l2HomeN x HA.out _).mono ?_
          rintro e w' ⟨rfl, rfl⟩
          go_wp2
          go_ret
          exact ⟨ret_int HZ.out.symm, HB.out⟩
      · have HZ := hide (HG.out.trans (fromF_end hlt))
        go_wp2
        go_ret
        exact ⟨ret_int HZ.out.symm, HB.out⟩

end Go.Proofs.Ytkpkoapcmnapoab
