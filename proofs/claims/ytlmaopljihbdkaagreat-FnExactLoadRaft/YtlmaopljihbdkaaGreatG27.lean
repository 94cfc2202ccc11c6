/- L4 En5c Open OpenP in one text: what each says stands at its head below. -/
import Derived.Test.YtlmaopljihbdkaaGreatG23
import Derived.Test.YtlmaopljihbdkaaGreatG07
import Derived.Test.YtlmaopljihbdkaaGreatG25
import Derived.BigQuiet
import Derived.Test.YtlmaopljihbdkaaGreatG01
import Derived.ProofKit
import Derived.Lib.SmallJoins
import Derived.Deep.SlicePairs
/- Chapter 4, the model's side: 'l4Last', 'l4Puts', walked. -/
namespace Go.Proofs.YtlmaopljihbdkaaGreat
open Go.RowKit

set_option maxHeartbeats 1000000 in
set_option maxRecDepth 4000 in
theorem l4Last {S : Nat → Prop} {w : World} {v : Value} {qs : List (Int × List Int)} (a : Int) (hv : RdP S w v qs) :
    Calls Tryz.prog 138 #[v, .int .i64 a] w fun e w' => w' = w ∧ ((e = .returned (.int .i64 (-1)) ∧ ∀ j, j < qs.length → (qs.getD j (0, [])).1 ≠ a) ∨ ∃ i : Nat, e = .returned (.int .i64 (i : Int)) ∧ i < qs.length ∧ (qs.getD i (0, [])).1 = a ∧ ∀ j, i < j → j < qs.length → (qs.getD j (0, [])).1 ≠ a) := by
  obtain ⟨ao, c, rfl, hm⟩ := hv.shape
  have HV := hide hv
  obtain ⟨n, hn⟩ : ∃ n, qs.length = n := ⟨_, rfl⟩
  have HN := hide hn
  rw [hn] at HV hm ⊢
  clear hv hn
  have hw0 : IntKind.i64.wrap ((n : Int) - 1) = (n : Int) - 1 := by simp [IntKind.wrap, IntKind.bits, IntKind.signed]; omega
  go_enter Tryz.func138, Tryz.ntmps138
  go_wp2
  go_loopw [5] (fun i wr => ∃ k : Nat, k ≤ n ∧ i = .int .i64 ((k : Int) - 1) ∧ Hid (∀ j, k ≤ j → j < n → (qs.getD j (0, [])).1 ≠ a) ∧ wr = w) (fun i _ => (intOf i + 1).toNat)
  case atStart => exact ⟨n, Nat.le_refl _, rfl, fun j h1 h2 => by omega, rfl⟩
  case round =>
    obtain ⟨k, hk, rfl, HA, rfl⟩ := hrel
    by_cases hk0 : k = 0
    · subst hk0
      have HR : Hid (∀ j, j < n → (qs.getD j (0, [])).1 ≠ a) := fun j hj => HA.out j (Nat.zero_le _) hj
      go_wp2
      go_ret
      exact ⟨rfl, Or.inl ⟨rfl, HR.out⟩⟩
    · obtain ⟨i, rfl⟩ : ∃ i, k = i + 1 := ⟨k - 1, by omega⟩
      have e1 : ((i + 1 : Nat) : Int) - 1 = (i : Int) := by omega
      rw [e1]
      obtain ⟨b, off, V, rfl, q1, _, _⟩ := HV.out.at (k := i) (by rw [HN.out]; omega)
      obtain ⟨x, hx⟩ : ∃ x, (qs.getD i (0, [])).1 = x := ⟨_, rfl⟩
      have HX := hide hx
      rw [hx] at q1
      have hi0 : (0 : Int) ≤ (i : Int) := Int.natCast_nonneg _
      have hi1 : (i : Int) < (n : Int) := by omega
      have hwi : IntKind.i64.wrap ((i : Int) - 1) = (i : Int) - 1 := by simp [IntKind.wrap, IntKind.bits, IntKind.signed]; omega
      clear hx e1
      by_cases hxa : x = a
      · subst hxa
        have HR : Hid (∀ j, i < j → j < n → (qs.getD j (0, [])).1 ≠ x) := fun j h1 h2 => HA.out j h1 h2
        go_wp2
        go_ret
        exact ⟨rfl, Or.inr ⟨i, rfl, by omega, HX.out, HR.out⟩⟩
      · have HA2 : Hid (∀ j, i ≤ j → j < n → (qs.getD j (0, [])).1 ≠ a) := by
          intro j h1 h2
          by_cases e : j = i
          · subst e; rw [HX.out]; exact hxa
          · exact HA.out j (by omega) h2
        go_wp2
        go_roundw
        case rel => exact ⟨i, by omega, by first | rfl | go_num, HA2.out, by simp⟩
        case measure => simp [intOf]; try omega

set_option maxHeartbeats 1000000 in
set_option maxRecDepth 4000 in
theorem l4Puts {T : Nat → Prop} {w : World} {v : Value} {ps : List (Int × List Int)} (hv : RdP T w v ps) :
    Calls Tryz.prog 90 #[v] w fun e w' => e = .returned (.int .i64 (hpF 60 ps)) ∧ ∃ q, w' = w.drewN q := by
  obtain ⟨ao, c, rfl, hm'⟩ := hv.shape
  have HV := hide hv
  obtain ⟨m, hm⟩ : ∃ m, ps.length = m := ⟨_, rfl⟩
  have HM := hide hm
  rw [hm] at HV hm' ⊢
  clear hv hm
  by_cases h70 : 60 < m
  · have HZ := hide (show hpF 60 ps = 2 by unfold hpF; rw [if_pos (by rw [HM.out]; exact h70)])
    go_enter Tryz.func90, Tryz.ntmps90
    go_wp2
    go_ret
    exact ⟨ret_int HZ.out.symm, 0, rfl⟩
  · have HE := hide (show hpF 60 ps = firstP 40 ps by unfold hpF; rw [if_neg (by rw [HM.out]; exact h70)])
    go_enter Tryz.func90, Tryz.ntmps90
    go_wp2
    go_loopw [3] (fun i wr => ∃ j : Nat, j ≤ m ∧ i = .int .i64 j ∧ Hid (firstP 40 ps = firstP 40 (ps.drop j)) ∧ Hid (∃ q, wr = w.drewN q)) (fun i _ => m - (intOf i).toNat)
    case atStart => exact ⟨0, Nat.zero_le _, rfl, by simp [Hid], ⟨0, rfl⟩⟩
    case round =>
      obtain ⟨j, hj, rfl, HG, HB2⟩ := hrel
      by_cases hlt2 : j < m
      · obtain ⟨b2, off2, V2, rfl, q1, q2, q3⟩ := HV.out.at (k := j) (by rw [HM.out]; exact hlt2)
        have g1 := (drewN_cell HB2.out _).trans q1
        have g2 := (drewN_cell HB2.out _).trans q2
        have R2 : Hid (RdI T wr V2 (ps.getD j (0, [])).2) := by obtain ⟨q, rfl⟩ := HB2; exact q3
        obtain ⟨x, hx⟩ : ∃ x, (ps.getD j (0, [])).1 = x := ⟨_, rfl⟩
        have HX := hide hx
        rw [hx] at g1
        clear q1 q2 q3 hx
        by_cases hat : 0 ≤ x ∧ x < 40
        · obtain ⟨ha1, ha2⟩ := hat
          by_cases hw : wordsF (ps.getD j (0, [])).2 = 0
          · have HF2 := hide (HG.out.trans (firstP_ok (by rw [HM.out]; exact hlt2) (by rw [HX.out]; exact ⟨ha1, ha2⟩) hw))
            have HW := hide hw
            clear hw
            go_wp2_with fail
            refine (l2Home_yes x ha1 (by omega) _).mono ?_
            rintro e w1 ⟨rfl, rfl⟩
            go_wp2_with fail
            refine (l1Words R2.out).mono ?_
            rintro e w' ⟨he, hq⟩
            rw [HW.out] at he
            subst he
            have HB3 := hide (drewN_on HB2.out hq)
            clear hq
            go_wp2
            go_roundw
            case rel => exact ⟨j + 1, by omega, by go_num, HF2.out, HB3.out⟩
            case measure => simp [intOf]; omega
          · have HF2 := hide (HE.out.trans (HG.out.trans (firstP_no (by rw [HM.out]; exact hlt2) (by rw [HX.out]; exact ⟨ha1, ha2⟩) hw)))
            obtain ⟨z, hz⟩ : ∃ z, wordsF (ps.getD j (0, [])).2 = z := ⟨_, rfl⟩
            have HW := hide hz
            rw [hz] at hw
            clear hz
            go_wp2_with fail
            refine (l2Home_yes x ha1 (by omega) _).mono ?_
            rintro e w1 ⟨rfl, rfl⟩
            go_wp2_with fail
            refine (l1Words R2.out).mono ?_
            rintro e w' ⟨he, hq⟩
            rw [HW.out] at he
            subst he
            have HB3 := hide (drewN_on HB2.out hq)
            clear hq
            go_wp2
            go_ret
            exact ⟨ret_int (by rw [HF2.out, HW.out]), HB3.out⟩
        · have HZ := hide (HE.out.trans (HG.out.trans (firstP_at (n := 40) (by rw [HM.out]; exact hlt2) (by rw [HX.out]; exact hat))))
          have HA := hide (show x < 0 ∨ 39 < x by omega)
          clear hat
          go_wp2_with fail
          refine (l2Home_no x HA.out _).mono ?_
          rintro e w1 ⟨rfl, rfl⟩
          go_wp2
          go_ret
          exact ⟨ret_int HZ.out.symm, HB2.out⟩
      · have HZ := hide (HE.out.trans (HG.out.trans (firstP_end (by rw [HM.out]; omega))))
        go_wp2
        go_ret
        exact ⟨ret_int HZ.out.symm, HB2.out⟩
end Go.Proofs.YtlmaopljihbdkaaGreat
/- Chapter 9: 'UnpackEntry' of the model, walked. Made by program out of En5. -/
namespace Go.Proofs.YtlmaopljihbdkaaGreat
open Go.RowKit

/-- What reading an entry comes to in the model. -/
def EntS (xs : List Int) (w : World) (e : Ending) (w' : World) : Prop :=
  Below w.heap.size w w' ∧ ((enB xs ∧ ∃ z, e = .returned (.tuple #[.agg #[.int .i64 (enO xs).1, .int .i64 (enO xs).2.1, z], .bool true]) ∧ OwI w.heap.size w' z (enO xs).2.2) ∨ (¬ enB xs ∧ ∃ x y A n c, e = .returned (.tuple #[.agg #[.int .i64 x, .int .i64 y, .slice A n c], .bool false])))

set_option maxHeartbeats 4000000 in
set_option maxRecDepth 4000 in
theorem l9Unpack {S : Nat → Prop} {w : World} {v : Value} {xs : List Int} (hv : RdI S w v xs) (hm : xs.length ≤ 64) :
    Calls Tryz.prog 94 #[v] w (EntS xs w) := by
  obtain ⟨ao, c, rfl⟩ := hv.shape
  have HV := hide hv
  obtain ⟨n, hn⟩ : ∃ n, xs.length = n := ⟨_, rfl⟩
  have HN := hide hn
  rw [hn] at HV hm ⊢
  have hcap : n ≤ c := by obtain ⟨_, c', e, _⟩ := hv; injection e with _ e2 e3; omega
  clear hv hn
  by_cases h3 : 3 ≤ n
  · obtain ⟨b, off, rfl, q0⟩ := HV.out.at (k := 0) (by rw [HN.out]; omega)
    obtain ⟨b', off', e', q1⟩ := HV.out.at (k := 1) (by rw [HN.out]; omega)
    injection e' with e'
    injection e' with e1 e2
    subst e1 e2
    obtain ⟨b', off', e', q2⟩ := HV.out.at (k := 2) (by rw [HN.out]; omega)
    injection e' with e'
    injection e' with e1 e2
    subst e1 e2
    have hb0 := World.block_lt_of_cell? _ _ q0
    have A0 := hide (below_alloc w (.cells #[.int .i64 0, .int .i64 0, .slice none 0 0] 110))
    obtain ⟨w1, hw1⟩ : ∃ w1, w.alloc (.cells #[.int .i64 0, .int .i64 0, .slice none 0 0] 110) = w1 := ⟨_, rfl⟩
    have HRes : Hid ((w1.cell? ⟨w.heap.size, 0, none⟩ = some (.int .i64 0) ∧ w1.cell? ⟨w.heap.size, 1, none⟩ = some (.int .i64 0) ∧ w1.cell? ⟨w.heap.size, 2, none⟩ = some (.slice none 0 0) ∧ ∀ o, w1.frozen? ⟨w.heap.size, o, none⟩ = false) ∧ w1.heap.size = w.heap.size + 1) := by
      rw [Hid, ← hw1]
      exact ⟨⟨by simp [go_sem], by simp [go_sem], by simp [go_sem], fun o => by simp [go_sem]⟩, by simp⟩
    have HW := hide hw1
    rw [hw1] at A0
    have g0 : w1.cell? ⟨b, off, none⟩ = some (.int .i64 (xs.getD 0 0)) := by have := cell_later A0.out q0; simpa using this
    have g1 := cell_later A0.out q1
    have g2 := cell_later A0.out q2
    clear q0 q1 q2 hw1
    obtain ⟨a, ha⟩ : ∃ a, xs.getD 0 0 = a := ⟨_, rfl⟩
    obtain ⟨t, ht⟩ : ∃ t, xs.getD 1 0 = t := ⟨_, rfl⟩
    obtain ⟨x2, hx2⟩ : ∃ x, xs.getD 2 0 = x := ⟨_, rfl⟩
    rw [ha] at g0
    rw [ht] at g1
    rw [hx2] at g2
    have HE : Hid (enO xs = (a, t, xs.drop 3)) := by rw [Hid]; unfold enO; rw [ha, ht]
    have HX2 := hide hx2
    clear ha ht hx2
    have hi2 : (2 : Int) < (n : Int) := by omega
    have hj2 : 2 < n := by omega
    have hn3 : ¬ (n : Int) < 3 := by omega
    have hws : IntKind.i64.wrap ((n : Int) - 3) = (n : Int) - 3 := by simp [IntKind.wrap, IntKind.bits, IntKind.signed]; omega
    by_cases hx : x2 = (n : Int) - 3
    · skip
      obtain ⟨A, hA⟩ : ∃ A : Option Addr, (if c = 3 then some (⟨b, off, none⟩ : Addr) else some ⟨b, off + 3, none⟩) = A := ⟨_, rfl⟩
      have HR1 : Hid (RdI S w (.slice A (n - 3) (c - 3)) (xs.drop 3)) := by
        have h := HV.out.from 3 (by omega)
        have e : slA (some ⟨b, off, none⟩) c 3 = A := by rw [← hA]; unfold slA; simp [Addr.add_lit]
        rw [e] at h
        exact h
      obtain ⟨l, hl⟩ : ∃ l, (xs.drop 3).length = l := ⟨_, rfl⟩
      have hln : l = n - 3 := by rw [← hl, List.length_drop, HN.out]
      have HL := hide hl
      have HLn := hide hln
      rw [← hln] at HR1
      obtain ⟨W1, hW1⟩ : ∃ W1, w1.drew = W1 := ⟨_, rfl⟩
      obtain ⟨W2, hW2⟩ : ∃ W2, (w1.alloc (.cells #[.int .i64 0, .int .i64 0, .slice none 0 0] 110)).drew = W2 := ⟨_, rfl⟩
      have HW1 := hide hW1
      have HW2 := hide hW2
      have HBW1 : Hid (Below w1.heap.size w1 W1 ∧ W1.heap.size = w1.heap.size) := by rw [Hid, ← hW1]; exact ⟨below_drewN _ 1, rfl⟩
      have HBW2 : Hid (Below w1.heap.size w1 W2) := by rw [Hid, ← hW2]; exact below_on (below_alloc _ _) (below_drewN _ 1)
      have HZ2 : Hid (W2.cell? ⟨w1.heap.size, 0, none⟩ = some (.int .i64 0) ∧ W2.cell? ⟨w1.heap.size, 1, none⟩ = some (.int .i64 0) ∧ W2.cell? ⟨w1.heap.size, 2, none⟩ = some (.slice none 0 0) ∧ (∀ o, W2.frozen? ⟨w1.heap.size, o, none⟩ = false) ∧ W2.heap.size = w1.heap.size + 1) := by
        rw [Hid, ← hW2]
        exact ⟨by simp [go_sem], by simp [go_sem], by simp [go_sem], fun o => by simp [go_sem], by simp⟩
      have hbl : b < w1.heap.size := World.block_lt_of_cell? _ _ g0
      have hbv : b ≠ w1.heap.size := Nat.ne_of_lt hbl
      have hn3' : (n : Int) ≥ 3 := by omega
      have hi0 : (0 : Int) < (n : Int) := by omega
      have hi1 : (1 : Int) < (n : Int) := by omega
      have hj0 : 0 < n := by omega
      have hj1 : 1 < n := by omega
      have hc3 : 3 ≤ c := by omega
      have hc3' : (3 : Int) ≤ (c : Int) := by omega
      have hnl : n - 3 = l := by omega
      have hl64 : l ≤ 64 := by omega
      clear hW1 hW2 hl hln
      have HEn : Hid (enB xs ↔ entF (a, t, xs.drop 3) = 0) := by
        rw [Hid]
        unfold enB
        rw [HN.out, HX2.out, HE.out]
        constructor
        · rintro ⟨_, _, h3'⟩
          exact h3'
        · intro h3'
          exact ⟨h3, hx, h3'⟩
      have hxb : (x2 != (n : Int) - 3) = false := by simp [hx]
      clear hx
      go_enter Tryz.func94, Tryz.ntmps94
      go_upto_region 1 with fail
      rw [HW.out]
      go_upto_region 3 with fail
      go_cut [4] from 18 to 27 (fun v wx => ∃ (hf cz : Nat) (az : Option Addr), v = .pointer (some ⟨hf, 0, none⟩) ∧ Hid (LaidE w1 a t (xs.drop 3) hf az l cz wx))
      case first =>
        go_region_held3 (fun w' => w'.cell? ⟨b, off, none⟩ = some (.int .i64 a) ∧ w'.cell? ⟨b, off + 1, none⟩ = some (.int .i64 t)) (first | exact ⟨g0, g1⟩ | exact ⟨e1, e2⟩ | exact ⟨cell_later (below_alloc _ _) e1, cell_later (below_alloc _ _) e2⟩ | exact ⟨(set3_en hbv).trans e1, (set3_en hbv).trans e2⟩ | (simp [go_sem, *]))
          (first
            | (go_at_call 119; rw [HW1.out]; refine (l1Ints ((HR1.out.later A0.out).later HBW1.out.1) (by rw [HL.out]; omega)).mono ?_; rintro e w3 ⟨z3, rfl, hb3, ho3⟩; obtain ⟨az, cz, hz3⟩ := ho3.shape; rw [HL.out] at hz3; subst hz3; have e1 := cell_later (below_on HBW1.out.1 hb3) g0; have e2 := cell_later (below_on HBW1.out.1 hb3) g1; have HB3 := hide (below_on HBW1.out.1 hb3); have HO3 := hide (ho3.mono (Nat.le_of_eq HBW1.out.2.symm)); have hs3 := HB3.out.size; clear hb3 ho3 HZ2)
            | (go_at_call 119; rw [HW2.out]; refine (l1Ints ((HR1.out.later A0.out).later HBW2.out) (by rw [HL.out]; omega)).mono ?_; rintro e w3 ⟨z3, rfl, hb3, ho3⟩; obtain ⟨az, cz, hz3⟩ := ho3.shape; rw [HL.out] at hz3; subst hz3; have e1 := cell_later (below_on HBW2.out hb3) g0; have e2 := cell_later (below_on HBW2.out hb3) g1; have HB3 := hide (below_on HBW2.out hb3); have HO3 := hide ho3; have hs3 := HB3.out.size; have y0 := cell_later hb3 HZ2.out.1; have y1 := cell_later hb3 HZ2.out.2.1; have y2 := cell_later hb3 HZ2.out.2.2.1; have yf0 := ((bcell hb3).2 _ _ (show w1.heap.size < W2.heap.size by have := HZ2.out.2.2.2.2; omega)).trans (HZ2.out.2.2.2.1 0); have yf1 := ((bcell hb3).2 _ _ (show w1.heap.size < W2.heap.size by have := HZ2.out.2.2.2.2; omega)).trans (HZ2.out.2.2.2.1 1); have yf2 := ((bcell hb3).2 _ _ (show w1.heap.size < W2.heap.size by have := HZ2.out.2.2.2.2; omega)).trans (HZ2.out.2.2.2.1 2); have hW2s := HZ2.out.2.2.2.2; clear hb3 ho3 HZ2))
        · have HLd : Hid (LaidE w1 a t (xs.drop 3) w3.heap.size az l cz (w3.alloc (.cells #[.int .i64 a, .int .i64 t, .slice az l cz] 110))) := ⟨by simp [go_sem], by simp [go_sem], by simp [go_sem], HO3.out.later (below_alloc _ _), below_on HB3.out (below_alloc _ _), hs3⟩
          go_wp2_with fail
          go_meet
          case rel => exact ⟨_, cz, az, rfl, HLd.out⟩
        · have hwr : Wr (fun y => y = w1.heap.size) w3 (((w3.setCell ⟨w1.heap.size, 0, none⟩ (.int .i64 a)).setCell ⟨w1.heap.size, 1, none⟩ (.int .i64 t)).setCell ⟨w1.heap.size, 2, none⟩ (.slice az l cz)) := (((Wr.refl (fun y => y = w1.heap.size) _).setCell (p := ⟨w1.heap.size, 0, none⟩) rfl _).setCell (p := ⟨w1.heap.size, 1, none⟩) rfl _).setCell (p := ⟨w1.heap.size, 2, none⟩) rfl _
          have HLd : Hid (LaidE w1 a t (xs.drop 3) w1.heap.size az l cz (((w3.setCell ⟨w1.heap.size, 0, none⟩ (.int .i64 a)).setCell ⟨w1.heap.size, 1, none⟩ (.int .i64 t)).setCell ⟨w1.heap.size, 2, none⟩ (.slice az l cz))) := ⟨by simp [go_sem, y0], by simp [go_sem, y1], by simp [go_sem, y2], (HO3.out.wr hwr (fun b h1 _ e => by omega)).mono (by omega), ((HB3.out.setCell (p := ⟨w1.heap.size, 0, none⟩) (Nat.le_refl _) _).setCell (p := ⟨w1.heap.size, 1, none⟩) (Nat.le_refl _) _).setCell (p := ⟨w1.heap.size, 2, none⟩) (Nat.le_refl _) _, Nat.le_refl _⟩
          clear hwr
          go_wp2_with fail
          go_meet
          case rel => exact ⟨_, cz, az, rfl, HLd.out⟩
      case rest =>
        obtain ⟨hf, cz, az, rfl, HLd⟩ := hcut
        obtain ⟨l0, l1, l2, l3, l4, l5⟩ := HLd.out
        have k2 := cell_later l4 g2
        have HOw := hide l3
        have HBc := hide (below_on A0.out l4)
        have HB4 := hide l4
        clear l3 l4 HLd g0 g1 g2 HZ2 HBW1 HBW2
        have hpl := HRes.out.2
        obtain ⟨z, hz⟩ : ∃ z, entF (a, t, xs.drop 3) = z := ⟨_, rfl⟩
        have HZ := hide hz
        clear hz
        have HC := hide (fun q => l9One (w := wc.drewN q) (b := hf) (off := 0) (p := (a, t, xs.drop 3)) ⟨_, l0, l1, l2, HOw.out.rd.later (below_drewN wc q)⟩)
        rw [HZ.out] at HC
        rw [HZ.out] at HEn
        have r0 := cell_later HB4.out HRes.out.1.1
        have r1 := cell_later HB4.out HRes.out.1.2.1
        have r2 := cell_later HB4.out HRes.out.1.2.2.1
        have hlt : w.heap.size < w1.heap.size := by omega
        have f0 := ((bcell HB4.out).2 _ _ hlt).trans (HRes.out.1.2.2.2 0)
        have f1 := ((bcell HB4.out).2 _ _ hlt).trans (HRes.out.1.2.2.2 1)
        have f2 := ((bcell HB4.out).2 _ _ hlt).trans (HRes.out.1.2.2.2 2)
        have hhf : hf ≠ w.heap.size := by omega
        go_wp2_with fail
        go_region_held3 (fun w' => w'.cell? ⟨hf, 0, none⟩ = some (.int .i64 a) ∧ w'.cell? ⟨hf, 1, none⟩ = some (.int .i64 t) ∧ w'.cell? ⟨hf, 2, none⟩ = some (.slice az l cz)) (first | exact ⟨l0, l1, l2⟩ | exact ⟨(set3_en hhf).trans l0, (set3_en hhf).trans l1, (set3_en hhf).trans l2⟩)
          (first
            | (go_at_call 115; refine (HC.out 1).mono ?_; rintro e w4 ⟨rfl, q, rfl⟩))
        have hwr : Wr (fun y => y = w.heap.size) (wc.drewN (1 + q)) ((((wc.drewN (1 + q)).setCell ⟨w.heap.size, 0, none⟩ (.int .i64 a)).setCell ⟨w.heap.size, 1, none⟩ (.int .i64 t)).setCell ⟨w.heap.size, 2, none⟩ (.slice az l cz)) := (((Wr.refl (fun y => y = w.heap.size) _).setCell (p := ⟨w.heap.size, 0, none⟩) rfl _).setCell (p := ⟨w.heap.size, 1, none⟩) rfl _).setCell (p := ⟨w.heap.size, 2, none⟩) rfl _
        have HOe := hide (((HOw.out.later (below_drewN wc (1 + q))).wr hwr (fun b h1 _ e => by omega)).mono (show w.heap.size ≤ w1.heap.size by omega))
        have HBe := hide ((((below_on HBc.out (below_drewN wc (1 + q))).setCell (p := ⟨w.heap.size, 0, none⟩) (Nat.le_refl _) (.int .i64 a)).setCell (p := ⟨w.heap.size, 1, none⟩) (Nat.le_refl _) (.int .i64 t)).setCell (p := ⟨w.heap.size, 2, none⟩) (Nat.le_refl _) (.slice az l cz))
        clear hwr
        by_cases hz0 : z = 0
        · subst hz0
          go_wp2
          refine bodyPost_ret (v := .tuple #[.agg #[.int .i64 a, .int .i64 t, .slice az l cz], .bool true]) (by simp [results, Tryz.results94, go_sem, r0, r1, r2]) rfl ⟨HBe.out, Or.inl ⟨HEn.out.2 (by first | rfl | trivial), _, by rw [HE.out], by rw [HE.out]; exact HOe.out⟩⟩
        · have hzb : (z == 0) = false := by simpa using hz0
          go_wp2
          refine bodyPost_ret (v := .tuple #[.agg #[.int .i64 a, .int .i64 t, .slice az l cz], .bool false]) (by simp [results, Tryz.results94, go_sem, r0, r1, r2, hzb]) rfl ⟨HBe.out, Or.inr ⟨fun h => hz0 (HEn.out.1 h), _, _, _, _, _, rfl⟩⟩
    · have HEb : Hid (¬ enB xs) := fun h => hx (HX2.out.symm.trans (h.2.1.trans (by rw [HN.out])))
      have hxb : (x2 != (n : Int) - 3) = true := by simp [hx]
      have r0 := HRes.out.1.1
      have r1 := HRes.out.1.2.1
      have r2 := HRes.out.1.2.2.1
      have f0 := HRes.out.1.2.2.2 0
      have f1 := HRes.out.1.2.2.2 1
      have f2 := HRes.out.1.2.2.2 2
      clear hx
      go_enter Tryz.func94, Tryz.ntmps94
      go_upto_region 1 with fail
      rw [HW.out]
      go_wp2
      refine bodyPost_ret (v := .tuple #[.agg #[.int .i64 0, .int .i64 0, .slice none 0 0], .bool false]) (by simp [results, Tryz.results94, go_sem, r0, r1, r2]) rfl ⟨?_, Or.inr ⟨HEb.out, _, _, _, _, _, rfl⟩⟩
      exact ((A0.out.setCell (p := ⟨w.heap.size, 0, none⟩) (Nat.le_refl _) _).setCell (p := ⟨w.heap.size, 1, none⟩) (Nat.le_refl _) _).setCell (p := ⟨w.heap.size, 2, none⟩) (Nat.le_refl _) _
  · have HEb : Hid (¬ enB xs) := fun h => h3 (by have := h.1; rw [HN.out] at this; exact this)
    have hn3 : (n : Int) < 3 := by omega
    have A0 := hide (below_alloc w (.cells #[.int .i64 0, .int .i64 0, .slice none 0 0] 110))
    go_enter Tryz.func94, Tryz.ntmps94
    go_wp2
    refine bodyPost_ret (v := .tuple #[.agg #[.int .i64 0, .int .i64 0, .slice none 0 0], .bool false]) (by simp [results, Tryz.results94, go_sem]) rfl ⟨?_, Or.inr ⟨HEb.out, _, _, _, _, _, rfl⟩⟩
    repeat (first | exact A0.out | refine Below.setCell ?_ (Nat.le_refl _) _)

end Go.Proofs.YtlmaopljihbdkaaGreat
/- From the form's readings of arguments to the readings that the walks take. -/
namespace Go.Proofs.YtlmaopljihbdkaaGreat
open Go.ChangeShapes Go.WideShapes Go.ChangeAt Go.RowKit Go.Deep

theorem Tryz.own : ownKnob Tryz.prog.godebug = none := by kernel_rfl
theorem Tryz.laidOut : laidOutB Tryz.prog = true := by kernel_rfl
theorem Tryz.cellsInt : Tryz.prog.cellsOf 2 = 1 := by kernel_rfl
theorem Tryz.cellsInts : Tryz.prog.cellsOf 22 = 1 := by kernel_rfl

theorem addr_plain {w : World} {a : Addr} {v : Value} (h : w.cell? a = some v) : a = ⟨a.block, a.off, none⟩ := by
  obtain ⟨b, o, s⟩ := a
  cases s with
  | none => rfl
  | some k =>
    unfold World.cell? at h
    revert h
    cases w.heap[(⟨b, o, some k⟩ : Addr).block]? with
    | none => intro h; cases h
    | some ob => cases ob <;> intro h <;> simp at h

theorem addr_add (b o i : Nat) : (⟨b, o, none⟩ : Addr).add i = ⟨b, o + i, none⟩ := Addr.add_lit ..

section
variable {H : Type} {enc : TypeId × Value → H} {w : World}

theorem rdI_of {fuel : Nat} {held : Bool} {v : Value} {x : DataW H × List MemPlace} (h : DataW.trod enc Tryz.prog w 0 (fun _ => true) held fuel 22 [v] = some x) : ∃ xs, RdI (fun _ => True) w v xs := by
  rcases open_ints Tryz.underlying22 Tryz.underlying2 Tryz.cellsInt h with ⟨hcs, _⟩ | ⟨a, len, cap, zs, hcs, _, hl, hm, hz, _, hcell, _⟩
  · simp at hcs
    exact ⟨[], none, 0, by simp [hcs], by simp, fun h => absurd rfl h⟩
  · simp at hcs
    simp only [if_true] at hz
    unfold maxLen at hm
    have hlen : (zs.take len).length = len := by simp; omega
    refine ⟨zs.take len, some a, cap - len, by rw [hcs, hlen, Nat.add_sub_cancel' hl], by rw [hlen]; omega, fun hne => ?_⟩
    have hpos : 0 < len := by rw [← hlen]; exact List.length_pos_iff.2 hne
    have e := addr_plain (hcell 0 (by omega))
    have e0 : a.add 0 = a := by simp [Addr.add]
    rw [e0] at e
    refine ⟨a.block, a.off, by rw [← e], trivial, fun i hi => ?_⟩
    rw [hlen] at hi
    rw [← addr_add, ← e, hcell i (by omega)]
    simp [List.getD, hi]

theorem rdII_of {fuel : Nat} {held : Bool} {v : Value} {x : DataW H × List MemPlace} (h : DataW.trod enc Tryz.prog w 0 (fun _ => true) held fuel 51 [v] = some x) : ∃ xss, RdII (fun _ => True) w v xss := by
  rcases open_slice1 Tryz.underlying51 Tryz.cellsInts h with ⟨hcs, _⟩ | ⟨a, len, cap, m, n, V, D, Pl, hcs, _, hl, hm, hmm, _, hx⟩
  · simp at hcs
    exact ⟨[], none, 0, by simp [hcs], by simp, fun h => absurd rfl h⟩
  · simp at hcs
    simp only [if_true] at hmm
    unfold maxLen at hm
    obtain ⟨F, hF⟩ := choose_lt (α := List Int) (n := len) (p := fun i xs => RdI (fun _ => True) w (V i) xs) (fun i hi => rdI_of (hx i (by omega)).2)
    have hlen : ((List.range len).map F).length = len := by simp
    refine ⟨(List.range len).map F, some a, cap, by rw [hcs, hlen], by rw [hlen]; omega, fun hne => ?_⟩
    have hpos : 0 < len := by rw [← hlen]; exact List.length_pos_iff.2 hne
    have e := addr_plain (hx 0 (by omega)).1
    have e0 : a.add 0 = a := by simp [Addr.add]
    rw [e0] at e
    refine ⟨a.block, a.off, V, by rw [← e], trivial, fun i hi => ?_⟩
    rw [hlen] at hi
    refine ⟨by rw [← addr_add, ← e]; exact (hx i (by omega)).1, ?_⟩
    have : ((List.range len).map F).getD i [] = F i := by simp [List.getD, hi]
    rw [this]
    exact hF i hi

theorem rdP_of {fuel : Nat} {held : Bool} {v : Value} {x : DataW H × List MemPlace} (h : DataW.trod enc Tryz.prog w 0 (fun _ => true) held fuel 40 [v] = some x) : ∃ ps, RdP (fun _ => True) w v ps := by
  rcases open_slice_pairs Tryz.underlying40 Tryz.underlying85 (by kernel_rfl) rfl rfl (by kernel_rfl) (by kernel_rfl) h with ⟨hcs, _⟩ | ⟨a, len, cap, m, n, V0, V1, D0, D1, P0, P1, hcs, _, hl, hm, hmm, _, hx⟩
  · simp at hcs
    exact ⟨[], none, 0, by simp [hcs], by simp, fun h => absurd rfl h⟩
  · simp at hcs
    simp only [if_true] at hmm
    unfold maxLen at hm
    obtain ⟨F, hF⟩ := choose_lt (α := Int × List Int) (n := len) (p := fun i p => V0 i = .int .i64 p.1 ∧ RdI (fun _ => True) w (V1 i) p.2) (fun i hi => by
      obtain ⟨k, hk, _⟩ := DataW.trod_int Tryz.underlying2 (hx i (by omega)).2.2.1
      obtain ⟨xs, hxs⟩ := rdI_of (hx i (by omega)).2.2.2
      exact ⟨(k, xs), by simpa using hk, hxs⟩)
    have hlen : ((List.range len).map F).length = len := by simp
    refine ⟨(List.range len).map F, some a, cap, by rw [hcs, hlen], by rw [hlen]; omega, fun hne => ?_⟩
    have hpos : 0 < len := by rw [← hlen]; exact List.length_pos_iff.2 hne
    have e := addr_plain (hx 0 (by omega)).1
    have e0 : a.add (0 * 2) = a := by simp [Addr.add]
    rw [e0] at e
    refine ⟨a.block, a.off, V1, by rw [← e], trivial, fun i hi => ?_⟩
    rw [hlen] at hi
    have e2 : ((List.range len).map F).getD i (0, []) = F i := by simp [List.getD, hi]
    rw [e2, ← (hF i hi).1]
    refine ⟨by rw [← addr_add, ← e]; exact (hx i (by omega)).1, by rw [Nat.add_assoc, ← addr_add, ← e]; exact (hx i (by omega)).2.1, (hF i hi).2⟩

set_option maxRecDepth 100000 in
/-- A list of numbers among the arguments. -/
theorem rdIarg_of {r : Reach} {b0 : Nat} {v : Value} {d : DataW H} {p : List MemPlace} (hv : Value.okWide Tryz.prog w r b0 22 v) (h : DataW.Trod enc Tryz.prog w 0 (fun _ => true) true 22 v d p) : ∃ xs, RdI (fun _ => True) w v xs := by
  obtain ⟨a0, len, cap, rfl⟩ := okWide_slice Tryz.underlying22 hv
  obtain ⟨fuel, hf⟩ := h
  exact rdI_of (by simpa [Value.cells] using hf)

set_option maxRecDepth 100000 in
/-- A disk among the arguments. -/
theorem rdD_of {r : Reach} {b0 : Nat} {v : Value} {d : DataW H} {p : List MemPlace} (hv : Value.okWide Tryz.prog w r b0 53 v) (h : DataW.Trod enc Tryz.prog w 0 (fun _ => true) true 53 v d p) :
    ∃ u u' xss ps, v = .agg #[u, u'] ∧ RdII (fun _ => True) w u xss ∧ RdP (fun _ => True) w u' ps := by
  obtain ⟨u, u', y0, y1, m, rfl, _, _, h0, h1⟩ := Joins.open_agg2 Tryz.underlying53 (by kernel_rfl) (by kernel_rfl) hv h
  obtain ⟨xss, hx⟩ := rdII_of h0
  obtain ⟨ps, hp⟩ := rdP_of h1
  exact ⟨u, u', xss, ps, rfl, hx, hp⟩
end
end Go.Proofs.YtlmaopljihbdkaaGreat
/- Puts among the arguments. -/
namespace Go.Proofs.YtlmaopljihbdkaaGreat
open Go.ChangeShapes Go.WideShapes Go.ChangeAt Go.RowKit

set_option maxRecDepth 100000 in
/-- A list of puts among the arguments. -/
theorem rdParg_of {H : Type} {enc : TypeId × Value → H} {w : World} {r : Reach} {b0 : Nat} {v : Value} {d : DataW H} {p : List MemPlace} (hv : Value.okWide Tryz.prog w r b0 40 v) (h : DataW.Trod enc Tryz.prog w 0 (fun _ => true) true 40 v d p) : ∃ ps, RdP (fun _ => True) w v ps := by
  obtain ⟨a0, len, cap, rfl⟩ := okWide_slice Tryz.underlying40 hv
  obtain ⟨fuel, hf⟩ := h
  exact rdP_of (by simpa [Value.cells] using hf)
end Go.Proofs.YtlmaopljihbdkaaGreat
