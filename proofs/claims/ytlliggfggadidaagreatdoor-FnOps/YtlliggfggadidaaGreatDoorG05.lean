/- En2 RaM in one text: what each says stands at its head below. -/
import Derived.Test.YtlliggfggadidaaGreatDoorG04
import Derived.BigQuiet
import Derived.Test.YtlliggfggadidaaGreatDoorG03
namespace Go.Proofs.YtlliggfggadidaaGreatDoor
open Go.RowKit
def nxE (p q : Oj) : Prop := p.1 = q.1 + 1 ∧ q.2.1 ≤ p.2.1
instance (p q : Oj) : Decidable (nxE p q) := by unfold nxE; infer_instance
def lgS (fs : List Oj) (i : Nat) : Int :=
  if entF (fs.getD i oj0) = 0 then (if 0 < i ∧ ¬ nxE (fs.getD i oj0) (fs.getD (i - 1) oj0) then 1 else 0) else entF (fs.getD i oj0)
def logF (fs : List Oj) : Int := if 14 < fs.length then 2 else cfr (lgS fs) fs.length 0
theorem logF_many {fs : List Oj} (h : 14 < fs.length) : logF fs = 2 := by unfold logF; rw [if_pos h]
theorem logF_one {fs : List Oj} (h : ¬ 14 < fs.length) : logF fs = cfr (lgS fs) fs.length 0 := by unfold logF; rw [if_neg h]
theorem lgS_iff {fs : List Oj} {i : Nat} : lgS fs i = 0 ↔ entF (fs.getD i oj0) = 0 ∧ ¬ (0 < i ∧ ¬ nxE (fs.getD i oj0) (fs.getD (i - 1) oj0)) := by
  unfold lgS
  by_cases h1 : entF (fs.getD i oj0) = 0
  · rw [if_pos h1]
    by_cases h2 : 0 < i ∧ ¬ nxE (fs.getD i oj0) (fs.getD (i - 1) oj0)
    · rw [if_pos h2]; exact ⟨fun h => absurd h (by decide), fun h => absurd h2 h.2⟩
    · rw [if_neg h2]; exact ⟨fun _ => ⟨h1, h2⟩, fun _ => rfl⟩
  · rw [if_neg h1]; exact ⟨fun h => absurd h h1, fun h => absurd h.1 h1⟩
set_option maxHeartbeats 2000000 in
theorem isNextB (w : World) (a t a' t' : Int) (ay ay' : Option Addr) (l c l' c' : Nat) (h0 : 0 ≤ a') (h1 : a' ≤ 9999) :
    Calls Tryz.prog 66 #[.agg #[.int .i64 a, .int .i64 t, .slice ay l c], .agg #[.int .i64 a', .int .i64 t', .slice ay' l' c']] w fun e w' => e = .returned (.bool (decide (a = a' + 1 ∧ t' ≤ t))) ∧ Below w.heap.size w w' := by
  by_cases h2 : a = a' + 1
  · have HE : Hid (decide (a = a' + 1 ∧ t' ≤ t) = decide (t' ≤ t)) := by rw [Hid]; simp [h2]
    rw [HE.out]
    have h2b : (a == a' + 1) = true := by simp [h2]
    by_cases h3 : t' ≤ t
    · have h3' : t ≥ t' := h3
      rw [decide_eq_true h3]
      clear h2 HE
      go_enter Tryz.func66, Tryz.ntmps66
      go_wp2
      go_ret
      exact ⟨rfl, below_on (below_alloc _ _) (below_alloc _ _)⟩
    · have h3' : ¬ t ≥ t' := h3
      rw [decide_eq_false h3]
      clear h2 HE
      go_enter Tryz.func66, Tryz.ntmps66
      go_wp2
      go_ret
      exact ⟨rfl, below_on (below_alloc _ _) (below_alloc _ _)⟩
  · rw [decide_eq_false (fun h => h2 h.1)]
    have h2b : (a == a' + 1) = false := by simp [h2]
    clear h2
    go_enter Tryz.func66, Tryz.ntmps66
    go_wp2
    go_ret
    exact ⟨rfl, below_on (below_alloc _ _) (below_alloc _ _)⟩
set_option maxHeartbeats 4000000 in
set_option maxRecDepth 4000 in
theorem implLogFault {S : Nat → Prop} {w : World} {v : Value} {fs : List Oj} (hv : RdJ S w v fs) :
    Calls Tryz.prog 34 #[v] w fun e w' => e = .returned (.int .i64 (logF fs)) ∧ Below w.heap.size w w' := by
  obtain ⟨av, cv, rfl, hm⟩ := hv.shape
  have HV := hide hv
  obtain ⟨n, hn⟩ : ∃ n, fs.length = n := ⟨_, rfl⟩
  have HN := hide hn
  rw [hn] at HV hm ⊢
  clear hv hn
  obtain ⟨R, hR⟩ : ∃ R, logF fs = R := ⟨_, rfl⟩
  have HR := hide hR
  rw [hR]
  clear hR
  by_cases h4 : 14 < n
  · have h4' : (14 : Int) < (n : Int) := by omega
    have HE : Hid ((2 : Int) = R) := by rw [Hid, ← HR.out]; exact (logF_many (by rw [HN.out]; exact h4)).symm
    go_enter Tryz.func34, Tryz.ntmps34
    go_wp2
    go_ret
    exact ⟨ret_intF HE.out, Below.refl _ _⟩
  · have h4' : ¬ (14 : Int) < (n : Int) := by omega
    have HE0 := hide (show cfr (lgS fs) (n - 0) 0 = R by rw [Nat.sub_zero, ← HN.out, ← HR.out]; exact (logF_one (by rw [HN.out]; exact h4)).symm)
    go_enter Tryz.func34, Tryz.ntmps34
    go_wp2
    go_loopw [11] (fun i wr => ∃ k : Nat, k ≤ n ∧ i = .int .i64 k ∧ Hid (cfr (lgS fs) (n - k) k = R) ∧ Hid (0 < k → entF (fs.getD (k - 1) oj0) = 0) ∧ Hid (Below w.heap.size w wr)) (fun i _ => n - (RowKit.intOf i).toNat)
    case atStart => exact ⟨0, Nat.zero_le _, rfl, HE0.out, fun h => absurd h (Nat.lt_irrefl _), Below.refl _ _⟩
    case round =>
      obtain ⟨k, hk, rfl, HG, HP, HB⟩ := hrel
      by_cases hlt : k < n
      · obtain ⟨b, off, rfl, hfp⟩ := HV.out.file (k := k) (by rw [HN.out]; exact hlt)
        obtain ⟨y, q0, q1, q2, q3⟩ := hfp
        have hk0 : (0 : Int) ≤ (k : Int) := by omega
        have hk1 : (k : Int) < (n : Int) := by omega
        obtain ⟨x, hx⟩ : ∃ x, fs.getD k oj0 = x := ⟨_, rfl⟩
        rw [hx] at q0 q1 q3
        have HX := hide hx
        clear hx
        obtain ⟨a, t, xs⟩ := x
        dsimp only at q0 q1 q3
        obtain ⟨ay, cy, rfl⟩ := q3.shape
        have g0 := cell_later HB.out q0
        have g1 := cell_later HB.out q1
        have g2 := cell_later HB.out q2
        have HY := hide (q3.later HB.out)
        clear q0 q1 q2 q3
        obtain ⟨l, hl⟩ : ∃ l, xs.length = l := ⟨_, rfl⟩
        rw [hl] at g2 HY
        clear hl
        have hbl := World.block_lt_of_cell? _ _ g0
        obtain ⟨c, hc⟩ : ∃ c, entF (a, t, xs) = c := ⟨_, rfl⟩
        have Hc : Hid (entF (fs.getD k oj0) = c) := by rw [Hid, HX.out]; exact hc
        have HC := hide (implEntryFault a t (HY.out.later (below_alloc wr (.cells #[.int .i64 a, .int .i64 t, .slice ay l cy] 58))))
        rw [hc] at HC
        clear hc
        by_cases hc0 : c = 0
        · subst hc0
          by_cases hk0z : k = 0
          · subst hk0z
            simp only [Nat.zero_mul, Nat.add_zero] at g0 g1 g2
            have HS : Hid (cfr (lgS fs) (n - (0 + 1)) (0 + 1) = R) := by rw [Hid, ← cfr_ok hlt (lgS_iff.2 ⟨Hc.out, fun h => absurd h.1 (Nat.lt_irrefl _)⟩)]; exact HG.out
            go_wp2_with fail
            refine HC.out.mono ?_
            rintro e w' ⟨rfl, hb⟩
            have HB1 := hide (below_on HB.out (below_on (below_alloc wr (.cells #[.int .i64 a, .int .i64 t, .slice ay l cy] 58)) hb))
            clear hb
            go_wp2_with fail
            go_quiet (fail)
            have HBq := hide (below_on HB1.out (below_drewN _ nq))
            go_wp2
            go_roundw
            case rel => exact ⟨0 + 1, hlt, by go_num, HS.out, fun _ => Hc.out, HBq.out⟩
            case measure => simp [RowKit.intOf]; omega
          · obtain ⟨j, hjk⟩ : ∃ j, k = j + 1 := ⟨k - 1, by omega⟩
            obtain ⟨b', off', e', y', r0, r1, r2, r3⟩ := HV.out.file (k := j) (by rw [HN.out]; omega)
            injection e' with e'
            injection e' with e1 e2
            subst e1 e2
            have HPj := HP.out (by omega)
            rw [show k - 1 = j by omega] at HPj
            obtain ⟨x', hx'⟩ : ∃ x', fs.getD j oj0 = x' := ⟨_, rfl⟩
            rw [hx'] at r0 r1 r3 HPj
            have HX' := hide hx'
            clear hx'
            obtain ⟨a', t', xs'⟩ := x'
            have hap : 1 ≤ a' ∧ a' ≤ 9999 := (entF_zero HPj).1.1
            dsimp only at r0 r1 r3
            obtain ⟨ay', cy', rfl⟩ := r3.shape
            have s0 := cell_later HB.out r0
            have s1 := cell_later HB.out r1
            have s2 := cell_later HB.out r2
            clear r0 r1 r2 r3 HPj
            obtain ⟨l', hl'⟩ : ∃ l', xs'.length = l' := ⟨_, rfl⟩
            rw [hl'] at s2
            clear hl'
            have hw1 : IntKind.i64.wrap ((k : Int) - 1) = (j : Int) := by simp [IntKind.wrap, IntKind.bits, IntKind.signed]; omega
            have hj0 : (0 : Int) < (k : Int) := by omega
            have hkp : 0 < k := by omega
            have hjp : (0 : Int) ≤ (j : Int) := by omega
            have hjn : (j : Int) < (n : Int) := by omega
            have HJK := hide hjk
            have HNx := hide (show nxE (fs.getD k oj0) (fs.getD (k - 1) oj0) ↔ (a = a' + 1 ∧ t' ≤ t) by rw [HX.out, show k - 1 = j by omega, HX'.out]; exact Iff.rfl)
            have HCn := hide (fun wz => isNextB wz a t a' t' ay ay' l cy l' cy' (by omega) hap.2)
            obtain ⟨D, hD⟩ : ∃ D, decide (a = a' + 1 ∧ t' ≤ t) = D := ⟨_, rfl⟩
            rw [hD] at HCn
            have HD := hide hD
            clear hk0z hjk hD hap
            go_wp2_with fail
            refine HC.out.mono ?_
            rintro e w1 ⟨rfl, hb⟩
            have hb' := below_on (below_alloc wr (.cells #[.int .i64 a, .int .i64 t, .slice ay l cy] 58)) hb
            obtain ⟨v0, v1, v2⟩ := (Var3_new wr (.int .i64 a) (.int .i64 t) (.slice ay l cy) 58).later hb
            have u0 := cell_later hb' s0
            have u1 := cell_later hb' s1
            have u2 := cell_later hb' s2
            have HB1 := hide (below_on HB.out hb')
            clear hb hb' s0 s1 s2 g0 g1 g2
            cases D
            · have HN1 : Hid ((1 : Int) = R) := by
                have h1 : lgS fs k = 1 := by
                  unfold lgS
                  rw [if_pos Hc.out, if_pos ⟨hkp, fun h => by have := HNx.out.1 h; exact absurd HD.out (by rw [decide_eq_true this]; decide)⟩]
                rw [Hid, ← HG.out, cfr_no hlt (by rw [h1]; decide), h1]
              go_wp2_with fail
              go_region_held3 (fun w' => w'.cell? ⟨wr.heap.size, 0, none⟩ = some (.int .i64 a) ∧ w'.cell? ⟨wr.heap.size, 1, none⟩ = some (.int .i64 t) ∧ w'.cell? ⟨wr.heap.size, 2, none⟩ = some (.slice ay l cy) ∧ w'.cell? ⟨b, off + j * 3, none⟩ = some (.int .i64 a') ∧ w'.cell? ⟨b, off + j * 3 + 1, none⟩ = some (.int .i64 t') ∧ w'.cell? ⟨b, off + j * 3 + 2, none⟩ = some (.slice ay' l' cy')) (first | exact ⟨v0, v1, v2, u0, u1, u2⟩ | exact ⟨c0, c1, c2, c3, c4, c5⟩)
                (first
                  | (go_at_call 66; refine (HCn.out _).mono ?_; rintro e w2 ⟨rfl, hb⟩; have c0 := cell_later hb v0; have c1 := cell_later hb v1; have c2 := cell_later hb v2; have c3 := cell_later hb u0; have c4 := cell_later hb u1; have c5 := cell_later hb u2; have HB2 := hide (below_on HB1.out (below_on (below_drewN w1 1) hb)); clear hb))
              go_wp2
              go_ret
              exact ⟨ret_intF HN1.out, HB2.out⟩
            · have HS : Hid (cfr (lgS fs) (n - (k + 1)) (k + 1) = R) := by rw [Hid, ← cfr_ok hlt (lgS_iff.2 ⟨Hc.out, fun h => h.2 (HNx.out.2 (of_decide_eq_true HD.out))⟩)]; exact HG.out
              go_wp2_with fail
              go_region_held3 (fun w' => w'.cell? ⟨wr.heap.size, 0, none⟩ = some (.int .i64 a) ∧ w'.cell? ⟨wr.heap.size, 1, none⟩ = some (.int .i64 t) ∧ w'.cell? ⟨wr.heap.size, 2, none⟩ = some (.slice ay l cy) ∧ w'.cell? ⟨b, off + j * 3, none⟩ = some (.int .i64 a') ∧ w'.cell? ⟨b, off + j * 3 + 1, none⟩ = some (.int .i64 t') ∧ w'.cell? ⟨b, off + j * 3 + 2, none⟩ = some (.slice ay' l' cy')) (first | exact ⟨v0, v1, v2, u0, u1, u2⟩ | exact ⟨c0, c1, c2, c3, c4, c5⟩)
                (first
                  | (go_at_call 66; refine (HCn.out _).mono ?_; rintro e w2 ⟨rfl, hb⟩; have c0 := cell_later hb v0; have c1 := cell_later hb v1; have c2 := cell_later hb v2; have c3 := cell_later hb u0; have c4 := cell_later hb u1; have c5 := cell_later hb u2; have HB2 := hide (below_on HB1.out (below_on (below_drewN w1 1) hb)); clear hb))
              go_wp2
              go_roundw
              case rel => exact ⟨k + 1, hlt, by go_num, HS.out, fun _ => Hc.out, HB2.out⟩
              case measure => simp [RowKit.intOf]; omega
        · have hc0b : (c == 0) = false := by simpa using hc0
          have HN1 : Hid (c = R) := by
            have h1 : lgS fs k = c := by
              unfold lgS
              rw [if_neg (by rw [Hc.out]; exact hc0), Hc.out]
            rw [Hid, ← HG.out, cfr_no hlt (by rw [h1]; exact hc0), h1]
          go_wp2_with fail
          refine HC.out.mono ?_
          rintro e w' ⟨rfl, hb⟩
          have HB1 := hide (below_on HB.out (below_on (below_alloc wr (.cells #[.int .i64 a, .int .i64 t, .slice ay l cy] 58)) hb))
          clear hb
          go_wp2
          go_ret
          exact ⟨ret_intF HN1.out, HB1.out⟩
      · have hkn : k = n := by omega
        subst hkn
        have HE : Hid ((0 : Int) = R) := (cfr_end (Nat.lt_irrefl _)).symm.trans HG.out
        go_wp2
        go_ret
        exact ⟨ret_intF HE.out, HB.out⟩
set_option maxHeartbeats 4000000 in
set_option maxRecDepth 4000 in
theorem l9Log {S : Nat → Prop} {w : World} {v : Value} {fs : List Oj} (hv : RdJ S w v fs) :
    Calls Tryz.prog 58 #[v] w fun e w' => e = .returned (.int .i64 (logF fs)) ∧ Below w.heap.size w w' := by
  obtain ⟨av, cv, rfl, hm⟩ := hv.shape
  have HV := hide hv
  obtain ⟨n, hn⟩ : ∃ n, fs.length = n := ⟨_, rfl⟩
  have HN := hide hn
  rw [hn] at HV hm ⊢
  clear hv hn
  obtain ⟨R, hR⟩ : ∃ R, logF fs = R := ⟨_, rfl⟩
  have HR := hide hR
  rw [hR]
  clear hR
  by_cases h4 : 14 < n
  · have h4' : (14 : Int) < (n : Int) := by omega
    have HE : Hid ((2 : Int) = R) := by rw [Hid, ← HR.out]; exact (logF_many (by rw [HN.out]; exact h4)).symm
    go_enter Tryz.func58, Tryz.ntmps58
    go_wp2
    go_ret
    exact ⟨ret_intF HE.out, Below.refl _ _⟩
  · have h4' : ¬ (14 : Int) < (n : Int) := by omega
    have HE0 := hide (show cfr (lgS fs) (n - 0) 0 = R by rw [Nat.sub_zero, ← HN.out, ← HR.out]; exact (logF_one (by rw [HN.out]; exact h4)).symm)
    go_enter Tryz.func58, Tryz.ntmps58
    go_wp2
    go_loopw [3] (fun i wr => ∃ k : Nat, k ≤ n ∧ i = .int .i64 k ∧ Hid (cfr (lgS fs) (n - k) k = R) ∧ Hid (0 < k → entF (fs.getD (k - 1) oj0) = 0) ∧ Hid (Below w.heap.size w wr)) (fun i _ => n - (RowKit.intOf i).toNat)
    case atStart => exact ⟨0, Nat.zero_le _, rfl, HE0.out, fun h => absurd h (Nat.lt_irrefl _), Below.refl _ _⟩
    case round =>
      obtain ⟨k, hk, rfl, HG, HP, HB⟩ := hrel
      by_cases hlt : k < n
      · obtain ⟨b, off, rfl, hfp⟩ := HV.out.file (k := k) (by rw [HN.out]; exact hlt)
        obtain ⟨y, q0, q1, q2, q3⟩ := hfp
        have hk0 : (0 : Int) ≤ (k : Int) := by omega
        have hk1 : (k : Int) < (n : Int) := by omega
        obtain ⟨x, hx⟩ : ∃ x, fs.getD k oj0 = x := ⟨_, rfl⟩
        rw [hx] at q0 q1 q3
        have HX := hide hx
        clear hx
        obtain ⟨a, t, xs⟩ := x
        dsimp only at q0 q1 q3
        obtain ⟨ay, cy, rfl⟩ := q3.shape
        have g0 := cell_later HB.out q0
        have g1 := cell_later HB.out q1
        have g2 := cell_later HB.out q2
        have HY := hide (q3.later HB.out)
        clear q0 q1 q2 q3
        obtain ⟨l, hl⟩ : ∃ l, xs.length = l := ⟨_, rfl⟩
        rw [hl] at g2 HY
        clear hl
        have hbl := World.block_lt_of_cell? _ _ g0
        obtain ⟨c, hc⟩ : ∃ c, entF (a, t, xs) = c := ⟨_, rfl⟩
        have Hc : Hid (entF (fs.getD k oj0) = c) := by rw [Hid, HX.out]; exact hc
        have HC := hide (l9One (w := wr) (b := b) (off := off + k * 3) (p := (a, t, xs)) ⟨_, g0, g1, g2, HY.out⟩)
        rw [hc] at HC
        clear hc
        by_cases hc0 : c = 0
        · subst hc0
          by_cases hk0z : k = 0
          · subst hk0z
            simp only [Nat.zero_mul, Nat.add_zero] at g0 g1 g2
            have HS : Hid (cfr (lgS fs) (n - (0 + 1)) (0 + 1) = R) := by rw [Hid, ← cfr_ok hlt (lgS_iff.2 ⟨Hc.out, fun h => absurd h.1 (Nat.lt_irrefl _)⟩)]; exact HG.out
            go_wp2_with fail
            refine HC.out.mono ?_
            rintro e w' ⟨rfl, q, rfl⟩
            go_wp2_with fail
            go_quiet (fail)
            have HBq := hide (below_on HB.out (below_drewN wr (q + nq)))
            go_wp2
            go_roundw
            case rel => exact ⟨0 + 1, hlt, by go_num, HS.out, fun _ => Hc.out, HBq.out⟩
            case measure => simp [RowKit.intOf]; omega
          · obtain ⟨j, hjk⟩ : ∃ j, k = j + 1 := ⟨k - 1, by omega⟩
            obtain ⟨b', off', e', y', r0, r1, r2, r3⟩ := HV.out.file (k := j) (by rw [HN.out]; omega)
            injection e' with e'
            injection e' with e1 e2
            subst e1 e2
            have HPj := HP.out (by omega)
            rw [show k - 1 = j by omega] at HPj
            obtain ⟨x', hx'⟩ : ∃ x', fs.getD j oj0 = x' := ⟨_, rfl⟩
            rw [hx'] at r0 r1 r3 HPj
            have HX' := hide hx'
            clear hx'
            obtain ⟨a', t', xs'⟩ := x'
            have hap : 1 ≤ a' ∧ a' ≤ 9999 := (entF_zero HPj).1.1
            dsimp only at r0 r1 r3
            have s0 := cell_later HB.out r0
            have s1 := cell_later HB.out r1
            clear r0 r1 r2 r3 HPj
            have hw1 : IntKind.i64.wrap ((k : Int) - 1) = (j : Int) := by simp [IntKind.wrap, IntKind.bits, IntKind.signed]; omega
            have hw2 : IntKind.i64.wrap (a' + 1) = a' + 1 := by simp [IntKind.wrap, IntKind.bits, IntKind.signed]; omega
            have hj0 : (0 : Int) < (k : Int) := by omega
            have hkp : 0 < k := by omega
            have hjp : (0 : Int) ≤ (j : Int) := by omega
            have hjn : (j : Int) < (n : Int) := by omega
            have HNx := hide (show nxE (fs.getD k oj0) (fs.getD (k - 1) oj0) ↔ (a = a' + 1 ∧ t' ≤ t) by rw [HX.out, show k - 1 = j by omega, HX'.out]; exact Iff.rfl)
            clear hk0z hjk
            by_cases hna : a = a' + 1
            · by_cases hnt : t < t'
              · have HN1 : Hid ((1 : Int) = R) := by
                  have h1 : lgS fs k = 1 := by
                    unfold lgS
                    rw [if_pos Hc.out, if_pos ⟨hkp, fun h => by have := (HNx.out.1 h).2; omega⟩]
                  rw [Hid, ← HG.out, cfr_no hlt (by rw [h1]; decide), h1]
                have hnb : (a != a' + 1) = false := by simp [hna]
                clear hna hap
                go_wp2_with fail
                refine HC.out.mono ?_
                rintro e w' ⟨rfl, q, rfl⟩
                go_wp2_with fail
                go_quiet (fail)
                have HBq := hide (below_on HB.out (below_drewN wr (q + nq)))
                go_wp2
                go_ret
                exact ⟨ret_intF HN1.out, by rw [World.drewN_drewN]; exact HBq.out⟩
              · have HS : Hid (cfr (lgS fs) (n - (k + 1)) (k + 1) = R) := by rw [Hid, ← cfr_ok hlt (lgS_iff.2 ⟨Hc.out, fun h => h.2 (HNx.out.2 ⟨hna, by omega⟩)⟩)]; exact HG.out
                have hnb : (a != a' + 1) = false := by simp [hna]
                clear hna hap
                go_wp2_with fail
                refine HC.out.mono ?_
                rintro e w' ⟨rfl, q, rfl⟩
                go_wp2_with fail
                go_quiet (fail)
                have HBq := hide (below_on HB.out (below_drewN wr (q + nq)))
                go_wp2
                go_roundw
                case rel => exact ⟨k + 1, hlt, by go_num, HS.out, fun _ => Hc.out, HBq.out⟩
                case measure => simp [RowKit.intOf]; omega
            · have HN1 : Hid ((1 : Int) = R) := by
                have h1 : lgS fs k = 1 := by
                  unfold lgS
                  rw [if_pos Hc.out, if_pos ⟨hkp, fun h => hna (HNx.out.1 h).1⟩]
                rw [Hid, ← HG.out, cfr_no hlt (by rw [h1]; decide), h1]
              have hnb : (a != a' + 1) = true := by simp [hna]
              clear hna hap
              go_wp2_with fail
              refine HC.out.mono ?_
              rintro e w' ⟨rfl, q, rfl⟩
              go_wp2_with fail
              go_quiet (fail)
              have HBq := hide (below_on HB.out (below_drewN wr (q + nq)))
              go_wp2
              go_ret
              exact ⟨ret_intF HN1.out, by rw [World.drewN_drewN]; exact HBq.out⟩
        · have hc0b : (c == 0) = false := by simpa using hc0
          have HN1 : Hid (c = R) := by
            have h1 : lgS fs k = c := by
              unfold lgS
              rw [if_neg (by rw [Hc.out]; exact hc0), Hc.out]
            rw [Hid, ← HG.out, cfr_no hlt (by rw [h1]; exact hc0), h1]
          go_wp2_with fail
          refine HC.out.mono ?_
          rintro e w' ⟨rfl, q, rfl⟩
          go_wp2
          go_ret
          exact ⟨ret_intF HN1.out, below_on HB.out (below_drewN wr q)⟩
      · have hkn : k = n := by omega
        subst hkn
        have HE : Hid ((0 : Int) = R) := (cfr_end (Nat.lt_irrefl _)).symm.trans HG.out
        go_wp2
        go_ret
        exact ⟨ret_intF HE.out, HB.out⟩
end Go.Proofs.YtlliggfggadidaaGreatDoor
namespace Go.Proofs.YtlliggfggadidaaGreatDoor
open Go.RowKit
def rf0 : Rf := ⟨0, 0, 0, 0, [], []⟩
def daF (xs : List Int) : Int := if 40 < xs.length then 2 else wordsF xs
theorem daF_len {xs : List Int} (h : daF xs = 0) : xs.length ≤ 40 := by
  unfold daF at h
  by_cases h1 : 40 < xs.length
  · rw [if_pos h1] at h; exact absurd h (by decide)
  · omega
def lastR (r : Rf) : Int := r.si + (r.lg.length : Int)
def rgR (r : Rf) : Prop := ((0 ≤ r.tm ∧ r.tm ≤ 999) ∧ (0 ≤ r.vt ∧ r.vt ≤ 9)) ∧ (0 ≤ r.si ∧ r.si ≤ 9999) ∧ 0 ≤ r.st ∧ r.st ≤ r.tm
instance (r : Rf) : Decidable (rgR r) := by unfold rgR; infer_instance
def fmR (r : Rf) : Prop := (r.si = 0 ↔ r.st = 0) ∧ (r.si = 0 → r.sn = [])
instance (r : Rf) : Decidable (fmR r) := by unfold fmR; infer_instance
def lkR (r : Rf) : Prop := r.lg ≠ [] → (r.lg.getD 0 oj0).1 = r.si + 1 ∧ r.st ≤ (r.lg.getD 0 oj0).2.1 ∧ (r.lg.getD (r.lg.length - 1) oj0).2.1 ≤ r.tm
instance (r : Rf) : Decidable (lkR r) := by unfold lkR; infer_instance
def rfF (r : Rf) : Int := if rgR r then (if daF r.sn = 0 then (if fmR r then (if logF r.lg = 0 then (if lkR r then 0 else 1) else logF r.lg) else 1) else daF r.sn) else 3
theorem rfF_range {r : Rf} (h : ¬ rgR r) : rfF r = 3 := by unfold rfF; rw [if_neg h]
theorem rfF_data {r : Rf} (h : rgR r) (h1 : daF r.sn ≠ 0) : rfF r = daF r.sn := by unfold rfF; rw [if_pos h, if_neg h1]
theorem rfF_form {r : Rf} (h : rgR r) (h1 : daF r.sn = 0) (h2 : ¬ fmR r) : rfF r = 1 := by unfold rfF; rw [if_pos h, if_pos h1, if_neg h2]
theorem rfF_log {r : Rf} (h : rgR r) (h1 : daF r.sn = 0) (h2 : fmR r) (h3 : logF r.lg ≠ 0) : rfF r = logF r.lg := by unfold rfF; rw [if_pos h, if_pos h1, if_pos h2, if_neg h3]
theorem rfF_link {r : Rf} (h : rgR r) (h1 : daF r.sn = 0) (h2 : fmR r) (h3 : logF r.lg = 0) (h4 : ¬ lkR r) : rfF r = 1 := by unfold rfF; rw [if_pos h, if_pos h1, if_pos h2, if_pos h3, if_neg h4]
theorem rfF_ok {r : Rf} (h : rgR r) (h1 : daF r.sn = 0) (h2 : fmR r) (h3 : logF r.lg = 0) (h4 : lkR r) : rfF r = 0 := by unfold rfF; rw [if_pos h, if_pos h1, if_pos h2, if_pos h3, if_pos h4]
structure IsRf (r : Rf) : Prop where
  rg : rgR r
  da : daF r.sn = 0
  fm : fmR r
  lo : logF r.lg = 0
  lk : lkR r
theorem rfF_iff {r : Rf} : rfF r = 0 ↔ IsRf r := by
  constructor
  · intro h
    by_cases h1 : rgR r
    · by_cases h2 : daF r.sn = 0
      · by_cases h3 : fmR r
        · by_cases h4 : logF r.lg = 0
          · by_cases h5 : lkR r
            · exact ⟨h1, h2, h3, h4, h5⟩
            · rw [rfF_link h1 h2 h3 h4 h5] at h; exact absurd h (by decide)
          · rw [rfF_log h1 h2 h3 h4] at h; exact absurd h h4
        · rw [rfF_form h1 h2 h3] at h; exact absurd h (by decide)
      · rw [rfF_data h1 h2] at h; exact absurd h h2
    · rw [rfF_range h1] at h; exact absurd h (by decide)
  · intro h; exact rfF_ok h.rg h.da h.fm h.lo h.lk
theorem cfr_zero {g : Nat → Int} : ∀ (n k : Nat), cfr g n k = 0 ↔ ∀ i, k ≤ i → i < k + n → g i = 0
  | 0, k => by simp [cfr]; intro i h1 h2; omega
  | n + 1, k => by
    rw [cfr]
    by_cases h : g k = 0
    · rw [if_pos h, cfr_zero n (k + 1)]
      constructor
      · intro h1 i h2 h3
        by_cases e : i = k
        · rw [e]; exact h
        · exact h1 i (by omega) (by omega)
      · intro h1 i h2 h3; exact h1 i (by omega) (by omega)
    · rw [if_neg h]
      constructor
      · intro h1; exact absurd h1 h
      · intro h1; exact absurd (h1 k (Nat.le_refl _) (by omega)) h
theorem logF_iff {fs : List Oj} : logF fs = 0 ↔ fs.length ≤ 14 ∧ (∀ i, i < fs.length → entF (fs.getD i oj0) = 0) ∧ ∀ i, i + 1 < fs.length → nxE (fs.getD (i + 1) oj0) (fs.getD i oj0) := by
  unfold logF
  by_cases h : 14 < fs.length
  · rw [if_pos h]; exact ⟨fun h1 => absurd h1 (by decide), fun h1 => by omega⟩
  · rw [if_neg h, cfr_zero]
    constructor
    · intro h1
      refine ⟨by omega, fun i hi => (lgS_iff.1 (h1 i (Nat.zero_le _) (by omega))).1, fun i hi => ?_⟩
      have := (lgS_iff.1 (h1 (i + 1) (Nat.zero_le _) (by omega))).2
      by_cases e : nxE (fs.getD (i + 1) oj0) (fs.getD i oj0)
      · exact e
      · exact absurd ⟨by omega, by simpa using e⟩ this
    · rintro ⟨_, h2, h3⟩ i _ hi
      refine lgS_iff.2 ⟨h2 i (by omega), fun ⟨h4, h5⟩ => ?_⟩
      have := h3 (i - 1) (by omega)
      rw [show i - 1 + 1 = i by omega] at this
      exact h5 this
theorem getD_drop (fs : List Oj) (k i : Nat) : (fs.drop k).getD i oj0 = fs.getD (k + i) oj0 := by simp [List.getD, List.getElem?_drop]
theorem getD_take {fs : List Oj} {k i : Nat} (h : i < k) : (fs.take k).getD i oj0 = fs.getD i oj0 := by simp [List.getD, h]
theorem logF_drop {fs : List Oj} (k : Nat) (h : logF fs = 0) : logF (fs.drop k) = 0 := by
  obtain ⟨h1, h2, h3⟩ := logF_iff.1 h
  refine logF_iff.2 ⟨by simp; omega, fun i hi => ?_, fun i hi => ?_⟩
  · rw [getD_drop]; simp at hi; exact h2 _ (by omega)
  · rw [getD_drop, getD_drop]; simp at hi; exact h3 (k + i) (by omega)
theorem log_tot {fs : List Oj} (h1 : fs.length ≤ 28) (h2 : ∀ i, i < fs.length → (fs.getD i oj0).2.2.length ≤ 6) : ∀ k, k ≤ fs.length → totJ fs k ≤ k * 8
  | 0, _ => by simp [totJ]
  | k + 1, hk => by
    have ih := log_tot h1 h2 k (by omega)
    have := h2 k (by omega)
    rw [totJ_succ fs k (by omega)]
    omega
theorem logF_tot {fs : List Oj} (h : logF fs = 0) : totJ fs fs.length ≤ 112 := by
  obtain ⟨h1, h2, _⟩ := logF_iff.1 h
  have := log_tot (fs := fs) (by omega) (fun i hi => (entF_zero (h2 i hi)).2.1) fs.length (Nat.le_refl _)
  omega
theorem log_at {fs : List Oj} (h : logF fs = 0) : ∀ i, i < fs.length → (fs.getD i oj0).1 = (fs.getD 0 oj0).1 + (i : Int)
  | 0, _ => by simp
  | i + 1, hi => by
    have ih := log_at h i (by omega)
    have := ((logF_iff.1 h).2.2 i hi).1
    omega
def shC (r : Rf) (t v : Int) : Int := if rfF r = 0 then (if (0 ≤ t ∧ t ≤ 999) ∧ (0 ≤ v ∧ v ≤ 9) then (if t < r.tm ∨ (t = r.tm ∧ r.vt ≠ 0 ∧ v ≠ r.vt) then 6 else 0) else 3) else rfF r
def shR (r : Rf) (t v : Int) : Rf := if shC r t v = 0 then { r with tm := t, vt := v } else rf0
def tmC (r : Rf) (i : Int) : Int := if i < r.si then 6 else if lastR r < i then 4 else 0
def tmV (r : Rf) (i : Int) : Int := if tmC r i = 0 then (if i = r.si then r.st else (r.lg.getD (i - r.si - 1).toNat oj0).2.1) else 0
def taC (r : Rf) (i : Int) : Int := if rfF r = 0 then tmC r i else rfF r
def taV (r : Rf) (i : Int) : Int := if rfF r = 0 then tmV r i else 0
def efC (r : Rf) (i n : Int) : Int := if rfF r = 0 then (if 0 ≤ n ∧ n ≤ 14 then (if i ≤ r.si then 6 else if lastR r + 1 < i then 4 else 0) else 3) else rfF r
def efR (r : Rf) (i n : Int) : List Oj := if efC r i n = 0 then (r.lg.drop (i - r.si - 1).toNat).take n.toNat else []
def mtE : List Oj → List Oj → Nat
  | p :: ps, q :: qs => if p.2.1 = q.2.1 then mtE ps qs + 1 else 0
  | _, _ => 0
def fitR (r : Rf) (i t : Int) (l : List Oj) : Prop := l ≠ [] → (l.getD 0 oj0).1 - 1 = i ∧ t ≤ (l.getD 0 oj0).2.1 ∧ (l.getD (l.length - 1) oj0).2.1 ≤ r.tm
instance (r : Rf) (i t : Int) (l : List Oj) : Decidable (fitR r i t l) := by unfold fitR; infer_instance
def apK (r : Rf) (i : Int) (l : List Oj) : Nat := mtE (r.lg.drop (i - r.si).toNat) l
def apL (r : Rf) (i : Int) (l : List Oj) : List Oj := if apK r i l = l.length then r.lg else r.lg.take ((i - r.si).toNat + apK r i l) ++ l.drop (apK r i l)
def apRC (r : Rf) (i t : Int) (l : List Oj) : Int :=
  if rfF r ≠ 0 then rfF r else if logF l ≠ 0 then logF l else if ¬ fitR r i t l then 1 else if tmC r i ≠ 0 then tmC r i else if tmV r i ≠ t then 10 else if 14 < (apL r i l).length then 8 else 0
def apRR (r : Rf) (i t : Int) (l : List Oj) : Rf := if apRC r i t l = 0 then { r with lg := apL r i l } else rf0
def cpC (r : Rf) (i : Int) (xs : List Int) : Int := if rfF r ≠ 0 then rfF r else if daF xs ≠ 0 then daF xs else if i ≤ r.si then 6 else tmC r i
def cpR (r : Rf) (i : Int) (xs : List Int) : Rf := if cpC r i xs = 0 then ⟨r.tm, r.vt, i, tmV r i, xs, r.lg.drop (i - r.si).toNat⟩ else rf0
def inC (r : Rf) (i t : Int) (xs : List Int) : Int := if rfF r ≠ 0 then rfF r else if daF xs ≠ 0 then daF xs else if ¬ ((1 ≤ i ∧ i ≤ 9999) ∧ 1 ≤ t ∧ t ≤ r.tm) then 3 else if i ≤ r.si then 6 else if t < r.st then 10 else 0
def inR (r : Rf) (i t : Int) (xs : List Int) : Rf := if inC r i t xs = 0 then ⟨r.tm, r.vt, i, t, xs, if tmC r i = 0 ∧ tmV r i = t then r.lg.drop (i - r.si).toNat else []⟩ else rf0
theorem mtE_le : ∀ (ps qs : List Oj), mtE ps qs ≤ ps.length ∧ mtE ps qs ≤ qs.length
  | [], _ => by simp [mtE]
  | _ :: _, [] => by simp [mtE]
  | p :: ps, q :: qs => by
    rw [mtE]
    have := mtE_le ps qs
    by_cases h : p.2.1 = q.2.1
    · rw [if_pos h]; simp; omega
    · rw [if_neg h]; simp
theorem totR_zero : totR rf0 = 0 := by simp [totR, rf0, totJ]
theorem rf_tot {r : Rf} (h : rfF r = 0) : totR r ≤ 152 := by
  have hi := rfF_iff.1 h
  have h1 := daF_len hi.da
  have h2 := logF_tot hi.lo
  unfold totR
  omega
theorem shR_tot (r : Rf) (t v : Int) : totR (shR r t v) ≤ 1048576 := by
  unfold shR
  by_cases h : shC r t v = 0
  · rw [if_pos h]
    have h0 : rfF r = 0 := by
      unfold shC at h
      by_cases h1 : rfF r = 0
      · exact h1
      · rw [if_neg h1] at h; exact h
    have := rf_tot h0
    unfold totR at this ⊢
    exact Int.le_trans this (by decide)
  · rw [if_neg h, totR_zero]; decide
theorem cpR_tot (r : Rf) (i : Int) (xs : List Int) : totR (cpR r i xs) ≤ 1048576 := by
  unfold cpR
  by_cases h : cpC r i xs = 0
  · rw [if_pos h]
    unfold cpC at h
    by_cases h0 : rfF r = 0
    · by_cases h1 : daF xs = 0
      · have a := daF_len h1
        have b := logF_tot (logF_drop (i - r.si).toNat (rfF_iff.1 h0).lo)
        unfold totR
        dsimp only
        omega
      · rw [if_neg (by simp [h0]), if_pos h1] at h; exact absurd h h1
    · rw [if_pos h0] at h; exact absurd h h0
  · rw [if_neg h, totR_zero]; decide
theorem inR_tot (r : Rf) (i t : Int) (xs : List Int) : totR (inR r i t xs) ≤ 1048576 := by
  unfold inR
  by_cases h : inC r i t xs = 0
  · rw [if_pos h]
    unfold inC at h
    by_cases h0 : rfF r = 0
    · by_cases h1 : daF xs = 0
      · have a := daF_len h1
        have b := logF_tot (logF_drop (i - r.si).toNat (rfF_iff.1 h0).lo)
        unfold totR
        dsimp only
        by_cases h2 : tmC r i = 0 ∧ tmV r i = t
        · rw [if_pos h2]; omega
        · rw [if_neg h2]; simp [totJ]; omega
      · rw [if_neg (by simp [h0]), if_pos h1] at h; exact absurd h h1
    · rw [if_pos h0] at h; exact absurd h h0
  · rw [if_neg h, totR_zero]; decide
end Go.Proofs.YtlliggfggadidaaGreatDoor
