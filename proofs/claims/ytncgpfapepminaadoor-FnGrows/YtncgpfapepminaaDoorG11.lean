/- En2 in one text: what each says stands at its head below. -/
import Derived.Test.YtncgpfapepminaaDoorG10
import Derived.BigQuiet
/- Chapter 9: the fault of a log, of the program and of the model, walked. Made by program (genen2.py). -/
namespace Go.Proofs.YtncgpfapepminaaDoor
open Go.RowKit

/-- An entry goes behind another one. -/
def nxE (p q : Oj) : Prop := p.1 = q.1 + 1 ∧ q.2.1 ≤ p.2.1
instance (p q : Oj) : Decidable (nxE p q) := by unfold nxE; infer_instance
/-- What is asked of the i-th entry. -/
def lgS (fs : List Oj) (i : Nat) : Int :=
  if entF (fs.getD i oj0) = 0 then (if 0 < i ∧ ¬ nxE (fs.getD i oj0) (fs.getD (i - 1) oj0) then 1 else 0) else entF (fs.getD i oj0)
/-- The fault of a log. -/
def logF (fs : List Oj) : Int := if 14 < fs.length then 2 else cfr (lgS fs) fs.length 0
theorem logF_many {fs : List Oj} (h : 14 < fs.length) : logF fs = 2 := by unfold logF; rw [if_pos h]
theorem logF_one {fs : List Oj} (h : ¬ 14 < fs.length) : logF fs = cfr (lgS fs) fs.length 0 := by unfold logF; rw [if_neg h]
theorem lgS_iff {fs : List Oj} {i : Nat} : lgS fs i = 0 ↔ entF (fs.getD i oj0) = 0 ∧ ¬ (0 < i ∧ ¬ nxE (fs.getD i oj0) (fs.getD (i - 1) oj0)) := by
  unfold lgS
  by_cases h1 : entF (fs.getD i oj0) = 0
  · rw [if_pos h1]
    by_cases h2 : 0 < i ∧ ¬ nxE (fs.getD i oj0) (fs.getD (i - 1) oj0)
    · rw [if_pos h2]; exact ⟨fun h => absurd h (by decide), fun h => absurd h2 h.2⟩
    · rw [if_neg h2]; exact ⟨fun _ => ⟨h1, h2⟩, fun _ => rfl⟩
  · rw [if_neg h1]; exact ⟨fun h => absurd h h1, fun h => absurd h.1 h1⟩

set_option maxHeartbeats 2000000 in
theorem isNextB (w : World) (a t a' t' : Int) (ay ay' : Option Addr) (l c l' c' : Nat) (h0 : 0 ≤ a') (h1 : a' ≤ 9999) :
    Calls Tryd.prog 73 #[.agg #[.int .i64 a, .int .i64 t, .slice ay l c], .agg #[.int .i64 a', .int .i64 t', .slice ay' l' c']] w fun e w' => e = .returned (.bool (decide (a = a' + 1 ∧ t' ≤ t))) ∧ Below w.heap.size w w' := by
  by_cases h2 : a = a' + 1
  · have HE : Hid (decide (a = a' + 1 ∧ t' ≤ t) = decide (t' ≤ t)) := by rw [Hid]; simp [h2]
    rw [HE.out]
    have h2b : (a == a' + 1) = true := by simp [h2]
    by_cases h3 : t' ≤ t
    · have h3' : t ≥ t' := h3
      rw [decide_eq_true h3]
      clear h2 HE
      go_enter Tryd.func73, Tryd.ntmps73
      go_wp2
      go_ret
      exact ⟨rfl, below_on (below_alloc _ _) (below_alloc _ _)⟩
    · have h3' : ¬ t ≥ t' := h3
      rw [decide_eq_false h3]
      clear h2 HE
      go_enter Tryd.func73, Tryd.ntmps73
      go_wp2
      go_ret
      exact ⟨rfl, below_on (below_alloc _ _) (below_alloc _ _)⟩
  · rw [decide_eq_false (fun h => h2 h.1)]
    have h2b : (a == a' + 1) = false := by simp [h2]
    clear h2
    go_enter Tryd.func73, Tryd.ntmps73
    go_wp2
    go_ret
    exact ⟨rfl, below_on (below_alloc _ _) (below_alloc _ _)⟩


set_option maxHeartbeats 4000000 in
set_option maxRecDepth 4000 in
theorem implLogFault {S : Nat → Prop} {w : World} {v : Value} {fs : List Oj} (hv : RdJ S w v fs) :
    Calls Tryd.prog 38 #[v] w fun e w' => e = .returned (.int .i64 (logF fs)) ∧ Below w.heap.size w w' := by
  obtain ⟨av, cv, rfl, hm⟩ := hv.shape
  have HV := hide hv
  obtain ⟨n, hn⟩ : ∃ n, fs.length = n := ⟨_, rfl⟩
  have HN := hide hn
  rw [hn] at HV hm ⊢
  clear hv hn
  obtain ⟨R, hR⟩ : ∃ R, logF fs = R := ⟨_, rfl⟩
  have HR := hide hR
  rw [hR]
  clear hR
  by_cases h4 : 14 < n
  · have h4' : (14 : Int) < (n : Int) := by omega
    have HE : Hid ((2 : Int) = R) := by rw [Hid, ← HR.out]; exact (logF_many (by rw [HN.out]; exact h4)).symm
    go_enter Tryd.func38, Tryd.ntmps38
    go_wp2
    go_ret
    exact ⟨ret_intF HE.out, Below.refl _ _⟩
  · have h4' : ¬ (14 : Int) < (n : Int) := by omega
    have HE0 := hide (show cfr (lgS fs) (n - 0) 0 = R by rw [Nat.sub_zero, ← HN.out, ← HR.out]; exact (logF_one (by rw [HN.out]; exact h4)).symm)
    go_enter Tryd.func38, Tryd.ntmps38
    go_wp2
    go_loopw [11] (fun i wr => ∃ k : Nat, k ≤ n ∧ i = .int .i64 k ∧ Hid (cfr (lgS fs) (n - k) k = R) ∧ Hid (0 < k → entF (fs.getD (k - 1) oj0) = 0) ∧ Hid (Below w.heap.size w wr)) (fun i _ => n - (RowKit.intOf i).toNat)
    case atStart => exact ⟨0, Nat.zero_le _, rfl, HE0.out, fun h => absurd h (Nat.lt_irrefl _), Below.refl _ _⟩
    case round =>
      obtain ⟨k, hk, rfl, HG, HP, HB⟩ := hrel
      by_cases hlt : k < n
      · obtain ⟨b, off, rfl, hfp⟩ := HV.out.file (k := k) (by rw [HN.out]; exact hlt)
        obtain ⟨y, q0, q1, q2, q3⟩ := hfp
        have hk0 : (0 : Int) ≤ (k : Int) := by omega
        have hk1 : (k : Int) < (n : Int) := by omega
        obtain ⟨x, hx⟩ : ∃ x, fs.getD k oj0 = x := ⟨_, rfl⟩
        rw [hx] at q0 q1 q3
        have HX := hide hx
        clear hx
        obtain ⟨a, t, xs⟩ := x
        dsimp only at q0 q1 q3
        obtain ⟨ay, cy, rfl⟩ := q3.shape
        have g0 := cell_later HB.out q0
        have g1 := cell_later HB.out q1
        have g2 := cell_later HB.out q2
        have HY := hide (q3.later HB.out)
        clear q0 q1 q2 q3
        obtain ⟨l, hl⟩ : ∃ l, xs.length = l := ⟨_, rfl⟩
        rw [hl] at g2 HY
        clear hl
        have hbl := World.block_lt_of_cell? _ _ g0
        obtain ⟨c, hc⟩ : ∃ c, entF (a, t, xs) = c := ⟨_, rfl⟩
        have Hc : Hid (entF (fs.getD k oj0) = c) := by rw [Hid, HX.out]; exact hc
        have HC := hide (implEntryFault a t (HY.out.later (below_alloc wr (.cells #[.int .i64 a, .int .i64 t, .slice ay l cy] 43))))
        rw [hc] at HC
        clear hc

        by_cases hc0 : c = 0
        · subst hc0
          by_cases hk0z : k = 0
          · subst hk0z
            simp only [Nat.zero_mul, Nat.add_zero] at g0 g1 g2
            have HS : Hid (cfr (lgS fs) (n - (0 + 1)) (0 + 1) = R) := by rw [Hid, ← cfr_ok hlt (lgS_iff.2 ⟨Hc.out, fun h => absurd h.1 (Nat.lt_irrefl _)⟩)]; exact HG.out
            go_wp2_with fail
            refine HC.out.mono ?_
            rintro e w' ⟨rfl, hb⟩
            have HB1 := hide (below_on HB.out (below_on (below_alloc wr (.cells #[.int .i64 a, .int .i64 t, .slice ay l cy] 43)) hb))
            clear hb
            go_wp2_with fail
            go_quiet (fail)
            have HBq := hide (below_on HB1.out (below_drewN _ nq))
            go_wp2
            go_roundw
            case rel => exact ⟨0 + 1, hlt, by go_num, HS.out, fun _ => Hc.out, HBq.out⟩
            case measure => simp [RowKit.intOf]; omega
          · obtain ⟨j, hjk⟩ : ∃ j, k = j + 1 := ⟨k - 1, by omega⟩
            obtain ⟨b', off', e', y', r0, r1, r2, r3⟩ := HV.out.file (k := j) (by rw [HN.out]; omega)
            injection e' with e'
            injection e' with e1 e2
            subst e1 e2
            have HPj := HP.out (by omega)
            rw [show k - 1 = j by omega] at HPj
            obtain ⟨x', hx'⟩ : ∃ x', fs.getD j oj0 = x' := ⟨_, rfl⟩
            rw [hx'] at r0 r1 r3 HPj
            have HX' := hide hx'
            clear hx'
            obtain ⟨a', t', xs'⟩ := x'
            have hap : 1 ≤ a' ∧ a' ≤ 9999 := (entF_zero HPj).1.1
            dsimp only at r0 r1 r3
            obtain ⟨ay', cy', rfl⟩ := r3.shape
            have s0 := cell_later HB.out r0
            have s1 := cell_later HB.out r1
            have s2 := cell_later HB.out r2
            clear r0 r1 r2 r3 HPj
            obtain ⟨l', hl'⟩ : ∃ l', xs'.length = l' := ⟨_, rfl⟩
            rw [hl'] at s2
            clear hl'
            have hw1 : IntKind.i64.wrap ((k : Int) - 1) = (j : Int) := by simp [IntKind.wrap, IntKind.bits, IntKind.signed]; omega
            have hj0 : (0 : Int) < (k : Int) := by omega
            have hkp : 0 < k := by omega
            have hjp : (0 : Int) ≤ (j : Int) := by omega
            have hjn : (j : Int) < (n : Int) := by omega
            have HJK := hide hjk
            have HNx := hide (show nxE (fs.getD k oj0) (fs.getD (k - 1) oj0) ↔ (a = a' + 1 ∧ t' ≤ t) by rw [HX.out, show k - 1 = j by omega, HX'.out]; exact Iff.rfl)
            have HCn := hide (fun wz => isNextB wz a t a' t' ay ay' l cy l' cy' (by omega) hap.2)
            obtain ⟨D, hD⟩ : ∃ D, decide (a = a' + 1 ∧ t' ≤ t) = D := ⟨_, rfl⟩
            rw [hD] at HCn
            have HD := hide hD
            clear hk0z hjk hD hap
            go_wp2_with fail
            refine HC.out.mono ?_
            rintro e w1 ⟨rfl, hb⟩
            have hb' := below_on (below_alloc wr (.cells #[.int .i64 a, .int .i64 t, .slice ay l cy] 43)) hb
            obtain ⟨v0, v1, v2⟩ := (Var3_new wr (.int .i64 a) (.int .i64 t) (.slice ay l cy) 43).later hb
            have u0 := cell_later hb' s0
            have u1 := cell_later hb' s1
            have u2 := cell_later hb' s2
            have HB1 := hide (below_on HB.out hb')
            clear hb hb' s0 s1 s2 g0 g1 g2
            cases D
            · have HN1 : Hid ((1 : Int) = R) := by
                have h1 : lgS fs k = 1 := by
                  unfold lgS
                  rw [if_pos Hc.out, if_pos ⟨hkp, fun h => by have := HNx.out.1 h; exact absurd HD.out (by rw [decide_eq_true this]; decide)⟩]
                rw [Hid, ← HG.out, cfr_no hlt (by rw [h1]; decide), h1]
              go_wp2_with fail
              go_region_held3 (fun w' => w'.cell? ⟨wr.heap.size, 0, none⟩ = some (.int .i64 a) ∧ w'.cell? ⟨wr.heap.size, 1, none⟩ = some (.int .i64 t) ∧ w'.cell? ⟨wr.heap.size, 2, none⟩ = some (.slice ay l cy) ∧ w'.cell? ⟨b, off + j * 3, none⟩ = some (.int .i64 a') ∧ w'.cell? ⟨b, off + j * 3 + 1, none⟩ = some (.int .i64 t') ∧ w'.cell? ⟨b, off + j * 3 + 2, none⟩ = some (.slice ay' l' cy')) (first | exact ⟨v0, v1, v2, u0, u1, u2⟩ | exact ⟨c0, c1, c2, c3, c4, c5⟩)
                (first
                  | (go_at_call 73; refine (HCn.out _).mono ?_; rintro e w2 ⟨rfl, hb⟩; have c0 := cell_later hb v0; have c1 := cell_later hb v1; have c2 := cell_later hb v2; have c3 := cell_later hb u0; have c4 := cell_later hb u1; have c5 := cell_later hb u2; have HB2 := hide (below_on HB1.out (below_on (below_drewN w1 1) hb)); clear hb))
              go_wp2
              go_ret
              exact ⟨ret_intF HN1.out, HB2.out⟩
            · have HS : Hid (cfr (lgS fs) (n - (k + 1)) (k + 1) = R) := by rw [Hid, ← cfr_ok hlt (lgS_iff.2 ⟨Hc.out, fun h => h.2 (HNx.out.2 (of_decide_eq_true HD.out))⟩)]; exact HG.out
              go_wp2_with fail
              go_region_held3 (fun w' => w'.cell? ⟨wr.heap.size, 0, none⟩ = some (.int .i64 a) ∧ w'.cell? ⟨wr.heap.size, 1, none⟩ = some (.int .i64 t) ∧ w'.cell? ⟨wr.heap.size, 2, none⟩ = some (.slice ay l cy) ∧ w'.cell? ⟨b, off + j * 3, none⟩ = some (.int .i64 a') ∧ w'.cell? ⟨b, off + j * 3 + 1, none⟩ = some (.int .i64 t') ∧ w'.cell? ⟨b, off + j * 3 + 2, none⟩ = some (.slice ay' l' cy')) (first | exact ⟨v0, v1, v2, u0, u1, u2⟩ | exact ⟨c0, c1, c2, c3, c4, c5⟩)
                (first
                  | (go_at_call 73; refine (HCn.out _).mono ?_; rintro e w2 ⟨rfl, hb⟩; have c0 := cell_later hb v0; have c1 := cell_later hb v1; have c2 := cell_later hb v2; have c3 := cell_later hb u0; have c4 := cell_later hb u1; have c5 := cell_later hb u2; have HB2 := hide (below_on HB1.out (below_on (below_drewN w1 1) hb)); clear hb))
              go_wp2
              go_roundw
              case rel => exact ⟨k + 1, hlt, by go_num, HS.out, fun _ => Hc.out, HB2.out⟩
              case measure => simp [RowKit.intOf]; omega
        · have hc0b : (c == 0) = false := by simpa using hc0
          have HN1 : Hid (c = R) := by
            have h1 : lgS fs k = c := by
              unfold lgS
              rw [if_neg (by rw [Hc.out]; exact hc0), Hc.out]
            rw [Hid, ← HG.out, cfr_no hlt (by rw [h1]; exact hc0), h1]
          go_wp2_with fail
          refine HC.out.mono ?_
          rintro e w' ⟨rfl, hb⟩
          have HB1 := hide (below_on HB.out (below_on (below_alloc wr (.cells #[.int .i64 a, .int .i64 t, .slice ay l cy] 43)) hb))
          clear hb
          go_wp2
          go_ret
          exact ⟨ret_intF HN1.out, HB1.out⟩
      · have hkn : k = n := by omega
        subst hkn
        have HE : Hid ((0 : Int) = R) := (cfr_end (Nat.lt_irrefl _)).symm.trans HG.out
        go_wp2
        go_ret
        exact ⟨ret_intF HE.out, HB.out⟩


set_option maxHeartbeats 4000000 in
set_option maxRecDepth 4000 in
theorem l9Log {S : Nat → Prop} {w : World} {v : Value} {fs : List Oj} (hv : RdJ S w v fs) :
    Calls Tryd.prog 51 #[v] w fun e w' => e = .returned (.int .i64 (logF fs)) ∧ Below w.heap.size w w' := by
  obtain ⟨av, cv, rfl, hm⟩ := hv.shape
  have HV := hide hv
  obtain ⟨n, hn⟩ : ∃ n, fs.length = n := ⟨_, rfl⟩
  have HN := hide hn
  rw [hn] at HV hm ⊢
  clear hv hn
  obtain ⟨R, hR⟩ : ∃ R, logF fs = R := ⟨_, rfl⟩
  have HR := hide hR
  rw [hR]
  clear hR
  by_cases h4 : 14 < n
  · have h4' : (14 : Int) < (n : Int) := by omega
    have HE : Hid ((2 : Int) = R) := by rw [Hid, ← HR.out]; exact (logF_many (by rw [HN.out]; exact h4)).symm
    go_enter Tryd.func51, Tryd.ntmps51
    go_wp2
    go_ret
    exact ⟨ret_intF HE.out, Below.refl _ _⟩
  · have h4' : ¬ (14 : Int) < (n : Int) := by omega
    have HE0 := hide (show cfr (lgS fs) (n - 0) 0 = R by rw [Nat.sub_zero, ← HN.out, ← HR.out]; exact (logF_one (by rw [HN.out]; exact h4)).symm)
    go_enter Tryd.func51, Tryd.ntmps51
    go_wp2
    go_loopw [3] (fun i wr => ∃ k : Nat, k ≤ n ∧ i = .int .i64 k ∧ Hid (cfr (lgS fs) (n - k) k = R) ∧ Hid (0 < k → entF (fs.getD (k - 1) oj0) = 0) ∧ Hid (Below w.heap.size w wr)) (fun i _ => n - (RowKit.intOf i).toNat)
    case atStart => exact ⟨0, Nat.zero_le _, rfl, HE0.out, fun h => absurd h (Nat.lt_irrefl _), Below.refl _ _⟩
    case round =>
      obtain ⟨k, hk, rfl, HG, HP, HB⟩ := hrel
      by_cases hlt : k < n
      · obtain ⟨b, off, rfl, hfp⟩ := HV.out.file (k := k) (by rw [HN.out]; exact hlt)
        obtain ⟨y, q0, q1, q2, q3⟩ := hfp
        have hk0 : (0 : Int) ≤ (k : Int) := by omega
        have hk1 : (k : Int) < (n : Int) := by omega
        obtain ⟨x, hx⟩ : ∃ x, fs.getD k oj0 = x := ⟨_, rfl⟩
        rw [hx] at q0 q1 q3
        have HX := hide hx
        clear hx
        obtain ⟨a, t, xs⟩ := x
        dsimp only at q0 q1 q3
        obtain ⟨ay, cy, rfl⟩ := q3.shape
        have g0 := cell_later HB.out q0
        have g1 := cell_later HB.out q1
        have g2 := cell_later HB.out q2
        have HY := hide (q3.later HB.out)
        clear q0 q1 q2 q3
        obtain ⟨l, hl⟩ : ∃ l, xs.length = l := ⟨_, rfl⟩
        rw [hl] at g2 HY
        clear hl
        have hbl := World.block_lt_of_cell? _ _ g0
        obtain ⟨c, hc⟩ : ∃ c, entF (a, t, xs) = c := ⟨_, rfl⟩
        have Hc : Hid (entF (fs.getD k oj0) = c) := by rw [Hid, HX.out]; exact hc
        have HC := hide (l9One (w := wr) (b := b) (off := off + k * 3) (p := (a, t, xs)) ⟨_, g0, g1, g2, HY.out⟩)
        rw [hc] at HC
        clear hc

        by_cases hc0 : c = 0
        · subst hc0
          by_cases hk0z : k = 0
          · subst hk0z
            simp only [Nat.zero_mul, Nat.add_zero] at g0 g1 g2
            have HS : Hid (cfr (lgS fs) (n - (0 + 1)) (0 + 1) = R) := by rw [Hid, ← cfr_ok hlt (lgS_iff.2 ⟨Hc.out, fun h => absurd h.1 (Nat.lt_irrefl _)⟩)]; exact HG.out
            go_wp2_with fail
            refine HC.out.mono ?_
            rintro e w' ⟨rfl, q, rfl⟩
            go_wp2_with fail
            go_quiet (fail)
            have HBq := hide (below_on HB.out (below_drewN wr (q + nq)))
            go_wp2
            go_roundw
            case rel => exact ⟨0 + 1, hlt, by go_num, HS.out, fun _ => Hc.out, HBq.out⟩
            case measure => simp [RowKit.intOf]; omega
          · obtain ⟨j, hjk⟩ : ∃ j, k = j + 1 := ⟨k - 1, by omega⟩
            obtain ⟨b', off', e', y', r0, r1, r2, r3⟩ := HV.out.file (k := j) (by rw [HN.out]; omega)
            injection e' with e'
            injection e' with e1 e2
            subst e1 e2
            have HPj := HP.out (by omega)
            rw [show k - 1 = j by omega] at HPj
            obtain ⟨x', hx'⟩ : ∃ x', fs.getD j oj0 = x' := ⟨_, rfl⟩
            rw [hx'] at r0 r1 r3 HPj
            have HX' := hide hx'
            clear hx'
            obtain ⟨a', t', xs'⟩ := x'
            have hap : 1 ≤ a' ∧ a' ≤ 9999 := (entF_zero HPj).1.1
            dsimp only at r0 r1 r3
            have s0 := cell_later HB.out r0
            have s1 := cell_later HB.out r1
            clear r0 r1 r2 r3 HPj
            have hw1 : IntKind.i64.wrap ((k : Int) - 1) = (j : Int) := by simp [IntKind.wrap, IntKind.bits, IntKind.signed]; omega
            have hw2 : IntKind.i64.wrap (a' + 1) = a' + 1 := by simp [IntKind.wrap, IntKind.bits, IntKind.signed]; omega
            have hj0 : (0 : Int) < (k : Int) := by omega
            have hkp : 0 < k := by omega
            have hjp : (0 : Int) ≤ (j : Int) := by omega
            have hjn : (j : Int) < (n : Int) := by omega
            have HNx := hide (show nxE (fs.getD k oj0) (fs.getD (k - 1) oj0) ↔ (a = a' + 1 ∧ t' ≤ t) by rw [HX.out, show k - 1 = j by omega, HX'.out]; exact Iff.rfl)
            clear hk0z hjk
            by_cases hna : a = a' + 1
            · by_cases hnt : t < t'
              · have HN1 : Hid ((1 : Int) = R) := by
                  have h1 : lgS fs k = 1 := by
                    unfold lgS
                    rw [if_pos Hc.out, if_pos ⟨hkp, fun h => by have := (HNx.out.1 h).2; omega⟩]
                  rw [Hid, ← HG.out, cfr_no hlt (by rw [h1]; decide), h1]
                have hnb : (a != a' + 1) = false := by simp [hna]
                clear hna hap
                go_wp2_with fail
                refine HC.out.mono ?_
                rintro e w' ⟨rfl, q, rfl⟩
                go_wp2_with fail
                go_quiet (fail)
                have HBq := hide (below_on HB.out (below_drewN wr (q + nq)))
                go_wp2
                go_ret
                exact ⟨ret_intF HN1.out, by rw [World.drewN_drewN]; exact HBq.out⟩
              · have HS : Hid (cfr (lgS fs) (n - (k + 1)) (k + 1) = R) := by rw [Hid, ← cfr_ok hlt (lgS_iff.2 ⟨Hc.out, fun h => h.2 (HNx.out.2 ⟨hna, by omega⟩)⟩)]; exact HG.out
                have hnb : (a != a' + 1) = false := by simp [hna]
                clear hna hap
                go_wp2_with fail
                refine HC.out.mono ?_
                rintro e w' ⟨rfl, q, rfl⟩
                go_wp2_with fail
                go_quiet (fail)
                have HBq := hide (below_on HB.out (below_drewN wr (q + nq)))
                go_wp2
                go_roundw
                case rel => exact ⟨k + 1, hlt, by go_num, HS.out, fun _ => Hc.out, HBq.out⟩
                case measure => simp [RowKit.intOf]; omega
            · have HN1 : Hid ((1 : Int) = R) := by
                have h1 : lgS fs k = 1 := by
                  unfold lgS
                  rw [if_pos Hc.out, if_pos ⟨hkp, fun h => hna (HNx.out.1 h).1⟩]
                rw [Hid, ← HG.out, cfr_no hlt (by rw [h1]; decide), h1]
              have hnb : (a != a' + 1) = true := by simp [hna]
              clear hna hap
              go_wp2_with fail
              refine HC.out.mono ?_
              rintro e w' ⟨rfl, q, rfl⟩
              go_wp2_with fail
              go_quiet (fail)
              have HBq := hide (below_on HB.out (below_drewN wr (q + nq)))
              go_wp2
              go_ret
              exact ⟨ret_intF HN1.out, by rw [World.drewN_drewN]; exact HBq.out⟩
        · have hc0b : (c == 0) = false := by simpa using hc0
          have HN1 : Hid (c = R) := by
            have h1 : lgS fs k = c := by
              unfold lgS
              rw [if_neg (by rw [Hc.out]; exact hc0), Hc.out]
            rw [Hid, ← HG.out, cfr_no hlt (by rw [h1]; exact hc0), h1]
          go_wp2_with fail
          refine HC.out.mono ?_
          rintro e w' ⟨rfl, q, rfl⟩
          go_wp2
          go_ret
          exact ⟨ret_intF HN1.out, below_on HB.out (below_drewN wr q)⟩
      · have hkn : k = n := by omega
        subst hkn
        have HE : Hid ((0 : Int) = R) := (cfr_end (Nat.lt_irrefl _)).symm.trans HG.out
        go_wp2
        go_ret
        exact ⟨ret_intF HE.out, HB.out⟩

end Go.Proofs.YtncgpfapepminaaDoor
