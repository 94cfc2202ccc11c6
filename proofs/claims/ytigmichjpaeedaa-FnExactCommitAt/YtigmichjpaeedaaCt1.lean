/- Chapter 12: 'CommitAt' of the program and of the model, walked. Made by program (genct.py). -/
import Derived.Test.YtigmichjpaeedaaIvT
import Derived.Test.YtigmichjpaeedaaCfr
import Derived.BigQuiet
namespace Go.Proofs.Ytigmichjpaeedaa
open Go.RowKit

def stF (ts : List St) (i : Nat) : Int := stepF (ts.getD i st0).1 (ts.getD i st0).2.1 (ts.getD i st0).2.2
def cmF (ts : List St) : Int := cfr (stF ts) ts.length 0
/-- The last three are a flush, a put at 0 or 1, a flush. -/
def cmO (ts : List St) : Prop := 3 ≤ ts.length ∧ (ts.getD (ts.length - 3) st0).1 = true ∧ (ts.getD (ts.length - 2) st0).1 = false ∧ (ts.getD (ts.length - 2) st0).2.1 < 2 ∧ (ts.getD (ts.length - 1) st0).1 = true
instance (ts : List St) : Decidable (cmO ts) := by unfold cmO; infer_instance
def cmC (ts : List St) : Int := if 120 < ts.length then 2 else if cmF ts ≠ 0 then cmF ts else if cmO ts then 0 else 4
def cmV (ts : List St) : Int := if cmC ts = 0 then (ts.length : Int) - 1 else 0
theorem ct_many {ts : List St} (h : 120 < ts.length) : cmC ts = 2 ∧ cmV ts = 0 := by
  have hc : cmC ts = 2 := by unfold cmC; rw [if_pos h]
  exact ⟨hc, by unfold cmV; rw [if_neg (by rw [hc]; decide)]⟩
theorem ct_bad {ts : List St} (h : ¬ 120 < ts.length) (h1 : cmF ts ≠ 0) : cmC ts = cmF ts ∧ cmV ts = 0 := by
  have hc : cmC ts = cmF ts := by unfold cmC; rw [if_neg h, if_pos h1]
  exact ⟨hc, by unfold cmV; rw [if_neg (by rw [hc]; exact h1)]⟩
theorem ct_no {ts : List St} (h : ¬ 120 < ts.length) (h1 : cmF ts = 0) (h2 : ¬ cmO ts) : cmC ts = 4 ∧ cmV ts = 0 := by
  have hc : cmC ts = 4 := by unfold cmC; rw [if_neg h, if_neg (fun k => k h1), if_neg h2]
  exact ⟨hc, by unfold cmV; rw [if_neg (by rw [hc]; decide)]⟩
theorem ct_ok {ts : List St} (h : ¬ 120 < ts.length) (h1 : cmF ts = 0) (h2 : cmO ts) : cmC ts = 0 ∧ cmV ts = (ts.length : Int) - 1 := by
  have hc : cmC ts = 0 := by unfold cmC; rw [if_neg h, if_neg (fun k => k h1), if_pos h2]
  exact ⟨hc, by unfold cmV; rw [if_pos hc]⟩
theorem RdT.stepA {S : Nat → Prop} {w : World} {ao : Option Addr} {n c : Nat} {ts : List St} (h : RdT S w (.slice ao n c) ts) {k : Nat} (hk : k < ts.length) : ∃ b off, ao = some ⟨b, off, none⟩ ∧ ∃ y, w.cell? ⟨b, off + k * 3, none⟩ = some (.bool (ts.getD k st0).1) ∧ w.cell? ⟨b, off + k * 3 + 1, none⟩ = some (.int .i64 (ts.getD k st0).2.1) ∧ w.cell? ⟨b, off + k * 3 + 2, none⟩ = some y ∧ RdI S w y (ts.getD k st0).2.2 := by
  obtain ⟨ao', c', e, hm, h⟩ := h
  injection e with e1 e2 e3
  obtain ⟨b, off, V, e4, _, hc⟩ := h (by rintro rfl; exact absurd hk (Nat.not_lt_zero _))
  exact ⟨b, off, e1.trans e4, V k, hc k hk⟩
/-- The variable of a code with a number, new and not yet written. -/
def ResQ (w wr : World) : Prop := Below w.heap.size w wr ∧ Var2 wr w.heap.size (.int .i64 0) (.int .i64 0) ∧ ∀ o, wr.frozen? ⟨w.heap.size, o, none⟩ = false
theorem ResQ.start (w : World) (t : TypeId) : ResQ w (w.alloc (.cells #[.int .i64 0, .int .i64 0] t)) := ⟨below_alloc _ _, Var2_new _ _ _ _, fun o => by simp [go_sem]⟩
theorem ResQ.later {w wr w' : World} (h : ResQ w wr) (hb : Below wr.heap.size wr w') : ResQ w w' := ⟨below_on h.1 hb, h.2.1.later hb, fun o => ((bcell hb).2 _ _ h.2.1.lt).trans (h.2.2 o)⟩

set_option linter.unusedSimpArgs false in
set_option maxHeartbeats 2000000 in
theorem isCommitB (f1 f2 f3 : Bool) (a1 a2 a3 : Int) (y1 y2 y3 : Option Addr) (l1 l2 l3 c1 c2 c3 : Nat) (w : World) :
    Calls Try.prog 37 #[.agg #[.bool f1, .int .i64 a1, .slice y1 l1 c1], .agg #[.bool f2, .int .i64 a2, .slice y2 l2 c2], .agg #[.bool f3, .int .i64 a3, .slice y3 l3 c3]] w fun e w' => e = .returned (.bool (decide (f1 = true ∧ f2 = false ∧ a2 < 2 ∧ f3 = true))) ∧ Below w.heap.size w w' := by
  have BA := hide (below_on (below_on (below_alloc w (.cells #[.bool f1, .int .i64 a1, .slice y1 l1 c1] 65)) (below_alloc _ (.cells #[.bool f2, .int .i64 a2, .slice y2 l2 c2] 65))) (below_alloc _ (.cells #[.bool f3, .int .i64 a3, .slice y3 l3 c3] 65)))
  by_cases h : a2 < 2
  · cases f1 <;> cases f2 <;> cases f3 <;> simp only [h, and_true, true_and, and_false, false_and, decide_true, decide_false, Bool.false_eq_true, reduceCtorEq] <;>
    · go_enter Try.func37, Try.ntmps37
      go_wp2
      go_ret
      exact ⟨rfl, BA.out⟩
  · cases f1 <;> cases f2 <;> cases f3 <;> simp only [h, and_true, true_and, and_false, false_and, decide_true, decide_false, Bool.false_eq_true, reduceCtorEq] <;>
    · go_enter Try.func37, Try.ntmps37
      go_wp2
      go_ret
      exact ⟨rfl, BA.out⟩

set_option maxHeartbeats 8000000 in
set_option maxRecDepth 4000 in
theorem implCommitAt {S : Nat → Prop} {w : World} {v : Value} {ts : List St} (hv : RdT S w v ts) :
    Calls Try.prog 14 #[v] w fun e w' => e = .returned (.agg #[.int .i64 (cmC ts), .int .i64 (cmV ts)]) ∧ Below w.heap.size w w' := by
  obtain ⟨av, cv, rfl, hm⟩ := hv.shape
  have HV := hide hv
  have HMany := hide (@ct_many ts)
  have HBad := hide (@ct_bad ts)
  have HNo := hide (@ct_no ts)
  have HOk := hide (@ct_ok ts)
  obtain ⟨C, hC⟩ : ∃ C, cmC ts = C := ⟨_, rfl⟩
  obtain ⟨V, hV⟩ : ∃ V, cmV ts = V := ⟨_, rfl⟩
  rw [hC, hV] at HMany HBad HNo HOk
  rw [hC, hV]
  obtain ⟨n, hn⟩ : ∃ n, ts.length = n := ⟨_, rfl⟩
  have HN := hide hn
  rw [hn] at HV hm HMany HBad HNo HOk ⊢
  have HO : Hid (cmO ts ↔ 3 ≤ n ∧ (ts.getD (n - 3) st0).1 = true ∧ (ts.getD (n - 2) st0).1 = false ∧ (ts.getD (n - 2) st0).2.1 < 2 ∧ (ts.getD (n - 1) st0).1 = true) := by rw [Hid, ← hn]; exact Iff.rfl
  have HF0 : Hid (cfr (stF ts) (n - 0) 0 = cmF ts) := by rw [Hid, Nat.sub_zero, ← hn]; rfl
  obtain ⟨F, hF⟩ : ∃ F, cmF ts = F := ⟨_, rfl⟩
  rw [hF] at HF0 HBad HNo HOk
  clear hv hn hC hV hF
  have RA := hide (ResQ.start w 37)
  by_cases h120 : 120 < n
  · have h120' : (120 : Int) < (n : Int) := by omega
    obtain ⟨rfl, rfl⟩ := HMany.out h120
    go_enter Try.func14, Try.ntmps14
    go_wp2
    refine bodyPost_ret (v := .agg #[.int .i64 2, .int .i64 0]) (by simp [results, Try.results14, go_sem]) rfl ⟨rfl, ?_⟩
    repeat (first | exact RA.out.1 | exact below_alloc _ _ | refine Below.setCell ?_ (by first | (simp; done) | (simp; omega) | omega) _)
  · have h120' : ¬ (120 : Int) < (n : Int) := by omega
    go_enter Try.func14, Try.ntmps14
    go_wp2
    go_loopw [13] (fun i wr => ∃ k : Nat, k ≤ n ∧ i = .int .i64 k ∧ Hid (cfr (stF ts) (n - k) k = F) ∧ Hid (ResQ w wr)) (fun i _ => n - (RowKit.intOf i).toNat)
    case atStart => exact ⟨0, Nat.zero_le _, rfl, HF0.out, RA.out⟩
    case round =>
      obtain ⟨k, hk, rfl, HG, HR⟩ := hrel
      clear HF0 RA
      by_cases hlt : k < n
      · obtain ⟨b, off, rfl, y, q0, q1, q2, q3⟩ := HV.out.stepA (k := k) (by rw [HN.out]; exact hlt)
        have hk0 : (0 : Int) ≤ (k : Int) := by omega
        have hk1 : (k : Int) < (n : Int) := by omega
        obtain ⟨x, hx⟩ : ∃ x, ts.getD k st0 = x := ⟨_, rfl⟩
        have HX : Hid (stF ts k = stepF x.1 x.2.1 x.2.2) := by rw [Hid, ← hx]; rfl
        rw [hx] at q0 q1 q3
        clear hx
        obtain ⟨f, a, xs⟩ := x
        dsimp only at q0 q1 q3 HX
        obtain ⟨ay, cy, rfl⟩ := q3.shape
        have g0 := cell_later HR.out.1 q0
        have g1 := cell_later HR.out.1 q1
        have g2 := cell_later HR.out.1 q2
        have HY := hide (q3.later HR.out.1)
        clear q0 q1 q2 q3
        obtain ⟨l, hl⟩ : ∃ l, xs.length = l := ⟨_, rfl⟩
        rw [hl] at g2 HY
        clear hl
        obtain ⟨c, hc⟩ : ∃ c, stepF f a xs = c := ⟨_, rfl⟩
        rw [hc] at HX
        have hbl := World.block_lt_of_cell? _ _ g0
        have HC := hide (implStepFault f a (HY.out.later (below_alloc wr (.cells #[.bool f, .int .i64 a, .slice ay l cy] 65))))
        rw [hc] at HC
        clear hc
        by_cases hc0 : c = 0
        · subst hc0
          have HS : Hid (cfr (stF ts) (n - (k + 1)) (k + 1) = F) := by rw [Hid, ← cfr_ok hlt HX.out]; exact HG.out
          go_wp2_with fail
          refine HC.out.mono ?_
          rintro e w' ⟨rfl, hb⟩
          have HR2 := hide (HR.out.later (below_on (below_alloc wr (.cells #[.bool f, .int .i64 a, .slice ay l cy] 65)) hb))
          clear hb g0 g1 g2
          go_wp2
          go_roundw
          case rel => exact ⟨k + 1, hlt, by go_num, HS.out, HR2.out⟩
          case measure => simp [RowKit.intOf]; omega
        · have hcF : c = F := by rw [← HG.out, cfr_no hlt (by rw [HX.out]; exact hc0), HX.out]
          subst hcF
          obtain ⟨rfl, rfl⟩ := HBad.out h120 hc0
          have hc1 : (C == 0) = false := by simpa using hc0
          have hc2 : (C != 0) = true := by simp [hc0]
          go_wp2_with fail
          refine HC.out.mono ?_
          rintro e w' ⟨rfl, hb⟩
          have HR2 := hide (HR.out.later (below_on (below_alloc wr (.cells #[.bool f, .int .i64 a, .slice ay l cy] 65)) hb))
          clear hb g0 g1 g2
          obtain ⟨HBz, ⟨z0, z1⟩, hfz⟩ := HR2.out
          have y0 := hfz 0
          have y1 := hfz 1
          have HBy := hide HBz
          clear hfz HBz
          go_wp2
          refine bodyPost_ret (v := .agg #[.int .i64 C, .int .i64 0]) (by simp [results, Try.results14, go_sem, z0, z1]) rfl ⟨by first | rfl | (congr 2; go_num) | go_num, ?_⟩
          repeat (first | exact HBy.out | exact below_alloc _ _ | refine Below.setCell ?_ (by first | (simp; done) | (simp; omega) | omega) _)
      · have hkn : k = n := by omega
        subst hkn
        have hF : (0 : Int) = F := by rw [← HG.out, cfr_end (Nat.lt_irrefl _)]
        subst hF
        clear HG hlt hk
        by_cases h3 : 3 ≤ k
        · obtain ⟨m, rfl⟩ : ∃ m, k = m + 3 := ⟨k - 3, by omega⟩
          rw [show m + 3 - 3 = m from by omega, show m + 3 - 2 = m + 1 from by omega, show m + 3 - 1 = m + 2 from by omega] at HO
          obtain ⟨b, off, rfl, y0, p0, p1, p2, p3⟩ := HV.out.stepA (k := m) (by rw [HN.out]; omega)
          obtain ⟨x0, hx0⟩ : ∃ x, ts.getD m st0 = x := ⟨_, rfl⟩
          rw [hx0] at p0 p1 p3 HO
          clear hx0
          obtain ⟨f0, a0, xs0⟩ := x0
          dsimp only at p0 p1 p3 HO
          obtain ⟨ay0, cy0, rfl⟩ := p3.shape
          replace p0 := cell_later HR.out.1 p0
          replace p1 := cell_later HR.out.1 p1
          replace p2 := cell_later HR.out.1 p2
          clear p3
          generalize xs0.length = l0 at p2
          obtain ⟨b', off', e', y1, q0, q1, q2, q3⟩ := HV.out.stepA (k := m + 1) (by rw [HN.out]; omega)
          injection e' with e'
          injection e' with e1 e2
          subst e1 e2
          obtain ⟨x1, hx1⟩ : ∃ x, ts.getD (m + 1) st0 = x := ⟨_, rfl⟩
          rw [hx1] at q0 q1 q3 HO
          clear hx1
          obtain ⟨f1, a1, xs1⟩ := x1
          dsimp only at q0 q1 q3 HO
          obtain ⟨ay1, cy1, rfl⟩ := q3.shape
          replace q0 := cell_later HR.out.1 q0
          replace q1 := cell_later HR.out.1 q1
          replace q2 := cell_later HR.out.1 q2
          clear q3
          generalize xs1.length = l1 at q2
          obtain ⟨b', off', e', y2, r0, r1, r2, r3⟩ := HV.out.stepA (k := m + 2) (by rw [HN.out]; omega)
          injection e' with e'
          injection e' with e1 e2
          subst e1 e2
          obtain ⟨x2, hx2⟩ : ∃ x, ts.getD (m + 2) st0 = x := ⟨_, rfl⟩
          rw [hx2] at r0 r1 r3 HO
          clear hx2
          obtain ⟨f2, a2, xs2⟩ := x2
          dsimp only at r0 r1 r3 HO
          obtain ⟨ay2, cy2, rfl⟩ := r3.shape
          replace r0 := cell_later HR.out.1 r0
          replace r1 := cell_later HR.out.1 r1
          replace r2 := cell_later HR.out.1 r2
          clear r3
          generalize xs2.length = l2 at r2
          obtain ⟨m1, hm1⟩ : ∃ x, m + 1 = x := ⟨_, rfl⟩
          obtain ⟨m2, hm2⟩ : ∃ x, m + 2 = x := ⟨_, rfl⟩
          obtain ⟨m3, hm3⟩ : ∃ x, m + 3 = x := ⟨_, rfl⟩
          rw [hm1] at q0 q1 q2
          rw [hm2] at r0 r1 r2
          rw [hm3] at HN HV hm HMany HBad HNo HOk HO h120 h120' ⊢
          have w1 : IntKind.i64.wrap ((m3 : Int) - 1) = (m2 : Int) := by simp [IntKind.wrap, IntKind.bits, IntKind.signed]; omega
          have w2 : IntKind.i64.wrap ((m3 : Int) - 2) = (m1 : Int) := by simp [IntKind.wrap, IntKind.bits, IntKind.signed]; omega
          have w3 : IntKind.i64.wrap ((m3 : Int) - 3) = (m : Int) := by simp [IntKind.wrap, IntKind.bits, IntKind.signed]; omega
          have w4 : IntKind.i64.wrap ((m2 : Int) - 1) = (m1 : Int) := by simp [IntKind.wrap, IntKind.bits, IntKind.signed]; omega
          have w5 : IntKind.i64.wrap ((m2 : Int) - 2) = (m : Int) := by simp [IntKind.wrap, IntKind.bits, IntKind.signed]; omega
          have im : (0 : Int) ≤ (m : Int) := by omega
          have im1 : (0 : Int) ≤ (m1 : Int) := by omega
          have im2 : (0 : Int) ≤ (m2 : Int) := by omega
          have jm : (m : Int) < (m3 : Int) := by omega
          have jm1 : (m1 : Int) < (m3 : Int) := by omega
          have jm2 : (m2 : Int) < (m3 : Int) := by omega
          have hlo : ¬ ((m3 : Int) < 3) := by omega
          have hlo2 : ¬ ((m2 : Int) < 2) := by omega
          have hlo3 : decide ((m3 : Int) < 3) = false := decide_eq_false hlo
          have hlo4 : decide ((m2 : Int) < 2) = false := decide_eq_false hlo2
          have hm32 : (m3 : Int) - 1 = (m2 : Int) := by omega
          rw [hm32] at HOk
          have HT : Hid (3 ≤ m3) := by show 3 ≤ m3; omega
          clear hm1 hm2 hm3 h3 hm32
          have hbl := World.block_lt_of_cell? _ _ p0
          have HIc := hide (isCommitB f0 f1 f2 a0 a1 a2 ay0 ay1 ay2 l0 l1 l2 cy0 cy1 cy2)
          obtain ⟨B, hB⟩ : ∃ B, decide (f0 = true ∧ f1 = false ∧ a1 < 2 ∧ f2 = true) = B := ⟨_, rfl⟩
          rw [hB] at HIc
          have HB := hide hB
          clear hB
          cases B
          · skip
            go_wp2_with fail
            go_region_held3 (fun w' => w'.cell? ⟨b, off + m * 3, none⟩ = some (.bool f0) ∧ w'.cell? ⟨b, off + m * 3 + 1, none⟩ = some (.int .i64 a0) ∧ w'.cell? ⟨b, off + m * 3 + 2, none⟩ = some (.slice ay0 l0 cy0) ∧ w'.cell? ⟨b, off + m1 * 3, none⟩ = some (.bool f1) ∧ w'.cell? ⟨b, off + m1 * 3 + 1, none⟩ = some (.int .i64 a1) ∧ w'.cell? ⟨b, off + m1 * 3 + 2, none⟩ = some (.slice ay1 l1 cy1) ∧ w'.cell? ⟨b, off + m2 * 3, none⟩ = some (.bool f2) ∧ w'.cell? ⟨b, off + m2 * 3 + 1, none⟩ = some (.int .i64 a2) ∧ w'.cell? ⟨b, off + m2 * 3 + 2, none⟩ = some (.slice ay2 l2 cy2)) (first | exact ⟨p0, p1, p2, q0, q1, q2, r0, r1, r2⟩ | exact ⟨u0, u1, u2, u3, u4, u5, u6, u7, u8⟩)
              ((go_at_call 37; refine (HIc.out _).mono ?_; rintro e w7 ⟨rfl, hb7⟩; first | (have u0 := cell_later hb7 p0; have u1 := cell_later hb7 p1; have u2 := cell_later hb7 p2; have u3 := cell_later hb7 q0; have u4 := cell_later hb7 q1; have u5 := cell_later hb7 q2; have u6 := cell_later hb7 r0; have u7 := cell_later hb7 r1; have u8 := cell_later hb7 r2; have HR7 := hide ((HR.out.later (below_drewN wr 1)).later hb7); clear hb7) | (have u0 := cell_later hb7 (cell_later (below_drewN _ 1) p0); have u1 := cell_later hb7 (cell_later (below_drewN _ 1) p1); have u2 := cell_later hb7 (cell_later (below_drewN _ 1) p2); have u3 := cell_later hb7 (cell_later (below_drewN _ 1) q0); have u4 := cell_later hb7 (cell_later (below_drewN _ 1) q1); have u5 := cell_later hb7 (cell_later (below_drewN _ 1) q2); have u6 := cell_later hb7 (cell_later (below_drewN _ 1) r0); have u7 := cell_later hb7 (cell_later (below_drewN _ 1) r1); have u8 := cell_later hb7 (cell_later (below_drewN _ 1) r2); have HR7 := hide ((HR.out.later (below_drewN wr 1)).later hb7); clear hb7)))
            obtain ⟨rfl, rfl⟩ := HNo.out h120 (by first | trivial | rfl) (fun h => by have h2 := HO.out.1 h; have := of_decide_eq_false HB.out; exact this h2.2)
            obtain ⟨HBz, ⟨z0, z1⟩, hfz⟩ := HR7.out
            have y0 := hfz 0
            have y1 := hfz 1
            have HBy := hide HBz
            clear hfz HBz
            go_wp2
            refine bodyPost_ret (v := .agg #[.int .i64 4, .int .i64 0]) (by simp [results, Try.results14, go_sem, z0, z1]) rfl ⟨by first | rfl | (congr 2; go_num) | go_num, ?_⟩
            repeat (first | exact HBy.out | exact below_alloc _ _ | refine Below.setCell ?_ (by first | (simp; done) | (simp; omega) | omega) _)
          · skip
            go_wp2_with fail
            go_region_held3 (fun w' => w'.cell? ⟨b, off + m * 3, none⟩ = some (.bool f0) ∧ w'.cell? ⟨b, off + m * 3 + 1, none⟩ = some (.int .i64 a0) ∧ w'.cell? ⟨b, off + m * 3 + 2, none⟩ = some (.slice ay0 l0 cy0) ∧ w'.cell? ⟨b, off + m1 * 3, none⟩ = some (.bool f1) ∧ w'.cell? ⟨b, off + m1 * 3 + 1, none⟩ = some (.int .i64 a1) ∧ w'.cell? ⟨b, off + m1 * 3 + 2, none⟩ = some (.slice ay1 l1 cy1) ∧ w'.cell? ⟨b, off + m2 * 3, none⟩ = some (.bool f2) ∧ w'.cell? ⟨b, off + m2 * 3 + 1, none⟩ = some (.int .i64 a2) ∧ w'.cell? ⟨b, off + m2 * 3 + 2, none⟩ = some (.slice ay2 l2 cy2)) (first | exact ⟨p0, p1, p2, q0, q1, q2, r0, r1, r2⟩ | exact ⟨u0, u1, u2, u3, u4, u5, u6, u7, u8⟩)
              ((go_at_call 37; refine (HIc.out _).mono ?_; rintro e w7 ⟨rfl, hb7⟩; first | (have u0 := cell_later hb7 p0; have u1 := cell_later hb7 p1; have u2 := cell_later hb7 p2; have u3 := cell_later hb7 q0; have u4 := cell_later hb7 q1; have u5 := cell_later hb7 q2; have u6 := cell_later hb7 r0; have u7 := cell_later hb7 r1; have u8 := cell_later hb7 r2; have HR7 := hide ((HR.out.later (below_drewN wr 1)).later hb7); clear hb7) | (have u0 := cell_later hb7 (cell_later (below_drewN _ 1) p0); have u1 := cell_later hb7 (cell_later (below_drewN _ 1) p1); have u2 := cell_later hb7 (cell_later (below_drewN _ 1) p2); have u3 := cell_later hb7 (cell_later (below_drewN _ 1) q0); have u4 := cell_later hb7 (cell_later (below_drewN _ 1) q1); have u5 := cell_later hb7 (cell_later (below_drewN _ 1) q2); have u6 := cell_later hb7 (cell_later (below_drewN _ 1) r0); have u7 := cell_later hb7 (cell_later (below_drewN _ 1) r1); have u8 := cell_later hb7 (cell_later (below_drewN _ 1) r2); have HR7 := hide ((HR.out.later (below_drewN wr 1)).later hb7); clear hb7)))
            obtain ⟨rfl, rfl⟩ := HOk.out h120 (by first | trivial | rfl) (HO.out.2 ⟨HT.out, of_decide_eq_true HB.out⟩)
            obtain ⟨HBz, ⟨z0, z1⟩, hfz⟩ := HR7.out
            have y0 := hfz 0
            have y1 := hfz 1
            have HBy := hide HBz
            clear hfz HBz
            go_wp2
            refine bodyPost_ret (v := .agg #[.int .i64 0, .int .i64 (m2 : Int)]) (by simp [results, Try.results14, go_sem, z0, z1]) rfl ⟨by first | rfl | (congr 2; go_num) | go_num, ?_⟩
            repeat (first | exact HBy.out | exact below_alloc _ _ | refine Below.setCell ?_ (by first | (simp; done) | (simp; omega) | omega) _)
        · have hlo : (k : Int) < 3 := by omega
          obtain ⟨rfl, rfl⟩ := HNo.out h120 (by first | trivial | rfl) (fun h => h3 (HO.out.1 h).1)
          have w1 : IntKind.i64.wrap ((k : Int) - 1) = (k : Int) - 1 := by simp [IntKind.wrap, IntKind.bits, IntKind.signed]; omega
          have hlo2 : (k : Int) - 1 < 2 := by omega
          have hlo3 : decide ((k : Int) < 3) = true := decide_eq_true hlo
          have hlo4 : decide ((k : Int) - 1 < 2) = true := decide_eq_true hlo2
          go_wp2_with fail
          go_quiet (fail)
          have HR7 := hide (HR.out.later (below_drewN _ nq))
          obtain ⟨HBz, ⟨z0, z1⟩, hfz⟩ := HR7.out
          have y0 := hfz 0
          have y1 := hfz 1
          have HBy := hide HBz
          clear hfz HBz
          go_wp2
          refine bodyPost_ret (v := .agg #[.int .i64 4, .int .i64 0]) (by simp [results, Try.results14, go_sem, z0, z1]) rfl ⟨by first | rfl | (congr 2; go_num) | go_num, ?_⟩
          repeat (first | exact HBy.out | exact below_alloc _ _ | refine Below.setCell ?_ (by first | (simp; done) | (simp; omega) | omega) _)

end Go.Proofs.Ytigmichjpaeedaa
