/- Ap2 in one text: what each says stands at its head below. -/
import Derived.Test.YtlliggfggadidaaGreatDoorG17
import Derived.Test.YtlliggfggadidaaGreatDoorG11
import Derived.Test.YtlliggfggadidaaGreatDoorG05
import Derived.Test.YtlliggfggadidaaGreatDoorG12
import Derived.Test.YtlliggfggadidaaGreatDoorG07
namespace Go.Proofs.YtlliggfggadidaaGreatDoor
open Go.RowKit
theorem mtE_at : ∀ (k : Nat) (qs ls : List Oj), (∀ j, j < k → j < qs.length ∧ j < ls.length ∧ (qs.getD j oj0).2.1 = (ls.getD j oj0).2.1) → (k < qs.length → k < ls.length → (qs.getD k oj0).2.1 ≠ (ls.getD k oj0).2.1) → mtE qs ls = k
  | 0, qs, ls, _, h2 => by
    cases qs with
    | nil => simp [mtE]
    | cons a xs => cases ls with
      | nil => simp [mtE]
      | cons b us => rw [mtE, if_neg (by simpa using h2 (by simp) (by simp))]
  | k + 1, qs, ls, h1, h2 => by
    obtain ⟨g1, g2, g3⟩ := h1 0 (by omega)
    cases qs with
    | nil => simp at g1
    | cons a xs => cases ls with
      | nil => simp at g2
      | cons b us =>
        rw [mtE, if_pos (by simpa using g3)]
        congr 1
        exact mtE_at k xs us (fun j hj => by have := h1 (j + 1) (by omega); simpa using this) (fun e1 e2 => by have := h2 (by simp; omega) (by simp; omega); simpa using this)
def jnL (ps : List Oj) (p : Nat) (ls : List Oj) : List Oj := if mtE (ps.drop p) ls = ls.length then ps else ps.take (p + mtE (ps.drop p) ls) ++ ls.drop (mtE (ps.drop p) ls)
theorem drop_at (ps : List Oj) (p j : Nat) : (ps.drop p).getD j oj0 = ps.getD (p + j) oj0 := by simp [List.getD, List.getElem?_drop]
theorem jn_all {ps : List Oj} {p : Nat} {ls : List Oj} (h : ∀ j, j < ls.length → p + j < ps.length ∧ (ps.getD (p + j) oj0).2.1 = (ls.getD j oj0).2.1) : jnL ps p ls = ps := by
  unfold jnL
  rw [if_pos (mtE_at ls.length _ _ (fun j hj => ⟨by have := (h j hj).1; simp; omega, hj, by rw [drop_at]; exact (h j hj).2⟩) (fun _ h2 => absurd h2 (Nat.lt_irrefl _)))]
theorem jn_cut {ps : List Oj} {p : Nat} {ls : List Oj} (k : Nat) (hk : k < ls.length) (h : ∀ j, j < k → p + j < ps.length ∧ (ps.getD (p + j) oj0).2.1 = (ls.getD j oj0).2.1) (h2 : p + k < ps.length → (ps.getD (p + k) oj0).2.1 ≠ (ls.getD k oj0).2.1) : jnL ps p ls = ps.take (p + k) ++ ls.drop k := by
  have e : mtE (ps.drop p) ls = k := mtE_at k _ _ (fun j hj => ⟨by have := (h j hj).1; simp; omega, by omega, by rw [drop_at]; exact (h j hj).2⟩) (fun e1 _ => by rw [drop_at]; exact h2 (by simp at e1; omega))
  unfold jnL
  rw [e, if_neg (by omega)]
theorem aheadE (f i : Int) (ao : Option Addr) (n c k : Nat) (hk : i - f = (k : Int)) (hkn : k ≤ c) (hn : k ≤ 1000) (w : World) :
    Calls Tryz.prog 120 #[.agg #[.int .i64 f, .slice ao n c], .int .i64 i] w fun e w' => e = .returned (.slice ao k c) ∧ Below w.heap.size w w' := by
  have e1 : IntKind.i64.wrap (i - f) = (k : Int) := by rw [hk]; simp [IntKind.wrap, IntKind.bits, IntKind.signed]; omega
  have hk0 : (0 : Int) ≤ (k : Int) := by omega
  have hk1 : (k : Int) ≤ (c : Int) := by omega
  go_enter Tryz.func120, Tryz.ntmps120
  go_wp2
  go_ret
  exact ⟨by simp, below_alloc _ _⟩
set_option linter.unusedSimpArgs false in
set_option maxHeartbeats 8000000 in
set_option maxRecDepth 4000 in
theorem joinedI {Mm : Nat} {w : World} {ao : Option Addr} {n c : Nat} {v : Value} {ps ls : List Oj} (f : Int) (p : Nat) (hg : Gl w) (hM : Mm ≤ w.heap.size) (hz : RdJ (fun b => b < Mm) w (.slice ao n c) ps) (hn : ps.length = n) (hnc : n ≤ c) (hv : RdJ (fun b => b < Mm) w v ls) (hcv : capE v) (hf0 : 0 ≤ f) (hf1 : f ≤ 10000) (hn14 : n ≤ 14) (hl14 : ls.length ≤ 14) (hp : p ≤ n) (hix : ∀ j, j < ls.length → (ls.getD j oj0).1 = f + p + j) :
    Calls Tryz.prog 102 #[.agg #[.int .i64 f, .slice ao n c], v] w fun e w' => ∃ u, e = .returned u ∧ Below w.heap.size w w' ∧ RdJ (fun b => b < Mm ∨ w.heap.size ≤ b) w' u (jnL ps p ls) := by
  obtain ⟨av, cv, rfl, _⟩ := hv.shape
  have hcv2 : ls.length ≤ cv := hcv
  clear hcv
  have HG := hide hg
  have HZ := hide hz
  have HN := hide hn
  have HV := hide hv
  have HIx := hide hix
  obtain ⟨q, hq⟩ : ∃ q, ls.length = q := ⟨_, rfl⟩
  rw [hq] at HV HIx hcv2 hl14 ⊢
  have HQ := hide hq
  clear hg hz hn hv hix hq
  have BA := hide (below_alloc w (.cells #[.int .i64 f, .slice ao n c] 131))
  have LA := hide (Var2_new w (.int .i64 f) (.slice ao n c) 131)
  go_enter Tryz.func102, Tryz.ntmps102
  go_wp2
  go_loopw [11] (fun i wr => ∃ k : Nat, k ≤ q ∧ i = .int .i64 k ∧ Hid (∀ j, j < k → p + j < n ∧ (ps.getD (p + j) oj0).2.1 = (ls.getD j oj0).2.1) ∧ Hid (Below w.heap.size w wr) ∧ Hid (Var2 wr w.heap.size (.int .i64 f) (.slice ao n c))) (fun i _ => q - (RowKit.intOf i).toNat)
  case atStart => exact ⟨0, Nat.zero_le _, rfl, fun j hj => absurd hj (Nat.not_lt_zero _), BA.out, LA.out⟩
  case round =>
    obtain ⟨k, hk, rfl, HM, HB, LB⟩ := hrel
    clear BA LA
    by_cases hlt : k < q
    · skip
      obtain ⟨b, off, rfl, y, q0, q1, q2, q3⟩ := HV.out.file (k := k) (by rw [HQ.out]; exact hlt)
      obtain ⟨ay, cy, rfl⟩ := q3.shape
      have g0 := cell_later HB.out q0
      have g1 := cell_later HB.out q1
      have g2 := cell_later HB.out q2
      have hix := HIx.out k hlt
      rw [hix] at g0
      obtain ⟨a, ha⟩ : ∃ a, f + (p : Int) + (k : Int) = a := ⟨_, rfl⟩
      rw [ha] at g0
      obtain ⟨t, ht⟩ : ∃ t, (ls.getD k oj0).2.1 = t := ⟨_, rfl⟩
      rw [ht] at g1
      have HTk := hide ht
      obtain ⟨l, hl⟩ : ∃ l, (ls.getD k oj0).2.2.length = l := ⟨_, rfl⟩
      rw [hl] at g2
      clear q0 q1 q2 q3 hix ht hl
      have hk0 : (0 : Int) ≤ (k : Int) := by omega
      have hk1 : (k : Int) < (q : Int) := by omega
      have hk2 : (k : Int) ≤ (q : Int) := by omega
      have hpk : p + k ≤ n := by
        rcases Nat.eq_zero_or_pos k with h | h
        · omega
        · have := (HM.out (k - 1) (by omega)).1
          omega
      have hbe := below_alloc wr (.cells #[.int .i64 a, .int .i64 t, .slice ay l cy] 58)
      have BC := hide (below_on HB.out hbe)
      have LC := hide (LB.out.later hbe)
      have EC := hide (Var3_new wr (.int .i64 a) (.int .i64 t) (.slice ay l cy) 58)
      obtain ⟨W1, hW1⟩ : ∃ x, wr.alloc (.cells #[.int .i64 a, .int .i64 t, .slice ay l cy] 58) = x := ⟨_, rfl⟩
      rw [hW1] at BC LC EC
      clear hbe
      by_cases hin : p + k < n
      · skip
        have HAt := hide (atInE f a (p + k) (HZ.out.later BC.out) HN.out hf0 hf1 (by omega) (by push_cast; omega) hin)
        obtain ⟨xt, hxt⟩ : ∃ x, (ps.getD (p + k) oj0).2.1 = x := ⟨_, rfl⟩
        obtain ⟨xi, hxi⟩ : ∃ x, (ps.getD (p + k) oj0).1 = x := ⟨_, rfl⟩
        rw [hxt, hxi] at HAt
        have HXt := hide hxt
        clear hxt hxi
        obtain ⟨l0, l1⟩ := LC.out
        obtain ⟨e0, e1, e2⟩ := EC.out
        go_wp2_with fail
        (try rw [hW1])
        clear hW1 g0 g1 g2
        refine HAt.out.mono ?_
        rintro e w3 ⟨x3, m3, d3, rfl, hb⟩
        have hbe := below_on hb (below_alloc w3 (.cells #[.int .i64 xi, .int .i64 xt, .slice x3 m3 d3] 58))
        have BD := hide (below_on BC.out hbe)
        have LD := hide (LC.out.later hbe)
        have ED := hide (EC.out.later hbe)
        have TD := hide (Var3_new w3 (.int .i64 xi) (.int .i64 xt) (.slice x3 m3 d3) 58)
        obtain ⟨w4, hw4⟩ : ∃ x, w3.alloc (.cells #[.int .i64 xi, .int .i64 xt, .slice x3 m3 d3] 58) = x := ⟨_, rfl⟩
        rw [hw4] at BD LD ED TD
        clear hb hbe l0 l1 e0 e1 e2 LC EC
        have hne := run_neq_nil_nilR (P := Tryz.prog) w4 Tryz.underlying72
        obtain ⟨t0, t1, t2⟩ := TD.out
        obtain ⟨e0, e1, e2⟩ := ED.out
        by_cases hte : xt = t
        · subst hte
          have HM2 : Hid (∀ j, j < k + 1 → p + j < n ∧ (ps.getD (p + j) oj0).2.1 = (ls.getD j oj0).2.1) := fun j hj => by
            by_cases hjk : j = k
            · subst hjk; exact ⟨hin, by rw [HXt.out, HTk.out]⟩
            · exact HM.out j (by omega)
          go_wp2
          (try rw [hw4])
          go_roundw
          case rel => exact ⟨k + 1, hlt, by go_num, HM2.out, BD.out, LD.out⟩
          case measure => simp [RowKit.intOf]; omega
        · have hte1 : (xt == t) = false := by simpa using hte
          have hte2 : (xt != t) = true := by simp [hte]
          (try rw [hw4])
          have HAh := hide (aheadE f a ao n c (p + k) (by push_cast; omega) (by omega) (by omega))
          have HRa := hide (HZ.out.uptoE (p + k) (by omega))
          have HRf := hide (HV.out.fromE k (by omega) hcv2)
          have HJ := hide (jn_cut (ps := ps) (ls := ls) (p := p) k (by rw [HQ.out]; exact hlt) (by rw [HN.out]; exact HM.out) (fun _ => by rw [HXt.out, HTk.out]; exact hte))
          have HLen : Hid ((ps.take (p + k)).length + (ls.drop k).length ≤ 60) := by have h1 := HN.out; have h2 := HQ.out; show (ps.take (p + k)).length + (ls.drop k).length ≤ 60; simp; omega
          by_cases hck : cv = k
          · exfalso; omega
          · have hA2 : slE (some (⟨b, off, none⟩ : Addr)) cv k = some ⟨b, off + k * 3, none⟩ := by simp [slE, hck, Addr.add_lit]
            rw [hA2] at HRf
            clear hA2
            obtain ⟨l0, l1⟩ := LD.out
            obtain ⟨e0, e1, e2⟩ := ED.out
            go_upto_region 6 with fail
            (try rw [HW4.out])
            refine wp_region_held_drew (S := fun w' => w'.cell? ⟨w.heap.size, 0, none⟩ = some (.int .i64 f) ∧ w'.cell? ⟨w.heap.size, 1, none⟩ = some (.slice ao n c) ∧ w'.cell? ⟨wr.heap.size, 0, none⟩ = some (.int .i64 a) ∧ w'.cell? ⟨wr.heap.size, 1, none⟩ = some (.int .i64 t) ∧ w'.cell? ⟨wr.heap.size, 2, none⟩ = some (.slice ay l cy)) (by kernel_rfl) ⟨l0, l1, e0, e1, e2⟩ (fun hHeld0 => ?_)
            refine forgetH (fun wx => (wx.cell? ⟨w.heap.size, 0, none⟩ = some (.int .i64 f) ∧ wx.cell? ⟨w.heap.size, 1, none⟩ = some (.slice ao n c) ∧ wx.cell? ⟨wr.heap.size, 0, none⟩ = some (.int .i64 a) ∧ wx.cell? ⟨wr.heap.size, 1, none⟩ = some (.int .i64 t) ∧ wx.cell? ⟨wr.heap.size, 2, none⟩ = some (.slice ay l cy)) ∧ Below w4.heap.size w4 wx) ⟨hHeld0, below_drewN w4 1⟩ ?_
            clear hHeld0
            rintro v0w ⟨hHeld, hbx⟩
            have HB0 := hide hbx
            clear hbx l0 l1 e0 e1 e2
            obtain ⟨P0_l0, P0_l1, P0_e0, P0_e1, P0_e2⟩ := id hHeld
            refine wpAnyH_take (i := 0) (v := ?v6n1x0) rfl (by kernel_rfl) (by kernel_rfl) (by kernel_rfl) (fun _ _ _ h => h) (Or.inl ⟨by rfl, ?h6n1x0⟩) hHeld ?r6n1x0
            case h6n1x0 => intro w9 hSw; (try dsimp only at hSw); first | (go_simp; done) | (go_simp; with_reducible rfl)
            try simp only [Act.put, List.setIfInBounds_toArray, List.set_cons_zero, List.set_cons_succ, List.getElem_toArray, List.getElem_cons_zero, List.getElem_cons_succ]
            refine wpAnyH_take (i := 1) (v := ?v6n1x1) rfl (by kernel_rfl) (by kernel_rfl) (by kernel_rfl) (fun _ _ _ h => h) (Or.inl ⟨by rfl, ?h6n1x1⟩) hHeld ?r6n1x1
            case h6n1x1 => intro w9 hSw; (try dsimp only at hSw); first | (go_simp; done) | (go_simp; with_reducible rfl)
            try simp only [Act.put, List.setIfInBounds_toArray, List.set_cons_zero, List.set_cons_succ, List.getElem_toArray, List.getElem_cons_zero, List.getElem_cons_succ]
            refine wpAnyH_take (i := 2) (v := ?v6n1x2) rfl (by kernel_rfl) (by kernel_rfl) (by kernel_rfl) (fun _ _ _ h => h) (Or.inl ⟨by rfl, ?h6n1x2⟩) hHeld ?r6n1x2
            case h6n1x2 => intro w9 hSw; (try dsimp only at hSw); first | (go_simp; done) | (go_simp; with_reducible rfl)
            try simp only [Act.put, List.setIfInBounds_toArray, List.set_cons_zero, List.set_cons_succ, List.getElem_toArray, List.getElem_cons_zero, List.getElem_cons_succ]
            refine wpAnyH_take (i := 4) (v := ?v6n1x4) rfl (by kernel_rfl) (by kernel_rfl) (by kernel_rfl) (fun _ _ _ h => h) (Or.inl ⟨by rfl, ?h6n1x4⟩) hHeld ?r6n1x4
            case h6n1x4 => intro w9 hSw; (try dsimp only at hSw); first | (go_simp; done) | (go_simp; with_reducible rfl)
            try simp only [Act.put, List.setIfInBounds_toArray, List.set_cons_zero, List.set_cons_succ, List.getElem_toArray, List.getElem_cons_zero, List.getElem_cons_succ]
            refine wpAnyH_take (i := 5) (v := ?v6n1x5) rfl (by kernel_rfl) (by kernel_rfl) (by kernel_rfl) (fun _ _ _ h => h) (Or.inl ⟨by rfl, ?h6n1x5⟩) hHeld ?r6n1x5
            case h6n1x5 => intro w9 hSw; (try dsimp only at hSw); first | (go_simp; done) | (go_simp; with_reducible rfl)
            try simp only [Act.put, List.setIfInBounds_toArray, List.set_cons_zero, List.set_cons_succ, List.getElem_toArray, List.getElem_cons_zero, List.getElem_cons_succ]
            refine wpAnyH_take (i := 6) (v := ?v6n1x6) rfl (by kernel_rfl) (by kernel_rfl) (by kernel_rfl) (fun _ _ _ h => h) (Or.inl ⟨by rfl, ?h6n1x6⟩) hHeld ?r6n1x6
            case h6n1x6 => intro w9 hSw; (try dsimp only at hSw); first | (go_simp; done) | (go_simp; with_reducible rfl)
            try simp only [Act.put, List.setIfInBounds_toArray, List.set_cons_zero, List.set_cons_succ, List.getElem_toArray, List.getElem_cons_zero, List.getElem_cons_succ]
            refine wpAnyH_ready (rs := [3]) (by kernel_rfl) (by simp) (AllReadyH.cons rfl (fun K hK => ?_) (AllReadyH.nil))
            go_simp
            go_at_call 120
            refine (HAh.out _).mono ?_
            rintro e v1w ⟨rfl, hb⟩
            have P1_l0 := cell_later hb P0_l0
            have P1_l1 := cell_later hb P0_l1
            have P1_e0 := cell_later hb P0_e0
            have P1_e1 := cell_later hb P0_e1
            have P1_e2 := cell_later hb P0_e2
            have HB1 := hide (below_on HB0.out hb)
            clear hb
            refine hK.out _ _ ⟨P1_l0, P1_l1, P1_e0, P1_e1, P1_e2⟩ (fun _ => ?_)
            clear hK K P0_l0 P0_l1 P0_e0 P0_e1 P0_e2
            try simp only [Act.put, List.setIfInBounds_toArray, List.set_cons_zero, List.set_cons_succ, List.getElem_toArray, List.getElem_cons_zero, List.getElem_cons_succ]
            refine wpAnyH_ready (rs := [7]) (by kernel_rfl) (by simp) (AllReadyH.cons rfl (fun K hK => ?_) (AllReadyH.nil))
            go_simp
            have hb := below_alloc v1w (.cells #[.slice ao (p + k) c, .slice (some ⟨b, off + k * 3, none⟩) (q - k) (cv - k)] 25)
            have P2_l0 := cell_later hb P1_l0
            have P2_l1 := cell_later hb P1_l1
            have P2_e0 := cell_later hb P1_e0
            have P2_e1 := cell_later hb P1_e1
            have P2_e2 := cell_later hb P1_e2
            refine hK.out _ _ ⟨P2_l0, P2_l1, P2_e0, P2_e1, P2_e2⟩ (fun _ => ?_)
            clear hK K P1_l0 P1_l1 P1_e0 P1_e1 P1_e2
            try simp only [Act.put, List.setIfInBounds_toArray, List.set_cons_zero, List.set_cons_succ, List.getElem_toArray, List.getElem_cons_zero, List.getElem_cons_succ]
            have HB2 := hide (below_on HB1.out hb)
            have HCc := hide (concatE (B := v1w.heap.size) ((HRa.out.later (below_on BD.out HB2.out))) ((HRf.out.later (below_on BD.out HB2.out))) (Nat.le_trans hM (below_on BD.out HB2.out).size) (by simp [go_sem]) (by simp [go_sem]) HLen.out)
            clear hb
            refine wpAnyH_ready (rs := [8]) (by kernel_rfl) (by simp) (AllReadyH.cons rfl (fun K hK => ?_) (AllReadyH.nil))
            go_simp
            go_at_call 119
            refine HCc.out.mono ?_
            rintro e v3w ⟨zr, rfl, hb, hrd⟩
            have P3_l0 := cell_later hb P2_l0
            have P3_l1 := cell_later hb P2_l1
            have P3_e0 := cell_later hb P2_e0
            have P3_e1 := cell_later hb P2_e1
            have P3_e2 := cell_later hb P2_e2
            have HBz := hide (below_on (below_on BD.out HB2.out) hb)
            have HRz := hide hrd
            clear hb hrd HCc
            refine hK.out _ _ ⟨P3_l0, P3_l1, P3_e0, P3_e1, P3_e2⟩ (fun _ => ?_)
            clear hK K P2_l0 P2_l1 P2_e0 P2_e1 P2_e2
            try simp only [Act.put, List.setIfInBounds_toArray, List.set_cons_zero, List.set_cons_succ, List.getElem_toArray, List.getElem_cons_zero, List.getElem_cons_succ]
            refine wpAnyH_take (i := 9) (v := ?v6n1x9) rfl (by kernel_rfl) (by kernel_rfl) (by kernel_rfl) (fun _ _ _ h => h) (Or.inl ⟨by rfl, ?h6n1x9⟩) ⟨P3_l0, P3_l1, P3_e0, P3_e1, P3_e2⟩ ?r6n1x9
            case h6n1x9 => intro w9 hSw; (try dsimp only at hSw); first | (go_simp; done) | (go_simp; with_reducible rfl)
            try simp only [Act.put, List.setIfInBounds_toArray, List.set_cons_zero, List.set_cons_succ, List.getElem_toArray, List.getElem_cons_zero, List.getElem_cons_succ]
            refine wpAnyH_done (by kernel_rfl) ?_ _
            clear P3_l0 P3_l1 P3_e0 P3_e1 P3_e2
            go_wp2
            go_ret
            exact ⟨_, rfl, HBz.out, by rw [HJ.out]; exact RdJ_mono HRz.out (fun b hb => hb.imp id (fun h => Nat.le_trans (below_on BD.out HB2.out).size h))⟩
      · obtain ⟨⟨pa, hpa⟩, _⟩ := HG.out.later BC.out
        have HAt := hide (atHiE f a ao n c hf0 hf1 (by omega) (by omega) W1 pa hpa)
        clear hpa
        obtain ⟨l0, l1⟩ := LC.out
        obtain ⟨e0, e1, e2⟩ := EC.out
        go_wp2_with fail
        (try rw [hW1])
        clear hW1 g0 g1 g2
        refine HAt.out.mono ?_
        rintro e w3 ⟨rfl, hb⟩
        have hbe := below_on hb (below_alloc w3 (.cells #[.int .i64 0, .int .i64 0, .slice none 0 0] 58))
        have BD := hide (below_on BC.out hbe)
        have LD := hide (LC.out.later hbe)
        have ED := hide (EC.out.later hbe)
        have TD := hide (Var3_new w3 (.int .i64 0) (.int .i64 0) (.slice none 0 0) 58)
        obtain ⟨w4, hw4⟩ : ∃ x, w3.alloc (.cells #[.int .i64 0, .int .i64 0, .slice none 0 0] 58) = x := ⟨_, rfl⟩
        rw [hw4] at BD LD ED TD
        clear hb hbe l0 l1 e0 e1 e2 LC EC
        have hne := run_neq_iface_nilR (P := Tryz.prog) w4 191 (.pointer (some pa)) Tryz.underlying72
        rw [← hw4] at hne
        have HW4 := hide hw4
        clear hw4
        have HAh := hide (aheadE f a ao n c (p + k) (by push_cast; omega) (by omega) (by omega))
        have HRa := hide (HZ.out.uptoE (p + k) (by omega))
        have HRf := hide (HV.out.fromE k (by omega) hcv2)
        have HJ := hide (jn_cut (ps := ps) (ls := ls) (p := p) k (by rw [HQ.out]; exact hlt) (by rw [HN.out]; exact HM.out) (fun h => absurd h (by rw [HN.out]; exact hin)))
        have HLen : Hid ((ps.take (p + k)).length + (ls.drop k).length ≤ 60) := by have h1 := HN.out; have h2 := HQ.out; show (ps.take (p + k)).length + (ls.drop k).length ≤ 60; simp; omega
        by_cases hck : cv = k
        · exfalso; omega
        · have hA2 : slE (some (⟨b, off, none⟩ : Addr)) cv k = some ⟨b, off + k * 3, none⟩ := by simp [slE, hck, Addr.add_lit]
          rw [hA2] at HRf
          clear hA2
          obtain ⟨l0, l1⟩ := LD.out
          obtain ⟨e0, e1, e2⟩ := ED.out
          go_upto_region 6 with fail
          (try rw [HW4.out])
          refine wp_region_held_drew (S := fun w' => w'.cell? ⟨w.heap.size, 0, none⟩ = some (.int .i64 f) ∧ w'.cell? ⟨w.heap.size, 1, none⟩ = some (.slice ao n c) ∧ w'.cell? ⟨wr.heap.size, 0, none⟩ = some (.int .i64 a) ∧ w'.cell? ⟨wr.heap.size, 1, none⟩ = some (.int .i64 t) ∧ w'.cell? ⟨wr.heap.size, 2, none⟩ = some (.slice ay l cy)) (by kernel_rfl) ⟨l0, l1, e0, e1, e2⟩ (fun hHeld0 => ?_)
          refine forgetH (fun wx => (wx.cell? ⟨w.heap.size, 0, none⟩ = some (.int .i64 f) ∧ wx.cell? ⟨w.heap.size, 1, none⟩ = some (.slice ao n c) ∧ wx.cell? ⟨wr.heap.size, 0, none⟩ = some (.int .i64 a) ∧ wx.cell? ⟨wr.heap.size, 1, none⟩ = some (.int .i64 t) ∧ wx.cell? ⟨wr.heap.size, 2, none⟩ = some (.slice ay l cy)) ∧ Below w4.heap.size w4 wx) ⟨hHeld0, below_drewN w4 1⟩ ?_
          clear hHeld0
          rintro v0w ⟨hHeld, hbx⟩
          have HB0 := hide hbx
          clear hbx l0 l1 e0 e1 e2
          obtain ⟨P0_l0, P0_l1, P0_e0, P0_e1, P0_e2⟩ := id hHeld
          refine wpAnyH_take (i := 0) (v := ?v6n2x0) rfl (by kernel_rfl) (by kernel_rfl) (by kernel_rfl) (fun _ _ _ h => h) (Or.inl ⟨by rfl, ?h6n2x0⟩) hHeld ?r6n2x0
          case h6n2x0 => intro w9 hSw; (try dsimp only at hSw); first | (go_simp; done) | (go_simp; with_reducible rfl)
          try simp only [Act.put, List.setIfInBounds_toArray, List.set_cons_zero, List.set_cons_succ, List.getElem_toArray, List.getElem_cons_zero, List.getElem_cons_succ]
          refine wpAnyH_take (i := 1) (v := ?v6n2x1) rfl (by kernel_rfl) (by kernel_rfl) (by kernel_rfl) (fun _ _ _ h => h) (Or.inl ⟨by rfl, ?h6n2x1⟩) hHeld ?r6n2x1
          case h6n2x1 => intro w9 hSw; (try dsimp only at hSw); first | (go_simp; done) | (go_simp; with_reducible rfl)
          try simp only [Act.put, List.setIfInBounds_toArray, List.set_cons_zero, List.set_cons_succ, List.getElem_toArray, List.getElem_cons_zero, List.getElem_cons_succ]
          refine wpAnyH_take (i := 2) (v := ?v6n2x2) rfl (by kernel_rfl) (by kernel_rfl) (by kernel_rfl) (fun _ _ _ h => h) (Or.inl ⟨by rfl, ?h6n2x2⟩) hHeld ?r6n2x2
          case h6n2x2 => intro w9 hSw; (try dsimp only at hSw); first | (go_simp; done) | (go_simp; with_reducible rfl)
          try simp only [Act.put, List.setIfInBounds_toArray, List.set_cons_zero, List.set_cons_succ, List.getElem_toArray, List.getElem_cons_zero, List.getElem_cons_succ]
          refine wpAnyH_take (i := 4) (v := ?v6n2x4) rfl (by kernel_rfl) (by kernel_rfl) (by kernel_rfl) (fun _ _ _ h => h) (Or.inl ⟨by rfl, ?h6n2x4⟩) hHeld ?r6n2x4
          case h6n2x4 => intro w9 hSw; (try dsimp only at hSw); first | (go_simp; done) | (go_simp; with_reducible rfl)
          try simp only [Act.put, List.setIfInBounds_toArray, List.set_cons_zero, List.set_cons_succ, List.getElem_toArray, List.getElem_cons_zero, List.getElem_cons_succ]
          refine wpAnyH_take (i := 5) (v := ?v6n2x5) rfl (by kernel_rfl) (by kernel_rfl) (by kernel_rfl) (fun _ _ _ h => h) (Or.inl ⟨by rfl, ?h6n2x5⟩) hHeld ?r6n2x5
          case h6n2x5 => intro w9 hSw; (try dsimp only at hSw); first | (go_simp; done) | (go_simp; with_reducible rfl)
          try simp only [Act.put, List.setIfInBounds_toArray, List.set_cons_zero, List.set_cons_succ, List.getElem_toArray, List.getElem_cons_zero, List.getElem_cons_succ]
          refine wpAnyH_take (i := 6) (v := ?v6n2x6) rfl (by kernel_rfl) (by kernel_rfl) (by kernel_rfl) (fun _ _ _ h => h) (Or.inl ⟨by rfl, ?h6n2x6⟩) hHeld ?r6n2x6
          case h6n2x6 => intro w9 hSw; (try dsimp only at hSw); first | (go_simp; done) | (go_simp; with_reducible rfl)
          try simp only [Act.put, List.setIfInBounds_toArray, List.set_cons_zero, List.set_cons_succ, List.getElem_toArray, List.getElem_cons_zero, List.getElem_cons_succ]
          refine wpAnyH_ready (rs := [3]) (by kernel_rfl) (by simp) (AllReadyH.cons rfl (fun K hK => ?_) (AllReadyH.nil))
          go_simp
          go_at_call 120
          refine (HAh.out _).mono ?_
          rintro e v1w ⟨rfl, hb⟩
          have P1_l0 := cell_later hb P0_l0
          have P1_l1 := cell_later hb P0_l1
          have P1_e0 := cell_later hb P0_e0
          have P1_e1 := cell_later hb P0_e1
          have P1_e2 := cell_later hb P0_e2
          have HB1 := hide (below_on HB0.out hb)
          clear hb
          refine hK.out _ _ ⟨P1_l0, P1_l1, P1_e0, P1_e1, P1_e2⟩ (fun _ => ?_)
          clear hK K P0_l0 P0_l1 P0_e0 P0_e1 P0_e2
          try simp only [Act.put, List.setIfInBounds_toArray, List.set_cons_zero, List.set_cons_succ, List.getElem_toArray, List.getElem_cons_zero, List.getElem_cons_succ]
          refine wpAnyH_ready (rs := [7]) (by kernel_rfl) (by simp) (AllReadyH.cons rfl (fun K hK => ?_) (AllReadyH.nil))
          go_simp
          have hb := below_alloc v1w (.cells #[.slice ao (p + k) c, .slice (some ⟨b, off + k * 3, none⟩) (q - k) (cv - k)] 25)
          have P2_l0 := cell_later hb P1_l0
          have P2_l1 := cell_later hb P1_l1
          have P2_e0 := cell_later hb P1_e0
          have P2_e1 := cell_later hb P1_e1
          have P2_e2 := cell_later hb P1_e2
          refine hK.out _ _ ⟨P2_l0, P2_l1, P2_e0, P2_e1, P2_e2⟩ (fun _ => ?_)
          clear hK K P1_l0 P1_l1 P1_e0 P1_e1 P1_e2
          try simp only [Act.put, List.setIfInBounds_toArray, List.set_cons_zero, List.set_cons_succ, List.getElem_toArray, List.getElem_cons_zero, List.getElem_cons_succ]
          have HB2 := hide (below_on HB1.out hb)
          have HCc := hide (concatE (B := v1w.heap.size) ((HRa.out.later (below_on BD.out HB2.out))) ((HRf.out.later (below_on BD.out HB2.out))) (Nat.le_trans hM (below_on BD.out HB2.out).size) (by simp [go_sem]) (by simp [go_sem]) HLen.out)
          clear hb
          refine wpAnyH_ready (rs := [8]) (by kernel_rfl) (by simp) (AllReadyH.cons rfl (fun K hK => ?_) (AllReadyH.nil))
          go_simp
          go_at_call 119
          refine HCc.out.mono ?_
          rintro e v3w ⟨zr, rfl, hb, hrd⟩
          have P3_l0 := cell_later hb P2_l0
          have P3_l1 := cell_later hb P2_l1
          have P3_e0 := cell_later hb P2_e0
          have P3_e1 := cell_later hb P2_e1
          have P3_e2 := cell_later hb P2_e2
          have HBz := hide (below_on (below_on BD.out HB2.out) hb)
          have HRz := hide hrd
          clear hb hrd HCc
          refine hK.out _ _ ⟨P3_l0, P3_l1, P3_e0, P3_e1, P3_e2⟩ (fun _ => ?_)
          clear hK K P2_l0 P2_l1 P2_e0 P2_e1 P2_e2
          try simp only [Act.put, List.setIfInBounds_toArray, List.set_cons_zero, List.set_cons_succ, List.getElem_toArray, List.getElem_cons_zero, List.getElem_cons_succ]
          refine wpAnyH_take (i := 9) (v := ?v6n2x9) rfl (by kernel_rfl) (by kernel_rfl) (by kernel_rfl) (fun _ _ _ h => h) (Or.inl ⟨by rfl, ?h6n2x9⟩) ⟨P3_l0, P3_l1, P3_e0, P3_e1, P3_e2⟩ ?r6n2x9
          case h6n2x9 => intro w9 hSw; (try dsimp only at hSw); first | (go_simp; done) | (go_simp; with_reducible rfl)
          try simp only [Act.put, List.setIfInBounds_toArray, List.set_cons_zero, List.set_cons_succ, List.getElem_toArray, List.getElem_cons_zero, List.getElem_cons_succ]
          refine wpAnyH_done (by kernel_rfl) ?_ _
          clear P3_l0 P3_l1 P3_e0 P3_e1 P3_e2
          go_wp2
          go_ret
          exact ⟨_, rfl, HBz.out, by rw [HJ.out]; exact RdJ_mono HRz.out (fun b hb => hb.imp id (fun h => Nat.le_trans (below_on BD.out HB2.out).size h))⟩
    · have hkq : k = q := by omega
      subst hkq
      have HJ := hide (jn_all (ps := ps) (p := p) (ls := ls) (by rw [HQ.out, HN.out]; exact HM.out))
      obtain ⟨l0, l1⟩ := LB.out
      have HRz := hide (RdJ_mono (HZ.out.later HB.out) (T := fun b => b < Mm ∨ w.heap.size ≤ b) (fun b hb => Or.inl hb))
      go_wp2
      go_ret
      exact ⟨_, rfl, HB.out, by rw [HJ.out]; exact HRz.out⟩
end Go.Proofs.YtlliggfggadidaaGreatDoor
