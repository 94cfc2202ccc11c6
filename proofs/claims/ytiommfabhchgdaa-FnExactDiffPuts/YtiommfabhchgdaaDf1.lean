/- Chapter 11: 'changedBlocks' tells what differs: the iterator's contract. -/
import Derived.Test.YtiommfabhchgdaaDf0
import Derived.Test.YtiommfabhchgdaaSg2
import Derived.Test.YtiommfabhchgdaaSame
import Derived.Test.YtiommfabhchgdaaCopy
import Derived.Test.YtiommfabhchgdaaTear
import Derived.BigQuiet
namespace Go.Proofs.Ytiommfabhchgdaa
open Go.RowKit Go.Maps Go.Shelf
attribute [local go_sem] Oper.semAt_some

theorem yield_tb {e : Ending} {A B : Prop} (h : (e = .returned (.bool true) ∧ A) ∨ (e = .returned (.bool false) ∧ B)) : ∃ tb : Bool, e = .returned (.bool tb) ∧ ((tb = true ∧ A) ∨ (tb = false ∧ B)) := by
  rcases h with ⟨h1, h2⟩ | ⟨h1, h2⟩
  · exact ⟨true, h1, .inl ⟨rfl, h2⟩⟩
  · exact ⟨false, h1, .inr ⟨rfl, h2⟩⟩
theorem SeenS.empty {S : Nat → Prop} (w : World) : SeenS S (w.alloc (.map #[] 0)) w.heap.size 0 fun _ => [] :=
  ⟨_, World.ownsMap_made w Try.prog 2 asIs, fun a _ _ => ⟨.slice none 0 0, rfl, ⟨none, 0, rfl, Nat.zero_le _, fun h => absurd rfl h⟩⟩, fun a => ⟨fun h => absurd h (by simp [has_eq]), fun h => absurd rfl h.2.2⟩⟩

set_option maxRecDepth 100000 in
set_option maxHeartbeats 8000000 in
theorem diffSeq {S : Nat → Prop} {w : World} {Bv Bi : Nat} {u v : Value} {vs ps : List (Int × List Int)} (c1 : w.cell? ⟨Bv, 0, none⟩ = some u) (c2 : w.cell? ⟨Bi, 0, none⟩ = some v) (hu : RdP S w u vs) (hv : RdP S w v ps) (h1 : hpF 60 vs = 0) (h2 : hpF 60 ps = 0) (hS : ∀ b, S b → b < w.heap.size) (m : Nat) :
    SeqG m Try.prog 69 #[.pointer (some ⟨Bv, 0, none⟩), .pointer (some ⟨Bi, 0, none⟩)] S (dfL vs ps) w := fun l J Jx D0 W hW hD hJ hJx hJb hY h0 => by
  obtain ⟨au, cu, rfl, _⟩ := hu.shape
  obtain ⟨av, cv, rfl, _⟩ := hv.shape
  have u1 := cell_later hW c1
  have u2 := cell_later hW c2
  have H1 := hide (hpF_all h1)
  have H2 := hide (hpF_all h2)
  have hsW := hW.size
  have hSW : ∀ b, S b → b < W.heap.size := fun b hb => Nat.lt_of_lt_of_le (hS b hb) hsW
  have HSW := hide hSW
  have HU := hide (hu.later hW)
  have HV := hide (hv.later hW)
  have bM := below_on (below_alloc W (.map #[] 0)) (below_alloc _ (.map #[] 0))
  have S1 : SeenS S ((W.alloc (.map #[] 0)).alloc (.map #[] 0)) W.heap.size 0 fun _ => [] := (SeenS.empty W).later (below_alloc _ _)
  have S2 : SeenS S ((W.alloc (.map #[] 0)).alloc (.map #[] 0)) (W.heap.size + 1) 0 fun _ => [] := by have := SeenS.empty (S := S) (W.alloc (.map #[] 0)); rwa [World.size_alloc] at this
  have HP1 := hide (seenPutS S1 (HU.out.later bM) (fun b hb => hb) (fun b hb => by have := hSW b hb; omega) (fun i hi => ⟨(H1.out.2 i hi).1, (H1.out.2 i hi).2.1⟩) (by have := H1.out.1; omega))
  have HS2 := hide S2
  have HBM := hide bM
  have HD := hide hD
  have HJ := hide hJ
  have HJx := hide hJx
  have HJb := hide hJb
  have HYd := hide hY
  have H0 := hide h0
  have HD0 := hide (hJb _ _ _ h0)
  have hmm := @run_makeMap Try.prog
  obtain ⟨n, hn⟩ : ∃ n, ps.length = n := ⟨_, rfl⟩
  have HN := hide hn
  rw [hn] at u2 HV
  have HU2 := hide u2
  have u1m := cell_later bM u1
  have hmx : Try.prog.follows .mixedOrders = true := by kernel_rfl
  clear u1 u2 c1 c2 hu hv hW hD hJ hJx hJb hY h0 S1 S2 bM hSW hn h1 h2 hS
  refine callsIn_of_wp Try.func69 rfl trivial ?_ rfl
  simp only [Try.ntmps69, List.size_toArray, List.length_cons, List.length_nil, Nat.reduceAdd, Nat.reduceSub, Array.replicate_succ, Array.replicate_zero, List.push_toArray, List.append_toArray, List.nil_append, List.cons_append]
  gi_wp2
  refine ⟨trivial, fun h => (by simp [Fence.wide] at h), (callsIn_wide.2 HP1.out).mono ?_⟩
  rintro e w3 ⟨rfl, hg3, hs3⟩
  have hk3 := Ku.of_grown hg3
  have hs2 := HS2.out.ku hk3 (by intro e; injection e with e; omega) (fun b hb e => by injection e with e; have := HSW.out b hb; omega)
  have B3 : Below W.heap.size W w3 := HBM.out.trans (hk3.below (by simp; omega) (fun b e => by injection e with e; omega))
  have HP2 := hide (seenPutS hs2 (HV.out.later B3) (fun b hb => hb) (fun b hb => by have := HSW.out b hb; omega) (fun i hi => ⟨(H2.out.2 i hi).1, (H2.out.2 i hi).2.1⟩) (by have := H2.out.1; omega))
  have hz3 := hk3.size
  simp only [World.size_alloc] at hz3
  have u2' := cell_later B3 HU2.out
  have HS1 := hide hs3
  have HB3 := hide B3
  clear hg3 hs3 hk3 hs2 B3 HP1 u1m hmm HBM HS2
  gi_wp2
  refine ⟨trivial, fun h => (by simp [Fence.wide] at h), (callsIn_wide.2 HP2.out).mono ?_⟩
  rintro e w4 ⟨rfl, hg4, hs4⟩
  have hk4 := Ku.of_grown hg4
  have B4 : Below W.heap.size W w4 := HB3.out.trans (hk4.below (by omega) (fun b e => by injection e with e; omega))
  have HA := hide (HS1.out.ku hk4 (by intro e; injection e with e; omega) (fun b hb e => by injection e with e; have := HSW.out b hb; omega))
  have HB := hide hs4
  have hz4 := hk4.size
  have u3 := cell_later B4 HU2.out
  have HB4 := hide B4
  have HJ4 := hide (HJ.out _ _ _ _ H0.out B4)
  have HV4 := hide (HV.out.later B4)
  clear hg4 hk4 hs4 B4 HP2 HS1 HB3 u2' H0
  gi_wp2
  gi_loopw [20] (fun q wr => ∃ (i : Nat) (D : Nat → Prop), q = .int .i64 i ∧ i ≤ n ∧ Hid (J D ((ps.take i).filter (dfQ vs)).length wr) ∧ Hid (∀ b, D b → ¬ S b ∧ b ≠ W.heap.size ∧ b ≠ W.heap.size + 1) ∧ Hid (SeenS S wr W.heap.size (0 + vs.length) (lkP vs)) ∧ Hid (SeenS S wr (W.heap.size + 1) (0 + ps.length) (lkP ps)) ∧ Hid (RdP S wr (.slice av n cv) ps) ∧ W.heap.size + 2 ≤ wr.heap.size) (fun q _ => n - (intOf q).toNat)
  case atStart =>
    refine ⟨0, D0, rfl, Nat.zero_le _, HJ4.out, fun b hb => ⟨HD.out b hb, ?_, ?_⟩, HA.out, HB.out, HV4.out, by omega⟩
    · have := HD0.out b hb; omega
    · have := HD0.out b hb; omega
  case round =>
    clear HA HB HJ4 HV4 u3
    obtain ⟨i, D, rfl, hin, HJk, HDk, HA, HB, HVk, hsz⟩ := hrel
    rcases Nat.lt_or_ge i n with hlt | hge
    · obtain ⟨b, off, vv, rfl, q1, q2, q3⟩ := HVk.out.at (k := i) (by rw [HN.out]; exact hlt)
      obtain ⟨a3, c3, rfl⟩ := q3.shape
      have hx40 := H2.out.2 i (by rw [HN.out]; exact hlt)
      have HAt := hide (dfL_at (vs := vs) (ps := ps) (i := i) (by rw [HN.out]; exact hlt))
      have HNo := hide (filt_no (dfQ vs) (0, []) ps i (by rw [HN.out]; exact hlt))
      have HYes := hide (filt_at (dfQ vs) (0, []) ps i (by rw [HN.out]; exact hlt))
      have hdq : dfQ vs (ps.getD i (0, [])) = !(decide (lkP vs (ps.getD i (0, [])).1 = (ps.getD i (0, [])).2)) := by unfold dfQ; simp
      obtain ⟨pp, hpp⟩ : ∃ p, ps.getD i (0, []) = p := ⟨_, rfl⟩
      rw [hpp] at q1 q2 q3 hx40 HAt HNo HYes hdq
      obtain ⟨x, ws⟩ := pp
      dsimp only at q1 q2 q3 hx40 hdq
      obtain ⟨lx, hlx⟩ : ∃ l, ws.length = l := ⟨_, rfl⟩
      have HLx := hide hlx
      rw [hlx] at q2 q3
      have hn60 : n ≤ 60 := by have := H2.out.1; rw [HN.out] at this; exact this
      have hn60i : (n : Int) ≤ 60 := by omega
      have hii : (i : Int) < (n : Int) := by omega
      have hi0 : (0 : Int) ≤ (i : Int) := Int.natCast_nonneg _
      obtain ⟨vl, hlook, hrl⟩ := HA.out.look hx40.1 hx40.2.1
      obtain ⟨al, cl, hvl⟩ := hrl.shape
      obtain ⟨ll, hll⟩ : ∃ l, (lkP vs x).length = l := ⟨_, rfl⟩
      rw [hll] at hvl
      subst hvl
      obtain ⟨WA, hWA⟩ : ∃ WA, wr.alloc (.cells #[.int .i64 x, .slice a3 lx c3] 57) = WA := ⟨_, rfl⟩
      have hbA : Below wr.heap.size wr WA := by rw [← hWA]; exact below_alloc _ _
      have p0 : WA.cell? ⟨wr.heap.size, 0, none⟩ = some (.int .i64 x) := by rw [← hWA]; simp [go_sem]
      have p1 : WA.cell? ⟨wr.heap.size, 1, none⟩ = some (.slice a3 lx c3) := by rw [← hWA]; simp [go_sem]
      have hlk : (Instr.lookup 97 (.map (some W.heap.size)) (.int .i64 x) false).run Try.prog WA.drew = .ok (.slice al ll cl) WA.drew := hlook _ (hbA.block _ (by omega))
      have hlkN : ∀ q, (Instr.lookup 97 (.map (some W.heap.size)) (.int .i64 x) false).run Try.prog (WA.drewN q) = .ok (.slice al ll cl) (WA.drewN q) := fun q => hlook _ (hbA.block _ (by omega))
      have HR3 := hide (q3.later hbA)
      have HRL := hide (hrl.later hbA)
      have HBA := hide hbA
      have hszA : WA.heap.size = wr.heap.size + 1 := by rw [← hWA]; simp
      have HX := hide hx40
      clear hlook hrl hbA
      gi_wp2
      (try rw [hWA])
      clear hWA
      by_cases hq : lkP vs x = ws
      · have HDec : Hid (decide (lkP vs x = ws) = true) := decide_eq_true hq
        have hf : dfQ vs (x, ws) = false := by rw [hdq, decide_eq_true hq]; rfl
        have hcnt := HNo.out hf
        have HEq := hide (fun q => (slicesEqualR (HRL.out.drewN q) (HR3.out.drewN q)).mono (fun e w' (h : _ ∧ _) => (show e = .returned (.bool true) ∧ ∃ q', w' = (WA.drewN q).drewN q' from ⟨by rw [← HDec.out]; exact h.1, h.2⟩)))
        refine wpIn_wide.2 ?_
        go_quiet ((go_at_call 71; exact Calls.quiet_of (HEq.out _)))
        have hbd : Below wr.heap.size wr (WA.drewN nq) := below_on HBA.out (below_drewN _ _)
        have HJ5 := hide (HJ.out _ _ _ _ HJk.out hbd)
        have HA5 := hide (HA.out.later hbd)
        have HB5 := hide (HB.out.later hbd)
        have HV5 := hide (HVk.out.later hbd)
        have hs5 : W.heap.size + 2 ≤ (WA.drewN nq).heap.size := by have := hbd.size; omega
        rw [← hcnt] at HJ5
        clear hbd hlk hlkN HJk HA HB HVk p0 p1 HEq
        gi_wp2
        go_roundw
        case rel => exact ⟨i + 1, D, by simp, by omega, HJ5.out, HDk.out, HA5.out, HB5.out, HV5.out, hs5⟩
        case measure => simp [intOf]; omega
      · have HDec : Hid (decide (lkP vs x = ws) = false) := decide_eq_false hq
        have hf : dfQ vs (x, ws) = true := by rw [hdq, decide_eq_false hq]; rfl
        obtain ⟨hy1, hy2⟩ := HAt.out hf
        obtain ⟨_, _, hcnt⟩ := HYes.out hf
        have HY1 := hide hy1
        have HY2 := hide hy2
        have HCnt := hide hcnt
        have HLm : Hid (ws.length ≤ 1048576) := by unfold Hid; have := HX.out.2.2; omega
        clear hy1 hy2 hcnt hdq HNo HAt HYes
        gi_region_with_o (first
          | (refine ⟨trivial, fun h => (by simp [Fence.wide] at h), ?_⟩; gi_at_call 71; refine (callsIn_wide.2 (slicesEqualR (HRL.out.drewN 1) (HR3.out.drewN 1))).mono ?_; rintro e w5 ⟨he, q5, hw5⟩; rw [HDec.out] at he; subst he; have hb5 : Below WA.heap.size WA w5 := (by rw [hw5]; exact below_on (below_drewN _ 1) (below_drewN _ _)); have HR5 := hide (HR3.out.later hb5); have HB5 := hide hb5; have p0 := cell_later hb5 p0; have p1 := cell_later hb5 p1; clear hb5 hw5)
          | (refine ⟨trivial, fun h => (by simp [Fence.wide] at h), ?_⟩; gi_at_call 59; refine (callsIn_wide.2 (copyWords HR5.out HLm.out)).mono ?_; rintro e w6 ⟨z6, rfl, hb6, ho6⟩; obtain ⟨a6, c6, hz6⟩ := ho6.shape; rw [HLx.out] at hz6; subst hz6; have p0 := cell_later hb6 p0; have p1 := cell_later hb6 p1; have hb7 := below_on HB5.out hb6; obtain ⟨fn, tmps, assign, body, hyy0, hR⟩ := HYd.out D _ x _ wr w6 HJk.out (below_on HBA.out hb7) HY1.out (by rw [HY2.out]) (by rw [HY2.out]; exact ho6.mono (by have := HB5.out.size; omega)); have hyy : (Instr.yield l #[.agg #[.int .i64 x, .slice a6 lx c6]]).run Try.prog w6 = .ok (.round l fn tmps assign body) w6 := hyy0; have HB6 := hide hb7; clear hyy0 hb6 ho6 hb7)
          | (refine ⟨fun h => (by simp [Fence.wide] at h), hR.mono ?_⟩; rintro e W3 hor; obtain ⟨tb, rfl, hcase⟩ := yield_tb hor; clear hor hyy))
        all_goals
          have hb6 := below_on HBA.out HB6.out
          have HA6 := hide (HA.out.later hb6)
          have HBs6 := hide (HB.out.later hb6)
          have HV6 := hide (HVk.out.later hb6)
          have hs6 := hb6.size
          clear hb6 hlk hlkN HA HB HVk HJk
          rcases hcase with ⟨rfl, D', hJ3, hk3, hD3⟩ | ⟨rfl, hJx3⟩
          · have HDn : Hid (∀ b, D' b → ¬ S b ∧ b ≠ W.heap.size ∧ b ≠ W.heap.size + 1) := fun b hb => by
              rcases hD3 b hb with h | h
              · exact HDk.out b h
              · exact ⟨fun hSb => by have := HSW.out b hSb; omega, by omega, by omega⟩
            have HA7 := hide (HA6.out.ku hk3 (fun h => (HDk.out _ h).2.1 rfl) (fun b hb h => (HDk.out b h).1 hb))
            have HB7 := hide (HBs6.out.ku hk3 (fun h => (HDk.out _ h).2.2 rfl) (fun b hb h => (HDk.out b h).1 hb))
            have HV7 := hide (HV6.out.ku hk3 (fun b hb h => (HDk.out b h).1 hb))
            have hs7 := hk3.size
            rw [← HCnt.out] at hJ3
            have HJ7 := hide hJ3
            clear hJ3 hk3 hD3 HA6 HBs6 HV6 p0 p1
            gi_wp2
            go_roundw
            case rel => exact ⟨i + 1, D', by simp, by omega, HJ7.out, HDn.out, HA7.out, HB7.out, HV7.out, by omega⟩
            case measure => simp [intOf]; omega
          · have HJx3 := hide hJx3
            clear hJx3
            gi_wp2
            refine bodyPost_ret (results_none rfl _ _ _) rfl ?_
            exact ⟨⟨_, rfl⟩, .inr HJx3.out⟩
    · have hge' : ¬ (i : Int) < (n : Int) := by omega
      have hi : i = n := by omega
      subst hi
      have HJn : Hid (J D ((ps.filter (dfQ vs)).length + (dfB vs ps 0).length) wr) := by
        have h := HJk.out
        rw [← HN.out, List.take_length] at h
        exact h
      obtain ⟨WL, hWL⟩ : ∃ WL, wr.alloc (.cells #[.int .i64 0, .int .i64 1] 2) = WL := ⟨_, rfl⟩
      have hbL : Below wr.heap.size wr WL := by rw [← hWL]; exact below_alloc _ _
      have hL0 : WL.cell? ⟨wr.heap.size, 0, none⟩ = some (.int .i64 0) := by rw [← hWL]; simp [go_sem]
      have hL1 : WL.cell? ⟨wr.heap.size, 1, none⟩ = some (.int .i64 1) := by rw [← hWL]; simp [go_sem]
      have hsL : WL.heap.size = wr.heap.size + 1 := by rw [← hWL]; simp
      have HJL := hide (HJ.out _ _ _ _ HJn.out hbL)
      have HAL := hide (HA.out.later hbL)
      have HBL := hide (HB.out.later hbL)
      have HDb := hide (HJb.out _ _ _ HJn.out)
      have HC01 : Hid (∀ k : Nat, k < 2 → WL.cell? ⟨wr.heap.size, k, none⟩ = some (.int .i64 k)) := fun k hk => by
        rcases (by omega : k = 0 ∨ k = 1) with rfl | rfl
        · exact hL0
        · exact hL1
      clear HJk HJn HA HB HVk hbL hL0 hL1
      gi_wp2
      clear hWL
      obtain ⟨bl, hbl⟩ : ∃ bl, wr.heap.size = bl := ⟨_, rfl⟩
      rw [hbl] at HDb HC01 hsz hsL ⊢
      clear hbl
      gi_loopw [46] (fun q wr => ∃ (k : Nat) (E : Nat → Prop), q = .int .i64 k ∧ k ≤ 2 ∧ Hid (J E ((ps.filter (dfQ vs)).length + (dfB vs ps k).length) wr) ∧ Hid (∀ b, E b → ¬ S b ∧ b ≠ W.heap.size ∧ b ≠ W.heap.size + 1 ∧ b ≠ bl) ∧ Hid (SeenS S wr W.heap.size (0 + vs.length) (lkP vs)) ∧ Hid (SeenS S wr (W.heap.size + 1) (0 + ps.length) (lkP ps)) ∧ Hid (∀ k : Nat, k < 2 → wr.cell? ⟨bl, k, none⟩ = some (.int .i64 k)) ∧ bl + 1 ≤ wr.heap.size) (fun q _ => 2 - (intOf q).toNat)
      case atStart =>
        refine ⟨0, D, rfl, by omega, HJL.out, fun b hb => ?_, HAL.out, HBL.out, HC01.out, by omega⟩
        obtain ⟨j1, j2, j3⟩ := HDk.out b hb
        exact ⟨j1, j2, j3, by have := HDb.out b hb; omega⟩
      case round =>
        clear HJL HAL HBL HC01 HDb HDk
        obtain ⟨k, E, rfl, hk2, HJk, HEk, HA, HB, HC, hsz2⟩ := hrel
        rcases Nat.lt_or_ge k 2 with hlt | hge
        · have hck := HC.out k hlt
          have hki : (k : Int) < 2 := by omega
          have hk0 : (0 : Int) ≤ (k : Int) := by omega
          obtain ⟨v1, hlook1, hr1⟩ := HA.out.look (a := (k : Int)) (by omega) (by omega)
          obtain ⟨v2, hlook2, hr2⟩ := HB.out.look (a := (k : Int)) (by omega) (by omega)
          have hl1 := hlook1 _ rfl
          have hl2 := hlook2 _ rfl
          obtain ⟨a1, c1, hv1⟩ := hr1.shape
          obtain ⟨a2, c2, hv2⟩ := hr2.shape
          obtain ⟨n1, hn1⟩ : ∃ n1, (lkP vs (k : Int)).length = n1 := ⟨_, rfl⟩
          obtain ⟨n2, hn2⟩ : ∃ n2, (lkP ps (k : Int)).length = n2 := ⟨_, rfl⟩
          rw [hn1] at hv1
          rw [hn2] at hv2
          subst hv1
          subst hv2
          have HSt := hide (dfB_step vs ps k hlt)
          have HGo := hide (dfL_gone (vs := vs) (ps := ps) hlt)
          have HG1 : Hid (goneQ vs ps (k : Int) = (decide (n1 ≠ 0) && decide (n2 = 0))) := by
            unfold Hid goneQ
            rw [← hn1, ← hn2]
            simp [List.length_eq_zero_iff]
          clear hlook1 hlook2 hr1 hr2 hn1 hn2
          have hkn : k < 2 := hlt
          by_cases hg : n1 ≠ 0 ∧ n2 = 0
          · obtain ⟨hg1, rfl⟩ := hg
            have hgt : goneQ vs ps (k : Int) = true := by rw [HG1.out]; simp [hg1]
            obtain ⟨y1, y2⟩ := HGo.out hgt
            have hst := HSt.out.1
            rw [hgt, if_pos rfl] at hst
            have HST := hide hst
            obtain ⟨fn, tmps, assign, body, hyy0, hR⟩ := HYd.out E _ (k : Int) (.slice none 0 0) wr wr HJk.out (Below.refl _ _) y1 (by rw [y2]) (by rw [y2]; exact ⟨0, RdI_nil _ _ none 0, fun h => absurd rfl h⟩)
            have hyy : (Instr.yield l #[.agg #[.int .i64 (k : Int), .slice none 0 0]]).run Try.prog wr = .ok (.round l fn tmps assign body) wr := hyy0
            have hn1i : (0 : Int) < (n1 : Int) := by omega
            clear hyy0 y1 y2 hst HGo HSt HG1
            gi_wp2
            refine ⟨fun h => by simp [Fence.wide] at h, hR.mono ?_⟩
            rintro e W3 (⟨rfl, D', hJ3, hk3, hD3⟩ | ⟨rfl, hJx3⟩)
            · have hs7 := hk3.size
              have HDn : Hid (∀ b, D' b → ¬ S b ∧ b ≠ W.heap.size ∧ b ≠ W.heap.size + 1 ∧ b ≠ bl) := fun b hb => by
                rcases hD3 b hb with h | h
                · exact HEk.out b h
                · exact ⟨fun hSb => by have := HSW.out b hSb; omega, by omega, by omega, by omega⟩
              have HA7 := hide (HA.out.ku hk3 (fun h => (HEk.out _ h).2.1 rfl) (fun b hb h => (HEk.out b h).1 hb))
              have HB7 := hide (HB.out.ku hk3 (fun h => (HEk.out _ h).2.2.1 rfl) (fun b hb h => (HEk.out b h).1 hb))
              have HC7 : Hid (∀ k : Nat, k < 2 → W3.cell? ⟨bl, k, none⟩ = some (.int .i64 k)) := fun k hk => hk3.cell (HC.out k hk) (fun h => (HEk.out _ h).2.2.2 rfl)
              have HJ7 := hide hJ3
              clear hJ3 hk3 hD3 HA HB HC hck hl1 hl2
              gi_wp2
              go_roundw
              case rel => exact ⟨k + 1, D', by simp, by omega, by rw [HST.out, ← Nat.add_assoc]; exact HJ7.out, HDn.out, HA7.out, HB7.out, HC7.out, by omega⟩
              case measure => simp [intOf]; omega
            · have HJx3 := hide hJx3
              clear hJx3
              gi_wp2
              refine bodyPost_ret (results_none rfl _ _ _) rfl ?_
              exact ⟨⟨_, rfl⟩, .inr HJx3.out⟩
          · have hgf : goneQ vs ps (k : Int) = false := by
              rw [HG1.out]
              cases h1 : decide (n1 ≠ 0) <;> cases h2 : decide (n2 = 0) <;> simp_all
            have hst := HSt.out.1
            rw [hgf] at hst
            simp only [Bool.false_eq_true, if_false, Nat.add_zero] at hst
            have HST := hide hst
            clear hst HGo HSt HG1
            by_cases h1 : n1 = 0
            · subst h1
              gi_wp2
              refine ⟨fun _ h => (by cases h), ?_⟩
              gi_wp2
              go_roundw
              case rel => exact ⟨k + 1, E, by simp, by omega, by rw [HST.out]; exact HJk.out, HEk.out, HA.out, HB.out, HC.out, hsz2⟩
              case measure => simp [intOf]; omega
            · have h2 : n2 ≠ 0 := fun h => hg ⟨h1, h⟩
              have hn1i : (0 : Int) < (n1 : Int) := by omega
              have hn2i : ¬ (n2 : Int) = 0 := by omega
              clear hg
              gi_wp2
              refine ⟨fun _ h => (by cases h), ?_⟩
              gi_wp2
              go_roundw
              case rel => exact ⟨k + 1, E, by simp, by omega, by rw [HST.out]; exact HJk.out, HEk.out, HA.out, HB.out, HC.out, hsz2⟩
              case measure => simp [intOf]; omega
        · have hk : k = 2 := by omega
          subst hk
          have HJk' : Hid (J E (dfL vs ps).length wr) := by
            have h := HJk.out
            unfold dfL
            rw [List.length_append]
            exact h
          clear HJk
          gi_wp2
          go_end0
          exact ⟨⟨_, rfl⟩, .inl ⟨E, HJk'.out⟩⟩
end Go.Proofs.Ytiommfabhchgdaa
