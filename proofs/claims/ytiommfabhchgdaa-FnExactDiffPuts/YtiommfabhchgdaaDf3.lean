/- Chapter 11: 'spec.l11At', 'spec.l11Diff', walked. -/
import Derived.Test.YtiommfabhchgdaaDf0
import Derived.Test.YtiommfabhchgdaaApplyT
import Derived.Test.YtiommfabhchgdaaSame
import Derived.BigQuiet
namespace Go.Proofs.Ytiommfabhchgdaa
open Go.RowKit Go.Maps

theorem lk_upto (ps : List (Int × List Int)) (a : Int) (i : Nat) (hi : i < ps.length) (ha : (ps.getD i (0, [])).1 = a) (hl : ∀ j, i < j → j < ps.length → (ps.getD j (0, [])).1 ≠ a) : ∀ k, i < k → k ≤ ps.length → (ps.take k).foldl putM (fun _ => []) a = (ps.getD i (0, [])).2 := by
  intro k
  induction k with
  | zero => intro h; omega
  | succ k ih =>
    intro h1 h2
    rw [foldl_take putM (0, []) _ ps k (by omega)]
    by_cases e : k = i
    · subst e
      unfold putM
      rw [if_pos ha.symm]
    · have := hl k (by omega) (by omega)
      unfold putM at ih ⊢
      rw [if_neg (fun h => this h.symm)]
      exact ih (by omega) (by omega)
theorem lk_none (ps : List (Int × List Int)) (a : Int) (hl : ∀ j, j < ps.length → (ps.getD j (0, [])).1 ≠ a) : ∀ k, k ≤ ps.length → (ps.take k).foldl putM (fun _ => []) a = [] := by
  intro k
  induction k with
  | zero => intro _; rfl
  | succ k ih =>
    intro h2
    rw [foldl_take putM (0, []) _ ps k (by omega)]
    have := hl k (by omega)
    unfold putM at ih ⊢
    rw [if_neg (fun h => this h.symm)]
    exact ih (by omega)

set_option maxHeartbeats 2000000 in
set_option maxRecDepth 4000 in
/-- 'l11At' of a reading: the same value whatever has been drawn. -/
theorem l11AtQ {S : Nat → Prop} {w : World} {v : Value} {ps : List (Int × List Int)} (hv : RdP S w v ps) (a : Int) :
    ∃ z, RdI S w z (lkP ps a) ∧ ∀ q, Calls Try.prog 65 #[v, .int .i64 a] (w.drewN q) fun e w' => e = .returned z ∧ ∃ q', w' = (w.drewN q).drewN q' := by
  obtain ⟨ao, c, rfl, _⟩ := hv.shape
  by_cases hex : ∃ i, i < ps.length ∧ (ps.getD i (0, [])).1 = a ∧ ∀ j, i < j → j < ps.length → (ps.getD j (0, [])).1 ≠ a
  · obtain ⟨i, hi, ha, hl⟩ := hex
    obtain ⟨b, off, z, rfl, q1, q2, q3⟩ := hv.at (k := i) hi
    have hlk : lkP ps a = (ps.getD i (0, [])).2 := by have := lk_upto ps a i hi ha hl ps.length hi (Nat.le_refl _); rwa [List.take_length] at this
    refine ⟨z, by rw [hlk]; exact q3, fun q => ?_⟩
    obtain ⟨az, cz, rfl⟩ := q3.shape
    have HL := hide (l4Last a (hv.later (below_drewN _ q)))
    have HQ := hide (hv.later (below_drewN _ q))
    have p2 : (w.drewN q).cell? ⟨b, off + i * 2 + 1, none⟩ = some (.slice az (ps.getD i (0, [])).2.length cz) := q2
    have HU : Hid (∀ i', i' < ps.length → (ps.getD i' (0, [])).1 = a → (∀ j, i' < j → j < ps.length → (ps.getD j (0, [])).1 ≠ a) → i' = i) := fun i' h1 h2 h3 => by
      rcases Nat.lt_trichotomy i' i with h | h | h
      · exact absurd ha (h3 i h hi)
      · exact h
      · exact absurd h2 (hl i' h h1)
    have HNo : Hid (¬ ∀ j, j < ps.length → (ps.getD j (0, [])).1 ≠ a) := fun h => h i hi ha
    obtain ⟨n, hn⟩ : ∃ n, ps.length = n := ⟨_, rfl⟩
    have hi' : (i : Int) < (n : Int) := by omega
    rw [hn] at HL ⊢
    obtain ⟨lz, hlz⟩ : ∃ n, (ps.getD i (0, [])).2.length = n := ⟨_, rfl⟩
    rw [hlz] at p2 ⊢
    obtain ⟨wq, hwq⟩ : ∃ wq, w.drewN q = wq := ⟨_, rfl⟩
    rw [hwq] at HL p2 ⊢
    clear hwq hv q1 q2 q3 hlk ha hl HQ hlz
    go_enter Try.func65, Try.ntmps65
    go_wp2_with fail
    refine HL.out.mono ?_
    rintro e w1 ⟨hw1, (⟨_, h2⟩ | ⟨i', rfl, h1, h2, h3⟩)⟩
    · exact absurd (by rw [hn]; exact h2) HNo.out
    · obtain rfl := HU.out i' (by omega) h2 (by rw [hn]; exact h3)
      have e1 := hw1.symm
      subst e1
      have hi0 : (0 : Int) ≤ (i' : Int) := by omega
      clear h1 h2 h3 hw1
      go_wp2
      go_ret
      exact ⟨rfl, 0, rfl⟩
  · have hno : ∀ j, j < ps.length → (ps.getD j (0, [])).1 ≠ a := by
      have hh : ∀ d j, ps.length - j = d → j < ps.length → (ps.getD j (0, [])).1 = a → False := by
        intro d
        induction d using Nat.strongRecOn with
        | ind d ih =>
          intro j hd hj ha
          refine hex ⟨j, hj, ha, fun k hk hkl e => ih (ps.length - k) (by omega) k rfl hkl e⟩
      exact fun j hj ha => hh _ j rfl hj ha
    have hlk : lkP ps a = [] := by have := lk_none ps a hno ps.length (Nat.le_refl _); rwa [List.take_length] at this
    refine ⟨.slice none 0 0, by rw [hlk]; exact RdI_nil _ _ none 0, fun q => ?_⟩
    have HL := hide (l4Last a (hv.later (below_drewN _ q)))
    obtain ⟨wq, hwq⟩ : ∃ wq, w.drewN q = wq := ⟨_, rfl⟩
    rw [hwq] at HL ⊢
    have HEx := hide hex
    clear hwq hv hno hlk hex
    go_enter Try.func65, Try.ntmps65
    go_wp2_with fail
    refine HL.out.mono ?_
    rintro e w1 ⟨hw1, (⟨rfl, h2⟩ | ⟨i', _, h1, h2, h3⟩)⟩
    · have e1 := hw1.symm
      subst e1
      clear hw1 h2
      go_wp2
      go_ret
      exact ⟨rfl, 0, rfl⟩
    · exact absurd ⟨i', h1, h2, h3⟩ HEx.out

theorem RowP.empty (w : World) : RowP w.heap.size (w.alloc (.cells #[] 57)) (.slice (some ⟨w.heap.size, 0, none⟩) 0 0) [] :=
  ⟨fun _ => .bool false, World.ownsRow_made w #[] 0 (Nat.le_refl _) (by unfold maxLen; omega) (by simp), fun i hi => absurd hi (by simp)⟩
theorem take_filter_snoc {f : Int × List Int → Bool} {ps : List (Int × List Int)} {i : Nat} (hi : i < ps.length) (h : f (ps.getD i (0, [])) = true) : (ps.take (i + 1)).filter f = (ps.take i).filter f ++ [ps.getD i (0, [])] := by
  have hg : ps.getD i (0, []) = ps[i] := by simp [List.getD, hi]
  rw [hg] at h ⊢
  rw [List.take_succ_eq_append_getElem hi, List.filter_append]
  simp [h]
theorem take_filter_same {f : Int × List Int → Bool} {ps : List (Int × List Int)} {i : Nat} (hi : i < ps.length) (h : f (ps.getD i (0, [])) = false) : (ps.take (i + 1)).filter f = (ps.take i).filter f := by
  have hg : ps.getD i (0, []) = ps[i] := by simp [List.getD, hi]
  rw [hg] at h
  rw [List.take_succ_eq_append_getElem hi, List.filter_append]
  simp [h]
theorem dfB_snoc (vs ps : List (Int × List Int)) (k : Nat) (hk : k < 2) : dfB vs ps (k + 1) = dfB vs ps k ++ (if goneQ vs ps (k : Int) then [((k : Int), [])] else []) := by
  unfold dfB
  rcases (by omega : k = 0 ∨ k = 1) with rfl | rfl
  · cases h0 : goneQ vs ps 0 <;> simp [h0]
  · cases h0 : goneQ vs ps 0 <;> cases h1 : goneQ vs ps 1 <;> simp [h0, h1]

set_option maxHeartbeats 8000000 in
set_option maxRecDepth 4000 in
theorem l11DiffP {S T : Nat → Prop} {w : World} {u v : Value} {vs ps : List (Int × List Int)} (hu : RdP S w u vs) (hv : RdP T w v ps) (h2 : hpF 60 ps = 0) :
    Calls Try.prog 36 #[u, v] w fun e w' => ∃ z, e = .returned z ∧ Below w.heap.size w w' ∧ OwP (fun b => w.heap.size ≤ b ∧ b < w'.heap.size) w' z (dfL vs ps) := by
  obtain ⟨au, cu, rfl, _⟩ := hu.shape
  obtain ⟨av, cv, rfl, _⟩ := hv.shape
  obtain ⟨i0, hi, hz0, hz1, hz2⟩ := info_parts Try.infoPut
  have H2 := hide (hpF_all h2)
  have HU := hide (RdP_old hu)
  have HV := hide (RdP_old hv)
  have HAtU := hide (fun (w' : World) (hb : Below w.heap.size w w') (a : Int) => l11AtQ (HU.out.later hb) a)
  have HAtV := hide (fun (w' : World) (hb : Below w.heap.size w w') (a : Int) => l11AtQ (HV.out.later hb) a)
  have hlen : (dfL vs ps).length ≤ 62 := by
    unfold dfL dfB
    rw [List.length_append, List.length_map]
    have a1 := List.length_filter_le (dfQ vs) ps
    have a2 := List.length_filter_le (goneQ vs ps) (([0, 1] : List Int).take 2)
    have a3 : ((([0, 1] : List Int).take 2)).length = 2 := rfl
    have := H2.out.1
    omega
  have hwl : ∀ i, i < (dfL vs ps).length → ((dfL vs ps).getD i (0, [])).2.length ≤ 1048576 := by
    intro i hil
    have hm : (dfL vs ps).getD i (0, []) ∈ dfL vs ps := by simp [List.getD, hil]
    obtain ⟨p, hp⟩ : ∃ p, (dfL vs ps).getD i (0, []) = p := ⟨_, rfl⟩
    rw [hp] at hm ⊢
    unfold dfL at hm
    rcases List.mem_append.1 hm with h | h
    · have h3 := (List.mem_filter.1 h).1
      obtain ⟨j, hj, rfl⟩ := List.getElem_of_mem h3
      have := (H2.out.2 j hj).2.2
      simp only [List.getD, List.getElem?_eq_getElem hj, Option.getD_some] at this
      omega
    · unfold dfB at h
      obtain ⟨a, _, rfl⟩ := List.mem_map.1 h
      simp
  have HLen := hide hlen
  have HWl := hide hwl
  obtain ⟨n, hn⟩ : ∃ n, ps.length = n := ⟨_, rfl⟩
  have HN := hide hn
  rw [hn] at HV HAtV ⊢
  have hn60 : n ≤ 60 := by rw [← hn]; exact H2.out.1
  have HB0 := hide (below_alloc w (.cells #[] 57))
  have HE0 := hide (RowP.empty w)
  clear hu hv h2 hn hlen hwl
  go_enter Try.func36, Try.ntmps36
  go_wp2
  go_loopw [5, 6] (fun v i wr => ∃ k : Nat, k ≤ n ∧ i = .int .i64 k ∧ Hid (RowP w.heap.size wr v ((ps.take k).filter (dfQ vs))) ∧ Hid (Below w.heap.size w wr)) (fun _ i _ => n - (RowKit.intOf i).toNat)
  case atStart => exact ⟨0, Nat.zero_le _, rfl, HE0.out, HB0.out⟩
  case round =>
    clear HE0 HB0
    obtain ⟨k, hk, rfl, HRo, HB⟩ := hrel
    obtain ⟨ao, co, rfl⟩ := HRo.out.shape
    by_cases hlt : k < n
    · obtain ⟨b, off, zv, rfl, q1, q2, q3⟩ := HV.out.at (k := k) (by rw [HN.out]; exact hlt)
      obtain ⟨a3, c3, rfl⟩ := q3.shape
      have g1 := cell_later HB.out q1
      have g2 := cell_later HB.out q2
      have g3 := q3.later HB.out
      have HSn := hide (take_filter_snoc (f := dfQ vs) (ps := ps) (i := k) (by rw [HN.out]; exact hlt))
      have HSm := hide (take_filter_same (f := dfQ vs) (ps := ps) (i := k) (by rw [HN.out]; exact hlt))
      obtain ⟨pp, hpp⟩ : ∃ p, ps.getD k (0, []) = p := ⟨_, rfl⟩
      rw [hpp] at g1 g2 g3 HSn HSm
      obtain ⟨x, ws⟩ := pp
      dsimp only at g1 g2 g3
      have hdq : dfQ vs (x, ws) = !(decide (lkP vs x = ws)) := by unfold dfQ; simp
      obtain ⟨l, hl⟩ : ∃ l, ws.length = l := ⟨_, rfl⟩
      rw [hl] at g2 g3
      obtain ⟨z, hz, hcall⟩ := HAtU.out wr HB.out x
      obtain ⟨az, cz, hzz⟩ := hz.shape
      obtain ⟨lz, hlz⟩ : ∃ l, (lkP vs x).length = l := ⟨_, rfl⟩
      rw [hlz] at hzz
      subst hzz
      have HCall := hide hcall
      have HSame := hide (fun q => l2SameR (hz.drewN q) (RdI.drewN g3 q))
      have HG3 := hide g3
      have hk0 : (0 : Int) ≤ (k : Int) := by omega
      have hk1 : (k : Int) < (n : Int) := by omega
      obtain ⟨V, hown, hrd⟩ := HRo.out
      have HOw := hide hown
      have HRd := hide hrd
      have hz := HB.out.size
      obtain ⟨L, hL⟩ : ∃ L, (ps.take k).filter (dfQ vs) = L := ⟨_, rfl⟩
      have hLl : L.length ≤ 60 := by rw [← hL]; have a1 := List.length_filter_le (dfQ vs) (ps.take k); rw [List.length_take] at a1; omega
      rw [hL] at HRo HOw HRd HSn HSm ⊢
      obtain ⟨la, hla⟩ : ∃ la, L.length = la := ⟨_, rfl⟩
      have HLa := hide hla
      rw [hla] at HRo HOw HRd hLl ⊢
      clear q1 q2 q3 hpp hl hlz hcall g3 hown hrd hL hla
      obtain ⟨B, hB⟩ : ∃ B, decide (lkP vs x = ws) = B := ⟨_, rfl⟩
      rw [hB] at HSame hdq
      clear hB
      go_wp2_with fail
      go_quiet ((first | (go_at_call 65; exact Calls.quiet_of (HCall.out _)) | (go_at_call 64; exact Calls.quiet_of (HSame.out _))))
      have bq := hide (below_drewN wr nq)
      have e1 := cell_later bq.out g1
      have e2 := cell_later bq.out g2
      have HO2 := hide (ownsRow_later HOw.out bq.out)
      have HG4 := hide (HG3.out.later bq.out)
      have HRd2 := hide (fun i (hi : i < la) => (HRd.out i hi).later bq.out)
      have HRo2 := hide (HRo.out.later bq.out)
      have HB2 := hide (below_on HB.out bq.out)
      obtain ⟨u2, hu2⟩ : ∃ x, wr.drewN nq = x := ⟨_, rfl⟩
      rw [hu2] at e1 e2 HO2 HG4 HRd2 HRo2 HB2 ⊢
      clear hu2 bq g1 g2 HOw HG3 HRd HRo HB HCall HSame
      have hs2 := HB2.out.size
      cases B with
      | true =>
        have hs := HSm.out hdq
        go_wp2
        go_roundw
        case rel => exact ⟨k + 1, hlt, by go_num, by rw [hs]; exact HRo2.out, HB2.out⟩
        case measure => simp [RowKit.intOf]; omega
      | false =>
        have hs := HSn.out hdq
        go_wp2_with (at_builtin; refine wpList_append_lies _ rfl _ _ _ rfl w.heap.size 57 i0 (.agg #[.int .i64 0, .slice none 0 0]) 2 32 Try.underlying27 hi hz0 hz1 hz2 rfl (by omega) _ la _ (by rfl) (HO2.out.alloc _) ⟨u2.heap.size, 0, none⟩ 1 1 [.int .i64 x, .slice a3 l c3] (by rfl) (by rfl) (World.news_of_block (cs := #[.int .i64 x, .slice a3 l c3]) (t := 57) (fr := (0, 0)) (heap_alloc_new u2 _)) cells2_one (by omega) (by unfold maxLen; omega) (by omega) (by simp; omega) (u2.heap.size + 1) (by simp) ?_; intro g cap w3 hown3 hgrow hat hlt3)
        have hLa := HLa.out
        subst hLa
        have HS := hide (RowP.step (p := (x, ws)) HO2.out (fun i hi => HRd2.out i hi) hs2 HG4.out hown3 hgrow)
        rw [← hs] at HS
        clear hown3 hgrow hat
        go_wp2
        go_roundw
        case rel => exact ⟨k + 1, hlt, by go_num, HS.out.1, HB2.out.trans (HS.out.2.mono (Nat.le_refl _))⟩
        case measure => simp [RowKit.intOf]; omega
    · have hkn : k = n := by omega
      subst hkn
      have HF : Hid ((ps.take k).filter (dfQ vs) = ps.filter (dfQ vs)) := by rw [← HN.out, List.take_length]; exact rfl
      rw [HF.out] at HRo ⊢
      have HRo2 : Hid (RowP w.heap.size wr (.slice ao (ps.filter (dfQ vs)).length co) (ps.filter (dfQ vs) ++ dfB vs ps 0)) := by
        have e : ps.filter (dfQ vs) ++ dfB vs ps 0 = ps.filter (dfQ vs) := by simp [dfB]
        rw [Hid, e]; exact HRo.out
      have hnl : ¬ (k : Int) < (k : Int) := by omega
      clear HRo HF
      go_wp2
      go_loopw [5, 7] (fun v i wr => ∃ k : Nat, k ≤ 2 ∧ i = .int .i64 k ∧ Hid (RowP w.heap.size wr v (ps.filter (dfQ vs) ++ dfB vs ps k)) ∧ Hid (Below w.heap.size w wr)) (fun _ i _ => 2 - (RowKit.intOf i).toNat)
      case atStart => exact ⟨0, by omega, rfl, HRo2.out, HB.out⟩
      case round =>
        clear HRo2 HB hnl
        obtain ⟨j, hj, rfl, HRo, HB⟩ := hrel
        obtain ⟨ao, co, rfl⟩ := HRo.out.shape
        by_cases hlt : j < 2
        · obtain ⟨z1, hr1, hcall1⟩ := HAtU.out wr HB.out (j : Int)
          obtain ⟨z2, hr2, hcall2⟩ := HAtV.out wr HB.out (j : Int)
          obtain ⟨a1, c1, hv1⟩ := hr1.shape
          obtain ⟨a2, c2, hv2⟩ := hr2.shape
          obtain ⟨n1, hn1⟩ : ∃ n1, (lkP vs (j : Int)).length = n1 := ⟨_, rfl⟩
          obtain ⟨n2, hn2⟩ : ∃ n2, (lkP ps (j : Int)).length = n2 := ⟨_, rfl⟩
          rw [hn1] at hv1
          rw [hn2] at hv2
          subst hv1
          subst hv2
          have HG1 : Hid (goneQ vs ps (j : Int) = (decide (n1 ≠ 0) && decide (n2 = 0))) := by
            unfold Hid goneQ
            rw [← hn1, ← hn2]
            simp [List.length_eq_zero_iff]
          have HSn := hide (dfB_snoc vs ps j hlt)
          have HC1 := hide (hcall1 0)
          have HC2 := hide hcall2
          have hj1 : (j : Int) ≤ 1 := by omega
          have hj0 : (0 : Int) ≤ (j : Int) := by omega
          obtain ⟨V, hown, hrd⟩ := HRo.out
          have HOw := hide hown
          have HRd := hide hrd
          have hz := HB.out.size
          have hLl : (ps.filter (dfQ vs) ++ dfB vs ps j).length ≤ 62 := by
            unfold dfB
            rw [List.length_append, List.length_map]
            have a1 := List.length_filter_le (dfQ vs) ps
            have a2 := List.length_filter_le (goneQ vs ps) (([0, 1] : List Int).take j)
            rw [List.length_take] at a2
            have := HN.out
            simp only [List.length_cons, List.length_nil] at a2
            omega
          obtain ⟨L, hL⟩ : ∃ L, ps.filter (dfQ vs) ++ dfB vs ps j = L := ⟨_, rfl⟩
          have HL := hide hL
          rw [hL] at HRo HOw HRd hLl ⊢
          obtain ⟨la, hla⟩ : ∃ la, L.length = la := ⟨_, rfl⟩
          have HLa := hide hla
          rw [hla] at HRo HOw HRd hLl ⊢
          clear hr1 hr2 hcall1 hcall2 hn1 hn2 hown hrd hL hla
          by_cases h1 : n1 = 0
          · subst h1
            have hg : goneQ vs ps (j : Int) = false := by rw [HG1.out]; simp
            go_wp2_with fail
            refine HC1.out.mono ?_
            rintro e w5 ⟨rfl, q5, hw5⟩
            have bq : Below wr.heap.size wr w5 := by rw [hw5]; exact below_on (below_drewN _ 0) (below_drewN _ _)
            have HRo2 := hide (HRo.out.later bq)
            have HB2 := hide (below_on HB.out bq)
            clear hw5 bq HC1 HC2
            go_wp2
            go_roundw
            case rel => exact ⟨j + 1, by omega, by go_num, by rw [HSn.out, hg]; simp only [Bool.false_eq_true, if_false, List.append_nil]; rw [HL.out]; exact HRo2.out, HB2.out⟩
            case measure => simp [RowKit.intOf]; omega
          · have hn1i : (0 : Int) < (n1 : Int) := by omega
            go_wp2_with fail
            refine HC1.out.mono ?_
            rintro e w5 ⟨rfl, q5, hw5⟩
            have hw5' : w5 = wr.drewN q5 := by rw [hw5]; rfl
            have HC3 := hide (HC2.out q5)
            rw [← hw5'] at HC3
            have bq : Below wr.heap.size wr w5 := by rw [hw5']; exact below_drewN _ _
            have HRo2 := hide (HRo.out.later bq)
            have HO2 := hide (ownsRow_later HOw.out bq)
            have HRd2 := hide (fun i (hi : i < la) => (HRd.out i hi).later bq)
            have HB2 := hide (below_on HB.out bq)
            clear hw5 hw5' bq HC1 HC2 HRo HOw HRd HB
            by_cases h2 : n2 = 0
            · subst h2
              have hg : goneQ vs ps (j : Int) = true := by rw [HG1.out]; simp [h1]
              go_wp2_with fail
              refine HC3.out.mono ?_
              rintro e w6 ⟨rfl, q6, hw6⟩
              have bq : Below w5.heap.size w5 w6 := by rw [hw6]; exact below_drewN _ _
              have HO3 := hide (ownsRow_later HO2.out bq)
              have HRd3 := hide (fun i (hi : i < la) => (HRd2.out i hi).later bq)
              have HB3 := hide (below_on HB2.out bq)
              have hs3 := HB3.out.size
              clear hw6 bq HC3 HO2 HRd2 HB2 HRo2
              go_wp2_with (at_builtin; refine wpList_append_lies _ rfl _ _ _ rfl w.heap.size 57 i0 (.agg #[.int .i64 0, .slice none 0 0]) 2 32 Try.underlying27 hi hz0 hz1 hz2 rfl (by omega) _ la _ (by rfl) (HO3.out.alloc _) ⟨w6.heap.size, 0, none⟩ 1 1 [.int .i64 (j : Int), .slice none 0 0] (by rfl) (by rfl) (World.news_of_block (cs := #[.int .i64 (j : Int), .slice none 0 0]) (t := 57) (fr := (0, 0)) (heap_alloc_new w6 _)) cells2_one (by omega) (by unfold maxLen; omega) (by omega) (by simp; omega) (w6.heap.size + 1) (by simp) ?_; intro g cap w3 hown3 hgrow hat hlt3)
              have hLa := HLa.out
              subst hLa
              have HS := hide (RowP.step (p := ((j : Int), [])) HO3.out (fun i hi => HRd3.out i hi) hs3 (RdI_nil _ _ none 0) hown3 hgrow)
              clear hown3 hgrow hat
              go_wp2
              go_roundw
              case rel => exact ⟨j + 1, by omega, by go_num, by rw [HSn.out, hg, if_pos rfl, ← List.append_assoc, HL.out]; exact HS.out.1, HB3.out.trans (HS.out.2.mono (Nat.le_refl _))⟩
              case measure => simp [RowKit.intOf]; omega
            · have hn2i : ¬ (n2 : Int) = 0 := by omega
              have hg : goneQ vs ps (j : Int) = false := by rw [HG1.out]; simp [h2]
              go_wp2_with fail
              refine HC3.out.mono ?_
              rintro e w6 ⟨rfl, q6, hw6⟩
              have bq : Below w5.heap.size w5 w6 := by rw [hw6]; exact below_drewN _ _
              have HRo3 := hide (HRo2.out.later bq)
              have HB3 := hide (below_on HB2.out bq)
              clear hw6 bq HC3 HO2 HRd2 HB2 HRo2
              go_wp2
              go_roundw
              case rel => exact ⟨j + 1, by omega, by go_num, by rw [HSn.out, hg]; simp only [Bool.false_eq_true, if_false, List.append_nil]; rw [HL.out]; exact HRo3.out, HB3.out⟩
              case measure => simp [RowKit.intOf]; omega
        · have hj2 : j = 2 := by omega
          subst hj2
          have hnl : ¬ ((2 : Nat) : Int) ≤ 1 := by omega
          have HD : Hid (ps.filter (dfQ vs) ++ dfB vs ps 2 = dfL vs ps) := rfl
          rw [HD.out] at HRo ⊢
          have HCp := hide (l1Puts (HRo.out.rd HB.out.size (by have := HLen.out; omega)) (by have := HLen.out; omega) HWl.out)
          obtain ⟨ld, hld⟩ : ∃ l, (dfL vs ps).length = l := ⟨_, rfl⟩
          have HLd := hide hld
          rw [hld] at HCp ⊢
          clear hld HRo
          go_wp2_with fail
          refine HCp.out.mono ?_
          rintro e w5 ⟨z5, rfl, hb5, ho5⟩
          obtain ⟨a5, c5, rfl⟩ := ho5.shape
          have HB5 := hide (below_on HB.out hb5)
          have HO5 := hide (ho5.ow HLd.out (by have := HLen.out; rw [HLd.out] at this; omega))
          have hs5 := HB.out.size
          clear hb5 ho5 HCp
          go_wp2
          go_ret
          exact ⟨_, rfl, HB5.out, HO5.out.mono fun b h => ⟨by have := h.1; omega, h.2⟩⟩
end Go.Proofs.Ytiommfabhchgdaa
