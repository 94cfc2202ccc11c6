/- Po8 in one text: what each says stands at its head below. -/
import Derived.Test.YtamknomapabmfaaGreatG47
import Derived.Deep.RegionLaw
/- Chapter 5: 'spec.PutsOf', walked. Made by program (genpo8.py). -/
namespace Go.Proofs.YtamknomapabmfaaGreat
open Go.RowKit Go.Maps

/-- The result's cells stand as they were laid. -/
structure ResJ (w wr : World) : Prop where
  below : Below w.heap.size w wr
  lt : w.heap.size < wr.heap.size
  r0 : wr.cell? ⟨w.heap.size, 0, none⟩ = some (.int .i64 0)
  r1 : wr.cell? ⟨w.heap.size, 1, none⟩ = some (.slice none 0 0)
  rf : ∀ o, wr.frozen? ⟨w.heap.size, o, none⟩ = false
theorem ResJ.later {w wr w1 : World} (h : ResJ w wr) (hb : Below wr.heap.size wr w1) : ResJ w w1 :=
  ⟨below_on h.below hb, Nat.lt_of_lt_of_le h.lt hb.size, cell_later hb h.r0, cell_later hb h.r1, fun o => ((bcell hb).2 _ _ h.lt).trans (h.rf o)⟩
theorem ResJ.start (w : World) : ResJ w (w.alloc (.cells #[.int .i64 0, .slice none 0 0] 35)) :=
  ⟨below_alloc _ _, by simp, by simp [go_sem], by simp [go_sem], fun o => by simp [go_sem]⟩
theorem apC_nil (vs : List (Int × List Int)) : apC vs [] = vF vs := by
  unfold apC vF
  rw [if_pos (show hpF 60 [] = 0 from rfl)]
theorem applyNil {S : Nat → Prop} {w : World} {u : Value} {vs : List (Int × List Int)} (hu : RdP S w u vs) :
    Calls Tryz.prog 28 #[u, .slice none 0 0] w fun e w' => ∃ z, e = .returned (.agg #[.int .i64 (vF vs), z]) ∧ Below w.heap.size w w' ∧ ∃ (a : Option Addr) (l c : Nat), z = .slice a l c :=
  (specApplyPuts hu (OwP_nil (fun _ => True) w).rd).mono fun e w' ⟨z, he, hb, ho⟩ => by
    obtain ⟨a, c, hz⟩ := ho.shape
    exact ⟨z, by rw [← apC_nil]; exact he, hb, a, _, c, hz⟩
theorem lastView {S : Nat → Prop} {w : World} {u : Value} {vs : List (Int × List Int)} (x : Int) (hu : RdP S w u vs) :
    Calls Tryz.prog 29 #[u, .int .i64 x] w fun e w' => w' = w ∧ ((e = .returned (.int .i64 (-1)) ∧ vs.foldl putM (fun _ => []) x = []) ∨ ∃ i : Nat, e = .returned (.int .i64 (i : Int)) ∧ i < vs.length ∧ vs.foldl putM (fun _ => []) x = (vs.getD i (0, [])).2) :=
  (l4Last x hu).mono fun e w' ⟨hw, h⟩ => ⟨hw, by
    rcases h with ⟨he, h1⟩ | ⟨i, he, h1, h2, h3⟩
    · exact Or.inl ⟨he, foldl_none h1⟩
    · exact Or.inr ⟨i, he, h1, foldl_last h1 h2 h3⟩⟩
theorem poR_snoc (L : List Int) (M : Int → List Int) (x : Int) : poR (L ++ [x]) M = poR L M ++ [(x, M x)] := by simp [poR]
theorem getD_mem {L : List Int} {x : Int} (h : x ∈ L) : ∃ t, t < L.length ∧ L.getD t 0 = x := by
  obtain ⟨t, ht, e⟩ := List.mem_iff_getElem.1 h
  exact ⟨t, ht, by simp [List.getD, ht, e]⟩
theorem nodup_at {L : List Int} {i t : Nat} (hn : L.Nodup) (hi : i < L.length) (ht : t < L.length) (h : L.getD i 0 = L.getD t 0) : i = t := by
  have e1 : L.getD i 0 = L[i] := by simp [List.getD, hi]
  have e2 : L.getD t 0 = L[t] := by simp [List.getD, ht]
  rw [e1, e2] at h
  rcases Nat.lt_trichotomy i t with q | q | q
  · exact absurd h (List.pairwise_iff_getElem.1 hn i t hi ht q)
  · exact q
  · exact absurd h.symm (List.pairwise_iff_getElem.1 hn t i ht hi q)

set_option maxHeartbeats 16000000 in
set_option maxRecDepth 4000 in
theorem specPutsOf {S T : Nat → Prop} {w : World} {u v : Value} {vs : List (Int × List Int)} {os : List Oj} (hu : RdP S w u vs) (hv : RdJ T w v os) :
    Calls Tryz.prog 10 #[u, v] w (EndsP (poC vs os) (poV vs os) w) := by
  unfold EndsP
  obtain ⟨i0, hi, hz0, hz1, hz2⟩ := info_parts Tryz.infoPut
  obtain ⟨au, cu, rfl, _⟩ := hu.shape
  obtain ⟨av, cv, rfl, hvl⟩ := hv.shape
  have HAp := hide (fun (w' : World) (hb : Below w.heap.size w w') => applyNil (hu.later hb))
  have HLv := hide (fun (x : Int) (w' : World) (hb : Below w.heap.size w w') => lastView x (hu.later hb))
  have HU := hide hu
  have HV := hide hv
  have HC : Hid (poC vs os = if vF vs = 0 then (if 12 < os.length then 2 else firstJ os) else vF vs) := rfl
  have HR : Hid (poV vs os = if poC vs os = 0 then poR (poL os os.length) (poM (vs.foldl putM fun _ => []) os os.length) else []) := rfl
  have HZ := hide (fun (h : poC vs os = 0) => poC_zero h)
  have HFd := hide (firstJ_drop os)
  have HF0 : Hid (firstJ (os.drop 0) = firstJ os) := by rw [Hid, List.drop_zero]
  have HFn : Hid (firstJ (os.drop os.length) = 0) := by rw [Hid, List.drop_length]; rfl
  have HLs := hide (poL_succ os)
  have HMs := hide (poM_succ (vs.foldl putM fun _ => []) os)
  have HLf := hide (fun (h : poC vs os = 0) => poL_facts (os := os) (fun i hi => by
    obtain ⟨⟨k1, k2, _, _⟩, _, _⟩ := objF_zero ((poC_zero h).2.2.2 i hi)
    exact ⟨k1, by omega⟩))
  have HMl := hide (fun (h : poC vs os = 0) => poM_len (M := vs.foldl putM fun _ => []) (os := os) (fun a => foldl_len (by simp) (fun i hi => ((hpF_all (poC_zero h).1).2 i hi).2.2)) (fun i hi => by
    obtain ⟨⟨_, _, k3, _⟩, k5, _⟩ := objF_zero ((poC_zero h).2.2.2 i hi)
    omega))
  have HMo := hide (fun (a : Int) => poM_out (M := vs.foldl putM fun _ => []) (os := os) (a := a))
  have HL0 : Hid (poL os 0 = []) := rfl
  have HVw := hide (fun (h : poC vs os = 0) => hpF_all (poC_zero h).1)
  obtain ⟨FD, hFD⟩ : ∃ FD : Nat → Int, (fun k => firstJ (os.drop k)) = FD := ⟨_, rfl⟩
  have HFs : Hid (∀ k, k < os.length → FD k = if objF (os.getD k oj0).1 (os.getD k oj0).2.1 (os.getD k oj0).2.2 = 0 then FD (k + 1) else objF (os.getD k oj0).1 (os.getD k oj0).2.1 (os.getD k oj0).2.2) := fun k hk => by rw [← hFD]; exact HFd.out k hk
  have HFa : Hid (FD 0 = firstJ os) := by rw [← hFD]; exact HF0.out
  have HFz : Hid (FD os.length = 0) := by rw [← hFD]; exact HFn.out
  clear hFD HFd HF0 HFn hu hv
  generalize vF vs = p at HAp HC
  generalize firstJ os = q at HC HFa
  generalize poM (vs.foldl putM fun _ => []) os = MM at HR HMs HMl HMo
  generalize vs.foldl putM (fun _ => []) = M0 at HLv HMo
  generalize poL os = LL at HR HLs HLf HMo HL0
  generalize poV vs os = R at HR ⊢
  generalize poC vs os = C at HC HR HZ HLf HMl HVw ⊢
  obtain ⟨m, hm⟩ : ∃ m, vs.length = m := ⟨_, rfl⟩
  have HM := hide hm
  rw [hm] at HAp HLv HU ⊢
  obtain ⟨n, hn⟩ : ∃ n, os.length = n := ⟨_, rfl⟩
  have HN := hide hn
  rw [hn] at HV HC HR HLs HMs HLf HMl HMo HFs HFz hvl ⊢
  clear hm hn
  have HRs := hide (ResJ.start w)
  go_enter Tryz.func10, Tryz.ntmps10
  go_wp2_with fail
  refine (HAp.out _ HRs.out.below).mono ?_
  rintro e w1 ⟨z1, rfl, hb1, a1, l1, c1, rfl⟩
  have HS1 := hide (HRs.out.later hb1)
  have HSv := hide (HS1.out.later (below_alloc w1 (.cells #[.int .i64 p, .slice a1 l1 c1] 35)))
  clear hb1 HRs HAp
  have hlt1 := HS1.out.lt
  by_cases hp0 : p = 0
  · subst hp0
    by_cases hbig : 12 < n
    · have hC2 : C = 2 := by rw [HC.out, if_pos rfl, if_pos hbig]
      subst hC2
      have hRn : R = [] := by rw [HR.out]; rfl
      subst hRn
      have hbi : (12 : Int) < (n : Int) := by omega
      have r0 := HS1.out.r0
      have r1 := HS1.out.r1
      have f0 := HS1.out.rf 0
      have f1 := HS1.out.rf 1
      have t0 : ∀ (x : Value) (o : Obj), (((w1.setCell ⟨w.heap.size, 0, none⟩ x).setCell ⟨w.heap.size, 1, none⟩ (.slice none 0 0)).alloc o).cell? ⟨w.heap.size, 0, none⟩ = some x := fun x o => cell_later (below_alloc _ _) (by
        rw [World.cell?_setCell_other _ _ _ _ (by simp)]
        exact World.cell?_setCell_same _ _ _ r0)
      have t1 : ∀ (x : Value) (o : Obj), (((w1.setCell ⟨w.heap.size, 0, none⟩ x).setCell ⟨w.heap.size, 1, none⟩ (.slice none 0 0)).alloc o).cell? ⟨w.heap.size, 1, none⟩ = some (.slice none 0 0) := fun x o => cell_later (below_alloc _ _) (World.cell?_setCell_same _ _ _ ((World.cell?_setCell_other _ _ _ _ (by simp)).trans r1))
      go_wp2
      refine bodyPost_ret (v := .agg #[.int .i64 2, .slice none 0 0]) (by simp [results, Tryz.results10, go_sem, t0, t1]) rfl ⟨_, rfl, ?_, OwP_nil _ _⟩
      repeat (first | refine Below.setCell ?_ (by first | (simp; done) | (simp; omega) | omega) _ | refine Below.alloc ?_ (by simp; omega) _ | exact HS1.out.below)
    · have hCq : C = q := by rw [HC.out, if_pos rfl, if_neg hbig]
      have hbi : ¬ (12 : Int) < (n : Int) := by omega
      have hn12 : n ≤ 12 := by omega
      clear HC
      subst hCq
      go_wp2
      go_loopw [6] (fun i wr => ∃ k : Nat, k ≤ n ∧ i = .int .i64 (k : Int) ∧ Hid (FD k = C) ∧ Hid (ResJ w wr)) (fun i _ => n - (RowKit.intOf i).toNat)
      case atStart => exact ⟨0, Nat.zero_le _, rfl, HFa.out, HSv.out⟩
      case round =>
        clear HSv HS1
        obtain ⟨k, hk, rfl, HD, HS⟩ := hrel
        by_cases hlt : k < n
        · obtain ⟨b, off, V, rfl, q1, q2, q3, q4⟩ := HV.out.at (k := k) (by rw [HN.out]; exact hlt)
          obtain ⟨a3, c3, rfl⟩ := q4.shape
          have g1 := cell_later HS.out.below q1
          have g2 := cell_later HS.out.below q2
          have g3 := cell_later HS.out.below q3
          have HOF := hide (specObjectFault (os.getD k oj0).1 (os.getD k oj0).2.1 (q4.later HS.out.below))
          have HFk := hide (HFs.out k hlt)
          generalize objF (os.getD k oj0).1 (os.getD k oj0).2.1 (os.getD k oj0).2.2 = d at HFk HOF
          generalize (os.getD k oj0).2.2.length = l at g3 HOF
          generalize (os.getD k oj0).1 = x at g1 HOF
          generalize (os.getD k oj0).2.1 = f at g2 HOF
          have hk0 : (0 : Int) ≤ (k : Int) := Int.natCast_nonneg _
          have hk1 : (k : Int) < (n : Int) := by omega
          clear q1 q2 q3 q4
          by_cases hd : d = 0
          · subst hd
            have HFx : Hid (FD (k + 1) = C) := by have h := HFk.out; rw [if_pos rfl] at h; exact h.symm.trans HD.out
            go_wp2_with fail
            refine HOF.out.mono ?_
            rintro e w3 ⟨rfl, hb3⟩
            have HS3 := hide (HS.out.later hb3)
            clear hb3
            go_wp2
            go_roundw
            case rel => exact ⟨k + 1, hlt, by go_num, HFx.out, HS3.out⟩
            case measure => simp [RowKit.intOf]; omega
          · have hCd : C = d := by have h := HFk.out; rw [if_neg hd] at h; exact HD.out.symm.trans h
            subst hCd
            have hRn : R = [] := by rw [HR.out, if_neg hd]
            subst hRn
            go_wp2_with fail
            refine HOF.out.mono ?_
            rintro e w3 ⟨rfl, hb3⟩
            have HS3 := hide (HS.out.later hb3)
            have r0 := HS3.out.r0
            have r1 := HS3.out.r1
            have f0 := HS3.out.rf 0
            have f1 := HS3.out.rf 1
            clear hb3
            go_wp2
            refine bodyPost_ret (v := .agg #[.int .i64 C, .slice none 0 0]) (by simp [results, Tryz.results10, go_sem, r0, r1]) rfl ⟨_, rfl, ?_, OwP_nil _ _⟩
            repeat (first | refine Below.setCell ?_ (by first | (simp; done) | (simp; omega) | omega) _ | exact HS3.out.below)
        · have hkn : k = n := by omega
          subst hkn
          have hC0 : C = 0 := HD.out.symm.trans HFz.out
          subst hC0
          have hRn : R = poR (LL k) (MM k) := by rw [HR.out]; rfl
          have HRn := hide hRn
          obtain ⟨wo, hwo⟩ : ∃ wo, wo = wr := ⟨_, rfl⟩
          subst hwo
          have HT0 : Hid (PoS wo wo.heap.size (poR (LL 0) (MM 0)) 0 none 0 (wo.alloc (.cells #[.int .i64 0, .slice none 0 0] 35))) := by
            rw [Hid, HL0.out]
            exact ⟨⟨fun _ => .bool false, fun _ => 0, World.ownsRow_nil _ _ _ _, Inner.zero _ _ _ _ _ _⟩, below_alloc _ _, by simp, by simp [go_sem], by simp [go_sem], fun o => by simp [go_sem]⟩
          have HLn0 : Hid ((LL 0).length = 0) := by rw [Hid, HL0.out]; rfl
          obtain ⟨n, hkn⟩ : ∃ n, n = k := ⟨_, rfl⟩
          subst hkn
          clear hRn HR HD HFs HFa HFz hlt hk
          go_wp2
          go_loopw [9] (fun i wr => ∃ (k j : Nat) (ao : Option Addr) (c : Nat), k ≤ n ∧ i = .int .i64 (k : Int) ∧ Hid ((LL k).length = j) ∧ Hid (PoS wo wo.heap.size (poR (LL k) (MM k)) j ao c wr)) (fun i _ => n - (RowKit.intOf i).toNat)
          case atStart => exact ⟨0, 0, none, 0, Nat.zero_le _, rfl, HLn0.out, HT0.out⟩
          case round =>
            clear HT0 HLn0
            obtain ⟨k, j, ao, c, hk, rfl, HJ, HT⟩ := hrel
            by_cases hlt : k < n
            · have HBw := hide (below_on HS.out.below HT.out.below)
              obtain ⟨b, off, V, rfl, q1, q2, q3, q4⟩ := HV.out.at (k := k) (by rw [HN.out]; exact hlt)
              have HOb := hide ((HZ.out (by trivial)).2.2.2 k (by rw [HN.out]; exact hlt))
              have HLx := hide (HLs.out k hlt)
              have HMx := hide (HMs.out k hlt)
              have HNd := hide ((HLf.out (by trivial) k hk).1)
              have hLk : j ≤ k := by rw [← HJ.out]; exact (HLf.out (by trivial) k hk).2.1
              have HMk := hide (HMl.out (by trivial) k hk)
              have HMo' := hide (fun a => HMo.out a k hk)
              obtain ⟨o, ho⟩ : ∃ o, os.getD k oj0 = o := ⟨_, rfl⟩
              rw [ho] at q1 q2 q4 HOb HLx HMx
              obtain ⟨x, f, xs⟩ := o
              dsimp only at q1 q2 q4
              have hzz := objF_zero HOb.out
              dsimp only at hzz
              obtain ⟨⟨hx1, hx2, hx3, hx4⟩, hx5, _⟩ := hzz
              obtain ⟨F, rfl⟩ : ∃ F : Nat, f = (F : Int) := ⟨f.toNat, by omega⟩
              obtain ⟨a3, c3, rfl⟩ := q4.shape
              obtain ⟨l, hl⟩ : ∃ l, xs.length = l := ⟨_, rfl⟩
              have HMn : Hid (MM (k + 1) = putM (MM k) (x, mrgL (MM k x) F xs)) := HMx.out
              have HLn : Hid (LL (k + 1) = if x ∈ LL k then LL k else LL k ++ [x]) := HLx.out
              have hxl : F + xs.length ≤ 64 := by omega
              have hxp : 0 < xs.length := by omega
              have HOj : Hid (∀ w', Below w.heap.size w w' → HdAt w' b (off + k * 3) x (F : Int) (.slice a3 l c3) ∧ RdI T w' (.slice a3 l c3) xs) := fun w' hb => by
                rw [← hl]
                exact ⟨⟨cell_later hb q1, cell_later hb q2, cell_later hb q3⟩, q4.later hb⟩
              have HXl := hide hxl
              have HXp := hide hxp
              have g1 := cell_later HBw.out q1
              have hk0 : (0 : Int) ≤ (k : Int) := Int.natCast_nonneg _
              have hk1 : (k : Int) < (n : Int) := by omega
              have h1 := HT.out.h1
              have hOl := HT.out.lt
              generalize LL k = L at HLn HJ HT HNd HMo'
              generalize MM k = MK at HMn HT HMk HMo'
              have HRdP := hide (HT.out.ow ((poR_len _ _).trans HJ.out) (by omega)).rd
              clear q1 q2 q3 q4 ho hl HOb HLx HMx hx5 hxl hxp
              by_cases hin : x ∈ L
              · obtain ⟨t, ht, hxt⟩ := getD_mem hin
                have HXt := hide hxt
                have HLn7 : Hid (LL (k + 1) = L) := by rw [Hid, HLn.out, if_pos hin]
                rw [HJ.out] at ht
                have HLa : Hid (∀ w', Below wr.heap.size wr w' → Calls Tryz.prog 29 #[.slice ao j c, .int .i64 x] w' fun e w2 => e = .returned (.int .i64 (t : Int)) ∧ w2 = w') := fun w' hb =>
                  l4Last_at x (HRdP.out.later hb) t (by rw [poR_len, HJ.out]; exact ht) (by rw [poR_at _ _ _ (by rw [HJ.out]; exact ht)]; exact HXt.out) (fun i hi h => by
                    rw [poR_len] at hi
                    rw [poR_at _ _ _ hi] at h
                    exact nodup_at HNd.out hi (by rw [HJ.out]; exact ht) (h.trans HXt.out.symm))
                clear hxt hin
                go_wp2_with fail
                go_quiet ((go_at_call 29; exact Calls.quiet_of_same (HLa.out _ (below_drewN _ _))))
                have HT7 := hide (HT.out.later (below_drewN wr nq))
                generalize wr.drewN nq = w7 at HT7 ⊢
                have htn : ¬ ((t : Int) < 0) := by omega
                clear HT HRdP HLa g1 h1 hOl HBw HMo'
                have HLl7 := hide HJ.out
                have HNd7 := hide HNd.out
                have HXt7 := hide HXt.out

                obtain ⟨g7, V7, hao, hg1, hg2, c24, cf, hrd⟩ := HT7.out.at (t := t) (by omega)
                subst hao
                have HWk : Hid (((poR (L) MK).getD t (0, [])).2 = MK x) := by
                  rw [Hid, poR_at _ _ _ (by rw [HLl7.out]; omega)]
                  show MK ((L).getD t 0) = _
                  rw [HXt7.out]
                rw [HWk.out] at hrd
                obtain ⟨a4, c4, rfl⟩ := hrd.shape
                obtain ⟨l4, hl4⟩ : ∃ l4, (MK x).length = l4 := ⟨_, rfl⟩
                rw [hl4] at c24 hrd
                have HRd7 := hide hrd
                have HBo := hide (below_on HS.out.below HT7.out.below)
                have HM5 : Hid (∀ w', Below w7.heap.size w7 w' → Calls Tryz.prog 31 #[.slice a4 l4 c4, .pointer (some ⟨b, off + k * 3, none⟩)] w' fun e w5 => ∃ u, e = .returned u ∧ Below w'.heap.size w' w5 ∧ OwI w'.heap.size w5 u (mrgL (MK x) F xs)) := fun w' hb =>
                  l5Merge (HOj.out w' (below_on HBo.out hb)).1 (HOj.out w' (below_on HBo.out hb)).2 (HRd7.out.later hb) HXl.out HXp.out (HMk.out x)
                have c1 := HT7.out.h1
                have ht0 : (0 : Int) ≤ (t : Int) := Int.natCast_nonneg _
                have ht1 : (t : Int) < ((j : Nat) : Int) := by omega
                have cf7 := cf (t * 2 + 1)
                clear hrd hl4 cf
                go_wp2_with fail
                go_region_law (go_simp; go_at_call 31; refine (HM5.out _ (below_drewN w7 1)).mono ?_; rintro e w9 ⟨z9, rfl, hb9, ho9⟩; obtain ⟨a9, c9, hz9⟩ := ho9.shape; obtain ⟨l9, hl9⟩ : ∃ l9, (mrgL (MK x) F xs).length = l9 := ⟨_, rfl⟩; rw [hl9] at hz9; subst hz9; have HB9 := hide (below_on (below_drewN w7 1) hb9); have HO9 : Hid (OwI w7.heap.size w9 (.slice a9 l9 c9) (mrgL (MK x) F xs)) := ho9; have x1 := cell_later HB9.out c1; have x2 := cell_later HB9.out c24; have x3 := ((bcell HB9.out).2 _ _ hg2).trans cf7; clear hb9 ho9 hl9)
                all_goals
                  have HPn := hide (HT7.out.put (P' := poR (L) (putM MK (x, mrgL (MK x) F xs))) (t := t) (by omega) HB9.out HO9.out (fun i hi => poR_set HNd7.out (by rw [HLl7.out]; omega) HXt7.out i (by rw [HLl7.out]; exact hi)))
                  rw [← HMn.out, ← HLn7.out] at HPn
                  have HJe : Hid ((LL (k + 1)).length = j) := by rw [Hid, HLn7.out]; exact HLl7.out
                  clear x1 x2 x3 c1 c24
                  go_wp2
                  go_roundw
                  case rel => exact ⟨k + 1, j, _, _, hlt, by go_num, HJe.out, HPn.out⟩
                  case measure => simp [RowKit.intOf]; omega
              · have HLn7 : Hid (LL (k + 1) = L ++ [x]) := by rw [Hid, HLn.out, if_neg hin]
                have HLa : Hid (∀ w', Below wr.heap.size wr w' → Calls Tryz.prog 29 #[.slice ao j c, .int .i64 x] w' fun e w2 => e = .returned (.int .i64 (-1)) ∧ w2 = w') := fun w' hb =>
                  l4Last_no x (HRdP.out.later hb) (fun i hi h => by
                    rw [poR_len] at hi
                    rw [poR_at _ _ _ hi] at h
                    exact hin (by rw [← h]; simp [List.getD, hi]))
                have HMz := hide (HMo'.out x hin)
                have HNd7 : Hid ((L ++ [x]).Nodup) := List.nodup_append.2 ⟨HNd.out, by simp, fun a ha' b hb => by rw [List.mem_singleton] at hb; subst hb; rintro rfl; exact hin ha'⟩
                clear hin
                go_wp2_with fail
                go_quiet ((go_at_call 29; exact Calls.quiet_of_same (HLa.out _ (below_drewN _ _))))
                have HT4 := hide (HT.out.later (below_drewN wr nq))
                have g4 := cell_later (below_drewN wr nq) g1
                generalize wr.drewN nq = w4 at HT4 g4 ⊢
                clear HT HRdP HLa g1 h1 hOl HBw HMo'
                have hOl := HT4.out.lt
                have h1 := HT4.out.h1
                have hfO := HT4.out.hf 1
                have HBw := hide (below_on HS.out.below HT4.out.below)
                have HBp := hide (below_alloc w4 (.cells #[.int .i64 x, .slice none 0 0] 38))
                have hbb : b < w4.heap.size := World.block_lt_of_cell? _ _ g4
                have hg5 := cell_later HBp.out g4
                have hwj : IntKind.i64.wrap ((j : Int) + 1 - 1) = (j : Int) := by simp [IntKind.wrap, IntKind.bits, IntKind.signed]; omega
                have hwj2 : IntKind.i64.wrap (j : Int) = (j : Int) := by simp [IntKind.wrap, IntKind.bits, IntKind.signed]; omega
                go_wp2_with fail
                refine (HLv.out x _ (below_on HBw.out HBp.out)).mono ?_
                rintro e w5 ⟨hw5, hcs⟩
                subst hw5
                obtain ⟨V4, Bk4, hr4, hi4⟩ := HT4.out.row
                have HR4 := hide hr4
                have HI4 := hide hi4
                have HrB : Hid (∀ r, (Value.slice ao j c).ownBlock = some r → wo.heap.size + 1 ≤ r ∧ r < w4.heap.size) := fun r hr => hr4.lt r hr
                clear hr4 hi4
                rcases hcs with ⟨rfl, hM0⟩ | ⟨i, rfl, hiv, hM0⟩
                · have HMe : Hid (MK x = []) := HMz.out.trans hM0
                  clear hM0
                  have HR6 := hide (ownsRow_later (ownsRow_later HR4.out HBp.out) (below_alloc (w4.alloc (.cells #[.int .i64 x, .slice none 0 0] 38)) (.cells #[.int .i64 x, .slice none 0 0] 38)))
                  have HNw : Hid (∀ jj uu, ([.int .i64 x, .slice none 0 0] : List Value)[jj]? = some uu → ((w4.alloc (.cells #[.int .i64 x, .slice none 0 0] 38)).alloc (.cells #[.int .i64 x, .slice none 0 0] 38)).cell? ((⟨w4.heap.size + 1, 0, none⟩ : Addr).add jj) = some uu) := by
                    have h := World.news_of_block (cs := #[.int .i64 x, .slice none 0 0]) (t := 38) (fr := (0, 0)) (heap_alloc_new (w4.alloc (.cells #[.int .i64 x, .slice none 0 0] 38)) (.cells #[.int .i64 x, .slice none 0 0] 38))
                    rw [World.size_alloc] at h
                    exact h
                  have k1 := cell_later HBp.out h1
                  go_wp2_with (at_builtin; refine wpList_append_lies _ rfl _ _ _ rfl (wo.heap.size + 1) 38 i0 (.agg #[.int .i64 0, .slice none 0 0]) 2 32 Tryz.underlying30 hi hz0 hz1 hz2 rfl (by omega) (.slice ao j c) j _ (by rfl) HR6.out ⟨w4.heap.size + 1, 0, none⟩ 1 1 [.int .i64 x, .slice none 0 0] (by rfl) (by rfl) HNw.out cells2_one (by omega) (by unfold maxLen; omega) (by omega) (by simp; omega) (w4.heap.size + 1 + 1) (by simp) ?_)
                  intro g cap w6 hown6 hgrow6 hat6 hlt6
                  have y1 : w6.cell? ⟨wo.heap.size, 1, none⟩ = some (.slice ao j c) := (hgrow6.cell_far ⟨wo.heap.size, 1, none⟩ (by simp; omega) (fun e => by have := (HrB.out _ e.symm).1; dsimp only at this; omega)).trans (cell_later (below_alloc _ _) k1)
                  have yf : w6.frozen? ⟨wo.heap.size, 1, none⟩ = false := (hgrow6.frozen_far ⟨wo.heap.size, 1, none⟩ (by simp; omega) (fun e => by have := (HrB.out _ e.symm).1; dsimp only at this; omega)).trans (((bcell (below_alloc _ _)).2 _ _ (by simp; omega)).trans (((bcell HBp.out).2 _ _ hOl).trans hfO))
                  have HT6 := hide (HT4.out.app HR4.out HI4.out ((poR_len _ _).trans HJ.out) HBp.out (OwI_nil _ _) hown6 hgrow6 (by simpa using hat6))
                  rw [← HMe.out, ← poR_snoc] at HT6
                  clear hown6 hgrow6 hat6 hlt6 k1 HR6 HNw
                  go_wp2_with fail
                  have HT7 := hide HT6.out
                  generalize w6.setCell _ _ = w7 at HT7 ⊢
                  clear HT6 y1 yf
                  have HLl7 : Hid ((L ++ [x]).length = j + 1) := by rw [Hid, List.length_append, HJ.out]; rfl
                  have HXt7 : Hid ((L ++ [x]).getD j 0 = x) := by rw [Hid, ← HJ.out]; simp [List.getD]

                  obtain ⟨g7, V7, hao, hg1, hg2, c24, cf, hrd⟩ := HT7.out.at (t := j) (by omega)
                  have hgg : g = g7 := by injection hao with e; injection e
                  subst hgg
                  clear hao
                  have HWk : Hid (((poR (L ++ [x]) MK).getD j (0, [])).2 = MK x) := by
                    rw [Hid, poR_at _ _ _ (by rw [HLl7.out]; omega)]
                    show MK ((L ++ [x]).getD j 0) = _
                    rw [HXt7.out]
                  rw [HWk.out] at hrd
                  obtain ⟨a4, c4, rfl⟩ := hrd.shape
                  obtain ⟨l4, hl4⟩ : ∃ l4, (MK x).length = l4 := ⟨_, rfl⟩
                  rw [hl4] at c24 hrd
                  have HRd7 := hide hrd
                  have HBo := hide (below_on HS.out.below HT7.out.below)
                  have HM5 : Hid (∀ w', Below w7.heap.size w7 w' → Calls Tryz.prog 31 #[.slice a4 l4 c4, .pointer (some ⟨b, off + k * 3, none⟩)] w' fun e w5 => ∃ u, e = .returned u ∧ Below w'.heap.size w' w5 ∧ OwI w'.heap.size w5 u (mrgL (MK x) F xs)) := fun w' hb =>
                    l5Merge (HOj.out w' (below_on HBo.out hb)).1 (HOj.out w' (below_on HBo.out hb)).2 (HRd7.out.later hb) HXl.out HXp.out (HMk.out x)
                  have c1 := HT7.out.h1
                  have ht0 : (0 : Int) ≤ (j : Int) := Int.natCast_nonneg _
                  have ht1 : (j : Int) < ((j + 1 : Nat) : Int) := by omega
                  have ht2 : (j : Int) < (j : Int) + 1 := by omega
                  have cf7 := cf (j * 2 + 1)
                  clear hrd hl4 cf
                  go_region_law (go_simp; go_at_call 31; refine (HM5.out _ (below_drewN w7 1)).mono ?_; rintro e w9 ⟨z9, rfl, hb9, ho9⟩; obtain ⟨a9, c9, hz9⟩ := ho9.shape; obtain ⟨l9, hl9⟩ : ∃ l9, (mrgL (MK x) F xs).length = l9 := ⟨_, rfl⟩; rw [hl9] at hz9; subst hz9; have HB9 := hide (below_on (below_drewN w7 1) hb9); have HO9 : Hid (OwI w7.heap.size w9 (.slice a9 l9 c9) (mrgL (MK x) F xs)) := ho9; have x1 := cell_later HB9.out c1; have x2 := cell_later HB9.out c24; have x3 := ((bcell HB9.out).2 _ _ hg2).trans cf7; clear hb9 ho9 hl9)
                  all_goals
                    have HPn := hide (HT7.out.put (P' := poR (L ++ [x]) (putM MK (x, mrgL (MK x) F xs))) (t := j) (by omega) HB9.out HO9.out (fun i hi => poR_set HNd7.out (by rw [HLl7.out]; omega) HXt7.out i (by rw [HLl7.out]; exact hi)))
                    rw [← HMn.out, ← HLn7.out] at HPn
                    have HJe : Hid ((LL (k + 1)).length = j + 1) := by rw [Hid, HLn7.out]; exact HLl7.out
                    clear x1 x2 x3 c1 c24
                    go_wp2
                    go_roundw
                    case rel => exact ⟨k + 1, j + 1, _, _, hlt, by go_num, HJe.out, HPn.out⟩
                    case measure => simp [RowKit.intOf]; omega
                · obtain ⟨bv, offv, Vv, hauv, p1, p2, p3⟩ := HU.out.at (k := i) (by rw [HM.out]; exact hiv)
                  subst hauv
                  obtain ⟨av3, cv3, rfl⟩ := p3.shape
                  have HMe : Hid (MK x = (vs.getD i (0, [])).2) := HMz.out.trans hM0
                  clear hM0
                  have HVl : Hid ((vs.getD i (0, [])).2.length ≤ 64) := ((HVw.out (by trivial)).2 i (by rw [HM.out]; exact hiv)).2.2
                  rw [← HMe.out] at p2 p3 HVl
                  have HRv := hide (p3.later (below_on HBw.out HBp.out))
                  have v2 := cell_later (below_on HBw.out HBp.out) p2
                  obtain ⟨lv, hlv⟩ : ∃ lv, (MK x).length = lv := ⟨_, rfl⟩
                  rw [hlv] at v2 HRv
                  have HLv2 := hide hlv
                  have hi0 : (0 : Int) ≤ (i : Int) := Int.natCast_nonneg _
                  have hi1 : (i : Int) < (m : Int) := by omega
                  clear p1 p2 p3 hlv
                  have u0 : (w4.alloc (.cells #[.int .i64 x, .slice none 0 0] 38)).cell? ⟨w4.heap.size, 0, none⟩ = some (.int .i64 x) := by simp [go_sem]
                  have u1 : (w4.alloc (.cells #[.int .i64 x, .slice none 0 0] 38)).cell? ⟨w4.heap.size, 1, none⟩ = some (.slice none 0 0) := by simp [go_sem]
                  have uf : (w4.alloc (.cells #[.int .i64 x, .slice none 0 0] 38)).frozen? ⟨w4.heap.size, 1, none⟩ = false := by simp [go_sem]
                  have hup : w4.heap.size < (w4.alloc (.cells #[.int .i64 x, .slice none 0 0] 38)).heap.size := by simp
                  have k1 := cell_later HBp.out h1
                  have kf := ((bcell HBp.out).2 _ _ hOl).trans hfO
                  generalize w4.alloc (.cells #[.int .i64 x, .slice none 0 0] 38) = w5 at HBp hg5 HRv v2 u0 u1 uf hup k1 kf ⊢
                  go_wp2_with fail
                  refine (l1Ints HRv.out (by have := HVl.out; omega)).mono ?_
                  rintro e w6 ⟨z6, rfl, hb6, ho6⟩
                  obtain ⟨a6, c6, hz6⟩ := ho6.shape
                  rw [HLv2.out] at hz6
                  subst hz6
                  have d0 := cell_later hb6 u0
                  have d1 := cell_later hb6 u1
                  have df := ((bcell hb6).2 _ _ hup).trans uf
                  have e1 := cell_later hb6 k1
                  have ef := ((bcell hb6).2 _ _ (Nat.lt_trans hOl hup)).trans kf
                  have hs6 := hb6.size
                  have hwW : Wr (· = w4.heap.size) w6 (w6.setCell ⟨w4.heap.size, 1, none⟩ (.slice a6 lv c6)) := (Wr.refl (· = w4.heap.size) w6).setCell (p := ⟨w4.heap.size, 1, none⟩) rfl _
                  have HO7 := hide ((ho6.wr hwW (fun b hb hb2 e => by omega)).mono (Nat.le_of_lt hup))
                  have HB7 := hide ((below_on HBp.out hb6).setCell (p := ⟨w4.heap.size, 1, none⟩) (Nat.le_refl _) (.slice a6 lv c6))
                  have HR7 := hide (ownsRow_later HR4.out HB7.out)
                  have hsz7 : (w6.setCell ⟨w4.heap.size, 1, none⟩ (.slice a6 lv c6)).heap.size = w6.heap.size := by simp
                  have m1 : (w6.setCell ⟨w4.heap.size, 1, none⟩ (.slice a6 lv c6)).cell? ⟨wo.heap.size, 1, none⟩ = some (.slice ao j c) := by
                    rw [World.cell?_setCell_other _ _ _ _ (by intro e; injection e with e _; omega)]; exact e1
                  have mf : (w6.setCell ⟨w4.heap.size, 1, none⟩ (.slice a6 lv c6)).frozen? ⟨wo.heap.size, 1, none⟩ = false := by rw [World.frozen?_setCell]; exact ef
                  have HR8 := hide (ownsRow_later HR7.out (below_alloc (w6.setCell ⟨w4.heap.size, 1, none⟩ (.slice a6 lv c6)) (.cells #[.int .i64 x, .slice a6 lv c6] 38)))
                  have HNw : Hid (∀ jj uu, ([.int .i64 x, .slice a6 lv c6] : List Value)[jj]? = some uu → ((w6.setCell ⟨w4.heap.size, 1, none⟩ (.slice a6 lv c6)).alloc (.cells #[.int .i64 x, .slice a6 lv c6] 38)).cell? ((⟨w6.heap.size, 0, none⟩ : Addr).add jj) = some uu) := by
                    have h := World.news_of_block (cs := #[.int .i64 x, .slice a6 lv c6]) (t := 38) (fr := (0, 0)) (heap_alloc_new (w6.setCell ⟨w4.heap.size, 1, none⟩ (.slice a6 lv c6)) (.cells #[.int .i64 x, .slice a6 lv c6] 38))
                    rw [hsz7] at h
                    exact h
                  clear hb6 ho6 hwW u0 u1 uf k1 kf hsz7
                  go_wp2_with (at_builtin; refine wpList_append_lies _ rfl _ _ _ rfl (wo.heap.size + 1) 38 i0 (.agg #[.int .i64 0, .slice none 0 0]) 2 32 Tryz.underlying30 hi hz0 hz1 hz2 rfl (by omega) (.slice ao j c) j _ (by rfl) HR8.out ⟨w6.heap.size, 0, none⟩ 1 1 [.int .i64 x, .slice a6 lv c6] (by rfl) (by rfl) HNw.out cells2_one (by omega) (by unfold maxLen; omega) (by omega) (by simp; omega) (w6.heap.size + 1) (by simp) ?_)
                  intro g cap w8 hown6 hgrow6 hat6 hlt6
                  have y1 : w8.cell? ⟨wo.heap.size, 1, none⟩ = some (.slice ao j c) := (hgrow6.cell_far ⟨wo.heap.size, 1, none⟩ (by simp; omega) (fun e => by have := (HrB.out _ e.symm).1; dsimp only at this; omega)).trans (cell_later (below_alloc _ _) m1)
                  have yf : w8.frozen? ⟨wo.heap.size, 1, none⟩ = false := (hgrow6.frozen_far ⟨wo.heap.size, 1, none⟩ (by simp; omega) (fun e => by have := (HrB.out _ e.symm).1; dsimp only at this; omega)).trans (((bcell (below_alloc _ _)).2 _ _ (by simp; omega)).trans mf)
                  have HT6 := hide (HT4.out.app HR4.out HI4.out ((poR_len _ _).trans HJ.out) HB7.out HO7.out hown6 hgrow6 (by simpa using hat6))
                  rw [← poR_snoc] at HT6
                  clear hown6 hgrow6 hat6 hlt6 HR7 HR8 HNw m1 mf d0 d1 df e1 ef v2
                  go_wp2_with fail
                  have HT7 := hide HT6.out
                  generalize w8.setCell _ _ = w7 at HT7 ⊢
                  clear HT6 y1 yf
                  have HLl7 : Hid ((L ++ [x]).length = j + 1) := by rw [Hid, List.length_append, HJ.out]; rfl
                  have HXt7 : Hid ((L ++ [x]).getD j 0 = x) := by rw [Hid, ← HJ.out]; simp [List.getD]

                  obtain ⟨g7, V7, hao, hg1, hg2, c24, cf, hrd⟩ := HT7.out.at (t := j) (by omega)
                  have hgg : g = g7 := by injection hao with e; injection e
                  subst hgg
                  clear hao
                  have HWk : Hid (((poR (L ++ [x]) MK).getD j (0, [])).2 = MK x) := by
                    rw [Hid, poR_at _ _ _ (by rw [HLl7.out]; omega)]
                    show MK ((L ++ [x]).getD j 0) = _
                    rw [HXt7.out]
                  rw [HWk.out] at hrd
                  obtain ⟨a4, c4, rfl⟩ := hrd.shape
                  obtain ⟨l4, hl4⟩ : ∃ l4, (MK x).length = l4 := ⟨_, rfl⟩
                  rw [hl4] at c24 hrd
                  have HRd7 := hide hrd
                  have HBo := hide (below_on HS.out.below HT7.out.below)
                  have HM5 : Hid (∀ w', Below w7.heap.size w7 w' → Calls Tryz.prog 31 #[.slice a4 l4 c4, .pointer (some ⟨b, off + k * 3, none⟩)] w' fun e w5 => ∃ u, e = .returned u ∧ Below w'.heap.size w' w5 ∧ OwI w'.heap.size w5 u (mrgL (MK x) F xs)) := fun w' hb =>
                    l5Merge (HOj.out w' (below_on HBo.out hb)).1 (HOj.out w' (below_on HBo.out hb)).2 (HRd7.out.later hb) HXl.out HXp.out (HMk.out x)
                  have c1 := HT7.out.h1
                  have ht0 : (0 : Int) ≤ (j : Int) := Int.natCast_nonneg _
                  have ht1 : (j : Int) < ((j + 1 : Nat) : Int) := by omega
                  have ht2 : (j : Int) < (j : Int) + 1 := by omega
                  have cf7 := cf (j * 2 + 1)
                  clear hrd hl4 cf
                  go_region_law (go_simp; go_at_call 31; refine (HM5.out _ (below_drewN w7 1)).mono ?_; rintro e w9 ⟨z9, rfl, hb9, ho9⟩; obtain ⟨a9, c9, hz9⟩ := ho9.shape; obtain ⟨l9, hl9⟩ : ∃ l9, (mrgL (MK x) F xs).length = l9 := ⟨_, rfl⟩; rw [hl9] at hz9; subst hz9; have HB9 := hide (below_on (below_drewN w7 1) hb9); have HO9 : Hid (OwI w7.heap.size w9 (.slice a9 l9 c9) (mrgL (MK x) F xs)) := ho9; have x1 := cell_later HB9.out c1; have x2 := cell_later HB9.out c24; have x3 := ((bcell HB9.out).2 _ _ hg2).trans cf7; clear hb9 ho9 hl9)
                  all_goals
                    have HPn := hide (HT7.out.put (P' := poR (L ++ [x]) (putM MK (x, mrgL (MK x) F xs))) (t := j) (by omega) HB9.out HO9.out (fun i hi => poR_set HNd7.out (by rw [HLl7.out]; omega) HXt7.out i (by rw [HLl7.out]; exact hi)))
                    rw [← HMn.out, ← HLn7.out] at HPn
                    have HJe : Hid ((LL (k + 1)).length = j + 1) := by rw [Hid, HLn7.out]; exact HLl7.out
                    clear x1 x2 x3 c1 c24
                    go_wp2
                    go_roundw
                    case rel => exact ⟨k + 1, j + 1, _, _, hlt, by go_num, HJe.out, HPn.out⟩
                    case measure => simp [RowKit.intOf]; omega
            · have hkn : k = n := by omega
              subst hkn
              have hO0 := HT.out.h0
              have hO1 := HT.out.h1
              have HBw := hide (below_on HS.out.below HT.out.below)
              have HSw := hide (HS.out.later HT.out.below)
              have v0 := HSw.out.r0
              have v1 := HSw.out.r1
              have e0 := HSw.out.rf 0
              have e1 := HSw.out.rf 1
              have hlo := HS.out.lt
              have hj12 : j ≤ 64 := by rw [← HJ.out]; have := (HLf.out (by trivial) k hk).2.1; omega
              have HOw := hide (HT.out.ow ((poR_len _ _).trans HJ.out) hj12)
              rw [← HRn.out] at HOw
              have HFin := hide (ret_putsA (x := .int .i64 0) HBw.out (r := w.heap.size) (Nat.le_refl _) HOw.out (fun b hb => ⟨by have := hb.1; omega, hb.2⟩))
              go_wp2
              exact bodyPost_ret (v := .agg #[.int .i64 0, .slice ao j c]) (by simp [results, Tryz.results10, go_sem, v0, v1]) rfl ⟨_, rfl, HFin.out.1, HFin.out.2⟩
  · have hCp : C = p := by rw [HC.out, if_neg hp0]
    subst hCp
    have hRn : R = [] := by rw [HR.out, if_neg hp0]
    subst hRn
    have r0 := HS1.out.r0
    have r1 := HS1.out.r1
    have f0 := HS1.out.rf 0
    have f1 := HS1.out.rf 1
    have t0 : ∀ (x : Value) (o : Obj), (((w1.setCell ⟨w.heap.size, 0, none⟩ x).setCell ⟨w.heap.size, 1, none⟩ (.slice none 0 0)).alloc o).cell? ⟨w.heap.size, 0, none⟩ = some x := fun x o => cell_later (below_alloc _ _) (by
      rw [World.cell?_setCell_other _ _ _ _ (by simp)]
      exact World.cell?_setCell_same _ _ _ r0)
    have t1 : ∀ (x : Value) (o : Obj), (((w1.setCell ⟨w.heap.size, 0, none⟩ x).setCell ⟨w.heap.size, 1, none⟩ (.slice none 0 0)).alloc o).cell? ⟨w.heap.size, 1, none⟩ = some (.slice none 0 0) := fun x o => cell_later (below_alloc _ _) (World.cell?_setCell_same _ _ _ ((World.cell?_setCell_other _ _ _ _ (by simp)).trans r1))
    go_wp2
    refine bodyPost_ret (v := .agg #[.int .i64 C, .slice none 0 0]) (by simp [results, Tryz.results10, go_sem, t0, t1]) rfl ⟨_, rfl, ?_, OwP_nil _ _⟩
    repeat (first | refine Below.setCell ?_ (by first | (simp; done) | (simp; omega) | omega) _ | refine Below.alloc ?_ (by simp; omega) _ | exact HS1.out.below)
end Go.Proofs.YtamknomapabmfaaGreat
