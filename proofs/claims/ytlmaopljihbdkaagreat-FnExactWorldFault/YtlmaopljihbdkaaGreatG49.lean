/- Ld8 in one text: what each says stands at its head below. -/
import Derived.Test.YtlmaopljihbdkaaGreatG48
import Derived.Test.YtlmaopljihbdkaaGreatG20
import Derived.Test.YtlmaopljihbdkaaGreatG29
import Derived.Test.YtlmaopljihbdkaaGreatG13
import Derived.BigQuiet
namespace Go.Proofs.YtlmaopljihbdkaaGreat
open Go.RowKit Go.Maps
theorem OwI_kuD {D : Nat → Prop} {lo : Nat} {w w' : World} {v : Value} {xs : List Int} (h : OwI lo w v xs) (hk : Ku D w w') (hd : ∀ b, lo ≤ b → b < w.heap.size → ¬ D b) : OwI lo w' v xs := by
  obtain ⟨g, r1, o1⟩ := h
  refine ⟨g, r1.ku hk (fun hne b hb => ?_), fun hne => ?_⟩
  · have hb' : b = g := hb
    subst hb'
    exact hd _ (o1 hne).1 (o1 hne).2.1
  · obtain ⟨k1, k2, k3⟩ := o1 hne
    exact ⟨k1, Nat.lt_of_lt_of_le k2 hk.size, fun o => (hk.frozen k2 (hd _ k1 k2)).trans (k3 o)⟩
theorem IvR_twoI {A : Nat} {w8 w : World} {D : Nat → Prop} {y z : Value} {xs : List Int} {ps : List Oj} (hy : OwI A w8 y xs) (hk : Ku D w8 w) (hD : ∀ b, A ≤ b → b < w8.heap.size → ¬ D b) (hA : A ≤ w8.heap.size) (hz : OwJ (fun b => w8.heap.size ≤ b ∧ b < w.heap.size) w z ps) : IvR A w.heap.size w y z xs ps := by
  obtain ⟨g, r1, o1⟩ := hy
  have hsz := hk.size
  refine ⟨g, _, r1.ku hk (fun hne b hb => by
    have hb' : b = g := hb
    subst hb'
    exact hD _ (o1 hne).1 (o1 hne).2.1), fun hne => ?_, Nat.le_refl _, fun b hb => ⟨Nat.le_trans hA hb.1, hb.2⟩, hz⟩
  obtain ⟨k1, k2, k3⟩ := o1 hne
  exact ⟨k1, by omega, fun h => by have := h.1; omega, fun o => (hk.frozen k2 (hD _ k1 k2)).trans (k3 o)⟩
structure RzI (w wr : World) : Prop where
  below : Below w.heap.size w wr
  r : Var6 wr w.heap.size (.int .i64 0) (.int .i64 0) (.int .i64 0) (.int .i64 0) (.slice none 0 0) (.slice none 0 0)
  rf : ∀ o, wr.frozen? ⟨w.heap.size, o, none⟩ = false
theorem RzI.later {w wr w' : World} (h : RzI w wr) (hb : Below wr.heap.size wr w') : RzI w w' :=
  ⟨below_on h.below hb, h.r.later hb, fun o => ((bcell hb).2 _ _ h.r.lt).trans (h.rf o)⟩
set_option maxHeartbeats 16000000 in
set_option maxRecDepth 4000 in
theorem l11LoadP {S : Nat → Prop} {w : World} {v : Value} {vs : List (Int × List Int)} (hv : RdP S w v vs) (hS : ∀ b, S b → b < w.heap.size) (hw : ∀ a : Int, wordsF (lkP vs a) = 0) :
    Calls Tryz.prog 48 #[v] w (EndsLm (ldO (lkP vs)) (ldA (lkP vs)) w) := by
  obtain ⟨av, cv, rfl, hvm⟩ := hv.shape
  have HV := hide hv
  have HSb := hide hS
  have HW := hide hw
  have HEq := hide (@ld_eq (lkP vs))
  have HPd := hide (@ld_same (lkP vs))
  obtain ⟨P, hP⟩ : ∃ P, ldO (lkP vs) = P := ⟨_, rfl⟩
  obtain ⟨RR, hRR⟩ : ∃ R, ldA (lkP vs) = R := ⟨_, rfl⟩
  rw [hP] at HEq HPd ⊢
  rw [hRR] at HEq ⊢
  obtain ⟨n, hn⟩ : ∃ n, vs.length = n := ⟨_, rfl⟩
  rw [hn] at HV hvm ⊢
  obtain ⟨M, hM⟩ : ∃ M, lkP vs = M := ⟨_, rfl⟩
  have HM := hide hM
  rw [hM] at HW HEq HPd
  have HAt := hide (fun (w' : World) (hb : Below w.heap.size w w') (a : Int) => l11AtP (HV.out.later hb) a)
  simp only [hM] at HAt
  have HNo : Hid (¬ (LmD M ∧ rfF (lmA M) = 0 ∧ hlP M (lmA M)) → P = false) := fun h => by
    cases hp : P with
    | false => rfl
    | true => exact absurd (HPd.out.2 hp) h
  clear hv hS hw hP hRR hn hM
  go_enter Tryz.func48, Tryz.ntmps48
  go_upto_region 1 with fail
  obtain ⟨W1, hW1⟩ : ∃ W1, w.alloc (.cells #[.int .i64 0, .int .i64 0, .int .i64 0, .int .i64 0, .slice none 0 0, .slice none 0 0] 33) = W1 := ⟨_, rfl⟩
  have hb1 : Below w.heap.size w W1 := by rw [← hW1]; exact below_alloc _ _
  have HR1 : Hid (RzI w W1) := ⟨hb1, by rw [← hW1]; exact Var6_new w _ _ _ _ _ _ _, fun o => by rw [← hW1]; simp [go_sem]⟩
  have hs1 : W1.heap.size = w.heap.size + 1 := by rw [← hW1]; simp
  rw [hW1]
  clear hW1 hb1
  obtain ⟨z2, hz2, hc2⟩ := HAt.out W1 HR1.out.below 2
  have hz2o := hz2
  obtain ⟨a2, c2, rfl⟩ := hz2.shape
  have HC2 := hide hc2
  have HZ2 := hide hz2
  have h64 := words_len (HW.out 2)
  obtain ⟨l2, hl2⟩ : ∃ l, (M 2).length = l := ⟨_, rfl⟩
  have HL2 := hide hl2
  rw [hl2] at HC2 HZ2 h64
  clear hz2 hz2o hc2 hl2
  go_wp2_with fail
  refine HC2.out.mono ?_
  rintro e w2 ⟨rfl, q2', hq2'⟩
  have hb2 : Below W1.heap.size W1 w2 := by rw [hq2']; exact below_drewN _ _
  have hs2 : w2.heap.size = w.heap.size + 1 := by rw [hq2']; simpa using hs1
  have HR2 := hide (HR1.out.later hb2)
  have HZ2b := hide (HZ2.out.later hb2)
  clear HC2 HR1 HZ2 hb2 hq2' hs1
  by_cases h5 : l2 = 5
  · subst h5
    have hM2 : (M 2).length = 5 := HL2.out
    obtain ⟨b2, o2, hab2, m0⟩ := HZ2b.out.at (k := 0) (by omega)
    subst hab2
    have key : ∀ k, k < 5 → w2.cell? ⟨b2, o2 + k, none⟩ = some (.int .i64 (ldN M k)) ∧ b2 < w.heap.size := fun k hk => by
      obtain ⟨b', o', e', q⟩ := HZ2b.out.at (k := k) (by omega)
      injection e' with e'
      injection e' with e1 e2
      subst e1 e2
      refine ⟨q, ?_⟩
      obtain ⟨ao, c, e3, _, e5⟩ := HZ2b.out
      obtain ⟨b9, o9, e6, e7, _⟩ := e5 (fun h => by rw [h] at hM2; simp at hM2)
      rw [e6] at e3
      injection e3 with e3
      injection e3 with e3
      injection e3 with e3
      rw [e3]
      exact HSb.out _ e7
    have hb2w := (key 0 (by omega)).2
    have HKey := hide (fun k hk => (key k hk).1)
    have m0 := (key 0 (by omega)).1
    have m1 := (key 1 (by omega)).1
    have m2 := (key 2 (by omega)).1
    have m3 := (key 3 (by omega)).1
    have m4 := (key 4 (by omega)).1
    simp only [Nat.add_zero] at m0
    clear key hM2
    have hW2 := words_at (HW.out 2)
    have hb22 : 0 ≤ ldN M 2 ∧ ldN M 2 ≤ 65535 := hW2 2
    have hb24 : 0 ≤ ldN M 4 ∧ ldN M 4 ≤ 65535 := hW2 4
    clear hW2
    obtain ⟨q0, hq0⟩ : ∃ q, ldN M 0 = q := ⟨_, rfl⟩
    obtain ⟨q1, hq1⟩ : ∃ q, ldN M 1 = q := ⟨_, rfl⟩
    obtain ⟨q2, hq2⟩ : ∃ q, ldN M 2 = q := ⟨_, rfl⟩
    obtain ⟨q3, hq3⟩ : ∃ q, ldN M 3 = q := ⟨_, rfl⟩
    obtain ⟨q4, hq4⟩ : ∃ q, ldN M 4 = q := ⟨_, rfl⟩
    have HQ : Hid (ldN M 0 = q0 ∧ ldN M 1 = q1 ∧ ldN M 2 = q2 ∧ ldN M 3 = q3 ∧ ldN M 4 = q4) := ⟨hq0, hq1, hq2, hq3, hq4⟩
    rw [hq0] at m0
    rw [hq1] at m1
    rw [hq2] at m2 hb22
    rw [hq3] at m3
    rw [hq4] at m4 hb24
    clear hq0 hq1 hq2 hq3 hq4
    go_upto_region 4 with fail
    go_region_held3 (fun w' => w'.cell? ⟨b2, o2, none⟩ = some (.int .i64 q0) ∧ w'.cell? ⟨b2, o2 + 1, none⟩ = some (.int .i64 q1) ∧ w'.cell? ⟨b2, o2 + 2, none⟩ = some (.int .i64 q2) ∧ w'.cell? ⟨b2, o2 + 3, none⟩ = some (.int .i64 q3)) (first | exact ⟨m0, m1, m2, m3⟩ | exact ⟨cell_later (below_drewN _ _) m0, cell_later (below_drewN _ _) m1, cell_later (below_drewN _ _) m2, cell_later (below_drewN _ _) m3⟩ | exact ⟨cell_later (below_on (below_drewN _ _) (below_alloc _ _)) m0, cell_later (below_on (below_drewN _ _) (below_alloc _ _)) m1, cell_later (below_on (below_drewN _ _) (below_alloc _ _)) m2, cell_later (below_on (below_drewN _ _) (below_alloc _ _)) m3⟩) (fail)
    obtain ⟨W3, hW3⟩ : ∃ W3, (w2.alloc (.cells #[.int .i64 q0, .int .i64 q1, .int .i64 q2, .int .i64 q3, .slice none 0 0, .slice none 0 0] 33)).drew = W3 := ⟨_, rfl⟩
    have hb3 : Below w2.heap.size w2 W3 := by rw [← hW3]; exact below_on (below_alloc _ _) (below_drewN _ 1)
    have hs3 : W3.heap.size = w.heap.size + 2 := by rw [← hW3]; simp; omega
    have HR3 := hide (HR2.out.later hb3)
    have HV3 : Hid (RvI w.heap.size (w.heap.size + 1) q0 q1 q2 q3 w W3 (.slice none 0 0) (.slice none 0 0)) := by
      refine ⟨HR3.out.below, HR3.out.r, HR3.out.rf, ?_, fun o => ?_, Nat.lt_succ_self _⟩
      · rw [← hs2, ← hW3]; exact (Var6_new w2 _ _ _ _ _ _ _).later (below_drewN _ 1)
      · rw [← hs2, ← hW3]; simp [go_sem]
    have HM4 : Hid (∀ W, Below w.heap.size w W → W.cell? ⟨b2, o2 + 4, none⟩ = some (.int .i64 q4)) := fun W hb => by
      have h1 := HR2.out.below
      have h2 : w2.cell? ⟨b2, o2 + 4, none⟩ = w.cell? ⟨b2, o2 + 4, none⟩ := h1.cell (p := ⟨b2, o2 + 4, none⟩) hb2w
      rw [m4] at h2
      exact (hb.cell (p := ⟨b2, o2 + 4, none⟩) hb2w).trans h2.symm
    rw [hW3]
    clear hW3 hb3 HZ2b HR2 m0 m1 m2 m3 m4 HKey HR3 h64
    -- the files
    obtain ⟨z1, hz1, hc1⟩ := HAt.out W3 HV3.out.below 1
    obtain ⟨a1, c1, rfl⟩ := hz1.shape
    have HC1 := hide hc1
    have HZ1 := hide hz1
    clear hz1 hc1
    go_wp2_with fail
    refine HC1.out.mono ?_
    rintro e w4 ⟨rfl, qq, hqq⟩
    have hb4 : Below W3.heap.size W3 w4 := by rw [hqq]; exact below_drewN _ _
    have HV4 := hide (HV3.out.later hb4)
    have HUn := hide (l8UnpackA (HZ1.out.later hb4) (HW.out 1))
    clear HC1 HZ1 HV3 hqq hb4
    go_wp2_with fail
    refine HUn.out.mono ?_
    rintro e w5 ⟨af, nf, cf, rfl, hb5, hrf⟩
    have HV5 := hide (HV4.out.later hb5)
    have HRf := hide hrf
    clear HUn HV4 hb5 hrf
    have m4 := HM4.out w5 HV5.out.below
    by_cases hd : udC (M 1) = 0
    · have hrd := HRf.out hd
      rw [decide_eq_true hd]
      by_cases h14 : q4 ≤ 14
      · have hn14 : ¬ (14 < q4) := by omega
        obtain ⟨fs, hfs⟩ : ∃ fs, udR (M 1) = fs := ⟨_, rfl⟩
        have HFs := hide hfs
        have hbk := (ld_blocks (HW.out 1)).2
        rw [hfs] at hrd hbk
        have hnl : fs.length = nf := by obtain ⟨_, _, e, _⟩ := hrd; injection e with _ e _; exact e.symm
        have hnm : nf ≤ 9223372036854775807 := by obtain ⟨_, _, _, e, _⟩ := hrd; omega
        have hbl := (ld_blocks (HW.out 1)).1
        rw [hfs] at hbl
        have HRd := hide hrd
        have HNl := hide hnl
        have HBk := hide hbk
        clear HRf hfs hrd hnl hbk
        go_upto_if 51 with fail
        obtain ⟨dn, hdn⟩ : ∃ dn, decide (0 < nf) = dn := ⟨_, rfl⟩
        rw [hdn]
        go_cut [] from 52 to 56 (fun wx => ∃ (ay : Option Addr) (ly cy : Nat), Hid (RvI w.heap.size (w.heap.size + 1) q0 q1 q2 q3 w wx (.slice ay ly cy) (.slice none 0 0)) ∧ Hid (OwI (w.heap.size + 2) wx (.slice ay ly cy) (lmS M)) ∧ Hid ((lmS M).length = ly))
        case first =>
          by_cases hn0 : nf = 0
          · have hdf : dn = false := by rw [← hdn]; simp [hn0]
            subst hdf
            have hl0 : lmS M = [] := by unfold lmS; rw [HFs.out, List.eq_nil_of_length_eq_zero (HNl.out.trans hn0)]
            have HL0 := hide hl0
            clear hl0 hdn
            go_wp2
            go_meet
            case rel => exact ⟨none, 0, 0, HV5.out, by rw [Hid, HL0.out]; exact OwI_nil _ _, by rw [Hid, HL0.out]; rfl⟩
          · have hdt : dn = true := by rw [← hdn]; simp; omega
            subst hdt
            have hpos : 0 < fs.length := by rw [HNl.out]; omega
            obtain ⟨b3, o3, rfl, hbS, hfp⟩ := HRd.out.fileS (k := 0) hpos
            simp only [Nat.zero_mul, Nat.add_zero] at hfp
            have hsp := blks_split hpos
            have hsub : ∀ x, x ∈ (fs.getD 0 oj0).2.2 → x ∈ blksF fs := fun x hx => by
              rw [hsp]; exact List.mem_append_right _ (List.mem_append_left _ hx)
            have hl64 : (fs.getD 0 oj0).2.2.length ≤ 64 := by
              have := congrArg List.length hsp
              simp only [List.length_append] at this
              omega
            have hlm : lmS M = (fs.getD 0 oj0).2.2.flatMap M := by
              unfold lmS
              rw [HFs.out]
              cases fs with
              | nil => simp at hpos
              | cons p r => rfl
            have hwp := l11WordsP (HV.out.later HV5.out.below) hfp hl64 (fun x _ => words_len (by rw [HM.out]; exact HW.out x))
            rw [HM.out, ← hlm] at hwp
            have HWp := hide hwp
            have hnp : (0 : Int) < (nf : Int) := by omega
            have hnp' : 0 < nf := by omega
            have hl5 : w.heap.size + 1 < w5.heap.size := HV5.out.v.lt
            clear hpos hbS hfp hsp hsub hl64 hlm hwp hdn
            go_wp2_with fail
            refine HWp.out.mono ?_
            rintro e w6 ⟨z6, rfl, hb6, ho6⟩
            obtain ⟨ay, cy, rfl⟩ := ho6.shape
            have HV6 := hide (HV5.out.later hb6)
            obtain ⟨ly, hly⟩ : ∃ l, (lmS M).length = l := ⟨_, rfl⟩
            have HLy := hide hly
            rw [hly] at ho6 ⊢
            have hset := set_ku (w := w6) (b := w.heap.size + 1) (o := 4) (x := .slice ay ly cy)
            have HV7 := hide (HV6.out.set4 (.slice ay ly cy))
            have HO7 := hide (OwI_kuD (OwI.low ho6 (show w.heap.size + 2 ≤ w5.heap.size by omega)) hset (fun b hb _ e => by omega))
            obtain ⟨t0, t1, t2, t3, t4, t5⟩ := HV6.out.v
            have f4 := HV6.out.fr 4
            clear hb6 ho6 hset HWp hly t0 t1 t2 t3 t5
            go_wp2
            go_meet
            case rel => exact ⟨ay, ly, cy, HV7.out, HO7.out, HLy.out⟩
        case rest =>
          clear hdn
          obtain ⟨ay, ly, cy, HVc, HOy, HLy⟩ := hcut
          rename World => wc
          obtain ⟨K, hK⟩ : ∃ K : Nat, q4 = (K : Int) := ⟨q4.toNat, by omega⟩
          subst hK
          have hK14 : K ≤ 14 := by omega
          have hLK : (lmL M).length = K := by rw [lmL_len, HQ.out.2.2.2.2]; omega
          have HLK := hide hLK
          have HLat : Hid (∀ i, i < K → (lmL M).getD i oj0 = enO (lmW M i)) := fun i hi => lmL_at (by rw [HQ.out.2.2.2.2]; omega)
          have HBn : Hid (BuiltEn (wc.heap.size ≤ ·) wc (.slice none 0 0) 0 (lmL M)) := BuiltEn.nil _ _ _
          obtain ⟨i1, hi', hz0', hz1', hz2'⟩ := info_parts Tryz.infoEn
          have hlc : w.heap.size + 1 < wc.heap.size := HVc.out.v.lt
          clear hLK HV5 HRd HBk HNl HFs hbl hnm m4
          go_wp2_with fail
          go_loopw [8] (fun i wr => ∃ (k : Nat) (z : Value), k ≤ K ∧ i = .int .i64 ((k : Int) + 1) ∧ Hid (RvI w.heap.size (w.heap.size + 1) q0 q1 q2 q3 w wr (.slice ay ly cy) z) ∧ Hid (Ku (fun b => b = w.heap.size + 1 ∨ wc.heap.size ≤ b) wc wr) ∧ Hid (BuiltEn (wc.heap.size ≤ ·) wr z k (lmL M)) ∧ Hid (∀ j, j < k → ueC (lmW M j) = 0)) (fun i _ => K + 1 - (intOf i).toNat)
          case atStart => exact ⟨0, _, Nat.zero_le _, rfl, HVc.out, Ku.refl _ _, HBn.out, fun j hj => absurd hj (Nat.not_lt_zero _)⟩
          case round =>
            clear HVc HBn
            obtain ⟨k, z, hk, rfl, HVr, HKu, HBu, HUe⟩ := hrel
            have m4 := HM4.out wr HVr.out.below
            by_cases hlt : k < K
            · have hi1 : (k : Int) + 1 ≤ (K : Int) := by omega
              obtain ⟨v0, v1, v2, v3, v4, v5⟩ := HVr.out.v
              have e1 : IntKind.i64.wrap (q2 + ((k : Int) + 1)) = q2 + ((k : Int) + 1) := by simp [IntKind.wrap, IntKind.bits, IntKind.signed]; omega
              have hlw : lmW M k = M (24 + (q2 + ((k : Int) + 1)) % 14) := by
                unfold lmW
                rw [HQ.out.2.2.1]
                congr 2
                omega
              obtain ⟨aa, haa⟩ : ∃ x, 24 + (q2 + ((k : Int) + 1)) % 14 = x := ⟨_, rfl⟩
              rw [haa] at hlw
              have HLw := hide hlw
              have HAa := hide haa
              obtain ⟨z3, hz3, hc3⟩ := HAt.out wr HVr.out.below aa
              obtain ⟨a3, c3, rfl⟩ := hz3.shape
              have h64 := words_len (HW.out aa)
              have hww := HW.out aa
              obtain ⟨ws, hws⟩ : ∃ ws, M aa = ws := ⟨_, rfl⟩
              rw [hws] at hz3 hc3 h64 hlw hww
              have HLw2 := hide hlw
              have HC3 := hide hc3
              have HZ3 := hide hz3
              have HWw := hide hww
              obtain ⟨l3, hl3⟩ : ∃ l, ws.length = l := ⟨_, rfl⟩
              rw [hl3] at HC3 HZ3
              have H64 := hide h64
              clear v0 v1 v3 v4 v5 haa hz3 hc3 hws hl3 h64 hww hlw HLw
              go_wp2_with fail
              refine (l9Slot (q2 + ((k : Int) + 1)) (by omega) wr).mono ?_
              rintro e w5' ⟨he5, hw5'⟩
              rw [HAa.out] at he5
              subst he5
              have hw5'' := hw5'.symm
              clear hw5'
              subst hw5''
              go_wp2_with fail
              refine HC3.out.mono ?_
              rintro e w6 ⟨rfl, q6, hq6⟩
              have hb6 : Below wr.heap.size wr w6 := by rw [hq6]; exact below_drewN _ _
              have HV6 := hide (HVr.out.later hb6)
              have HKu6 := hide (HKu.out.trans (Ku.of_below hb6))
              have HBu6 := hide (HBu.out.later hb6)
              have HUn := hide (l9Unpack (HZ3.out.later hb6) H64.out)
              clear HC3 HZ3 hb6 hq6 HVr HKu HBu v2 m4
              go_wp2_with fail
              refine HUn.out.mono ?_
              rintro e w7 ⟨hb7, hend⟩
              have HV7 := hide (HV6.out.later hb7)
              have HKu7 := hide (HKu6.out.trans (Ku.of_below hb7))
              have HB7 := hide hb7
              clear HUn HV6 hb7
              rcases hend with ⟨heb, z8, rfl, ho8⟩ | ⟨hneb, x8, y8, A8, n8, c8, rfl⟩
              · obtain ⟨a8, c8, rfl⟩ := ho8.shape
                have hue : ueC (lmW M k) = 0 := by rw [HLw2.out]; exact (ue_en HWw.out).2 heb
                obtain ⟨en, hen⟩ : ∃ e, enO ws = e := ⟨_, rfl⟩
                have hat0 := HLat.out k hlt
                rw [HLw2.out, hen] at hat0
                have HAt0 := hide hat0
                rw [hen] at ho8 ⊢
                have HO8 := hide ho8
                have HUe8 : Hid (∀ j, j < k + 1 → ueC (lmW M j) = 0) := fun j hj => by
                  rcases Nat.lt_or_ge j k with h | h
                  · exact HUe.out j h
                  · obtain rfl : j = k := by omega
                    exact hue
                obtain ⟨l8, hl8⟩ : ∃ l, en.2.2.length = l := ⟨_, rfl⟩
                have HL8 := hide hl8
                rw [hl8] at HO8 ⊢
                clear heb ho8 hue hen hat0 hl8 HUe
                go_upto_region 14 with fail
                obtain ⟨W8, hW8⟩ : ∃ W8, w7.alloc (.cells #[.int .i64 en.1, .int .i64 en.2.1, .slice a8 l8 c8] 110) = W8 := ⟨_, rfl⟩
                have hb8 : Below w7.heap.size w7 W8 := by rw [← hW8]; exact below_alloc _ _
                have e0 : W8.cell? ⟨w7.heap.size, 0, none⟩ = some (.int .i64 en.1) := by rw [← hW8]; simp [go_sem]
                have e1' : W8.cell? ⟨w7.heap.size, 1, none⟩ = some (.int .i64 en.2.1) := by rw [← hW8]; simp [go_sem]
                have e2' : W8.cell? ⟨w7.heap.size, 2, none⟩ = some (.slice a8 l8 c8) := by rw [← hW8]; simp [go_sem]
                have HV8 := hide (HV7.out.later hb8)
                have HKu8 := hide (HKu7.out.trans (Ku.of_below hb8))
                have HB8 := hide hb8
                obtain ⟨az2, cz2, rfl⟩ := HBu6.out.shape
                obtain ⟨V, Bk, hrow, hpr, hin⟩ := HBu6.out
                have HRowz := hide hrow
                have HPr := hide hpr
                have HIn := hide hin
                obtain ⟨v0, v1, v2, v3, v4, v5⟩ := HV8.out.v
                have f5 := HV8.out.fr 5
                have hKz := HKu6.out.size
                have hs9 : (W8.alloc (.cells #[.int .i64 en.1, .int .i64 en.2.1, .slice a8 l8 c8] 110)).heap.size = W8.heap.size + 1 := by simp
                have HRow9 := hide (ownsRow_later hrow (below_on (below_on HB7.out HB8.out) (below_alloc W8 (.cells #[.int .i64 en.1, .int .i64 en.2.1, .slice a8 l8 c8] 110))))
                rw [hW8]
                clear hW8 hb8 hrow hpr hin v0 v1 v2 v3 v4 HV7 HKu7
                go_wp2_with (at_builtin; refine wpList_append_lies _ rfl _ _ _ rfl 0 110 i1 (.agg #[.int .i64 0, .int .i64 0, .slice none 0 0]) 3 40 Tryz.underlying31 hi' hz0' hz1' hz2' rfl (by omega) _ k _ (by rfl) HRow9.out ⟨W8.heap.size, 0, none⟩ 1 1 [.int .i64 en.1, .int .i64 en.2.1, .slice a8 l8 c8] (by rfl) (by rfl) (World.news_of_block (cs := #[.int .i64 en.1, .int .i64 en.2.1, .slice a8 l8 c8]) (t := 110) (fr := (0, 0)) (heap_alloc_new W8 _)) cellsEn_one (by omega) (by unfold maxLen; omega) (by omega) (Nat.zero_le _) (W8.heap.size + 1) (by simp) ?_; intro g cap w9 hown hgrow hat hlt9; have hk9 := (Ku.of_below (D := fun b => (Value.slice az2 k cz2).ownBlock = some b) (below_alloc W8 (.cells #[.int .i64 en.1, .int .i64 en.2.1, .slice a8 l8 c8] 110))).trans (Ku.of_grown hgrow); have hv9 := HV8.out.ku hk9 (fun b hb => by have := HPr.out b hb; omega); obtain ⟨t0, t1, t2, t3, t4, t5⟩ := hv9.v; have g5 := hv9.fr 5; clear t0 t1 t2 t3 t4)
                have hset := set_ku (w := w9) (b := w.heap.size + 1) (o := 5) (x := .slice (some ⟨g, 0, none⟩) (k + 1) cap)
                exact ⟨⟨k + 1, _, hlt, by go_num, hv9.set5 (.slice (some ⟨g, 0, none⟩) (k + 1) cap), (HKu8.out.trans (hk9.mono (fun b hb => .inr (HPr.out b hb)))).trans (hset.mono (fun b hb => .inl hb)), (BuiltEn.step (P' := (wc.heap.size ≤ ·)) HIn.out HRowz.out HPr.out (fun _ h => h) (fun b hb => Nat.le_trans hKz hb) HB7.out (by rw [HAt0.out]; exact HO8.out) (below_on HB8.out (below_alloc W8 (.cells #[.int .i64 en.1, .int .i64 en.2.1, .slice a8 l8 c8] 110))) (by rw [HAt0.out]; exact hown) hgrow (by simpa using hat)).ku hset (fun b hb e => by omega), HUe8.out⟩, by simp [intOf]; omega⟩
              · go_upto_region 14 with fail
                obtain ⟨W8, hW8⟩ : ∃ W8, w7.alloc (.cells #[.int .i64 x8, .int .i64 y8, .slice A8 n8 c8] 110) = W8 := ⟨_, rfl⟩
                have hb8 : Below w7.heap.size w7 W8 := by rw [← hW8]; exact below_alloc _ _
                have HV8 := hide (HV7.out.later hb8)
                rw [hW8]
                clear hW8 hb8 HV7 HKu7 HB7 HKu6 HBu6
                obtain ⟨r0, r1, r2, r3, r4, r5⟩ := HV8.out.r
                have F := HV8.out.rf
                have f0 := F 0
                have f1 := F 1
                have f2 := F 2
                have f3 := F 3
                have f4 := F 4
                have f5 := F 5
                clear F
                have HBe := hide HV8.out.below
                have HPf := hide (HNo.out fun h => hneb ((ue_en HWw.out).1 (by have := h.1.each k (by rw [HQ.out.2.2.2.2]; omega); rw [HLw2.out] at this; exact this)))
                go_wp2
                refine bodyPost_ret (v := .tuple #[.agg #[.int .i64 0, .int .i64 0, .int .i64 0, .int .i64 0, .slice none 0 0, .slice none 0 0], .bool false]) (by simp [results, Tryz.results48, go_sem, r0, r1, r2, r3, r4, r5]) rfl ⟨?_, .inr ⟨HPf.out, rfl⟩⟩
                exact below_zero6 HBe.out
            · have hkK : k = K := by omega
              subst hkK
              have hnl : ¬ (k : Int) + 1 ≤ (k : Int) := by omega
              have hLm : (lmL M).length = k := HLK.out
              have HD := hide (show LmD M from ⟨HL2.out, hd, by rw [HQ.out.2.2.2.2]; omega, fun i hi => HUe.out i (by rw [HQ.out.2.2.2.2] at hi; omega)⟩)
              have hy9 := OwI_kuD HOy.out HKu.out (fun b h1 h2 e => by omega)
              have hz9 := HBu.out.ow hLm (by omega)
              obtain ⟨r, hr⟩ : ∃ r, lmA M = r := ⟨_, rfl⟩
              have HR := hide hr
              have et : q0 = r.tm := by rw [← hr]; exact HQ.out.1.symm
              have ev : q1 = r.vt := by rw [← hr]; exact HQ.out.2.1.symm
              have ei : q2 = r.si := by rw [← hr]; exact HQ.out.2.2.1.symm
              have es : q3 = r.st := by rw [← hr]; exact HQ.out.2.2.2.1.symm
              have esn : lmS M = r.sn := by rw [← hr]; rfl
              have elg : lmL M = r.lg := by rw [← hr]; rfl
              have hvv := HVr.out
              have hv6 := HVr.out.v
              rw [et, ev, ei, es] at hv6 hvv
              rw [esn] at hy9
              rw [elg] at hz9 hLm
              have HVR := hide hvv
              have hoy := HOy.out
              rw [esn] at hoy
              have hiv := IvR_twoI hoy HKu.out (fun b h1 h2 e => by omega) (by omega) hz9
              have HIv := hide hiv
              clear hoy hiv
              have HY9 := hide hy9
              have HZ9 := hide hz9
              have hyr : RdI (fun b => w.heap.size + 2 ≤ b ∧ b < wr.heap.size) wr (.slice ay ly cy) r.sn := by
                obtain ⟨g, r1, o1⟩ := hy9
                exact r1.narrow fun hne b hb => by
                  have hb' : b = g := hb
                  subst hb'
                  exact ⟨(o1 hne).1, (o1 hne).2.1⟩
              have HFa := hide (l10Fault r hv6 hyr hz9.rd)
              have HYr := hide hyr
              obtain ⟨az2, cz2, hzz⟩ := hz9.shape
              subst hzz
              obtain ⟨lz, hlz⟩ : ∃ l, r.lg.length = l := ⟨_, rfl⟩
              rw [hlz] at HVR HZ9 HIv
              clear hvv hv6 hy9 hz9 hyr hr et ev ei es esn elg HVr HBu HUe HLat HQ
              by_cases hf : rfF r = 0
              · rw [hf] at HFa
                go_wp2_with fail
                refine HFa.out.mono ?_
                rintro e w10 ⟨rfl, hb10⟩
                have HV10 := hide (HVR.out.later hb10)
                have HIm := hide (l11ImageQ r HV10.out.v (HYr.out.later hb10) (HZ9.out.rd.later hb10) hf)
                have HB10 := hide hb10
                clear hb10 HFa
                go_wp2_with fail
                refine HIm.out.mono ?_
                rintro e w11 ⟨u, rfl, hb11, hou⟩
                have hud := hou.rd
                obtain ⟨au, cu, hu, _⟩ := hud.shape
                subst hu
                have HV11 := hide (HV10.out.later hb11)
                have HUd := hide hud
                have HB11 := hide (below_on HB10.out hb11)
                obtain ⟨nu, hnu⟩ : ∃ l, (imP r).length = l := ⟨_, rfl⟩
                rw [hnu] at HUd ⊢
                clear hb11 hou hud HIm HV10 HB10 hnu
                go_wp2_with fail
                have hS11 := HV11.out.below.size
                go_loopw [12] (fun a w2 => ∃ k2 : Nat, k2 ≤ 40 ∧ a = .int .i64 (k2 : Int) ∧ Hid (Below w11.heap.size w11 w2) ∧ Hid (∀ j : Nat, j < k2 → okAt M r (j : Int))) (fun a _ => 40 - (intOf a).toNat)
                case atStart => exact ⟨0, Nat.zero_le _, rfl, Below.refl _ _, fun j hj => absurd hj (Nat.not_lt_zero _)⟩
                case round =>
                  obtain ⟨k2, hk2, rfl, HB12, HOk⟩ := hrel
                  rename World => w2b
                  by_cases hlt2 : k2 < 40
                  · have hk2i : (k2 : Int) < 40 := by omega
                    have hk20 : (0 : Int) ≤ (k2 : Int) := by omega
                    obtain ⟨z5, hz5, hc5⟩ := l11AtP (HUd.out.later HB12.out) (k2 : Int)
                    obtain ⟨a5, c5, rfl⟩ := hz5.shape
                    have HC5 := hide hc5
                    have HZ5 := hide hz5
                    have HNil : Hid (lkP (imP r) (k2 : Int) = [] ↔ (lkP (imP r) (k2 : Int)).length = 0) := List.length_eq_zero_iff.symm
                    obtain ⟨mm, hmm⟩ : ∃ mm, lkP (imP r) (k2 : Int) = mm := ⟨_, rfl⟩
                    have HMm := hide hmm
                    rw [hmm] at HC5 HZ5 HNil
                    obtain ⟨l5, hl5⟩ : ∃ l, mm.length = l := ⟨_, rfl⟩
                    rw [hl5] at HC5 HZ5 HNil
                    clear hz5 hc5 hmm hl5
                    go_wp2_with fail
                    refine HC5.out.mono ?_
                    rintro e w13 ⟨rfl, q13, hq13⟩
                    have hb13 : Below w2b.heap.size w2b w13 := by rw [hq13]; exact below_drewN _ _
                    have HB13 := hide (below_on HB12.out hb13)
                    have HZ13 := hide (HZ5.out.later hb13)
                    clear hq13 hb13 HC5 HZ5 HB12
                    go_upto_region 24 with fail
                    go_cut [14] from 95 to 109 (fun x wx => Hid (x = .bool (decide (mm = [] ∧ psB (k2 : Int)))) ∧ Hid (wx = w13))
                    case first =>
                      by_cases hl0 : l5 = 0
                      · subst hl0
                        have hmn : mm = [] := HNil.out.2 (by first | rfl | trivial)
                        have HMn := hide hmn
                        clear hmn
                        by_cases h24 : 24 ≤ (k2 : Int)
                        · by_cases h38 : (k2 : Int) < 38
                          · go_wp2
                            go_meet
                            case rel => exact ⟨by rw [Hid]; congr 1; exact (decide_eq_true ⟨HMn.out, Or.inl ⟨h24, h38⟩⟩).symm, rfl⟩
                          · have hps : Hid (inBq (k2 : Int) 3 22 = decide (mm = [] ∧ psB (k2 : Int))) := by
                              unfold Hid inBq psB
                              rw [HMn.out]
                              simp only [true_and]
                              congr 1
                              apply propext
                              omega
                            go_wp2_with (go_at_call 63; refine (l1InB _ _ _ _).mono ?_; rintro e w' ⟨rfl, hw'⟩; subst hw')
                            go_meet
                            case rel => exact ⟨by rw [Hid, ← hps.out], rfl⟩
                        · have hps : Hid (inBq (k2 : Int) 3 22 = decide (mm = [] ∧ psB (k2 : Int))) := by
                            unfold Hid inBq psB
                            rw [HMn.out]
                            simp only [true_and]
                            congr 1
                            apply propext
                            omega
                          go_wp2_with (go_at_call 63; refine (l1InB _ _ _ _).mono ?_; rintro e w' ⟨rfl, hw'⟩; subst hw')
                          go_meet
                          case rel => exact ⟨by rw [Hid, ← hps.out], rfl⟩
                      · have hmn : mm ≠ [] := fun h => hl0 (HNil.out.1 h)
                        have HMn := hide hmn
                        clear hmn
                        have hl0i : ¬ ((l5 : Int) = 0) := by omega
                        go_wp2
                        go_meet
                        case rel => exact ⟨by rw [Hid]; congr 1; exact (decide_eq_false fun h => HMn.out h.1).symm, rfl⟩
                    case rest =>
                      obtain ⟨hx, hwc⟩ := hcut
                      obtain rfl := hx.out
                      obtain rfl := hwc.out
                      clear hx hwc
                      by_cases hid : mm = [] ∧ psB (k2 : Int)
                      · rw [decide_eq_true hid]
                        have hok : ∀ j : Nat, j < k2 + 1 → okAt M r (j : Int) := fun j hj => by
                          rcases Nat.lt_or_ge j k2 with h | h
                          · exact HOk.out j h
                          · obtain rfl : j = k2 := by omega
                            exact .inl ⟨by rw [HMm.out]; exact hid.1, hid.2⟩
                        have HOk2 := hide hok
                        clear hid hok HOk HZ13
                        go_wp2
                        go_roundw
                        case rel => exact ⟨k2 + 1, hlt2, by go_num, HB13.out, HOk2.out⟩
                        case measure => simp [intOf]; omega
                      · rw [decide_eq_false hid]
                        obtain ⟨z6, hz6, hc6⟩ := HAt.out _ (below_on HV11.out.below HB13.out) (k2 : Int)
                        obtain ⟨a6, c6, rfl⟩ := hz6.shape
                        have HC6 := hide hc6
                        have HZ6 := hide hz6
                        obtain ⟨ws6, hws6⟩ : ∃ x, M (k2 : Int) = x := ⟨_, rfl⟩
                        have HWs6 := hide hws6
                        rw [hws6] at HC6 HZ6
                        obtain ⟨l6, hl6⟩ : ∃ l, ws6.length = l := ⟨_, rfl⟩
                        rw [hl6] at HC6 HZ6
                        clear hz6 hc6 hws6 hl6
                        go_wp2_with fail
                        refine HC6.out.mono ?_
                        rintro e w14 ⟨rfl, q14, hq14⟩
                        have hb14 : Below wc.heap.size wc w14 := by rw [hq14]; exact below_drewN _ _
                        have HB14 := hide (below_on HB13.out hb14)
                        have HSm := hide (l2SameR (HZ13.out.later hb14) (HZ6.out.later hb14))
                        clear hq14 hb14 HC6 HZ6 HZ13 HB13
                        by_cases hsm : mm = ws6
                        · rw [decide_eq_true hsm] at HSm
                          have hok : ∀ j : Nat, j < k2 + 1 → okAt M r (j : Int) := fun j hj => by
                            rcases Nat.lt_or_ge j k2 with h | h
                            · exact HOk.out j h
                            · obtain rfl : j = k2 := by omega
                              exact .inr (by rw [HMm.out, HWs6.out]; exact hsm)
                          have HOk2 := hide hok
                          clear hsm hok HOk
                          go_wp2_with fail
                          refine HSm.out.mono ?_
                          rintro e w15 ⟨rfl, q15, hq15⟩
                          have hb15 : Below w14.heap.size w14 w15 := by rw [hq15]; exact below_drewN _ _
                          have HB15 := hide (below_on HB14.out hb15)
                          clear hq15 hb15 HB14
                          go_wp2
                          go_roundw
                          case rel => exact ⟨k2 + 1, hlt2, by go_num, HB15.out, HOk2.out⟩
                          case measure => simp [intOf]; omega
                        · rw [decide_eq_false hsm] at HSm
                          have hPf := HNo.out fun h => by
                            have h9 := h.2.2
                            rw [HR.out] at h9
                            rcases (ok_all hf).2 h9 k2 hlt2 with h1 | h1
                            · rw [HMm.out] at h1; exact hid h1
                            · rw [HMm.out, HWs6.out] at h1; exact hsm h1
                          have HPf0 := hide hPf
                          clear hPf hid hsm
                          go_wp2_with fail
                          refine HSm.out.mono ?_
                          rintro e w15 ⟨rfl, q15, hq15⟩
                          have hb15 : Below w14.heap.size w14 w15 := by rw [hq15]; exact below_drewN _ _
                          have HV15 := hide (HV11.out.later (below_on HB14.out hb15))
                          clear hq15 hb15 HB14
                          obtain ⟨r0, r1, r2, r3, r4, r5⟩ := HV15.out.r
                          have F := HV15.out.rf
                          have f0 := F 0
                          have f1 := F 1
                          have f2 := F 2
                          have f3 := F 3
                          have f4 := F 4
                          have f5 := F 5
                          clear F
                          have HBe := hide HV15.out.below
                          have HPf := hide HPf0.out
                          go_wp2
                          refine bodyPost_ret (v := .tuple #[.agg #[.int .i64 0, .int .i64 0, .int .i64 0, .int .i64 0, .slice none 0 0, .slice none 0 0], .bool false]) (by simp [results, Tryz.results48, go_sem, r0, r1, r2, r3, r4, r5]) rfl ⟨?_, .inr ⟨HPf.out, rfl⟩⟩
                          exact below_zero6 HBe.out
                  · have hkk : k2 = 40 := by omega
                    subst hkk
                    have hPt := HPd.out.1 ⟨HD.out, by rw [HR.out]; exact hf, by rw [HR.out]; exact (ok_all hf).1 (fun a ha => HOk.out a ha)⟩
                    have hrr := HEq.out hPt
                    rw [HR.out] at hrr
                    have HPt := hide hPt
                    subst hrr
                    have HV12 := hide (HV11.out.later HB12.out)
                    have HI12 := hide (IvR.up ((HIv.out.later (below_on HB11.out HB12.out))) (Nat.le_refl _) (by have := (below_on HB11.out HB12.out).size; exact this))
                    obtain ⟨v0, v1, v2, v3, v4, v5⟩ := HV12.out.v
                    obtain ⟨r0, r1, r2, r3, r4, r5⟩ := HV12.out.r
                    have F := HV12.out.rf
                    have f0 := F 0
                    have f1 := F 1
                    have f2 := F 2
                    have f3 := F 3
                    have f4 := F 4
                    have f5 := F 5
                    clear F
                    have HFn := hide (ret_raft6 (x0 := .int .i64 r.tm) (x1 := .int .i64 r.vt) (x2 := .int .i64 r.si) (x3 := .int .i64 r.st) HV12.out.below (Nat.le_refl _) HI12.out (by omega))
                    clear HV12 HI12 HIv HV11 HOk HPd hPt
                    go_wp2
                    refine bodyPost_ret (v := .tuple #[.agg #[.int .i64 r.tm, .int .i64 r.vt, .int .i64 r.si, .int .i64 r.st, .slice ay ly cy, .slice az2 lz cz2], .bool true]) (by simp [results, Tryz.results48, go_sem, r0, r1, r2, r3, r4, r5]) rfl ⟨HFn.out.1, .inl ⟨HPt.out, _, _, rfl, HFn.out.2⟩⟩
              · have hfb : (rfF r != 0) = true := by simpa using hf
                have hPf := HNo.out fun h => hf (by rw [← HR.out]; exact h.2.1)
                have HPf0 := hide hPf
                obtain ⟨X, hX⟩ : ∃ X, rfF r = X := ⟨_, rfl⟩
                rw [hX] at HFa hf hfb
                clear hX hPf
                go_wp2_with fail
                refine HFa.out.mono ?_
                rintro e w10 ⟨rfl, hb10⟩
                have HV10 := hide (HVR.out.later hb10)
                clear hb10 HFa
                obtain ⟨r0, r1, r2, r3, r4, r5⟩ := HV10.out.r
                have F := HV10.out.rf
                have f0 := F 0
                have f1 := F 1
                have f2 := F 2
                have f3 := F 3
                have f4 := F 4
                have f5 := F 5
                clear F
                have HBe := hide HV10.out.below
                have HPf := hide HPf0.out
                go_wp2
                refine bodyPost_ret (v := .tuple #[.agg #[.int .i64 0, .int .i64 0, .int .i64 0, .int .i64 0, .slice none 0 0, .slice none 0 0], .bool false]) (by simp [results, Tryz.results48, go_sem, r0, r1, r2, r3, r4, r5]) rfl ⟨?_, .inr ⟨HPf.out, rfl⟩⟩
                exact below_zero6 HBe.out
      · have h14b : 14 < q4 := by omega
        obtain ⟨r0, r1, r2, r3, r4, r5⟩ := HV5.out.r
        have F := HV5.out.rf
        have f0 := F 0
        have f1 := F 1
        have f2 := F 2
        have f3 := F 3
        have f4 := F 4
        have f5 := F 5
        clear F
        have HBe := hide HV5.out.below
        have HPf := hide (HNo.out fun h => h14 (by have := h.1.most; rw [HQ.out.2.2.2.2] at this; exact this))
        go_wp2
        refine bodyPost_ret (v := .tuple #[.agg #[.int .i64 0, .int .i64 0, .int .i64 0, .int .i64 0, .slice none 0 0, .slice none 0 0], .bool false]) (by simp [results, Tryz.results48, go_sem, r0, r1, r2, r3, r4, r5]) rfl ⟨?_, .inr ⟨HPf.out, rfl⟩⟩
        exact below_zero6 HBe.out
    · rw [decide_eq_false hd]
      obtain ⟨r0, r1, r2, r3, r4, r5⟩ := HV5.out.r
      have F := HV5.out.rf
      have f0 := F 0
      have f1 := F 1
      have f2 := F 2
      have f3 := F 3
      have f4 := F 4
      have f5 := F 5
      clear F
      have HBe := hide HV5.out.below
      have HPf := hide (HNo.out fun h => hd h.1.dir)
      go_wp2
      refine bodyPost_ret (v := .tuple #[.agg #[.int .i64 0, .int .i64 0, .int .i64 0, .int .i64 0, .slice none 0 0, .slice none 0 0], .bool false]) (by simp [results, Tryz.results48, go_sem, r0, r1, r2, r3, r4, r5]) rfl ⟨?_, .inr ⟨HPf.out, rfl⟩⟩
      exact below_zero6 HBe.out
  · have h5b : ¬ (l2 : Int) = 5 := by omega
    obtain ⟨r0, r1, r2, r3, r4, r5⟩ := HR2.out.r
    have F := HR2.out.rf
    have f0 := F 0
    have f1 := F 1
    have f2 := F 2
    have f3 := F 3
    have f4 := F 4
    have f5 := F 5
    clear F
    have HBe := hide HR2.out.below
    have HPf := hide (HNo.out fun h => h5 (by have := h.1.len; rw [HL2.out] at this; exact this))
    go_wp2
    refine bodyPost_ret (v := .tuple #[.agg #[.int .i64 0, .int .i64 0, .int .i64 0, .int .i64 0, .slice none 0 0, .slice none 0 0], .bool false]) (by simp [results, Tryz.results48, go_sem, r0, r1, r2, r3, r4, r5]) rfl ⟨?_, .inr ⟨HPf.out, rfl⟩⟩
    exact below_zero6 HBe.out
end Go.Proofs.YtlmaopljihbdkaaGreat
