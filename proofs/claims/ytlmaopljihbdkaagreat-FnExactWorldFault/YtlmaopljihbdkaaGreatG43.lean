/- Im5 Df4 in one text: what each says stands at its head below. -/
import Derived.Test.YtlmaopljihbdkaaGreatG42
import Derived.Test.YtlmaopljihbdkaaGreatG41
import Derived.Test.YtlmaopljihbdkaaGreatG13
import Derived.Test.YtlmaopljihbdkaaGreatG40
import Derived.Test.YtlmaopljihbdkaaGreatG17
import Derived.Deep.CutRange
import Derived.Deep.RegionHeld3
import Derived.Deep.RegionLaw
import Derived.Test.YtlmaopljihbdkaaGreatG20
namespace Go.Proofs.YtlmaopljihbdkaaGreat
open Go.RowKit
set_option maxHeartbeats 8000000 in
set_option maxRecDepth 4000 in
theorem l11ImageP {S T : Nat → Prop} {w : World} {bk : Nat} {y z : Value} (r : Rf) (hv : Var6 w bk (.int .i64 r.tm) (.int .i64 r.vt) (.int .i64 r.si) (.int .i64 r.st) y z) (hy : RdI S w y r.sn) (hz : RdJ T w z r.lg) (h : rfF r = 0) :
    Calls Tryz.prog 32 #[.pointer (some ⟨bk, 0, none⟩)] w fun e w' => ∃ v, e = .returned v ∧ Below w.heap.size w w' ∧ OwP (fun b => w.heap.size ≤ b ∧ b < w'.heap.size) w' v (viewTo (lkP (stP r)) 40) := by
  have hcy := hy.capW
  obtain ⟨ay, cy, rfl⟩ := hy.shape
  obtain ⟨az, cz, rfl, _⟩ := hz.shape
  obtain ⟨i0, hi, hz0, hz1, hz2⟩ := info_parts Tryz.infoPut
  have hl := rf_words h
  have hlg := (logF_iff.1 (rfF_iff.1 h).lo).1
  have HLg := hide (logF_iff.1 (rfF_iff.1 h).lo).2.1
  have hbk : bk < w.heap.size := hv.lt
  have HV := hide hv
  have HFile := hide (fun (w' : World) (hb : Below w.heap.size w w') => l11FileP r (hv.later hb) (hy.later hb) hl)
  have HSnap := hide (fun (w' : World) (hb : Below w.heap.size w w') => l11SnapP r (hv.later hb) (hy.later hb) hl hcy)
  have HZ := hide hz
  have HAp := hide (st_apply h)
  have HLen := hide (st_length r)
  have HRoom := hide (fun x hx => sb_room (r := r) hl (a := x) hx)
  have HFil := hide (sf_fil r hl)
  have HTwo := hide (@fl_two r h)
  have HNone := hide (@fl_none r)
  have HA1 := hide (st_at1 r)
  have HA2 := hide (st_at2 r)
  have HA3 := hide (st_at3 r)
  have HA4 := hide (st_at4 r)
  have hns : (snP r).length ≤ 5 := by rw [snP_len]; exact (sbL_some hl).1
  have hnf : (flP r).length ≤ 2 := by unfold flP; split <;> simp
  obtain ⟨nf, hnfe⟩ : ∃ n, (flP r).length = n := ⟨_, rfl⟩
  obtain ⟨ns, hnse⟩ : ∃ n, (snP r).length = n := ⟨_, rfl⟩
  rw [hnfe] at HLen HA1 HA2 HA3 HA4 hnf
  rw [hnse] at HLen HA3 HA4 hns
  have HNf := hide hnfe
  have HNs := hide hnse
  obtain ⟨P, hP⟩ : ∃ P, stP r = P := ⟨_, rfl⟩
  rw [hP] at HAp HLen HA1 HA2 HA3 HA4 ⊢
  clear hv hy hz hcy hnfe hnse hP h hl
  go_enter Tryz.func32, Tryz.ntmps32
  go_wp2_with fail
  refine (HFile.out _ (below_alloc _ _)).mono ?_
  rintro e w1 ⟨f1, rfl, hb1, ho1⟩
  have hrd := ho1.rd
  have HB1 := hide (below_on (below_alloc w (.cells #[] 74)) hb1)
  have hs1 : w.heap.size + 1 ≤ w1.heap.size := by have := hb1.size; simpa using this
  have HE := hide ((BuiltP.empty w (w.heap.size ≤ ·) (Nat.le_refl _) P).later hb1)
  have HRd := hide hrd
  obtain ⟨a1, c1, hf1, _⟩ := hrd.shape
  obtain ⟨n1, hn1⟩ : ∃ n, (sfL r).length = n := ⟨_, rfl⟩
  rw [hn1] at hf1
  have HN1 := hide hn1
  subst hf1
  clear ho1 hrd hb1 HFile hn1
  go_upto_if 11 with fail
  go_cut [3] from 12 to 23 (fun x wx => ∃ (av : Option Addr) (cv : Nat), x = .slice av nf cv ∧ Hid (BuiltP (w.heap.size ≤ ·) wx (.slice av nf cv) nf P) ∧ Hid (Below w.heap.size w wx))
  case first =>
    by_cases h0 : r.si = 0
    · obtain ⟨e1, e2, _⟩ := HNone.out h0
      have hn0 : n1 = 0 := by rw [← HN1.out, e1]; rfl
      have hf0 : nf = 0 := by rw [← HNf.out, e2]; rfl
      subst hn0 hf0
      go_wp2
      go_meet
      case rel => exact ⟨_, _, rfl, HE.out, HB1.out⟩
    · obtain ⟨e1, e2⟩ := HTwo.out h0
      have hn0 : n1 = 1 := by rw [← HN1.out, e1]; rfl
      have hf0 : nf = 2 := by rw [← HNf.out, e2]; rfl
      have HQ2 := hide e2
      have HRq := HRd
      rw [e1] at HRq
      obtain ⟨b, off, vb, hab, hsb, _, _, c2, qb⟩ := RdJ.at11 HRq.out (k := 0) (by simp)
      subst hn0 hf0 hab
      have c2' : w1.cell? ⟨b, off + 2, none⟩ = some vb := by simpa using c2
      have qb' : RdI (fun b => (w.alloc (.cells #[] 74)).heap.size ≤ b ∧ b < w1.heap.size) w1 vb (sbL r) := by simpa using qb
      have HQb := hide qb'
      clear c2 qb qb' e1 e2 HRq
      go_wp2_with fail
      refine (l7Pack HQb.out HRoom.out).mono ?_
      rintro e w2 ⟨z2, rfl, hb2, ho2⟩
      have hsm : (pkF (sfL r)).length ≤ 1048576 := by have := pkF_small HFil.out; omega
      have HL8 := hide (l8Pack (HRd.out.later hb2) hsm)
      have HB2 := hide hb2
      have HO2 := hide ho2
      obtain ⟨a2, c3, hz2e⟩ := ho2.shape
      have h2l : (pkL (sbL r)).length = 2 := rfl
      rw [h2l] at hz2e
      subst hz2e
      clear hb2 ho2 h2l c2' HQb
      go_wp2_with fail
      refine HL8.out.mono ?_
      rintro e w3 ⟨z3, rfl, hb3, ho3⟩
      have ho3' := ow_of_owns rfl ho3 (by omega)
      obtain ⟨a3, c4, hz3e⟩ := ho3'.shape
      obtain ⟨n3, hn3⟩ : ∃ n, (pkF (sfL r)).length = n := ⟨_, rfl⟩
      rw [hn3] at hz3e
      subst hz3e
      have HB3 := hide hb3
      have HO3 := hide ho3'
      obtain ⟨V, Bk, hrow, hpr, hin⟩ := HE.out
      have hbA := below_alloc w3 (.cells #[.int .i64 0, .slice a2 2 c3, .int .i64 1, .slice a3 n3 c4] 74)
      have HBA := hide (below_on (below_on HB2.out HB3.out) hbA)
      have HRow := hide (ownsRow_later hrow HBA.out)
      have HRow0 := hide hrow
      have HPr := hide hpr
      have HIn := hide hin
      have HI2 := hide (inner_two (a := 0) (b := 1) HO2.out HB3.out HO3.out hbA HB2.out.size)
      clear hb3 ho3 ho3' hn3 hrow hpr hin HE hbA HL8 hsm
      go_wp2_with (at_builtin; refine wpList_append_lies _ rfl _ _ _ rfl 0 74 i0 (.agg #[.int .i64 0, .slice none 0 0]) 2 32 Tryz.underlying27 hi hz0 hz1 hz2 rfl (by omega) _ 0 _ (by rfl) HRow.out ⟨w3.heap.size, 0, none⟩ 2 _ [.int .i64 0, .slice a2 2 c3, .int .i64 1, .slice a3 n3 c4] (by rfl) (by rfl) (World.news_of_block (cs := #[.int .i64 0, .slice a2 2 c3, .int .i64 1, .slice a3 n3 c4]) (t := 74) (fr := (0, 0)) (heap_alloc_new w3 _)) (by intro u hu; simp only [List.mem_cons, List.not_mem_nil, or_false] at hu; rcases hu with rfl | rfl | rfl | rfl <;> rfl) (by omega) (by unfold maxLen; omega) (by omega) (Nat.zero_le _) (w3.heap.size + 1) (by simp) ?_)
      intro g cap w4 hown hgrow hat hlt
      obtain ⟨B2, hi2⟩ := HI2.out
      have HJ := hide (BuiltP.joinK (Q := (w.heap.size ≤ ·)) (ps := P) (qs := [(0, pkL (sbL r)), (1, pkF (sfL r))]) (k := 0) (m := 2) (Nat.zero_le _) rfl (fun i hi' => by rw [Nat.zero_add, HA1.out i hi', HQ2.out]) HRow0.out HPr.out HIn.out HBA.out hi2 (fun b hb => by omega) (by have e := cells_two 0 1 (pkL (sbL r)) (pkF (sfL r)) (.slice a2 2 c3) (.slice a3 n3 c4); simp only [List.length_cons, List.length_nil]; rw [e]; exact hown) hgrow (by simpa using hat))
      have HB4 := hide ((below_on HB1.out HBA.out).grown hgrow (by simp; have := HB2.out.size; have := HB3.out.size; omega) (fun q hq => HPr.out q hq))
      clear hown hgrow hat hlt hi2 HI2 HRow
      go_wp2
      go_meet
      case rel => exact ⟨_, _, rfl, HJ.out, HB4.out⟩
  case rest =>
    clear HE HB1 HRd HTwo HNone HRoom HFil HN1 hs1
    obtain ⟨av, cv, rfl, HBu, HB⟩ := hcut
    have hbc := HB.out.size
    obtain ⟨m, hm⟩ : ∃ m, r.lg.length = m := ⟨_, rfl⟩
    rw [hm] at HLen HV HZ hlg HA2 HA4
    have HM := hide hm
    clear hm
    obtain ⟨v0, v1, v2, v3, v4, v5⟩ := HV.out.later HB.out
    obtain ⟨V, Bk, hrow, hpr, hin⟩ := HBu.out
    have HRow := hide hrow
    have HPr := hide hpr
    have HIn := hide hin
    have HNe : Hid (∀ q, (Value.slice av nf cv).ownBlock = some q → q ≠ bk) := fun q hq => by have := hpr q hq; omega
    have HMl := hide (ow_five (w := wc.drewN 1) (a := r.tm) (b := r.vt) (c := r.si) (d := r.st) (e := (m : Int)))
    have hb5 := below_on (below_drewN wc 1) (below_alloc (wc.drewN 1) (.cells #[.int .i64 r.tm, .int .i64 r.vt, .int .i64 r.si, .int .i64 r.st, .int .i64 (m : Int)] 2))
    have hz5 : ((wc.drewN 1).alloc (.cells #[.int .i64 r.tm, .int .i64 r.vt, .int .i64 r.si, .int .i64 r.st, .int .i64 (m : Int)] 2)).heap.size = wc.heap.size + 1 := by simp
    have HB5 := hide hb5
    have HBA := hide (below_on hb5 (below_alloc ((wc.drewN 1).alloc (.cells #[.int .i64 r.tm, .int .i64 r.vt, .int .i64 r.si, .int .i64 r.st, .int .i64 (m : Int)] 2)) (.cells #[.int .i64 2, .slice (some ⟨wc.heap.size, 0, none⟩) 5 5] 74)))
    have HRowA := hide (ownsRow_later hrow HBA.out)
    clear hrow hpr hin HBu hb5
    go_upto_region 5 with fail
    go_region_held3 (fun w' => w'.cell? ⟨bk, 0, none⟩ = some (.int .i64 r.tm) ∧ w'.cell? ⟨bk, 1, none⟩ = some (.int .i64 r.vt) ∧ w'.cell? ⟨bk, 2, none⟩ = some (.int .i64 r.si) ∧ w'.cell? ⟨bk, 3, none⟩ = some (.int .i64 r.st) ∧ w'.cell? ⟨bk, 5, none⟩ = some (.slice az m cz)) (first | exact ⟨s0, s1, s2, s3, s5⟩ | exact ⟨v0, v1, v2, v3, v5⟩ | exact ⟨cell_later (below_drewN wc 1) v0, cell_later (below_drewN wc 1) v1, cell_later (below_drewN wc 1) v2, cell_later (below_drewN wc 1) v3, cell_later (below_drewN wc 1) v5⟩ | exact ⟨cell_later (below_on (below_drewN wc 1) (below_alloc _ _)) v0, cell_later (below_on (below_drewN wc 1) (below_alloc _ _)) v1, cell_later (below_on (below_drewN wc 1) (below_alloc _ _)) v2, cell_later (below_on (below_drewN wc 1) (below_alloc _ _)) v3, cell_later (below_on (below_drewN wc 1) (below_alloc _ _)) v5⟩ | exact ⟨cell_later (below_alloc _ _) (cell_later (below_on (below_drewN wc 1) (below_alloc _ _)) v0), cell_later (below_alloc _ _) (cell_later (below_on (below_drewN wc 1) (below_alloc _ _)) v1), cell_later (below_alloc _ _) (cell_later (below_on (below_drewN wc 1) (below_alloc _ _)) v2), cell_later (below_alloc _ _) (cell_later (below_on (below_drewN wc 1) (below_alloc _ _)) v3), cell_later (below_alloc _ _) (cell_later (below_on (below_drewN wc 1) (below_alloc _ _)) v5)⟩ | exact ⟨cell_later HBA.out v0, cell_later HBA.out v1, cell_later HBA.out v2, cell_later HBA.out v3, cell_later HBA.out v5⟩)
      (first | (refine step_append_lies _ (by rfl) _ _ _ (by rfl) 0 74 i0 (.agg #[.int .i64 0, .slice none 0 0]) 2 32 Tryz.underlying27 hi hz0 hz1 hz2 rfl (by omega) _ nf _ (by rfl) HRowA.out ⟨wc.heap.size + 1, 0, none⟩ 1 1 [.int .i64 2, .slice (some ⟨wc.heap.size, 0, none⟩) 5 5] (by rfl) (by rfl) (by rw [← hz5]; exact World.news_of_block (cs := #[.int .i64 2, .slice (some ⟨wc.heap.size, 0, none⟩) 5 5]) (t := 74) (fr := (0, 0)) (heap_alloc_new _ _)) cells2_one (by omega) (by unfold maxLen; omega) (by omega) (Nat.zero_le _) (wc.heap.size + 2) (by simp) ?_; intro g cap w6 hown hgrow hat hlt6; have s0 := (hgrow.cell_far ⟨bk, 0, none⟩ (by simp; omega) (fun e => HNe.out _ e.symm rfl)).trans (cell_later HBA.out v0); have s1 := (hgrow.cell_far ⟨bk, 1, none⟩ (by simp; omega) (fun e => HNe.out _ e.symm rfl)).trans (cell_later HBA.out v1); have s2 := (hgrow.cell_far ⟨bk, 2, none⟩ (by simp; omega) (fun e => HNe.out _ e.symm rfl)).trans (cell_later HBA.out v2); have s3 := (hgrow.cell_far ⟨bk, 3, none⟩ (by simp; omega) (fun e => HNe.out _ e.symm rfl)).trans (cell_later HBA.out v3); have s5 := (hgrow.cell_far ⟨bk, 5, none⟩ (by simp; omega) (fun e => HNe.out _ e.symm rfl)).trans (cell_later HBA.out v5)))
    have HJ := hide (BuiltP.step (P' := (w.heap.size ≤ ·)) HIn.out HRow.out HPr.out (fun _ h => h) (fun b hb => Nat.le_trans hbc hb) HB5.out (by rw [HA2.out]; exact HMl.out) (below_alloc ((wc.drewN 1).alloc (.cells #[.int .i64 r.tm, .int .i64 r.vt, .int .i64 r.si, .int .i64 r.st, .int .i64 (m : Int)] 2)) (.cells #[.int .i64 2, .slice (some ⟨wc.heap.size, 0, none⟩) 5 5] 74)) (by rw [HA2.out]; exact hown) hgrow (by simpa using hat))
    have HB6 := hide ((below_on HB.out HBA.out).grown hgrow (by simp; omega) (fun q hq => HPr.out q hq))
    clear hown hgrow hat hlt6 s0 s1 s2 s3 s5 HMl HRowA HBA HB5 HRow HPr HIn HNe v0 v1 v2 v3 v4 v5
    go_upto_region 6 with fail
    go_cut [3] from 50 to 53 (fun x wx => ∃ (av : Option Addr) (cv : Nat), x = .slice av (nf + 1 + ns) cv ∧ Hid (BuiltP (w.heap.size ≤ ·) wx (.slice av (nf + 1 + ns) cv) (nf + 1 + ns) P) ∧ Hid (Below w.heap.size w wx))
    case first =>
      go_wp2_with fail
      refine (HSnap.out _ HB6.out).mono ?_
      rintro e w7 ⟨z7, rfl, hb7, ho7⟩
      have hs7 := hb7.size
      have hs6 := HB6.out.size
      by_cases h0 : ns = 0
      · have he : snP r = [] := List.eq_nil_of_length_eq_zero (by rw [HNs.out, h0])
        rw [he] at ho7
        obtain ⟨a7, c7, hz7, _⟩ := ho7.rd
        subst h0
        have hz7' : z7 = .slice a7 0 c7 := hz7
        subst hz7'
        have HJ7 := hide (HJ.out.later hb7)
        have HB7 := hide (below_on HB6.out hb7)
        obtain ⟨V, Bk, hrow, _, _⟩ := HJ7.out
        have HRow := hide hrow
        clear hb7 ho7 he hrow
        go_wp2_with (at_builtin; refine wpList_append_zeroR rfl _ _ _ rfl 0 74 i0 2 Tryz.underlying27 hi _ (nf + 1) _ (by rfl) HRow.out a7 c7 (by rfl) ?_)
        go_wp2
        go_meet
        case rel => exact ⟨_, _, rfl, HJ7.out, HB7.out⟩
      · obtain ⟨b7, o7, c7, V7, B7, hz7, hi7, hn7, h17⟩ := ho7.parts (fun e => h0 (by rw [← HNs.out, e]; rfl))
        have hsl := HNs.out
        rw [hsl] at hz7 hi7
        subst hz7
        obtain ⟨V, Bk, hrow, hpr, hin⟩ := HJ.out
        have HRow := hide hrow
        have HPr := hide hpr
        have HIn := hide hin
        have HBq := hide hb7
        have HRow7 := hide (ownsRow_later hrow hb7)
        have HI7 := hide hi7
        have HN7 := hide hn7
        have H17 := hide h17
        have HCl : Hid ((cellsP (snP r) (snP r).length V7).length = ns * 2) := by rw [Hid, cellsP_len, hsl]
        clear hrow hpr hin hb7 ho7 hi7 hn7 h17 hsl
        go_wp2_with (at_builtin; refine wpList_append_lies _ rfl _ _ _ rfl 0 74 i0 (.agg #[.int .i64 0, .slice none 0 0]) 2 32 Tryz.underlying27 hi hz0 hz1 hz2 rfl (by omega) _ (nf + 1) _ (by rfl) HRow7.out ⟨b7, o7, none⟩ ns _ (cellsP (snP r) (snP r).length V7) (by rfl) HCl.out HN7.out H17.out (by omega) (by unfold maxLen; omega) (by omega) (Nat.zero_le _) w7.heap.size rfl ?_)
        intro g8 cap8 w8 hown hgrow hat hlt8
        have HJ8 := hide (BuiltP.joinK (Q := (w.heap.size ≤ ·)) (ps := P) (qs := snP r) (k := nf + 1) (m := ns) (by rw [HLen.out]; omega) HNs.out HA3.out HRow.out HPr.out HIn.out HBq.out HI7.out (fun b hb => by omega) hown hgrow hat)
        have HB8 := hide ((below_on HB6.out HBq.out).grown hgrow (by omega) (fun q hq => HPr.out q hq))
        clear hown hgrow hat hlt8 HRow7 HI7 HN7 H17 HCl HRow HPr HIn
        go_wp2
        go_meet
        case rel => exact ⟨_, _, rfl, HJ8.out, HB8.out⟩
    case rest =>
      clear HJ HB6 HB HSnap HA1 HA2 HA3
      obtain ⟨av', cv', rfl, HBu, HB⟩ := hcut
      have hn0 : nf + 1 + ns ≤ 8 := by omega
      obtain ⟨n0, hn0e⟩ : ∃ n, nf + 1 + ns = n := ⟨_, rfl⟩
      rw [hn0e] at HBu HLen HA4 hn0 ⊢
      clear hn0e
      go_wp2_with fail
      go_loopw [3, 5] (fun v i wr => ∃ k : Nat, k ≤ m ∧ i = .int .i64 (k : Int) ∧ Hid (BuiltP (w.heap.size ≤ ·) wr v (n0 + k) P) ∧ Hid (Below w.heap.size w wr)) (fun _ i _ => m - (intOf i).toNat)
      case atStart => exact ⟨0, Nat.zero_le _, rfl, HBu.out, HB.out⟩
      case round =>
        clear HBu HB
        obtain ⟨k, hk, rfl, HBu, HB⟩ := hrel
        obtain ⟨aw, cw, rfl⟩ := HBu.out.shape
        obtain ⟨v0, v1, v2, v3, v4, v5⟩ := HV.out.later HB.out
        clear v0 v1 v2 v3 v4
        by_cases hlt : k < m
        · obtain ⟨b, off, rfl, hfp⟩ := HZ.out.file (k := k) (by first | exact hlt | (rw [HM.out]; exact hlt))
          have hfp2 := hfp.later HB.out
          have HFp := hide hfp2
          obtain ⟨yv, g0, g1, g2, gy⟩ := hfp2
          have hent := HLg.out k (by first | exact hlt | (rw [HM.out]; exact hlt))
          obtain ⟨⟨⟨hx1, hx2⟩, _⟩, hx3, _⟩ := entF_zero hent
          have HA := hide (HA4.out k (by first | exact hlt | (rw [HM.out]; exact hlt)))
          have HPe : Hid (peR (r.lg.getD k oj0) = pkE (r.lg.getD k oj0)) := by unfold Hid peR; rw [if_pos hent]
          have HSf : Hid (sfV (r.lg.getD k oj0).1 = 24 + (r.lg.getD k oj0).1 % 14) := by unfold Hid sfV; rw [if_pos ⟨hx1, hx2⟩]
          generalize r.lg.getD k oj0 = p at HFp HA HPe HSf g0 g1 gy hx1 hx2 hx3
          obtain ⟨px, pt, pd⟩ := p
          dsimp only at HA HPe HSf g0 g1 gy hx1 hx2 hx3
          have hk1 : (k : Int) < (m : Int) := by omega
          obtain ⟨V, Bk, hrow, hpr, hin⟩ := HBu.out
          have HRow := hide hrow
          have HPr := hide hpr
          have HIn := hide hin
          have hz := HB.out.size
          have hbo : b < w.heap.size := World.block_lt_of_cell? _ _ hfp.choose_spec.1
          have HNe : Hid (∀ q, (Value.slice aw (n0 + k) cw).ownBlock = some q → q ≠ bk ∧ q ≠ b) := fun q hq => by have := hpr q hq; omega
          clear hrow hpr hin HBu g1 g2 gy hfp hent
          have HPl : Hid ((pkE (px, pt, pd)).length = 3 + pd.length) := by simp [Hid, pkE]; omega
          have HSz : Hid (pd.length ≤ 1048576) := by unfold Hid; omega
          obtain ⟨xs, hxs⟩ : ∃ x, 24 + px % 14 = x := ⟨_, rfl⟩
          have HXs := hide hxs
          clear hxs hx3 hx2
          go_wp2_with fail
          go_region_held3 (fun w' => w'.cell? ⟨bk, 5, none⟩ = some (.slice (some ⟨b, off, none⟩) m cz) ∧ w'.cell? ⟨b, off + k * 3, none⟩ = some (.int .i64 px)) (first | exact ⟨v5, g0⟩ | exact ⟨e0, e1⟩ | exact ⟨cell_later (below_alloc _ _) e0, cell_later (below_alloc _ _) e1⟩ | exact ⟨s0, s1⟩)
            (first
              | (go_at_call 71; refine (l9Pack (HFp.out.later (below_drewN wr 1)) HSz.out).mono ?_; rintro e w2 ⟨z2, rfl, hb2, ho2⟩; have ho3 := ow_of_owns HPl.out ho2 (by rw [HPl.out]; have := HSz.out; omega); obtain ⟨a4, c4, hz4⟩ := ho3.shape; obtain ⟨n4, hn4⟩ : ∃ n4, (pkE (px, pt, pd)).length = n4 := ⟨_, rfl⟩; rw [hn4] at hz4; subst hz4; have e0 := cell_later hb2 v5; have e1 := cell_later hb2 g0; have HB2 := hide (below_on (below_drewN wr 1) hb2); have HO2 := hide ho3; have hzz : wr.heap.size ≤ w2.heap.size := hb2.size; clear hb2 ho2 ho3 hn4)
              | (go_at_call 70; refine (l9Slot px hx1 _).mono ?_; rintro e w5 ⟨he7, he5⟩; rw [HXs.out] at he7; subst he7; have he6 := he5.symm; clear he5; subst he6)
              | (refine step_append_lies _ (by rfl) _ _ _ (by rfl) 0 74 i0 (.agg #[.int .i64 0, .slice none 0 0]) 2 32 Tryz.underlying27 hi hz0 hz1 hz2 rfl (by omega) _ (n0 + k) _ (by rfl) (ownsRow_later (ownsRow_later HRow.out HB2.out) (below_alloc w2 (.cells #[.int .i64 xs, .slice a4 n4 c4] 74))) ⟨w2.heap.size, 0, none⟩ 1 1 [.int .i64 xs, .slice a4 n4 c4] (by rfl) (by rfl) (World.news_of_block (cs := #[.int .i64 xs, .slice a4 n4 c4]) (t := 74) (fr := (0, 0)) (heap_alloc_new w2 _)) cells2_one (by omega) (by unfold maxLen; omega) (by omega) (Nat.zero_le _) (w2.heap.size + 1) (by simp) ?_; intro g cap w3 hown3 hgrow hat hlt3; have s0 := (hgrow.cell_far ⟨bk, 5, none⟩ (by simp; omega) (fun e => (HNe.out _ e.symm).1 rfl)).trans (cell_later (below_alloc _ _) e0); have s1 := (hgrow.cell_far ⟨b, off + k * 3, none⟩ (by simp; omega) (fun e => (HNe.out _ e.symm).2 rfl)).trans (cell_later (below_alloc _ _) e1)))
          have HS := hide (BuiltP.step (P' := (w.heap.size ≤ ·)) HIn.out HRow.out HPr.out (fun _ h => h) (fun b hb => Nat.le_trans hz hb) HB2.out (by rw [HA.out, HPe.out]; exact HO2.out) (below_alloc w2 (.cells #[.int .i64 xs, .slice a4 n4 c4] 74)) (by rw [HA.out, HSf.out, HXs.out]; exact hown3) hgrow (by simpa using hat))
          have HB3 := hide ((below_on (below_on HB.out HB2.out) (below_alloc w2 (.cells #[.int .i64 xs, .slice a4 n4 c4] 74))).grown hgrow (by simp; omega) (fun q hq => HPr.out q hq))
          clear hown3 hgrow hat s0 s1 e0 e1 hzz
          go_wp2
          go_roundw
          case rel => exact ⟨k + 1, hlt, by go_num, HS.out, HB3.out⟩
          case measure => simp [intOf]; omega
        · have hkn : k = m := by omega
          subst hkn
          have hnl : ¬ (k : Int) < (k : Int) := by omega
          have HRd := hide (HBu.out.ow HLen.out (by omega)).rd
          go_wp2_with fail
          refine (l4ApplyG (vs := []) (S := fun _ => False) ⟨none, 0, rfl, by simp, fun h => absurd rfl h⟩ HRd.out ⟨by simp, fun i hi => absurd hi (Nat.not_lt_zero _)⟩ HAp.out (fun i hi => absurd hi (Nat.not_lt_zero _))).mono ?_
          rintro e w9 ⟨z9, rfl, hb9, ho9⟩
          have HB9 := hide (below_on HB.out hb9)
          have hz9 := HB.out.size
          have HO9 := hide ho9
          obtain ⟨a9, c9, hz9e, _⟩ := ho9.rd
          subst hz9e
          clear hb9 ho9
          go_wp2
          go_ret
          exact ⟨_, rfl, HB9.out, HO9.out.mono fun b h => ⟨by have := h.1; omega, h.2⟩⟩
end Go.Proofs.YtlmaopljihbdkaaGreat
namespace Go.Proofs.YtlmaopljihbdkaaGreat
open Go.RowKit Go.Maps
theorem apC_nil (vs : List (Int × List Int)) : apC vs [] = vF vs := by
  unfold apC vF
  have h : hpF 60 ([] : List (Int × List Int)) = 0 := by decide
  rw [if_pos h]
end Go.Proofs.YtlmaopljihbdkaaGreat
