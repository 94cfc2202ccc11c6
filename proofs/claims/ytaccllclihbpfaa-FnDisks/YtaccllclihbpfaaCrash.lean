/- 'impl.CrashDisk', walked. Made by program in part. -/
import Derived.Test.YtaccllclihbpfaaCrash0
namespace Go.Proofs.Ytaccllclihbpfaa
open Go.RowKit

set_option linter.unusedSimpArgs false in
set_option maxHeartbeats 8000000 in
set_option maxRecDepth 4000 in
theorem implCrash_ok {S T S2 : Nat → Prop} {w : World} {u v y : Value} {xss : List (List Int)} {ps : List (Int × List Int)} {qs : List Int} (hu : RdII S w u xss) (hv : RdP T w v ps) (hy : RdI S2 w y qs) (hs : Small xss ps) (hz : diskF xss ps = 0) (hq : picksF qs = 0) :
    Calls Try.prog 11 #[.agg #[u, v], y] w (EndsD 0 (keepTo xss ps (pkOf false qs) ps.length) [] w) := by
  unfold EndsD
  have HU := hide hu
  have HV := hide hv
  have HY := hide hy
  have HS := hide hs
  obtain ⟨ao, c, rfl, hn⟩ := hu.shape
  obtain ⟨ao', c', rfl, hm⟩ := hv.shape
  obtain ⟨ay, cy, rfl⟩ := hy.shape
  clear hu hv hs hy
  have HSo := hide (diskF_zero hz)
  have HZ := hide hz
  have HQ := hide hq
  obtain ⟨n, hn'⟩ : ∃ n, xss.length = n := ⟨_, rfl⟩
  obtain ⟨m, hm'⟩ : ∃ m, ps.length = m := ⟨_, rfl⟩
  have HN := hide hn'
  have HM := hide hm'
  have hm2 : m ≤ 200 := by rw [← hm']; exact HSo.out.puts
  have hn2 : n ≤ 70 := by rw [← hn']; exact HSo.out.rows
  rw [hn'] at HU
  rw [hm'] at HV ⊢
  rw [hn'] at ⊢
  clear hz hq hn' hm' hn hm
  go_enter Try.func11, Try.ntmps11
  go_wp2_with fail
  refine (implFault ((HU.out.later (below_alloc _ _)).later (below_alloc _ _)) ((HV.out.later (below_alloc _ _)).later (below_alloc _ _))).mono ?_
  rintro e w1 ⟨he, hb⟩
  rw [HZ.out] at he
  subst he
  have HB := hide (below_on (below_on (below_alloc _ _) (below_alloc _ _)) hb)
  have q0 : w1.cell? ⟨w.heap.size, 0, none⟩ = some (.slice ao n c) := cell_later hb (by simp [go_sem])
  have q1 : w1.cell? ⟨w.heap.size, 1, none⟩ = some (.slice ao' m c') := cell_later hb (by simp [go_sem])
  have V := hide (Var3.later (w := (w.alloc (.cells #[.slice ao n c, .slice ao' m c'] 27)).alloc (.cells #[.int .i64 0, .slice none 0 0, .slice none 0 0] 32)) (Var3_new _ _ _ _ _) hb)
  have r0 : ∀ o, w1.frozen? ⟨w.heap.size + 1, o, none⟩ = false := fun o => ((bcell hb).2 _ _ (by simp)).trans (by simp [go_sem])
  have HR0 := hide r0
  have hs1 : w.heap.size + 1 < w1.heap.size := by have := hb.size; simp at this; omega
  clear hb r0
  go_wp2_with fail
  refine (picksFault (HY.out.later HB.out)).mono ?_
  rintro e wx ⟨he, hwx⟩
  rw [HQ.out] at he
  rw [he, hwx]
  clear he hwx
  go_wp2_with fail
  refine (copyBlocksB (HU.out.later HB.out) HS.out.rows HS.out.row).mono ?_
  rintro e w2 ⟨z2, rfl, hb2, ho2⟩
  obtain ⟨ao2, c2, rfl, hA⟩ := RowsA.of ho2
  have HB2 := hide hb2
  have HA := hide hA
  rw [HN.out] at HA ⊢
  have hs2 : w1.heap.size ≤ w2.heap.size := hb2.size
  have k1 := cell_later hb2 q1
  clear hb2 ho2 hA q0 q1
  go_wp2
  go_loopw [28] (fun i wr => ∃ k : Nat, k ≤ m ∧ i = .int .i64 k ∧ Hid (RowsA (w1.heap.size ≤ ·) wr ao2 n (keepTo xss ps (pkOf false qs) k)) ∧ Hid (Below w1.heap.size w1 wr)) (fun i _ => m - (intOf i).toNat)
  case atStart => exact ⟨0, Nat.zero_le _, rfl, HA.out, HB2.out⟩
  case round =>
    obtain ⟨k, hk, rfl, HR, HB3⟩ := hrel
    have hz3 := HB3.out.size
    by_cases hlt : k < m
    · have hkm : k < ps.length := by rw [HM.out]; exact hlt
      obtain ⟨b, off, Vp, rfl, p1, p2, p3⟩ := HV.out.at (k := k) hkm
      obtain ⟨a, ha⟩ : ∃ a : Nat, (ps.getD k (0, [])).1 = (a : Int) := ⟨_, (Int.toNat_of_nonneg (HSo.out.at0 k hkm)).symm⟩
      have han : a < n := by have h1 := HSo.out.at1 k hkm; rw [ha, HN.out] at h1; omega
      obtain ⟨g, Vr, Bk, rfl, hw⟩ := HR.out.2 (by omega)
      have B4 : Hid (Below w.heap.size w wr) := HB.out.trans (HB3.out.mono (by omega))
      have g1 := cell_later B4.out p1
      have g2 := cell_later B4.out p2
      rw [ha] at g1
      have R := hide (p3.later B4.out)
      obtain ⟨ao3, c3, hsl⟩ := p3.shape
      have HW := hide hw
      have hgl := hw.lt
      have HA' := hide ha
      have HL1 := hide (keepTo_words HSo.out (pkOf false qs) k (by omega) a)
      have HL2 := hide (HSo.out.put k hkm)
      have HRa := hide (hw.rd a han)
      have fg := hw.free a
      have cg := hw.cell a han
      have ha0 : (0 : Int) ≤ (a : Int) := Int.natCast_nonneg _
      have ha1 : (a : Int) < (n : Int) := by omega
      obtain ⟨l, hl⟩ : ∃ l, (ps.getD k (0, [])).2.length = l := ⟨_, rfl⟩
      rw [hl] at hsl
      rw [hsl] at g2 R
      obtain ⟨aor, cr, hvr⟩ := (hw.rd a han).shape
      obtain ⟨lr, hlr⟩ : ∃ lr, ((keepTo xss ps (pkOf false qs) k).getD a []).length = lr := ⟨_, rfl⟩
      rw [hlr] at hvr
      rw [hvr] at cg HRa
      obtain ⟨p, hp⟩ : ∃ p, pkOf false qs k = p := ⟨_, rfl⟩
      have hq := picks_pk HQ.out k
      rw [hp] at hq
      obtain ⟨hq0, hq3⟩ := hq
      have HP := hide hp
      obtain ⟨lz, hlz⟩ : ∃ lz, (tear ((keepTo xss ps (pkOf false qs) k).getD a []) (ps.getD k (0, [])).2 p).length = lz := ⟨_, rfl⟩
      have HLz := hide hlz
      clear p1 p2 p3 hw ha hl hsl hlr hvr hp hlz hkm
      go_wp2_with fail
      have A0 := below_alloc wr (.cells #[.int .i64 (a : Int), .slice ao3 l c3] 37)
      have m0 : (wr.alloc (.cells #[.int .i64 (a : Int), .slice ao3 l c3] 37)).cell? ⟨wr.heap.size, 0, none⟩ = some (.int .i64 (a : Int)) := by simp [go_sem]
      have m1 : (wr.alloc (.cells #[.int .i64 (a : Int), .slice ao3 l c3] 37)).cell? ⟨wr.heap.size, 1, none⟩ = some (.slice ao3 l c3) := by simp [go_sem]
      have mg : (wr.alloc (.cells #[.int .i64 (a : Int), .slice ao3 l c3] 37)).cell? ⟨g, a, none⟩ = some (.slice aor lr cr) := cell_later A0 cg
      have HPk := hide (pickAt (w := (wr.alloc (.cells #[.int .i64 (a : Int), .slice ao3 l c3] 37)).drewN 1) k (((HY.out.later B4.out).later A0).drewN 1))
      rw [HP.out] at HPk
      have HTw := hide (tornWords (w := (wr.alloc (.cells #[.int .i64 (a : Int), .slice ao3 l c3] 37)).drewN 1) ((HRa.out.later A0).drewN 1) ((R.out.later A0).drewN 1) HL1.out HL2.out hq0 hq3)
      refine wp_region_held_drew (S := fun w' => w'.cell? ⟨wr.heap.size, 0, none⟩ = some (.int .i64 (a : Int)) ∧ w'.cell? ⟨wr.heap.size, 1, none⟩ = some (.slice ao3 l c3)) (by kernel_rfl) ⟨m0, m1⟩ (fun hHeld => ?_)
      refine wpAnyH_take (i := 0) (v := ?vp0) rfl (by kernel_rfl) (by kernel_rfl) (by kernel_rfl) (fun _ _ _ h => h) (Or.inl ⟨by rfl, ?hp0⟩) hHeld ?rp0
      case hp0 => intro w5 hSw; (try dsimp only at hSw); first | (go_simp; done) | (go_simp; with_reducible rfl)
      try simp only [Act.put, List.setIfInBounds_toArray, List.set_cons_zero, List.set_cons_succ]
      refine wpAnyH_take (i := 1) (v := ?vp1) rfl (by kernel_rfl) (by kernel_rfl) (by kernel_rfl) (fun _ _ _ h => h) (Or.inl ⟨by rfl, ?hp1⟩) hHeld ?rp1
      case hp1 => intro w5 hSw; (try dsimp only at hSw); first | (go_simp; done) | (go_simp; with_reducible rfl)
      try simp only [Act.put, List.setIfInBounds_toArray, List.set_cons_zero, List.set_cons_succ]
      refine wpAnyH_take (i := 2) (v := ?vp2) rfl (by kernel_rfl) (by kernel_rfl) (by kernel_rfl) (fun _ _ _ h => h) (Or.inl ⟨by rfl, ?hp2⟩) hHeld ?rp2
      case hp2 => intro w5 hSw; (try dsimp only at hSw); first | (go_simp; done) | (go_simp; with_reducible rfl)
      try simp only [Act.put, List.setIfInBounds_toArray, List.set_cons_zero, List.set_cons_succ]
      refine wpAnyH_take (i := 3) (v := ?vp3) rfl (by kernel_rfl) (by kernel_rfl) (by kernel_rfl) (fun _ _ _ h => h) (Or.inl ⟨by rfl, ?hp3⟩) hHeld ?rp3
      case hp3 => intro w5 hSw; (try dsimp only at hSw); first | (go_simp; done) | (go_simp; with_reducible rfl)
      try simp only [Act.put, List.setIfInBounds_toArray, List.set_cons_zero, List.set_cons_succ]
      refine wpAnyH_take (i := 4) (v := ?vp4) rfl (by kernel_rfl) (by kernel_rfl) (by kernel_rfl) (fun _ _ _ h => h) (Or.inl ⟨by rfl, ?hp4⟩) hHeld ?rp4
      case hp4 => intro w5 hSw; (try dsimp only at hSw); first | (go_simp; done) | (go_simp; with_reducible rfl)
      try simp only [Act.put, List.setIfInBounds_toArray, List.set_cons_zero, List.set_cons_succ]
      refine wpAnyH_take (i := 5) (v := ?vp5) rfl (by kernel_rfl) (by kernel_rfl) (by kernel_rfl) (fun _ _ _ h => h) (Or.inl ⟨by rfl, ?hp5⟩) hHeld ?rp5
      case hp5 => intro w5 hSw; (try dsimp only at hSw); first | (go_simp; done) | (go_simp; with_reducible rfl)
      try simp only [Act.put, List.setIfInBounds_toArray, List.set_cons_zero, List.set_cons_succ]
      refine wpAnyH_take (i := 6) (v := ?vp6) rfl (by kernel_rfl) (by kernel_rfl) (by kernel_rfl) (fun _ _ _ h => h) (Or.inl ⟨by rfl, ?hp6⟩) hHeld ?rp6
      case hp6 => intro w5 hSw; (try dsimp only at hSw); first | (go_simp; done) | (go_simp; with_reducible rfl)
      try simp only [Act.put, List.setIfInBounds_toArray, List.set_cons_zero, List.set_cons_succ]
      refine wpAnyH_take (i := 8) (v := ?vp8) rfl (by kernel_rfl) (by kernel_rfl) (by kernel_rfl) (fun _ _ _ h => h) (Or.inl ⟨by rfl, ?hp8⟩) hHeld ?rp8
      case hp8 => intro w5 hSw; (try dsimp only at hSw); first | (go_simp; done) | (go_simp; with_reducible rfl)
      try simp only [Act.put, List.setIfInBounds_toArray, List.set_cons_zero, List.set_cons_succ]
      refine wpAnyH_take (i := 9) (v := ?vp9) rfl (by kernel_rfl) (by kernel_rfl) (by kernel_rfl) (fun _ _ _ h => h) (Or.inl ⟨by rfl, ?hp9⟩) hHeld ?rp9
      case hp9 => intro w5 hSw; (try dsimp only at hSw); first | (go_simp; done) | (go_simp; with_reducible rfl)
      try simp only [Act.put, List.setIfInBounds_toArray, List.set_cons_zero, List.set_cons_succ]
      refine wpAnyH_take (i := 10) (v := ?vp10) rfl (by kernel_rfl) (by kernel_rfl) (by kernel_rfl) (fun _ _ _ h => h) (Or.inl ⟨by rfl, ?hp10⟩) hHeld ?rp10
      case hp10 => intro w5 hSw; (try dsimp only at hSw); first | (go_simp; done) | (go_simp; with_reducible rfl)
      try simp only [Act.put, List.setIfInBounds_toArray, List.set_cons_zero, List.set_cons_succ]
      refine wpAnyH_take (i := 11) (v := ?vp11) rfl (by kernel_rfl) (by kernel_rfl) (by kernel_rfl) (fun _ _ _ h => h) (Or.inl ⟨by rfl, ?hp11⟩) hHeld ?rp11
      case hp11 => intro w5 hSw; (try dsimp only at hSw); first | (go_simp; done) | (go_simp; with_reducible rfl)
      try simp only [Act.put, List.setIfInBounds_toArray, List.set_cons_zero, List.set_cons_succ]
      refine wpAnyH_ready (rs := [7, 12]) (by kernel_rfl) (by simp) (AllReadyH.cons rfl (fun K hK => ?_) (AllReadyH.cons rfl (fun K hK => ?_) AllReadyH.nil))
      · go_simp
        refine hK.out _ _ hHeld (fun _ => ?_)
        clear hK K
        try simp only [Act.put, List.setIfInBounds_toArray, List.set_cons_zero, List.set_cons_succ]
        refine wpAnyH_ready (rs := [12]) (by kernel_rfl) (by simp) (AllReadyH.cons rfl (fun K hK => ?_) AllReadyH.nil)
        go_simp
        go_at_call 62
        refine HPk.out.mono ?_
        rintro e w9 ⟨rfl, rfl⟩
        refine hK.out _ _ hHeld (fun _ => ?_)
        clear hK K
        try simp only [Act.put, List.setIfInBounds_toArray, List.set_cons_zero, List.set_cons_succ]
        refine wpAnyH_ready (rs := [13]) (by kernel_rfl) (by simp) (AllReadyH.cons rfl (fun K hK => ?_) AllReadyH.nil)
        go_simp
        go_at_call 61
        refine HTw.out.mono ?_
        rintro e w4 ⟨z4, rfl, hb4, ho4⟩
        obtain ⟨ao4, c4, hz4⟩ := ho4.shape
        rw [HLz.out] at hz4
        subst hz4
        have e0 : w4.cell? ⟨wr.heap.size, 0, none⟩ = some (.int .i64 (a : Int)) := cell_later hb4 m0
        have e1 : w4.cell? ⟨wr.heap.size, 1, none⟩ = some (.slice ao3 l c3) := cell_later hb4 m1
        have HB5 := hide (below_on A0 (below_on (below_drewN _ 1) hb4))
        have HO4 := hide ho4
        have e2 : w4.frozen? ⟨g, a, none⟩ = false := ((bcell HB5.out).2 _ _ hgl).trans fg
        have e3 := cell_later HB5.out cg
        clear hb4 ho4
        refine hK.out _ _ ⟨e0, e1⟩ (fun hHeld2 => ?_)
        clear hK K
        try simp only [Act.put, List.setIfInBounds_toArray, List.set_cons_zero, List.set_cons_succ]
        refine wpAnyH_take (i := 14) (v := ?va14) rfl (by kernel_rfl) (by kernel_rfl) (by kernel_rfl) (fun _ _ _ h => h) (Or.inl ⟨by rfl, ?ha14⟩) hHeld2 ?ra14
        case ha14 => intro w5 hSw; (try dsimp only at hSw); first | (go_simp; done) | (go_simp; with_reducible rfl)
        try simp only [Act.put, List.setIfInBounds_toArray, List.set_cons_zero, List.set_cons_succ]
        refine wpAnyH_ready (rs := [15]) (by kernel_rfl) (by simp) (AllReadyH.cons rfl (fun K hK => ?_) AllReadyH.nil)
        go_simp
        refine hK.out _ _ ⟨(World.cell?_setCell_other _ _ _ _ (by intro h'; injection h' with h1 _; omega)).trans e0, (World.cell?_setCell_other _ _ _ _ (by intro h'; injection h' with h1 _; omega)).trans e1⟩ (fun _ => ?_)
        clear hK K
        try simp only [Act.put, List.setIfInBounds_toArray, List.set_cons_zero, List.set_cons_succ]
        refine wpAnyH_done (by kernel_rfl) ?_ _
        have HRd := hide (HW.out.round (ao := some ⟨g, 0, none⟩) rfl (fun b hb => Nat.le_trans hz3 hb) HB5.out (by rw [HP.out]; exact HO4.out.mono (by simp)) han HA'.out)
        have HBd := hide ((HB3.out.trans (HB5.out.mono hz3)).setCell (p := ⟨g, a, none⟩) HW.out.inP (.slice ao4 lz c4))
        clear e0 e1 e2 e3 m0 m1
        go_wp2
        go_roundw
        case rel => exact ⟨k + 1, hlt, by go_num, HRd.out, HBd.out⟩
        case measure => simp [intOf]; omega
      · go_simp
        go_at_call 62
        refine HPk.out.mono ?_
        rintro e w9 ⟨rfl, rfl⟩
        refine hK.out _ _ hHeld (fun _ => ?_)
        clear hK K
        try simp only [Act.put, List.setIfInBounds_toArray, List.set_cons_zero, List.set_cons_succ]
        refine wpAnyH_ready (rs := [7]) (by kernel_rfl) (by simp) (AllReadyH.cons rfl (fun K hK => ?_) AllReadyH.nil)
        go_simp
        refine hK.out _ _ hHeld (fun _ => ?_)
        clear hK K
        try simp only [Act.put, List.setIfInBounds_toArray, List.set_cons_zero, List.set_cons_succ]
        refine wpAnyH_ready (rs := [13]) (by kernel_rfl) (by simp) (AllReadyH.cons rfl (fun K hK => ?_) AllReadyH.nil)
        go_simp
        go_at_call 61
        refine HTw.out.mono ?_
        rintro e w4 ⟨z4, rfl, hb4, ho4⟩
        obtain ⟨ao4, c4, hz4⟩ := ho4.shape
        rw [HLz.out] at hz4
        subst hz4
        have e0 : w4.cell? ⟨wr.heap.size, 0, none⟩ = some (.int .i64 (a : Int)) := cell_later hb4 m0
        have e1 : w4.cell? ⟨wr.heap.size, 1, none⟩ = some (.slice ao3 l c3) := cell_later hb4 m1
        have HB5 := hide (below_on A0 (below_on (below_drewN _ 1) hb4))
        have HO4 := hide ho4
        have e2 : w4.frozen? ⟨g, a, none⟩ = false := ((bcell HB5.out).2 _ _ hgl).trans fg
        have e3 := cell_later HB5.out cg
        clear hb4 ho4
        refine hK.out _ _ ⟨e0, e1⟩ (fun hHeld2 => ?_)
        clear hK K
        try simp only [Act.put, List.setIfInBounds_toArray, List.set_cons_zero, List.set_cons_succ]
        refine wpAnyH_take (i := 14) (v := ?vb14) rfl (by kernel_rfl) (by kernel_rfl) (by kernel_rfl) (fun _ _ _ h => h) (Or.inl ⟨by rfl, ?hb14⟩) hHeld2 ?rb14
        case hb14 => intro w5 hSw; (try dsimp only at hSw); first | (go_simp; done) | (go_simp; with_reducible rfl)
        try simp only [Act.put, List.setIfInBounds_toArray, List.set_cons_zero, List.set_cons_succ]
        refine wpAnyH_ready (rs := [15]) (by kernel_rfl) (by simp) (AllReadyH.cons rfl (fun K hK => ?_) AllReadyH.nil)
        go_simp
        refine hK.out _ _ ⟨(World.cell?_setCell_other _ _ _ _ (by intro h'; injection h' with h1 _; omega)).trans e0, (World.cell?_setCell_other _ _ _ _ (by intro h'; injection h' with h1 _; omega)).trans e1⟩ (fun _ => ?_)
        clear hK K
        try simp only [Act.put, List.setIfInBounds_toArray, List.set_cons_zero, List.set_cons_succ]
        refine wpAnyH_done (by kernel_rfl) ?_ _
        have HRd := hide (HW.out.round (ao := some ⟨g, 0, none⟩) rfl (fun b hb => Nat.le_trans hz3 hb) HB5.out (by rw [HP.out]; exact HO4.out.mono (by simp)) han HA'.out)
        have HBd := hide ((HB3.out.trans (HB5.out.mono hz3)).setCell (p := ⟨g, a, none⟩) HW.out.inP (.slice ao4 lz c4))
        clear e0 e1 e2 e3 m0 m1
        go_wp2
        go_roundw
        case rel => exact ⟨k + 1, hlt, by go_num, HRd.out, HBd.out⟩
        case measure => simp [intOf]; omega
    · have hkm : k = m := by omega
      subst hkm
      have v0 : wr.cell? ⟨w.heap.size + 1, 0, none⟩ = some (.int .i64 0) := (HB3.out.cell (p := ⟨w.heap.size + 1, 0, none⟩) (by simp; omega)).trans (by have := V.out.1; simpa using this)
      have v1 : wr.cell? ⟨w.heap.size + 1, 1, none⟩ = some (.slice none 0 0) := (HB3.out.cell (p := ⟨w.heap.size + 1, 1, none⟩) (by simp; omega)).trans (by have := V.out.2.1; simpa using this)
      have v2 : wr.cell? ⟨w.heap.size + 1, 2, none⟩ = some (.slice none 0 0) := (HB3.out.cell (p := ⟨w.heap.size + 1, 2, none⟩) (by simp; omega)).trans (by have := V.out.2.2; simpa using this)
      have f0 : wr.frozen? ⟨w.heap.size + 1, 0, none⟩ = false := (HB3.out.frozen (p := ⟨w.heap.size + 1, 0, none⟩) (by simp; omega)).trans (HR0.out 0)
      have f1 : wr.frozen? ⟨w.heap.size + 1, 1, none⟩ = false := (HB3.out.frozen (p := ⟨w.heap.size + 1, 1, none⟩) (by simp; omega)).trans (HR0.out 1)
      have f2 : wr.frozen? ⟨w.heap.size + 1, 2, none⟩ = false := (HB3.out.frozen (p := ⟨w.heap.size + 1, 2, none⟩) (by simp; omega)).trans (HR0.out 2)
      have HD : Hid (OwD w1.heap.size wr (.slice ao2 n c2) (.slice none 0 0) (keepTo xss ps (pkOf false qs) k) []) :=
        ⟨fun b => w1.heap.size ≤ b ∧ b < wr.heap.size, fun _ => False, fun b hb => hb, fun b hb => absurd hb id, fun b _ hb' => absurd hb' id, HR.out.ow (by omega), OwP_nil _ _⟩
      have HB6 : Hid (Below w.heap.size w wr) := HB.out.trans (HB3.out.mono (by omega))
      go_wp2
      have hfin := ret_disk (x := .int .i64 0) HB6.out (r := w.heap.size + 1) (by omega) HD.out (by omega)
      refine bodyPost_ret (v := .agg #[.int .i64 0, .slice ao2 n c2, .slice none 0 0]) (by simp [results, Try.results11, go_sem, v0, v1, v2]) rfl ⟨_, _, rfl, hfin.1, hfin.2⟩

set_option maxHeartbeats 2000000 in
theorem implCrash {S T S2 : Nat → Prop} {w : World} {u v y : Value} {xss : List (List Int)} {ps : List (Int × List Int)} {qs : List Int} (hu : RdII S w u xss) (hv : RdP T w v ps) (hy : RdI S2 w y qs) (hs : Small xss ps) :
    Calls Try.prog 11 #[.agg #[u, v], y] w (EndsD (crashF xss ps qs) (crashXs xss ps qs) [] w) := by
  obtain ⟨z, hz⟩ : ∃ z, diskF xss ps = z := ⟨_, rfl⟩
  by_cases h0 : z = 0
  · subst h0
    obtain ⟨x, hq⟩ : ∃ x, picksF qs = x := ⟨_, rfl⟩
    by_cases h1 : x = 0
    · subst h1
      have hc : crashF xss ps qs = 0 := by unfold crashF; rw [if_pos hz, hq]
      unfold crashXs
      rw [if_pos hc, hc]
      exact implCrash_ok hu hv hy hs hz hq
    · have hc : crashF xss ps qs = x := by unfold crashF; rw [if_pos hz, hq]
      unfold EndsD crashXs
      rw [if_neg (by rw [hc]; exact h1), hc]
      have HU := hide hu
      have HV := hide hv
      have HY := hide hy
      obtain ⟨ao, c, rfl, hn⟩ := hu.shape
      obtain ⟨ao', c', rfl, hm⟩ := hv.shape
      obtain ⟨ay, cy, rfl⟩ := hy.shape
      have HZ := hide hz
      have HQ := hide hq
      clear hu hv hs hy hz hq hc
      go_enter Try.func11, Try.ntmps11
      go_wp2_with fail
      refine (implFault ((HU.out.later (below_alloc _ _)).later (below_alloc _ _)) ((HV.out.later (below_alloc _ _)).later (below_alloc _ _))).mono ?_
      rintro e w1 ⟨he, hb⟩
      rw [HZ.out] at he
      subst he
      have HB := hide (below_on (below_on (below_alloc _ _) (below_alloc _ _)) hb)
      have v0 : w1.cell? ⟨w.heap.size + 1, 0, none⟩ = some (.int .i64 0) := cell_later hb (by simp [go_sem])
      have v1 : w1.cell? ⟨w.heap.size + 1, 1, none⟩ = some (.slice none 0 0) := cell_later hb (by simp [go_sem])
      have v2 : w1.cell? ⟨w.heap.size + 1, 2, none⟩ = some (.slice none 0 0) := cell_later hb (by simp [go_sem])
      have f0 : w1.frozen? ⟨w.heap.size + 1, 0, none⟩ = false := ((bcell hb).2 _ _ (by simp)).trans (by simp [go_sem])
      have f1 : w1.frozen? ⟨w.heap.size + 1, 1, none⟩ = false := ((bcell hb).2 _ _ (by simp)).trans (by simp [go_sem])
      have f2 : w1.frozen? ⟨w.heap.size + 1, 2, none⟩ = false := ((bcell hb).2 _ _ (by simp)).trans (by simp [go_sem])
      clear hb
      go_wp2_with fail
      refine (picksFault (HY.out.later HB.out)).mono ?_
      rintro e w2 ⟨he, rfl⟩
      rw [HQ.out] at he
      subst he
      go_wp2
      refine bodyPost_ret (v := .agg #[.int .i64 x, .slice none 0 0, .slice none 0 0]) (by simp [results, Try.results11, go_sem, v0, v1, v2]) rfl ⟨_, _, rfl, ?_, OwD_nil _ _⟩
      exact ((HB.out.setCell (by simp) _).setCell (by simp) _).setCell (by simp) _
  · have hc : crashF xss ps qs = z := by unfold crashF; rw [if_neg (by rw [hz]; exact h0), hz]
    unfold EndsD crashXs
    rw [if_neg (by rw [hc]; exact h0), hc]
    have HU := hide hu
    have HV := hide hv
    have HY := hide hy
    obtain ⟨ao, c, rfl, hn⟩ := hu.shape
    obtain ⟨ao', c', rfl, hm⟩ := hv.shape
    obtain ⟨ay, cy, rfl⟩ := hy.shape
    have HZ := hide hz
    clear hu hv hs hy hz hc
    go_enter Try.func11, Try.ntmps11
    go_wp2_with fail
    refine (implFault ((HU.out.later (below_alloc _ _)).later (below_alloc _ _)) ((HV.out.later (below_alloc _ _)).later (below_alloc _ _))).mono ?_
    rintro e w1 ⟨he, hb⟩
    rw [HZ.out] at he
    subst he
    have HB := hide (below_on (below_on (below_alloc _ _) (below_alloc _ _)) hb)
    have v0 : w1.cell? ⟨w.heap.size + 1, 0, none⟩ = some (.int .i64 0) := cell_later hb (by simp [go_sem])
    have v1 : w1.cell? ⟨w.heap.size + 1, 1, none⟩ = some (.slice none 0 0) := cell_later hb (by simp [go_sem])
    have v2 : w1.cell? ⟨w.heap.size + 1, 2, none⟩ = some (.slice none 0 0) := cell_later hb (by simp [go_sem])
    have f0 : w1.frozen? ⟨w.heap.size + 1, 0, none⟩ = false := ((bcell hb).2 _ _ (by simp)).trans (by simp [go_sem])
    have f1 : w1.frozen? ⟨w.heap.size + 1, 1, none⟩ = false := ((bcell hb).2 _ _ (by simp)).trans (by simp [go_sem])
    have f2 : w1.frozen? ⟨w.heap.size + 1, 2, none⟩ = false := ((bcell hb).2 _ _ (by simp)).trans (by simp [go_sem])
    clear hb
    go_wp2
    refine bodyPost_ret (v := .agg #[.int .i64 z, .slice none 0 0, .slice none 0 0]) (by simp [results, Try.results11, go_sem, v0, v1, v2]) rfl ⟨_, _, rfl, ?_, OwD_nil _ _⟩
    exact ((HB.out.setCell (by simp) _).setCell (by simp) _).setCell (by simp) _
end Go.Proofs.Ytaccllclihbpfaa
