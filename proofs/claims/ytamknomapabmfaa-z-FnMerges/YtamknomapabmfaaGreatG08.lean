/- Keep in one text: what each says stands at its head below. -/
import Derived.Test.YtamknomapabmfaaGreatG07
/- 'spec.l1Keep', walked. -/
namespace Go.Proofs.YtamknomapabmfaaGreat
open Go.RowKit

/-- How much of the k-th put is kept. -/
def pkOf (all : Bool) (qs : List Int) (k : Nat) : Int := if all = true then 1 else qs.getD k 0

theorem pkOf_all (qs : List Int) : pkOf true qs = fun _ => 1 := by funext k; simp [pkOf]

/-- What the loop of 'l1Keep' knows behind k puts; o: the block of out. -/
structure KeepAt (xss : List (List Int)) (ps : List (Int × List Int)) (pk : Nat → Int) (o mm n : Nat) (ao : Option Addr) (c : Nat) (w1 : World) (k : Nat) (wr : World) : Prop where
  below : Below mm w1 wr
  size : o < wr.heap.size
  cell0 : wr.cell? ⟨o, 0, none⟩ = some (.slice ao n c)
  cell1 : wr.cell? ⟨o, 1, none⟩ = some (.slice none 0 0)
  rows : RowsA (fun b => mm ≤ b ∧ b ≠ o) wr ao n (keepTo xss ps pk k)

theorem KeepAt.step {xss : List (List Int)} {ps : List (Int × List Int)} {pk : Nat → Int} {o mm n : Nat} {ao : Option Addr} {c : Nat} {w1 wr w2 : World} {k g a : Nat} {z : Value} {V : Nat → Value} {Bk : Nat → Nat} (h : KeepAt xss ps pk o mm n ao c w1 k wr) (hmo : mm ≤ o) (hao : ao = some ⟨g, 0, none⟩)
    (hr : RowsW (fun b => mm ≤ b ∧ b ≠ o) wr g n V Bk (keepTo xss ps pk k)) (hb : Below wr.heap.size wr w2) (hz : OwI wr.heap.size w2 z (tear ((keepTo xss ps pk k).getD a []) (ps.getD k (0, [])).2 (pk k))) (ha : a < n) (hak : (ps.getD k (0, [])).1 = (a : Int)) :
    KeepAt xss ps pk o mm n ao c w1 (k + 1) (w2.setCell ⟨g, a, none⟩ z) := by
  have hs := h.size
  have hg := hr.inP
  have hne : ∀ o', (⟨g, a, none⟩ : Addr) ≠ ⟨o, o', none⟩ := fun o' h' => by injection h' with h1 _; exact hg.2 h1
  refine ⟨(h.below.trans (hb.mono (by omega))).setCell (p := ⟨g, a, none⟩) hg.1 z, by have := hb.size; simp; omega, ?_, ?_, hr.round hao (fun b hb' => ⟨by omega, by omega⟩) hb hz ha hak⟩
  · rw [World.cell?_setCell_other _ _ _ _ (hne 0)]; exact cell_later hb h.cell0
  · rw [World.cell?_setCell_other _ _ _ _ (hne 1)]; exact cell_later hb h.cell1

set_option linter.unusedSimpArgs false in
set_option maxHeartbeats 8000000 in
set_option maxRecDepth 4000 in
theorem l1Keep {S T S2 : Nat → Prop} {w : World} {u v y : Value} {all : Bool} {xss : List (List Int)} {ps : List (Int × List Int)} {qs : List Int} (hu : RdII S w u xss) (hv : RdP T w v ps) (hy : RdI S2 w y qs) (hs : Small xss ps) (hso : Sound xss ps) (hq : ∀ k, k < ps.length → 0 ≤ pkOf all qs k ∧ pkOf all qs k ≤ 3) :
    Calls Tryz.prog 72 #[.agg #[u, v], y, .bool all] w fun e w' => ∃ z1 z2, e = .returned (.agg #[z1, z2]) ∧ Below w.heap.size w w' ∧ OwD (w.heap.size + 2) w' z1 z2 (keepTo xss ps (pkOf all qs) ps.length) [] := by
  have HU := hide hu
  have HV := hide hv
  have HY := hide hy
  have HS := hide hs
  have HSo := hide hso
  have HQ := hide hq
  obtain ⟨ao, c, rfl, hn⟩ := hu.shape
  obtain ⟨ao', c', rfl, hm⟩ := hv.shape
  obtain ⟨ay, cy, rfl⟩ := hy.shape
  clear hu hv hs hso hq hy
  obtain ⟨n, hn'⟩ : ∃ n, xss.length = n := ⟨_, rfl⟩
  obtain ⟨m, hm'⟩ : ∃ m, ps.length = m := ⟨_, rfl⟩
  obtain ⟨q, hq'⟩ : ∃ q, qs.length = q := ⟨_, rfl⟩
  have HN := hide hn'
  have HM := hide hm'
  have HQl := hide hq'
  have hm2 : m ≤ 200 := by rw [← hm']; exact HSo.out.puts
  have hn2 : n ≤ 70 := by rw [← hn']; exact HSo.out.rows
  rw [hn'] at HU
  rw [hm'] at HV ⊢
  rw [hq'] at HY
  rw [hn', hq'] at ⊢
  clear hn' hm' hn hm hq'
  go_enter Tryz.func72, Tryz.ntmps72
  go_wp2_with fail
  refine (l1Copy_cells ((HU.out.later (below_alloc _ _)).later (below_alloc _ _)) ((HV.out.later (below_alloc _ _)).later (below_alloc _ _)) HS.out).mono ?_
  rintro e w1 ⟨z1, z2, mm, rfl, hb, hmm1, hmm2, hII, hP⟩
  obtain ⟨ao2, c2, rfl, hA⟩ := RowsA.of hII
  obtain ⟨ao3, c3, rfl⟩ := hP.shape
  have HA := hide hA
  rw [HN.out] at HA ⊢
  have HB := hide (below_on (below_on (below_alloc _ _) (below_alloc _ _)) hb)
  have q1 : w1.cell? ⟨w.heap.size, 1, none⟩ = some (.slice ao' m c') := cell_later hb (by simp [go_sem])
  have r0 : w1.cell? ⟨w.heap.size + 1, 0, none⟩ = some (.slice none 0 0) := cell_later hb (by simp [go_sem])
  have r1 : w1.cell? ⟨w.heap.size + 1, 1, none⟩ = some (.slice none 0 0) := cell_later hb (by simp [go_sem])
  have r2 : ∀ o, w1.frozen? ⟨w.heap.size + 1, o, none⟩ = false := fun o => ((bcell hb).2 _ _ (by simp)).trans (by simp [go_sem])
  have HR2 := hide r2
  have hmm : w.heap.size + 2 ≤ mm := by simp at hmm1; omega
  clear hb r2 hII hP hA hmm1
  go_wp2
  go_loopw [8] (fun i wr => ∃ k : Nat, k ≤ m ∧ i = .int .i64 k ∧ Hid (KeepAt xss ps (pkOf all qs) w1.heap.size mm n ao2 c2 w1 k wr)) (fun i _ => m - (intOf i).toNat)
  case atStart =>
    refine ⟨0, Nat.zero_le _, rfl, ?_, by simp, by simp [go_sem], by simp [go_sem], ?_⟩
    · exact ((Below.refl _ _).alloc (by omega) _)
    · exact (HA.out.later (below_alloc _ _)).mono fun b hb _ => ⟨hb.1, by omega⟩
  case round =>
    obtain ⟨k, hk, rfl, HK⟩ := hrel
    have c0 := HK.out.cell0
    have hsz := HK.out.size
    have d1 := (HK.out.below.cell (p := ⟨w.heap.size, 1, none⟩) (by dsimp only; omega)).trans q1
    by_cases hlt : k < m
    · have hkm : k < ps.length := by rw [HM.out]; exact hlt
      obtain ⟨b, off, Vp, rfl, p1, p2, p3⟩ := HV.out.at (k := k) hkm
      obtain ⟨a, ha⟩ : ∃ a : Nat, (ps.getD k (0, [])).1 = (a : Int) := ⟨_, (Int.toNat_of_nonneg (HSo.out.at0 k hkm)).symm⟩
      have han : a < n := by have h1 := HSo.out.at1 k hkm; rw [ha, HN.out] at h1; omega
      obtain ⟨g, Vr, Bk, rfl, hw⟩ := HK.out.rows.2 (by omega)
      have B4 : Hid (Below w.heap.size w wr) := HB.out.trans (HK.out.below.mono (by omega))
      have g1 := cell_later B4.out p1
      have g2 := cell_later B4.out p2
      rw [ha] at g1
      have R := hide (p3.later B4.out)
      obtain ⟨ao3, c3, rfl⟩ := p3.shape
      have hbl : b < w.heap.size := World.block_lt_of_cell? _ _ p1
      have HW := hide hw
      have hgl := hw.lt
      have HA' := hide ha
      have HL2 := hide (wordsF_zero (HSo.out.put k hkm)).1
      have HL1 := hide (keepTo_short HSo.out (pkOf all qs) k (by omega) a)
      have HRa := hide (hw.rd a han)
      have fg := hw.free a
      have cg := hw.cell a han
      have ha0 : (0 : Int) ≤ (a : Int) := Int.natCast_nonneg _
      have ha1 : (a : Int) < (n : Int) := by omega
      obtain ⟨l, hl⟩ : ∃ l, (ps.getD k (0, [])).2.length = l := ⟨_, rfl⟩
      have HLen := hide hl
      rw [hl] at g2 R
      obtain ⟨aor, cr, hvr⟩ := (hw.rd a han).shape
      obtain ⟨lr, hlr⟩ : ∃ lr, ((keepTo xss ps (pkOf all qs) k).getD a []).length = lr := ⟨_, rfl⟩
      rw [hlr] at hvr
      rw [hvr] at cg HRa
      have HLr := hide hlr
      obtain ⟨p, hp⟩ : ∃ p, pkOf all qs k = p := ⟨_, rfl⟩
      have hq := HQ.out k hkm
      rw [hp] at hq
      obtain ⟨hq0, hq3⟩ := hq
      have HP := hide hp
      have hcase : (all = true ∧ p = 1) ∨ (all = false ∧ k < q ∧ p = qs.getD k 0) ∨ (all = false ∧ q ≤ k ∧ p = 0) := by
        cases all with
        | true => left; simp [pkOf] at hp; exact ⟨rfl, hp.symm⟩
        | false =>
          right
          simp only [pkOf] at hp
          rw [if_neg (by decide)] at hp
          by_cases hkq : k < q
          · exact Or.inl ⟨rfl, hkq, hp.symm⟩
          · refine Or.inr ⟨rfl, by omega, ?_⟩
            rw [← hp]
            simp [List.getD, List.getElem?_eq_none (show qs.length ≤ k by rw [HQl.out]; omega)]
      have HPk := hide fun hkq : k < q => (show ∃ bq oq, ay = some ⟨bq, oq, none⟩ ∧ wr.cell? ⟨bq, oq + k, none⟩ = some (.int .i64 (qs.getD k 0)) from (HY.out.later B4.out).at (by rw [HQl.out]; exact hkq))
      clear p1 p2 p3 hw ha hl hp hlr hvr
      have hcell : (∃ bq oq, ay = some ⟨bq, oq, none⟩ ∧ wr.cell? ⟨bq, oq + k, none⟩ = some (.int .i64 p)) ∨ all = true ∨ q ≤ k := by
        rcases hcase with ⟨h, _⟩ | ⟨_, hkq, hpq⟩ | ⟨_, h, _⟩
        · exact Or.inr (Or.inl h)
        · rw [hpq]; exact Or.inl (HPk.out hkq)
        · exact Or.inr (Or.inr h)
      obtain ⟨lz, hlz⟩ : ∃ lz, (tear ((keepTo xss ps (pkOf all qs) k).getD a []) (ps.getD k (0, [])).2 p).length = lz := ⟨_, rfl⟩
      have HLz := hide hlz
      clear hlz
      have HTw := hide fun (q : Nat) => l1Tear (w := wr.drewN q) (HRa.out.drewN q) (R.out.drewN q) HL1.out HL2.out hq0 hq3
      have hne : ∀ b' o', g ≠ b' → (⟨g, a, none⟩ : Addr) ≠ ⟨b', o', none⟩ := fun b' o' h h' => by injection h' with h1 _; exact h h1
      have hg0 : g ≠ w1.heap.size := HW.out.inP.2
      have hgm : mm ≤ g := HW.out.inP.1
      have hg1 : g ≠ w.heap.size := by omega
      have hg2 : g ≠ b := by omega
      rcases hcase with ⟨rfl, hp1⟩ | ⟨rfl, hkq, hpq⟩ | ⟨rfl, hkq, hp0⟩
      · clear hcell HPk
        subst hp1
        go_wp2_with fail
        refine wp_region_held_drew (S := fun w' => w'.cell? ⟨w1.heap.size, 0, none⟩ = some (.slice (some ⟨g, 0, none⟩) n c2) ∧ w'.cell? ⟨w.heap.size, 1, none⟩ = some (.slice (some ⟨b, off, none⟩) m c') ∧ w'.cell? ⟨b, off + k * 2 + 1, none⟩ = some (.slice ao3 l c3)) (by kernel_rfl) ⟨c0, d1, g2⟩ (fun hHeld => ?_)
        refine wpAnyH_take (i := 0) (v := ?va0) rfl (by kernel_rfl) (by kernel_rfl) (by kernel_rfl) (fun _ _ _ h => h) (Or.inl ⟨by rfl, ?ha0⟩) hHeld ?ra0
        case ha0 => intro w5 hSw; (try dsimp only at hSw); first | (go_simp; done) | (go_simp; with_reducible rfl)
        try simp only [Act.put, List.setIfInBounds_toArray, List.set_cons_zero, List.set_cons_succ]
        refine wpAnyH_take (i := 1) (v := ?va1) rfl (by kernel_rfl) (by kernel_rfl) (by kernel_rfl) (fun _ _ _ h => h) (Or.inl ⟨by rfl, ?ha1⟩) hHeld ?ra1
        case ha1 => intro w5 hSw; (try dsimp only at hSw); first | (go_simp; done) | (go_simp; with_reducible rfl)
        try simp only [Act.put, List.setIfInBounds_toArray, List.set_cons_zero, List.set_cons_succ]
        refine wpAnyH_take (i := 2) (v := ?va2) rfl (by kernel_rfl) (by kernel_rfl) (by kernel_rfl) (fun _ _ _ h => h) (Or.inl ⟨by rfl, ?ha2⟩) hHeld ?ra2
        case ha2 => intro w5 hSw; (try dsimp only at hSw); first | (go_simp; done) | (go_simp; with_reducible rfl)
        try simp only [Act.put, List.setIfInBounds_toArray, List.set_cons_zero, List.set_cons_succ]
        refine wpAnyH_take (i := 3) (v := ?va3) rfl (by kernel_rfl) (by kernel_rfl) (by kernel_rfl) (fun _ _ _ h => h) (Or.inl ⟨by rfl, ?ha3⟩) hHeld ?ra3
        case ha3 => intro w5 hSw; (try dsimp only at hSw); first | (go_simp; done) | (go_simp; with_reducible rfl)
        try simp only [Act.put, List.setIfInBounds_toArray, List.set_cons_zero, List.set_cons_succ]
        refine wpAnyH_take (i := 4) (v := ?va4) rfl (by kernel_rfl) (by kernel_rfl) (by kernel_rfl) (fun _ _ _ h => h) (Or.inl ⟨by rfl, ?ha4⟩) hHeld ?ra4
        case ha4 => intro w5 hSw; (try dsimp only at hSw); first | (go_simp; done) | (go_simp; with_reducible rfl)
        try simp only [Act.put, List.setIfInBounds_toArray, List.set_cons_zero, List.set_cons_succ]
        refine wpAnyH_take (i := 5) (v := ?va5) rfl (by kernel_rfl) (by kernel_rfl) (by kernel_rfl) (fun _ _ _ h => h) (Or.inl ⟨by rfl, ?ha5⟩) hHeld ?ra5
        case ha5 => intro w5 hSw; (try dsimp only at hSw); first | (go_simp; done) | (go_simp; with_reducible rfl)
        try simp only [Act.put, List.setIfInBounds_toArray, List.set_cons_zero, List.set_cons_succ]
        refine wpAnyH_take (i := 6) (v := ?va6) rfl (by kernel_rfl) (by kernel_rfl) (by kernel_rfl) (fun _ _ _ h => h) (Or.inl ⟨by rfl, ?ha6⟩) hHeld ?ra6
        case ha6 => intro w5 hSw; (try dsimp only at hSw); first | (go_simp; done) | (go_simp; with_reducible rfl)
        try simp only [Act.put, List.setIfInBounds_toArray, List.set_cons_zero, List.set_cons_succ]
        refine wpAnyH_take (i := 8) (v := ?va8) rfl (by kernel_rfl) (by kernel_rfl) (by kernel_rfl) (fun _ _ _ h => h) (Or.inl ⟨by rfl, ?ha8⟩) hHeld ?ra8
        case ha8 => intro w5 hSw; (try dsimp only at hSw); first | (go_simp; done) | (go_simp; with_reducible rfl)
        try simp only [Act.put, List.setIfInBounds_toArray, List.set_cons_zero, List.set_cons_succ]
        refine wpAnyH_take (i := 9) (v := ?va9) rfl (by kernel_rfl) (by kernel_rfl) (by kernel_rfl) (fun _ _ _ h => h) (Or.inl ⟨by rfl, ?ha9⟩) hHeld ?ra9
        case ha9 => intro w5 hSw; (try dsimp only at hSw); first | (go_simp; done) | (go_simp; with_reducible rfl)
        try simp only [Act.put, List.setIfInBounds_toArray, List.set_cons_zero, List.set_cons_succ]
        refine wpAnyH_take (i := 10) (v := ?va10) rfl (by kernel_rfl) (by kernel_rfl) (by kernel_rfl) (fun _ _ _ h => h) (Or.inl ⟨by rfl, ?ha10⟩) hHeld ?ra10
        case ha10 => intro w5 hSw; (try dsimp only at hSw); first | (go_simp; done) | (go_simp; with_reducible rfl)
        try simp only [Act.put, List.setIfInBounds_toArray, List.set_cons_zero, List.set_cons_succ]
        refine wpAnyH_take (i := 11) (v := ?va11) rfl (by kernel_rfl) (by kernel_rfl) (by kernel_rfl) (fun _ _ _ h => h) (Or.inl ⟨by rfl, ?ha11⟩) hHeld ?ra11
        case ha11 => intro w5 hSw; (try dsimp only at hSw); first | (go_simp; done) | (go_simp; with_reducible rfl)
        try simp only [Act.put, List.setIfInBounds_toArray, List.set_cons_zero, List.set_cons_succ]
        refine wpAnyH_take (i := 12) (v := ?va12) rfl (by kernel_rfl) (by kernel_rfl) (by kernel_rfl) (fun _ _ _ h => h) (Or.inl ⟨by rfl, ?ha12⟩) hHeld ?ra12
        case ha12 => intro w5 hSw; (try dsimp only at hSw); first | (go_simp; done) | (go_simp; with_reducible rfl)
        try simp only [Act.put, List.setIfInBounds_toArray, List.set_cons_zero, List.set_cons_succ]
        refine wpAnyH_take (i := 13) (v := ?va13) rfl (by kernel_rfl) (by kernel_rfl) (by kernel_rfl) (fun _ _ _ h => h) (Or.inl ⟨by rfl, ?ha13⟩) hHeld ?ra13
        case ha13 => intro w5 hSw; (try dsimp only at hSw); first | (go_simp; done) | (go_simp; with_reducible rfl)
        try simp only [Act.put, List.setIfInBounds_toArray, List.set_cons_zero, List.set_cons_succ]
        refine wpAnyH_take (i := 14) (v := ?va14) rfl (by kernel_rfl) (by kernel_rfl) (by kernel_rfl) (fun _ _ _ h => h) (Or.inl ⟨by rfl, ?ha14⟩) hHeld ?ra14
        case ha14 => intro w5 hSw; (try dsimp only at hSw); first | (go_simp; done) | (go_simp; with_reducible rfl)
        try simp only [Act.put, List.setIfInBounds_toArray, List.set_cons_zero, List.set_cons_succ]
        refine wpAnyH_ready (rs := [7]) (by kernel_rfl) (by simp) (AllReadyH.cons rfl (fun K hK => ?_) AllReadyH.nil)
        go_simp
        refine hK.out _ _ hHeld (fun _ => ?_)
        clear hK K
        try simp only [Act.put, List.setIfInBounds_toArray, List.set_cons_zero, List.set_cons_succ]
        refine wpAnyH_ready (rs := [15]) (by kernel_rfl) (by simp) (AllReadyH.cons rfl (fun K hK => ?_) AllReadyH.nil)
        go_simp
        go_at_call 84
        refine (HTw.out 1).mono ?_
        rintro e w2 ⟨z, rfl, hb2, ho2⟩
        obtain ⟨ao4, c4, hz4⟩ := ho2.shape
        have e0 := cell_later hb2 c0
        have e1 := cell_later hb2 d1
        have e2 := cell_later hb2 g2
        have e3 : w2.frozen? ⟨g, a, none⟩ = false := ((bcell hb2).2 _ _ hgl).trans fg
        have e4 := cell_later hb2 cg
        have HB2 := hide (below_on (below_drewN wr 1) hb2)
        have HO2 := hide ho2
        rw [HLz.out] at hz4
        subst hz4
        clear hb2 ho2
        refine hK.out _ _ ⟨e0, e1, e2⟩ (fun hHeld2 => ?_)
        clear hK K
        try simp only [Act.put, List.setIfInBounds_toArray, List.set_cons_zero, List.set_cons_succ]
        refine wpAnyH_take (i := 16) (v := ?va16) rfl (by kernel_rfl) (by kernel_rfl) (by kernel_rfl) (fun _ _ _ h => h) (Or.inl ⟨by rfl, ?ha16⟩) hHeld2 ?ra16
        case ha16 => intro w5 hSw; (try dsimp only at hSw); first | (go_simp; done) | (go_simp; with_reducible rfl)
        try simp only [Act.put, List.setIfInBounds_toArray, List.set_cons_zero, List.set_cons_succ]
        refine wpAnyH_ready (rs := [17]) (by kernel_rfl) (by simp) (AllReadyH.cons rfl (fun K hK => ?_) AllReadyH.nil)
        go_simp
        refine hK.out _ _ ⟨(World.cell?_setCell_other _ _ _ _ (hne _ _ hg0)).trans e0, (World.cell?_setCell_other _ _ _ _ (hne _ _ hg1)).trans e1, (World.cell?_setCell_other _ _ _ _ (hne _ _ hg2)).trans e2⟩ (fun _ => ?_)
        clear hK K
        try simp only [Act.put, List.setIfInBounds_toArray, List.set_cons_zero, List.set_cons_succ]
        refine wpAnyH_done (by kernel_rfl) ?_ _
        have HSt := hide (HK.out.step (a := a) (by omega) rfl HW.out HB2.out (by rw [HP.out]; exact HO2.out) han HA'.out)
        clear e0 e1 e2 e3 e4
        go_wp2
        go_roundw
        case rel => exact ⟨k + 1, hlt, by go_num, HSt.out⟩
        case measure => simp [intOf]; omega
      · obtain ⟨bq, oq, rfl, cq⟩ : ∃ bq oq, ay = some ⟨bq, oq, none⟩ ∧ wr.cell? ⟨bq, oq + k, none⟩ = some (.int .i64 p) := by
          rcases hcell with h | h | h
          · exact h
          · exact absurd h (by decide)
          · omega
        clear hcell HPk hpq
        go_wp2_with fail
        refine wp_region_held_drew (S := fun w' => w'.cell? ⟨w1.heap.size, 0, none⟩ = some (.slice (some ⟨g, 0, none⟩) n c2) ∧ w'.cell? ⟨w.heap.size, 1, none⟩ = some (.slice (some ⟨b, off, none⟩) m c') ∧ w'.cell? ⟨b, off + k * 2 + 1, none⟩ = some (.slice ao3 l c3)) (by kernel_rfl) ⟨c0, d1, g2⟩ (fun hHeld => ?_)
        refine wpAnyH_take (i := 0) (v := ?vb0) rfl (by kernel_rfl) (by kernel_rfl) (by kernel_rfl) (fun _ _ _ h => h) (Or.inl ⟨by rfl, ?hb0⟩) hHeld ?rb0
        case hb0 => intro w5 hSw; (try dsimp only at hSw); first | (go_simp; done) | (go_simp; with_reducible rfl)
        try simp only [Act.put, List.setIfInBounds_toArray, List.set_cons_zero, List.set_cons_succ]
        refine wpAnyH_take (i := 1) (v := ?vb1) rfl (by kernel_rfl) (by kernel_rfl) (by kernel_rfl) (fun _ _ _ h => h) (Or.inl ⟨by rfl, ?hb1⟩) hHeld ?rb1
        case hb1 => intro w5 hSw; (try dsimp only at hSw); first | (go_simp; done) | (go_simp; with_reducible rfl)
        try simp only [Act.put, List.setIfInBounds_toArray, List.set_cons_zero, List.set_cons_succ]
        refine wpAnyH_take (i := 2) (v := ?vb2) rfl (by kernel_rfl) (by kernel_rfl) (by kernel_rfl) (fun _ _ _ h => h) (Or.inl ⟨by rfl, ?hb2⟩) hHeld ?rb2
        case hb2 => intro w5 hSw; (try dsimp only at hSw); first | (go_simp; done) | (go_simp; with_reducible rfl)
        try simp only [Act.put, List.setIfInBounds_toArray, List.set_cons_zero, List.set_cons_succ]
        refine wpAnyH_take (i := 3) (v := ?vb3) rfl (by kernel_rfl) (by kernel_rfl) (by kernel_rfl) (fun _ _ _ h => h) (Or.inl ⟨by rfl, ?hb3⟩) hHeld ?rb3
        case hb3 => intro w5 hSw; (try dsimp only at hSw); first | (go_simp; done) | (go_simp; with_reducible rfl)
        try simp only [Act.put, List.setIfInBounds_toArray, List.set_cons_zero, List.set_cons_succ]
        refine wpAnyH_take (i := 4) (v := ?vb4) rfl (by kernel_rfl) (by kernel_rfl) (by kernel_rfl) (fun _ _ _ h => h) (Or.inl ⟨by rfl, ?hb4⟩) hHeld ?rb4
        case hb4 => intro w5 hSw; (try dsimp only at hSw); first | (go_simp; done) | (go_simp; with_reducible rfl)
        try simp only [Act.put, List.setIfInBounds_toArray, List.set_cons_zero, List.set_cons_succ]
        refine wpAnyH_take (i := 5) (v := ?vb5) rfl (by kernel_rfl) (by kernel_rfl) (by kernel_rfl) (fun _ _ _ h => h) (Or.inl ⟨by rfl, ?hb5⟩) hHeld ?rb5
        case hb5 => intro w5 hSw; (try dsimp only at hSw); first | (go_simp; done) | (go_simp; with_reducible rfl)
        try simp only [Act.put, List.setIfInBounds_toArray, List.set_cons_zero, List.set_cons_succ]
        refine wpAnyH_take (i := 6) (v := ?vb6) rfl (by kernel_rfl) (by kernel_rfl) (by kernel_rfl) (fun _ _ _ h => h) (Or.inl ⟨by rfl, ?hb6⟩) hHeld ?rb6
        case hb6 => intro w5 hSw; (try dsimp only at hSw); first | (go_simp; done) | (go_simp; with_reducible rfl)
        try simp only [Act.put, List.setIfInBounds_toArray, List.set_cons_zero, List.set_cons_succ]
        refine wpAnyH_take (i := 8) (v := ?vb8) rfl (by kernel_rfl) (by kernel_rfl) (by kernel_rfl) (fun _ _ _ h => h) (Or.inl ⟨by rfl, ?hb8⟩) hHeld ?rb8
        case hb8 => intro w5 hSw; (try dsimp only at hSw); first | (go_simp; done) | (go_simp; with_reducible rfl)
        try simp only [Act.put, List.setIfInBounds_toArray, List.set_cons_zero, List.set_cons_succ]
        refine wpAnyH_take (i := 9) (v := ?vb9) rfl (by kernel_rfl) (by kernel_rfl) (by kernel_rfl) (fun _ _ _ h => h) (Or.inl ⟨by rfl, ?hb9⟩) hHeld ?rb9
        case hb9 => intro w5 hSw; (try dsimp only at hSw); first | (go_simp; done) | (go_simp; with_reducible rfl)
        try simp only [Act.put, List.setIfInBounds_toArray, List.set_cons_zero, List.set_cons_succ]
        refine wpAnyH_take (i := 10) (v := ?vb10) rfl (by kernel_rfl) (by kernel_rfl) (by kernel_rfl) (fun _ _ _ h => h) (Or.inl ⟨by rfl, ?hb10⟩) hHeld ?rb10
        case hb10 => intro w5 hSw; (try dsimp only at hSw); first | (go_simp; done) | (go_simp; with_reducible rfl)
        try simp only [Act.put, List.setIfInBounds_toArray, List.set_cons_zero, List.set_cons_succ]
        refine wpAnyH_take (i := 11) (v := ?vb11) rfl (by kernel_rfl) (by kernel_rfl) (by kernel_rfl) (fun _ _ _ h => h) (Or.inl ⟨by rfl, ?hb11⟩) hHeld ?rb11
        case hb11 => intro w5 hSw; (try dsimp only at hSw); first | (go_simp; done) | (go_simp; with_reducible rfl)
        try simp only [Act.put, List.setIfInBounds_toArray, List.set_cons_zero, List.set_cons_succ]
        refine wpAnyH_take (i := 12) (v := ?vb12) rfl (by kernel_rfl) (by kernel_rfl) (by kernel_rfl) (fun _ _ _ h => h) (Or.inl ⟨by rfl, ?hb12⟩) hHeld ?rb12
        case hb12 => intro w5 hSw; (try dsimp only at hSw); first | (go_simp; done) | (go_simp; with_reducible rfl)
        try simp only [Act.put, List.setIfInBounds_toArray, List.set_cons_zero, List.set_cons_succ]
        refine wpAnyH_take (i := 13) (v := ?vb13) rfl (by kernel_rfl) (by kernel_rfl) (by kernel_rfl) (fun _ _ _ h => h) (Or.inl ⟨by rfl, ?hb13⟩) hHeld ?rb13
        case hb13 => intro w5 hSw; (try dsimp only at hSw); first | (go_simp; done) | (go_simp; with_reducible rfl)
        try simp only [Act.put, List.setIfInBounds_toArray, List.set_cons_zero, List.set_cons_succ]
        refine wpAnyH_take (i := 14) (v := ?vb14) rfl (by kernel_rfl) (by kernel_rfl) (by kernel_rfl) (fun _ _ _ h => h) (Or.inl ⟨by rfl, ?hb14⟩) hHeld ?rb14
        case hb14 => intro w5 hSw; (try dsimp only at hSw); first | (go_simp; done) | (go_simp; with_reducible rfl)
        try simp only [Act.put, List.setIfInBounds_toArray, List.set_cons_zero, List.set_cons_succ]
        refine wpAnyH_ready (rs := [7]) (by kernel_rfl) (by simp) (AllReadyH.cons rfl (fun K hK => ?_) AllReadyH.nil)
        go_simp
        refine hK.out _ _ hHeld (fun _ => ?_)
        clear hK K
        try simp only [Act.put, List.setIfInBounds_toArray, List.set_cons_zero, List.set_cons_succ]
        refine wpAnyH_ready (rs := [15]) (by kernel_rfl) (by simp) (AllReadyH.cons rfl (fun K hK => ?_) AllReadyH.nil)
        go_simp
        go_at_call 84
        refine (HTw.out 1).mono ?_
        rintro e w2 ⟨z, rfl, hb2, ho2⟩
        obtain ⟨ao4, c4, hz4⟩ := ho2.shape
        have e0 := cell_later hb2 c0
        have e1 := cell_later hb2 d1
        have e2 := cell_later hb2 g2
        have e3 : w2.frozen? ⟨g, a, none⟩ = false := ((bcell hb2).2 _ _ hgl).trans fg
        have e4 := cell_later hb2 cg
        have HB2 := hide (below_on (below_drewN wr 1) hb2)
        have HO2 := hide ho2
        rw [HLz.out] at hz4
        subst hz4
        clear hb2 ho2
        refine hK.out _ _ ⟨e0, e1, e2⟩ (fun hHeld2 => ?_)
        clear hK K
        try simp only [Act.put, List.setIfInBounds_toArray, List.set_cons_zero, List.set_cons_succ]
        refine wpAnyH_take (i := 16) (v := ?vb16) rfl (by kernel_rfl) (by kernel_rfl) (by kernel_rfl) (fun _ _ _ h => h) (Or.inl ⟨by rfl, ?hb16⟩) hHeld2 ?rb16
        case hb16 => intro w5 hSw; (try dsimp only at hSw); first | (go_simp; done) | (go_simp; with_reducible rfl)
        try simp only [Act.put, List.setIfInBounds_toArray, List.set_cons_zero, List.set_cons_succ]
        refine wpAnyH_ready (rs := [17]) (by kernel_rfl) (by simp) (AllReadyH.cons rfl (fun K hK => ?_) AllReadyH.nil)
        go_simp
        refine hK.out _ _ ⟨(World.cell?_setCell_other _ _ _ _ (hne _ _ hg0)).trans e0, (World.cell?_setCell_other _ _ _ _ (hne _ _ hg1)).trans e1, (World.cell?_setCell_other _ _ _ _ (hne _ _ hg2)).trans e2⟩ (fun _ => ?_)
        clear hK K
        try simp only [Act.put, List.setIfInBounds_toArray, List.set_cons_zero, List.set_cons_succ]
        refine wpAnyH_done (by kernel_rfl) ?_ _
        have HSt := hide (HK.out.step (a := a) (by omega) rfl HW.out HB2.out (by rw [HP.out]; exact HO2.out) han HA'.out)
        clear e0 e1 e2 e3 e4
        go_wp2
        go_roundw
        case rel => exact ⟨k + 1, hlt, by go_num, HSt.out⟩
        case measure => simp [intOf]; omega
      · clear hcell HPk
        subst hp0
        go_wp2_with fail
        refine wp_region_held_drew (S := fun w' => w'.cell? ⟨w1.heap.size, 0, none⟩ = some (.slice (some ⟨g, 0, none⟩) n c2) ∧ w'.cell? ⟨w.heap.size, 1, none⟩ = some (.slice (some ⟨b, off, none⟩) m c') ∧ w'.cell? ⟨b, off + k * 2 + 1, none⟩ = some (.slice ao3 l c3)) (by kernel_rfl) ⟨c0, d1, g2⟩ (fun hHeld => ?_)
        refine wpAnyH_take (i := 0) (v := ?vc0) rfl (by kernel_rfl) (by kernel_rfl) (by kernel_rfl) (fun _ _ _ h => h) (Or.inl ⟨by rfl, ?hc0⟩) hHeld ?rc0
        case hc0 => intro w5 hSw; (try dsimp only at hSw); first | (go_simp; done) | (go_simp; with_reducible rfl)
        try simp only [Act.put, List.setIfInBounds_toArray, List.set_cons_zero, List.set_cons_succ]
        refine wpAnyH_take (i := 1) (v := ?vc1) rfl (by kernel_rfl) (by kernel_rfl) (by kernel_rfl) (fun _ _ _ h => h) (Or.inl ⟨by rfl, ?hc1⟩) hHeld ?rc1
        case hc1 => intro w5 hSw; (try dsimp only at hSw); first | (go_simp; done) | (go_simp; with_reducible rfl)
        try simp only [Act.put, List.setIfInBounds_toArray, List.set_cons_zero, List.set_cons_succ]
        refine wpAnyH_take (i := 2) (v := ?vc2) rfl (by kernel_rfl) (by kernel_rfl) (by kernel_rfl) (fun _ _ _ h => h) (Or.inl ⟨by rfl, ?hc2⟩) hHeld ?rc2
        case hc2 => intro w5 hSw; (try dsimp only at hSw); first | (go_simp; done) | (go_simp; with_reducible rfl)
        try simp only [Act.put, List.setIfInBounds_toArray, List.set_cons_zero, List.set_cons_succ]
        refine wpAnyH_take (i := 3) (v := ?vc3) rfl (by kernel_rfl) (by kernel_rfl) (by kernel_rfl) (fun _ _ _ h => h) (Or.inl ⟨by rfl, ?hc3⟩) hHeld ?rc3
        case hc3 => intro w5 hSw; (try dsimp only at hSw); first | (go_simp; done) | (go_simp; with_reducible rfl)
        try simp only [Act.put, List.setIfInBounds_toArray, List.set_cons_zero, List.set_cons_succ]
        refine wpAnyH_take (i := 4) (v := ?vc4) rfl (by kernel_rfl) (by kernel_rfl) (by kernel_rfl) (fun _ _ _ h => h) (Or.inl ⟨by rfl, ?hc4⟩) hHeld ?rc4
        case hc4 => intro w5 hSw; (try dsimp only at hSw); first | (go_simp; done) | (go_simp; with_reducible rfl)
        try simp only [Act.put, List.setIfInBounds_toArray, List.set_cons_zero, List.set_cons_succ]
        refine wpAnyH_take (i := 5) (v := ?vc5) rfl (by kernel_rfl) (by kernel_rfl) (by kernel_rfl) (fun _ _ _ h => h) (Or.inl ⟨by rfl, ?hc5⟩) hHeld ?rc5
        case hc5 => intro w5 hSw; (try dsimp only at hSw); first | (go_simp; done) | (go_simp; with_reducible rfl)
        try simp only [Act.put, List.setIfInBounds_toArray, List.set_cons_zero, List.set_cons_succ]
        refine wpAnyH_take (i := 6) (v := ?vc6) rfl (by kernel_rfl) (by kernel_rfl) (by kernel_rfl) (fun _ _ _ h => h) (Or.inl ⟨by rfl, ?hc6⟩) hHeld ?rc6
        case hc6 => intro w5 hSw; (try dsimp only at hSw); first | (go_simp; done) | (go_simp; with_reducible rfl)
        try simp only [Act.put, List.setIfInBounds_toArray, List.set_cons_zero, List.set_cons_succ]
        refine wpAnyH_take (i := 8) (v := ?vc8) rfl (by kernel_rfl) (by kernel_rfl) (by kernel_rfl) (fun _ _ _ h => h) (Or.inl ⟨by rfl, ?hc8⟩) hHeld ?rc8
        case hc8 => intro w5 hSw; (try dsimp only at hSw); first | (go_simp; done) | (go_simp; with_reducible rfl)
        try simp only [Act.put, List.setIfInBounds_toArray, List.set_cons_zero, List.set_cons_succ]
        refine wpAnyH_take (i := 9) (v := ?vc9) rfl (by kernel_rfl) (by kernel_rfl) (by kernel_rfl) (fun _ _ _ h => h) (Or.inl ⟨by rfl, ?hc9⟩) hHeld ?rc9
        case hc9 => intro w5 hSw; (try dsimp only at hSw); first | (go_simp; done) | (go_simp; with_reducible rfl)
        try simp only [Act.put, List.setIfInBounds_toArray, List.set_cons_zero, List.set_cons_succ]
        refine wpAnyH_take (i := 10) (v := ?vc10) rfl (by kernel_rfl) (by kernel_rfl) (by kernel_rfl) (fun _ _ _ h => h) (Or.inl ⟨by rfl, ?hc10⟩) hHeld ?rc10
        case hc10 => intro w5 hSw; (try dsimp only at hSw); first | (go_simp; done) | (go_simp; with_reducible rfl)
        try simp only [Act.put, List.setIfInBounds_toArray, List.set_cons_zero, List.set_cons_succ]
        refine wpAnyH_take (i := 11) (v := ?vc11) rfl (by kernel_rfl) (by kernel_rfl) (by kernel_rfl) (fun _ _ _ h => h) (Or.inl ⟨by rfl, ?hc11⟩) hHeld ?rc11
        case hc11 => intro w5 hSw; (try dsimp only at hSw); first | (go_simp; done) | (go_simp; with_reducible rfl)
        try simp only [Act.put, List.setIfInBounds_toArray, List.set_cons_zero, List.set_cons_succ]
        refine wpAnyH_take (i := 12) (v := ?vc12) rfl (by kernel_rfl) (by kernel_rfl) (by kernel_rfl) (fun _ _ _ h => h) (Or.inl ⟨by rfl, ?hc12⟩) hHeld ?rc12
        case hc12 => intro w5 hSw; (try dsimp only at hSw); first | (go_simp; done) | (go_simp; with_reducible rfl)
        try simp only [Act.put, List.setIfInBounds_toArray, List.set_cons_zero, List.set_cons_succ]
        refine wpAnyH_take (i := 13) (v := ?vc13) rfl (by kernel_rfl) (by kernel_rfl) (by kernel_rfl) (fun _ _ _ h => h) (Or.inl ⟨by rfl, ?hc13⟩) hHeld ?rc13
        case hc13 => intro w5 hSw; (try dsimp only at hSw); first | (go_simp; done) | (go_simp; with_reducible rfl)
        try simp only [Act.put, List.setIfInBounds_toArray, List.set_cons_zero, List.set_cons_succ]
        refine wpAnyH_take (i := 14) (v := ?vc14) rfl (by kernel_rfl) (by kernel_rfl) (by kernel_rfl) (fun _ _ _ h => h) (Or.inl ⟨by rfl, ?hc14⟩) hHeld ?rc14
        case hc14 => intro w5 hSw; (try dsimp only at hSw); first | (go_simp; done) | (go_simp; with_reducible rfl)
        try simp only [Act.put, List.setIfInBounds_toArray, List.set_cons_zero, List.set_cons_succ]
        refine wpAnyH_ready (rs := [7]) (by kernel_rfl) (by simp) (AllReadyH.cons rfl (fun K hK => ?_) AllReadyH.nil)
        go_simp
        refine hK.out _ _ hHeld (fun _ => ?_)
        clear hK K
        try simp only [Act.put, List.setIfInBounds_toArray, List.set_cons_zero, List.set_cons_succ]
        refine wpAnyH_ready (rs := [15]) (by kernel_rfl) (by simp) (AllReadyH.cons rfl (fun K hK => ?_) AllReadyH.nil)
        go_simp
        go_at_call 84
        refine (HTw.out 1).mono ?_
        rintro e w2 ⟨z, rfl, hb2, ho2⟩
        obtain ⟨ao4, c4, hz4⟩ := ho2.shape
        have e0 := cell_later hb2 c0
        have e1 := cell_later hb2 d1
        have e2 := cell_later hb2 g2
        have e3 : w2.frozen? ⟨g, a, none⟩ = false := ((bcell hb2).2 _ _ hgl).trans fg
        have e4 := cell_later hb2 cg
        have HB2 := hide (below_on (below_drewN wr 1) hb2)
        have HO2 := hide ho2
        rw [HLz.out] at hz4
        subst hz4
        clear hb2 ho2
        refine hK.out _ _ ⟨e0, e1, e2⟩ (fun hHeld2 => ?_)
        clear hK K
        try simp only [Act.put, List.setIfInBounds_toArray, List.set_cons_zero, List.set_cons_succ]
        refine wpAnyH_take (i := 16) (v := ?vc16) rfl (by kernel_rfl) (by kernel_rfl) (by kernel_rfl) (fun _ _ _ h => h) (Or.inl ⟨by rfl, ?hc16⟩) hHeld2 ?rc16
        case hc16 => intro w5 hSw; (try dsimp only at hSw); first | (go_simp; done) | (go_simp; with_reducible rfl)
        try simp only [Act.put, List.setIfInBounds_toArray, List.set_cons_zero, List.set_cons_succ]
        refine wpAnyH_ready (rs := [17]) (by kernel_rfl) (by simp) (AllReadyH.cons rfl (fun K hK => ?_) AllReadyH.nil)
        go_simp
        refine hK.out _ _ ⟨(World.cell?_setCell_other _ _ _ _ (hne _ _ hg0)).trans e0, (World.cell?_setCell_other _ _ _ _ (hne _ _ hg1)).trans e1, (World.cell?_setCell_other _ _ _ _ (hne _ _ hg2)).trans e2⟩ (fun _ => ?_)
        clear hK K
        try simp only [Act.put, List.setIfInBounds_toArray, List.set_cons_zero, List.set_cons_succ]
        refine wpAnyH_done (by kernel_rfl) ?_ _
        have HSt := hide (HK.out.step (a := a) (by omega) rfl HW.out HB2.out (by rw [HP.out]; exact HO2.out) han HA'.out)
        clear e0 e1 e2 e3 e4
        go_wp2
        go_roundw
        case rel => exact ⟨k + 1, hlt, by go_num, HSt.out⟩
        case measure => simp [intOf]; omega
    · have hkm : k = m := by omega
      subst hkm
      have c1 := HK.out.cell1
      have k0 := (HK.out.below.cell (p := ⟨w.heap.size + 1, 0, none⟩) (by dsimp only; omega)).trans r0
      have k1 := (HK.out.below.cell (p := ⟨w.heap.size + 1, 1, none⟩) (by dsimp only; omega)).trans r1
      have f0 := (HK.out.below.frozen (p := ⟨w.heap.size + 1, 0, none⟩) (by dsimp only; omega)).trans (HR2.out 0)
      have f1 := (HK.out.below.frozen (p := ⟨w.heap.size + 1, 1, none⟩) (by dsimp only; omega)).trans (HR2.out 1)
      go_wp2
      refine bodyPost_ret (v := .agg #[.slice ao2 n c2, .slice none 0 0]) (by simp [results, Tryz.results72, go_sem, k0, k1]) rfl ⟨_, _, rfl, ?_, fun b => w.heap.size + 2 ≤ b ∧ b < wr.heap.size, fun _ => False, fun b hb => ⟨hb.1, by simpa using hb.2⟩, fun b hb => absurd hb id, fun b _ hb' => absurd hb' id, ?_, OwP_nil _ _⟩
      · exact (((HB.out.trans (HK.out.below.mono (by omega))).setCell (by simp) _).setCell (by simp) _)
      · exact ((((HK.out.rows.mono (P' := fun b => w.heap.size + 2 ≤ b) (fun b hb _ => by omega)).set (fun b hb => by omega)).set (fun b hb => by omega)).ow (by omega)).mono (fun b hb => ⟨hb.1, by simpa using hb.2⟩)
end Go.Proofs.YtamknomapabmfaaGreat
