/- 'impl.FlushDisk', walked. -/
import Derived.Test.YtaccllclihbpfaaZero
namespace Go.Proofs.Ytaccllclihbpfaa
open Go.RowKit

/-- The rows behind a flush. -/
def flushXs (xss : List (List Int)) (ps : List (Int × List Int)) : List (List Int) := if diskF xss ps = 0 then keepTo xss ps (fun _ => 1) ps.length else []

set_option maxHeartbeats 4000000 in
set_option maxRecDepth 4000 in
theorem implFlush {S T : Nat → Prop} {w : World} {u v : Value} {xss : List (List Int)} {ps : List (Int × List Int)} (hu : RdII S w u xss) (hv : RdP T w v ps) (hs : Small xss ps) :
    Calls Try.prog 12 #[.agg #[u, v]] w (EndsD (diskF xss ps) (flushXs xss ps) [] w) := by
  unfold EndsD flushXs
  have HU := hide hu
  have HV := hide hv
  have HS := hide hs
  obtain ⟨ao, c, rfl, hn⟩ := hu.shape
  obtain ⟨ao', c', rfl, hm⟩ := hv.shape
  clear hu hv hs
  obtain ⟨z, hz⟩ : ∃ z, diskF xss ps = z := ⟨_, rfl⟩
  by_cases h0 : z = 0
  · subst h0
    rw [if_pos hz, hz]
    have HSo := hide (diskF_zero hz)
    have HZ := hide hz
    obtain ⟨n, hn'⟩ : ∃ n, xss.length = n := ⟨_, rfl⟩
    obtain ⟨m, hm'⟩ : ∃ m, ps.length = m := ⟨_, rfl⟩
    have HN := hide hn'
    have HM := hide hm'
    have hm2 : m ≤ 200 := by rw [← hm']; exact HSo.out.puts
    have hn2 : n ≤ 70 := by rw [← hn']; exact HSo.out.rows
    rw [hn'] at HU
    rw [hm'] at HV ⊢
    rw [hn'] at ⊢
    clear hz hn' hm' hn hm
    go_enter Try.func12, Try.ntmps12
    go_wp2_with fail
    refine (implFault ((HU.out.later (below_alloc _ _)).later (below_alloc _ _)) ((HV.out.later (below_alloc _ _)).later (below_alloc _ _))).mono ?_
    rintro e w1 ⟨he, hb⟩
    rw [HZ.out] at he
    subst he
    have HB := hide (below_on (below_on (below_alloc _ _) (below_alloc _ _)) hb)
    have q0 : w1.cell? ⟨w.heap.size, 0, none⟩ = some (.slice ao n c) := cell_later hb (by simp [go_sem])
    have q1 : w1.cell? ⟨w.heap.size, 1, none⟩ = some (.slice ao' m c') := cell_later hb (by simp [go_sem])
    have V := hide (Var3.later (w := (w.alloc (.cells #[.slice ao n c, .slice ao' m c'] 27)).alloc (.cells #[.int .i64 0, .slice none 0 0, .slice none 0 0] 32)) (Var3_new _ _ _ _ _) hb)
    have r0 : ∀ o, w1.frozen? ⟨w.heap.size + 1, o, none⟩ = false := fun o => ((bcell hb).2 _ _ (by simp)).trans (by simp [go_sem])
    have HR0 := hide r0
    have hs1 : w.heap.size + 1 < w1.heap.size := by have := hb.size; simp at this; omega
    have HQ1 := hide q1
    clear hb r0
    go_wp2_with fail
    refine (copyBlocksB (HU.out.later HB.out) HS.out.rows HS.out.row).mono ?_
    rintro e w2 ⟨z2, rfl, hb2, ho2⟩
    obtain ⟨ao2, c2, rfl, hA⟩ := RowsA.of ho2
    have HB2 := hide hb2
    have HA := hide hA
    rw [HN.out] at HA ⊢
    have hs2 : w1.heap.size ≤ w2.heap.size := hb2.size
    have k1 := cell_later hb2 q1
    clear hb2 ho2 hA q0 q1
    go_wp2
    go_loopw [19] (fun i wr => ∃ k : Nat, k ≤ m ∧ i = .int .i64 k ∧ Hid (RowsA (w1.heap.size ≤ ·) wr ao2 n (keepTo xss ps (fun _ => 1) k)) ∧ Hid (Below w1.heap.size w1 wr)) (fun i _ => m - (intOf i).toNat)
    case atStart => exact ⟨0, Nat.zero_le _, rfl, HA.out, HB2.out⟩
    case round =>
      obtain ⟨k, hk, rfl, HR, HB3⟩ := hrel
      have hz3 := HB3.out.size
      by_cases hlt : k < m
      · have hkm : k < ps.length := by rw [HM.out]; exact hlt
        obtain ⟨b, off, Vp, rfl, p1, p2, p3⟩ := HV.out.at (k := k) hkm
        obtain ⟨a, ha⟩ : ∃ a : Nat, (ps.getD k (0, [])).1 = (a : Int) := ⟨_, (Int.toNat_of_nonneg (HSo.out.at0 k hkm)).symm⟩
        have han : a < n := by have h1 := HSo.out.at1 k hkm; rw [ha, HN.out] at h1; omega
        obtain ⟨g, Vr, Bk, rfl, hw⟩ := HR.out.2 (by omega)
        have B4 : Hid (Below w.heap.size w wr) := HB.out.trans (HB3.out.mono (by omega))
        have g1 := cell_later B4.out p1
        have g2 := cell_later B4.out p2
        rw [ha] at g1
        have R := hide (p3.later B4.out)
        obtain ⟨ao3, c3, hsl⟩ := p3.shape
        have HLk := hide (HS.out.put k hkm)
        have HW := hide hw
        have hgl := hw.lt
        have HA' := hide ha
        have HT := hide (tear_all (old := (keepTo xss ps (fun _ => 1) k).getD a []) (wordsF_zero (HSo.out.put k hkm)).1)
        have fg := hw.free a
        have cg := hw.cell a han
        have ha0 : (0 : Int) ≤ (a : Int) := Int.natCast_nonneg _
        have ha1 : (a : Int) < (n : Int) := by omega
        obtain ⟨l, hl⟩ : ∃ l, (ps.getD k (0, [])).2.length = l := ⟨_, rfl⟩
        have HLen := hide hl
        rw [hl] at hsl
        rw [hsl] at g2 R
        clear p1 p2 p3 hw ha hl hsl
        go_wp2_with fail
        have A0 := below_alloc wr (.cells #[.int .i64 (a : Int), .slice ao3 l c3] 37)
        have m0 : (wr.alloc (.cells #[.int .i64 (a : Int), .slice ao3 l c3] 37)).cell? ⟨wr.heap.size, 0, none⟩ = some (.int .i64 (a : Int)) := by simp [go_sem]
        have m1 : (wr.alloc (.cells #[.int .i64 (a : Int), .slice ao3 l c3] 37)).cell? ⟨wr.heap.size, 1, none⟩ = some (.slice ao3 l c3) := by simp [go_sem]
        go_region_held3 (fun w' => w'.cell? ⟨wr.heap.size, 0, none⟩ = some (.int .i64 (a : Int)) ∧ w'.cell? ⟨wr.heap.size, 1, none⟩ = some (.slice ao3 l c3)) (first | exact ⟨m0, m1⟩ | exact ⟨e0, e1⟩ | exact ⟨(World.cell?_setCell_other _ _ _ _ (by intro h'; injection h' with h1 _; omega)).trans e0, (World.cell?_setCell_other _ _ _ _ (by intro h'; injection h' with h1 _; omega)).trans e1⟩)
          (first | (go_at_call 63; refine (copyWords ((R.out.later A0).drewN 1) HLk.out).mono ?_; rintro e w4 ⟨z4, rfl, hb4, ho4⟩; obtain ⟨ao4, c4, hz4⟩ := ho4.shape; rw [HLen.out] at hz4; subst hz4; have e0 : w4.cell? ⟨wr.heap.size, 0, none⟩ = some (.int .i64 (a : Int)) := cell_later hb4 m0; have e1 : w4.cell? ⟨wr.heap.size, 1, none⟩ = some (.slice ao3 l c3) := cell_later hb4 m1; have HB5 := hide (below_on A0 (below_on (below_drewN _ 1) hb4)); have HO4 := hide ho4; have e2 : w4.frozen? ⟨g, a, none⟩ = false := ((bcell HB5.out).2 _ _ hgl).trans fg; have e3 := cell_later HB5.out cg; clear hb4 ho4))
        have HRd := hide (HW.out.round (ao := some ⟨g, 0, none⟩) rfl (fun b hb => Nat.le_trans hz3 hb) HB5.out (by rw [HT.out]; exact HO4.out.mono (by simp)) han HA'.out)
        have HBd := hide ((HB3.out.trans (HB5.out.mono hz3)).setCell (p := ⟨g, a, none⟩) HW.out.inP (.slice ao4 l c4))
        clear e0 e1 e2 e3 m0 m1
        go_wp2
        go_roundw
        case rel => exact ⟨k + 1, hlt, by go_num, HRd.out, HBd.out⟩
        case measure => simp [intOf]; omega
      · have hkm : k = m := by omega
        subst hkm
        have v0 : wr.cell? ⟨w.heap.size + 1, 0, none⟩ = some (.int .i64 0) := (HB3.out.cell (p := ⟨w.heap.size + 1, 0, none⟩) (by simp; omega)).trans (by have := V.out.1; simpa using this)
        have v1 : wr.cell? ⟨w.heap.size + 1, 1, none⟩ = some (.slice none 0 0) := (HB3.out.cell (p := ⟨w.heap.size + 1, 1, none⟩) (by simp; omega)).trans (by have := V.out.2.1; simpa using this)
        have v2 : wr.cell? ⟨w.heap.size + 1, 2, none⟩ = some (.slice none 0 0) := (HB3.out.cell (p := ⟨w.heap.size + 1, 2, none⟩) (by simp; omega)).trans (by have := V.out.2.2; simpa using this)
        have f0 : wr.frozen? ⟨w.heap.size + 1, 0, none⟩ = false := (HB3.out.frozen (p := ⟨w.heap.size + 1, 0, none⟩) (by simp; omega)).trans (HR0.out 0)
        have f1 : wr.frozen? ⟨w.heap.size + 1, 1, none⟩ = false := (HB3.out.frozen (p := ⟨w.heap.size + 1, 1, none⟩) (by simp; omega)).trans (HR0.out 1)
        have f2 : wr.frozen? ⟨w.heap.size + 1, 2, none⟩ = false := (HB3.out.frozen (p := ⟨w.heap.size + 1, 2, none⟩) (by simp; omega)).trans (HR0.out 2)
        have HD : Hid (OwD w1.heap.size wr (.slice ao2 n c2) (.slice none 0 0) (keepTo xss ps (fun _ => 1) k) []) :=
          ⟨fun b => w1.heap.size ≤ b ∧ b < wr.heap.size, fun _ => False, fun b hb => hb, fun b hb => absurd hb id, fun b _ hb' => absurd hb' id, HR.out.ow (by omega), OwP_nil _ _⟩
        have HB6 : Hid (Below w.heap.size w wr) := HB.out.trans (HB3.out.mono (by omega))
        go_wp2
        have hfin := ret_disk (x := .int .i64 0) HB6.out (r := w.heap.size + 1) (by omega) HD.out (by omega)
        refine bodyPost_ret (v := .agg #[.int .i64 0, .slice ao2 n c2, .slice none 0 0]) (by simp [results, Try.results12, go_sem, v0, v1, v2]) rfl ⟨_, _, rfl, hfin.1, hfin.2⟩
  · rw [if_neg (by rw [hz]; exact h0), hz]
    have HZ := hide hz
    clear hz
    go_enter Try.func12, Try.ntmps12
    go_wp2_with fail
    refine (implFault ((HU.out.later (below_alloc _ _)).later (below_alloc _ _)) ((HV.out.later (below_alloc _ _)).later (below_alloc _ _))).mono ?_
    rintro e w1 ⟨he, hb⟩
    rw [HZ.out] at he
    subst he
    have HB := hide (below_on (below_on (below_alloc _ _) (below_alloc _ _)) hb)
    have v0 : w1.cell? ⟨w.heap.size + 1, 0, none⟩ = some (.int .i64 0) := cell_later hb (by simp [go_sem])
    have v1 : w1.cell? ⟨w.heap.size + 1, 1, none⟩ = some (.slice none 0 0) := cell_later hb (by simp [go_sem])
    have v2 : w1.cell? ⟨w.heap.size + 1, 2, none⟩ = some (.slice none 0 0) := cell_later hb (by simp [go_sem])
    have f0 : w1.frozen? ⟨w.heap.size + 1, 0, none⟩ = false := ((bcell hb).2 _ _ (by simp)).trans (by simp [go_sem])
    have f1 : w1.frozen? ⟨w.heap.size + 1, 1, none⟩ = false := ((bcell hb).2 _ _ (by simp)).trans (by simp [go_sem])
    have f2 : w1.frozen? ⟨w.heap.size + 1, 2, none⟩ = false := ((bcell hb).2 _ _ (by simp)).trans (by simp [go_sem])
    clear hb
    go_wp2
    refine bodyPost_ret (v := .agg #[.int .i64 z, .slice none 0 0, .slice none 0 0]) (by simp [results, Try.results12, go_sem, v0, v1, v2]) rfl ⟨_, _, rfl, ?_, OwD_nil _ _⟩
    exact ((HB.out.setCell (by simp) _).setCell (by simp) _).setCell (by simp) _
end Go.Proofs.Ytaccllclihbpfaa
