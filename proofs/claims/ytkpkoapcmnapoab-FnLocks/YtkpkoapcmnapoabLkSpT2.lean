/- Chapter 6, the model's side: 'TakeLock', 'MayTake', walked. -/
import Derived.Test.YtkpkoapcmnapoabLkSpT
namespace Go.Proofs.Ytkpkoapcmnapoab
open Go.RowKit Go.Maps

set_option maxHeartbeats 2000000 in
set_option maxRecDepth 4000 in
theorem specTakeLock {S : Nat → Prop} {w : World} {v : Value} {os : List Wn} (t a : Int) (hv : RdO S w v os) :
    Calls Try.prog 7 #[v, .int .i64 t, .int .i64 a] w (EndsO (tkC os t a) (tkR os t a) w) := by
  obtain ⟨ao, c, rfl⟩ := hv.shape
  have HV := hide hv
  obtain ⟨m, hm⟩ : ∃ m, os.length = m := ⟨_, rfl⟩
  rw [hm] at HV ⊢
  clear hv hm
  obtain ⟨C, hC⟩ : ∃ C, tkC os t a = C := ⟨_, rfl⟩
  obtain ⟨R, hR⟩ : ∃ R, tkR os t a = R := ⟨_, rfl⟩
  rw [hR]
  unfold tkR at hR
  rw [hC] at hR ⊢
  unfold tkC at hC
  obtain ⟨y, hy⟩ : ∃ y, ownF os = y := ⟨_, rfl⟩
  rw [hy] at hC
  have HY := hide hy
  by_cases hy0 : y = 0
  · subst hy0
    have HOw := hide (own_of hy)
    clear hy
    rw [if_neg (by simp)] at hC
    by_cases ht : 0 < t ∧ t ≤ 99
    · by_cases ha : 0 ≤ a ∧ a < 40
      · rw [if_pos ⟨ht, ha⟩] at hC
        have HTk := hide (fun (W : World) (hW : Below w.heap.size w W) => l6Take t a (HV.out.later hW) HOw.out ht.1)
        rw [hC] at HTk
        rw [hR] at HTk
        have HT := hide ht
        have HA := hide ha
        clear ht ha hC hR
        go_enter Try.func7, Try.ntmps7
        go_wp2_with fail
        refine (l6Fault (HV.out.later (below_alloc _ _))).mono ?_
        rintro e w2 ⟨he, hb⟩
        rw [HY.out] at he
        subst he
        have HB2 := hide (below_on (below_alloc _ _) hb)
        have c0 : w2.cell? ⟨w.heap.size, 0, none⟩ = some (.int .i64 0) := cell_later hb (by simp [go_sem])
        have c1 : w2.cell? ⟨w.heap.size, 1, none⟩ = some (.slice none 0 0) := cell_later hb (by simp [go_sem])
        have f0 : ∀ o, w2.frozen? ⟨w.heap.size, o, none⟩ = false := fun o => ((bcell hb).2 _ _ (by simp)).trans (by simp [go_sem])
        have hw2 : w.heap.size < w2.heap.size := World.block_lt_of_cell? _ _ c0
        clear hb
        go_wp2_with fail
        refine (l6TxnY t HT.out.1 HT.out.2 _).mono ?_
        rintro e w3 ⟨rfl, rfl⟩
        go_wp2_with fail
        refine (l2HomeY a HA.out.1 HA.out.2 _).mono ?_
        rintro e w3' ⟨rfl, rfl⟩
        go_wp2_with fail
        refine (HTk.out _ HB2.out).mono ?_
        rintro e w4 ⟨zz, rfl, hb, ho⟩
        obtain ⟨az, cz, rfl⟩ := ho.shape
        have HB4 := hide (below_on HB2.out hb)
        have d0 := cell_later hb c0
        have d1 := cell_later hb c1
        have F0 := ((bcell hb).2 _ 0 (World.block_lt_of_cell? _ _ c0)).trans (f0 0)
        have F1 := ((bcell hb).2 _ 1 (World.block_lt_of_cell? _ _ c0)).trans (f0 1)
        have HFi := hide (ret_owns (x := .int .i64 C) HB4.out (Nat.le_refl _) ho hw2)
        clear hb ho c0 c1 f0
        go_wp2
        refine bodyPost_ret (v := .agg #[.int .i64 C, .slice az R.length cz]) (by simp [results, Try.results7, go_sem, d0, d1]) rfl ⟨_, rfl, HFi.out.1, HFi.out.2⟩
      · rw [if_neg (fun h => ha h.2)] at hC
        subst hC
        rw [if_neg (by decide)] at hR
        subst hR
        have HT := hide ht
        have HA := hide ha
        clear ht ha
        go_enter Try.func7, Try.ntmps7
        go_wp2_with fail
        refine (l6Fault (HV.out.later (below_alloc _ _))).mono ?_
        rintro e w2 ⟨he, hb⟩
        rw [HY.out] at he
        subst he
        have HB2 := hide (below_on (below_alloc _ _) hb)
        have c0 : w2.cell? ⟨w.heap.size, 0, none⟩ = some (.int .i64 0) := cell_later hb (by simp [go_sem])
        have c1 : w2.cell? ⟨w.heap.size, 1, none⟩ = some (.slice none 0 0) := cell_later hb (by simp [go_sem])
        have F0 : w2.frozen? ⟨w.heap.size, 0, none⟩ = false := ((bcell hb).2 _ _ (by simp)).trans (by simp [go_sem])
        have F1 : w2.frozen? ⟨w.heap.size, 1, none⟩ = false := ((bcell hb).2 _ _ (by simp)).trans (by simp [go_sem])
        clear hb
        go_wp2_with fail
        refine (l6TxnY t HT.out.1 HT.out.2 _).mono ?_
        rintro e w3 ⟨rfl, rfl⟩
        go_wp2_with fail
        refine (l2HomeN a HA.out _).mono ?_
        rintro e w3' ⟨rfl, rfl⟩
        go_wp2
        refine bodyPost_ret (v := .agg #[.int .i64 3, .slice none 0 0]) (by simp [results, Try.results7, go_sem, c0, c1]) rfl ⟨_, rfl, ?_, OwO_nil _ _⟩
        exact (HB2.out.setCell (Nat.le_refl _) _).setCell (Nat.le_refl _) _
    · rw [if_neg (fun h => ht h.1)] at hC
      subst hC
      rw [if_neg (by decide)] at hR
      subst hR
      have HT := hide ht
      clear ht
      go_enter Try.func7, Try.ntmps7
      go_wp2_with fail
      refine (l6Fault (HV.out.later (below_alloc _ _))).mono ?_
      rintro e w2 ⟨he, hb⟩
      rw [HY.out] at he
      subst he
      have HB2 := hide (below_on (below_alloc _ _) hb)
      have c0 : w2.cell? ⟨w.heap.size, 0, none⟩ = some (.int .i64 0) := cell_later hb (by simp [go_sem])
      have c1 : w2.cell? ⟨w.heap.size, 1, none⟩ = some (.slice none 0 0) := cell_later hb (by simp [go_sem])
      have F0 : w2.frozen? ⟨w.heap.size, 0, none⟩ = false := ((bcell hb).2 _ _ (by simp)).trans (by simp [go_sem])
      have F1 : w2.frozen? ⟨w.heap.size, 1, none⟩ = false := ((bcell hb).2 _ _ (by simp)).trans (by simp [go_sem])
      clear hb
      go_wp2_with fail
      refine (l6TxnN t HT.out _).mono ?_
      rintro e w3 ⟨rfl, rfl⟩
      go_wp2
      refine bodyPost_ret (v := .agg #[.int .i64 3, .slice none 0 0]) (by simp [results, Try.results7, go_sem, c0, c1]) rfl ⟨_, rfl, ?_, OwO_nil _ _⟩
      exact (HB2.out.setCell (Nat.le_refl _) _).setCell (Nat.le_refl _) _
  · rw [if_pos hy0] at hC
    subst hC
    rw [if_neg hy0] at hR
    subst hR
    clear hy
    go_enter Try.func7, Try.ntmps7
    go_wp2_with fail
    refine (l6Fault (HV.out.later (below_alloc _ _))).mono ?_
    rintro e w2 ⟨he, hb⟩
    rw [HY.out] at he
    subst he
    have HB2 := hide (below_on (below_alloc _ _) hb)
    have c0 : w2.cell? ⟨w.heap.size, 0, none⟩ = some (.int .i64 0) := cell_later hb (by simp [go_sem])
    have c1 : w2.cell? ⟨w.heap.size, 1, none⟩ = some (.slice none 0 0) := cell_later hb (by simp [go_sem])
    have F0 : w2.frozen? ⟨w.heap.size, 0, none⟩ = false := ((bcell hb).2 _ _ (by simp)).trans (by simp [go_sem])
    have F1 : w2.frozen? ⟨w.heap.size, 1, none⟩ = false := ((bcell hb).2 _ _ (by simp)).trans (by simp [go_sem])
    clear hb
    go_wp2
    refine bodyPost_ret (v := .agg #[.int .i64 y, .slice none 0 0]) (by simp [results, Try.results7, go_sem, c0, c1]) rfl ⟨_, rfl, ?_, OwO_nil _ _⟩
    exact (HB2.out.setCell (Nat.le_refl _) _).setCell (Nat.le_refl _) _

end Go.Proofs.Ytkpkoapcmnapoab
