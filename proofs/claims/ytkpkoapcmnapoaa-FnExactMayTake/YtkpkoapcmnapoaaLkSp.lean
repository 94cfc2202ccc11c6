/- Chapter 6, the model's side: 'l6Owner', 'OwnerOf', walked. -/
import Derived.Test.YtkpkoapcmnapoaaLkOf
namespace Go.Proofs.Ytkpkoapcmnapoaa
open Go.RowKit Go.Maps

theorem ownr_first {os : List Wn} {a : Int} {j : Nat} (hj : j < os.length) (he : (os.getD j wn0).1 = a) (hn : ∀ i, i < j → (os.getD i wn0).1 ≠ a) : ownr os a = (os.getD j wn0).2 := by
  unfold ownr
  have hf : os.find? (fun o => o.1 == a) = some (os.getD j wn0) := by
    rw [List.find?_eq_some_iff_getElem]
    refine ⟨by simpa using he, j, hj, by simp [List.getD, hj], fun i hi => ?_⟩
    have := hn i hi
    have hi' : i < os.length := by omega
    simp [List.getD, hi'] at this
    simpa using this
  rw [hf]

set_option maxRecDepth 4000 in
/-- 'l6Owner'. -/
theorem l6Owner {S : Nat → Prop} {w : World} {v : Value} {os : List Wn} (a : Int) (hv : RdO S w v os) :
    Calls Try.prog 51 #[v, .int .i64 a] w fun e w' => e = .returned (.int .i64 (ownr os a)) ∧ Below w.heap.size w w' := by
  obtain ⟨ao, c, rfl⟩ := hv.shape
  have hm := hv.max
  have HV := hide hv
  have HF := hide (fun (j : Nat) => @ownr_first os a j)
  have HN := hide (@ownr_none os a)
  obtain ⟨m, hmm⟩ : ∃ m, os.length = m := ⟨_, rfl⟩
  have HM := hide hmm
  rw [hmm] at HV hm HF HN ⊢
  obtain ⟨r, hr⟩ : ∃ r, ownr os a = r := ⟨_, rfl⟩
  rw [hr] at HF HN ⊢
  clear hv hmm hr
  go_enter Try.func51, Try.ntmps51
  go_wp2
  go_loopw [5] (fun i wr => ∃ k : Nat, k ≤ m ∧ i = .int .i64 k ∧ Hid (∀ i, i < k → (os.getD i wn0).1 ≠ a) ∧ Hid (Below w.heap.size w wr)) (fun i _ => m - (RowKit.intOf i).toNat)
  case atStart => exact ⟨0, Nat.zero_le _, rfl, fun i hi => absurd hi (Nat.not_lt_zero _), Below.refl _ _⟩
  case round =>
    obtain ⟨k, hk, rfl, HA, HB⟩ := hrel
    by_cases hlt : k < m
    · obtain ⟨b, off, rfl, q1, q2⟩ := HV.out.at (k := k) (by rw [HM.out]; exact hlt)
      have g1 := cell_later HB.out q1
      have g2 := cell_later HB.out q2
      have HFk := hide (fun h => HF.out k hlt h HA.out)
      obtain ⟨x, hx⟩ : ∃ x, (os.getD k wn0).1 = x := ⟨_, rfl⟩
      obtain ⟨y, hy⟩ : ∃ y, (os.getD k wn0).2 = y := ⟨_, rfl⟩
      rw [hx] at g1 HFk
      rw [hy] at g2 HFk
      have HX := hide hx
      clear q1 q2 hx hy
      by_cases hxa : x = a
      · have hry := HFk.out hxa
        subst hry
        subst hxa
        clear HFk HF HN
        go_wp2
        go_ret
        exact ⟨rfl, HB.out⟩
      · have hxb : (x == a) = false := by simpa using hxa
        have HA' : Hid (∀ i, i < k + 1 → (os.getD i wn0).1 ≠ a) := fun i hi => by
          by_cases e : i = k
          · rw [e, HX.out]; exact hxa
          · exact HA.out i (by omega)
        go_wp2
        go_roundw
        case rel => exact ⟨k + 1, by omega, by go_num, HA'.out, HB.out⟩
        case measure => simp [RowKit.intOf]; omega
    · have h0 : r = 0 := HN.out (fun i hi => HA.out i (by omega))
      subst h0
      clear HN HF
      go_wp2
      go_ret
      exact ⟨rfl, HB.out⟩

theorem l2HomeB (v : Int) (w : World) : Calls Try.prog 38 #[.int .i64 v] w fun e w' => e = .returned (.bool (decide (0 ≤ v ∧ v < 40))) ∧ w' = w := by
  by_cases h : 0 ≤ v ∧ v < 40
  · rw [decide_eq_true h]; exact l2HomeY v h.1 h.2 w
  · rw [decide_eq_false h]; exact l2HomeN v h w

set_option maxHeartbeats 1000000 in
set_option maxRecDepth 4000 in
theorem specOwnerOf {S : Nat → Prop} {w : World} {v : Value} {os : List Wn} (a : Int) (hv : RdO S w v os) :
    Calls Try.prog 27 #[v, .int .i64 a] w fun e w' => e = .returned (.agg #[.int .i64 (ofC os a), .int .i64 (ofV os a)]) ∧ Below w.heap.size w w' := by
  obtain ⟨ao, c, rfl⟩ := hv.shape
  have HV := hide hv
  obtain ⟨m, hm⟩ : ∃ m, os.length = m := ⟨_, rfl⟩
  rw [hm] at HV ⊢
  clear hv hm
  obtain ⟨C, hC⟩ : ∃ C, ofC os a = C := ⟨_, rfl⟩
  obtain ⟨U, hU⟩ : ∃ U, ofV os a = U := ⟨_, rfl⟩
  rw [hC, hU]
  unfold ofC at hC
  unfold ofV at hU
  obtain ⟨z, hz⟩ : ∃ z, ownF os = z := ⟨_, rfl⟩
  obtain ⟨x, hx⟩ : ∃ x, ownr os a = x := ⟨_, rfl⟩
  rw [hz, hx] at hC
  rw [hz, hx] at hU
  have HZ := hide hz
  have HX := hide hx
  clear hz hx
  by_cases hz0 : z = 0
  · subst hz0
    by_cases ha : 0 ≤ a ∧ a < 40
    · have HA := hide ha
      rw [if_neg (by simp), if_neg (fun h => h ha)] at hC hU
      clear ha
      by_cases hx0 : x = 0
      · subst hx0
        simp only [if_true] at hC
        subst hC hU
        go_enter Try.func27, Try.ntmps27
        go_wp2_with fail
        refine (l6Fault (HV.out.later (below_alloc _ _))).mono ?_
        rintro e w2 ⟨he, hb⟩
        rw [HZ.out] at he
        subst he
        have HB2 := hide (below_on (below_alloc _ _) hb)
        have c0 : w2.cell? ⟨w.heap.size, 0, none⟩ = some (.int .i64 0) := cell_later hb (by simp [go_sem])
        have c1 : w2.cell? ⟨w.heap.size, 1, none⟩ = some (.int .i64 0) := cell_later hb (by simp [go_sem])
        have f0 : ∀ o, w2.frozen? ⟨w.heap.size, o, none⟩ = false := fun o => ((bcell hb).2 _ _ (by simp)).trans (by simp [go_sem])
        clear hb
        go_wp2_with fail
        refine (l2HomeY a HA.out.1 HA.out.2 _).mono ?_
        rintro e w3 ⟨rfl, rfl⟩
        go_wp2_with fail
        refine (l6Owner a (HV.out.later HB2.out)).mono ?_
        rintro e w4 ⟨he, hb⟩
        rw [HX.out] at he
        subst he
        have HB4 := hide (below_on HB2.out hb)
        have d0 := cell_later hb c0
        have d1 := cell_later hb c1
        have F0 := ((bcell hb).2 _ 0 (World.block_lt_of_cell? _ _ c0)).trans (f0 0)
        have F1 := ((bcell hb).2 _ 1 (World.block_lt_of_cell? _ _ c0)).trans (f0 1)
        clear hb c0 c1 f0 HB2
        go_wp2
        refine bodyPost_ret (v := .agg #[.int .i64 4, .int .i64 0]) (by simp [results, Try.results27, go_sem, d0, d1]) rfl ⟨rfl, ?_⟩
        exact (HB4.out.setCell (Nat.le_refl _) _).setCell (Nat.le_refl _) _
      · rw [if_neg hx0] at hC
        subst hC hU
        go_enter Try.func27, Try.ntmps27
        go_wp2_with fail
        refine (l6Fault (HV.out.later (below_alloc _ _))).mono ?_
        rintro e w2 ⟨he, hb⟩
        rw [HZ.out] at he
        subst he
        have HB2 := hide (below_on (below_alloc _ _) hb)
        have c0 : w2.cell? ⟨w.heap.size, 0, none⟩ = some (.int .i64 0) := cell_later hb (by simp [go_sem])
        have c1 : w2.cell? ⟨w.heap.size, 1, none⟩ = some (.int .i64 0) := cell_later hb (by simp [go_sem])
        have f0 : ∀ o, w2.frozen? ⟨w.heap.size, o, none⟩ = false := fun o => ((bcell hb).2 _ _ (by simp)).trans (by simp [go_sem])
        clear hb
        go_wp2_with fail
        refine (l2HomeY a HA.out.1 HA.out.2 _).mono ?_
        rintro e w3 ⟨rfl, rfl⟩
        go_wp2_with fail
        refine (l6Owner a (HV.out.later HB2.out)).mono ?_
        rintro e w4 ⟨he, hb⟩
        rw [HX.out] at he
        subst he
        have HB4 := hide (below_on HB2.out hb)
        have d0 := cell_later hb c0
        have d1 := cell_later hb c1
        have F0 := ((bcell hb).2 _ 0 (World.block_lt_of_cell? _ _ c0)).trans (f0 0)
        have F1 := ((bcell hb).2 _ 1 (World.block_lt_of_cell? _ _ c0)).trans (f0 1)
        clear hb c0 c1 f0 HB2
        go_wp2
        refine bodyPost_ret (v := .agg #[.int .i64 0, .int .i64 x]) (by simp [results, Try.results27, go_sem, d0, d1]) rfl ⟨rfl, ?_⟩
        exact (HB4.out.setCell (Nat.le_refl _) _).setCell (Nat.le_refl _) _
    · have HA := hide ha
      rw [if_neg (by simp), if_pos ha] at hC hU
      subst hC hU
      clear ha
      go_enter Try.func27, Try.ntmps27
      go_wp2_with fail
      refine (l6Fault (HV.out.later (below_alloc _ _))).mono ?_
      rintro e w2 ⟨he, hb⟩
      rw [HZ.out] at he
      subst he
      have HB2 := hide (below_on (below_alloc _ _) hb)
      have c0 : w2.cell? ⟨w.heap.size, 0, none⟩ = some (.int .i64 0) := cell_later hb (by simp [go_sem])
      have c1 : w2.cell? ⟨w.heap.size, 1, none⟩ = some (.int .i64 0) := cell_later hb (by simp [go_sem])
      have F0 : w2.frozen? ⟨w.heap.size, 0, none⟩ = false := ((bcell hb).2 _ _ (by simp)).trans (by simp [go_sem])
      have F1 : w2.frozen? ⟨w.heap.size, 1, none⟩ = false := ((bcell hb).2 _ _ (by simp)).trans (by simp [go_sem])
      clear hb
      go_wp2_with fail
      refine (l2HomeN a HA.out _).mono ?_
      rintro e w3 ⟨rfl, rfl⟩
      go_wp2
      refine bodyPost_ret (v := .agg #[.int .i64 3, .int .i64 0]) (by simp [results, Try.results27, go_sem, c0, c1]) rfl ⟨rfl, ?_⟩
      exact (HB2.out.setCell (Nat.le_refl _) _).setCell (Nat.le_refl _) _
  · rw [if_pos hz0] at hC hU
    subst hC hU
    go_enter Try.func27, Try.ntmps27
    go_wp2_with fail
    refine (l6Fault (HV.out.later (below_alloc _ _))).mono ?_
    rintro e w2 ⟨he, hb⟩
    rw [HZ.out] at he
    subst he
    have HB2 := hide (below_on (below_alloc _ _) hb)
    have c0 : w2.cell? ⟨w.heap.size, 0, none⟩ = some (.int .i64 0) := cell_later hb (by simp [go_sem])
    have c1 : w2.cell? ⟨w.heap.size, 1, none⟩ = some (.int .i64 0) := cell_later hb (by simp [go_sem])
    have F0 : w2.frozen? ⟨w.heap.size, 0, none⟩ = false := ((bcell hb).2 _ _ (by simp)).trans (by simp [go_sem])
    have F1 : w2.frozen? ⟨w.heap.size, 1, none⟩ = false := ((bcell hb).2 _ _ (by simp)).trans (by simp [go_sem])
    clear hb
    go_wp2
    refine bodyPost_ret (v := .agg #[.int .i64 z, .int .i64 0]) (by simp [results, Try.results27, go_sem, c0, c1]) rfl ⟨rfl, ?_⟩
    exact (HB2.out.setCell (Nat.le_refl _) _).setCell (Nat.le_refl _) _
end Go.Proofs.Ytkpkoapcmnapoaa
