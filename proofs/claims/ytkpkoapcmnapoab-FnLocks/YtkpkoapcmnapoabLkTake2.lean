/- Chapter 6, the program's side: 'TakeLock', walked. Made by program (gentk.py). -/
import Derived.Test.YtkpkoapcmnapoabLkTake
namespace Go.Proofs.Ytkpkoapcmnapoab
open Go.RowKit Go.Maps Go.Shelf

theorem askOk {S : Nat → Prop} {w : World} {v : Value} {os : List Wn} (hv : RdO S w v os) (h : ownF os = 0) : Calls Try.prog 15 #[v, .bool true] w fun e w' => e = .returned (.int .i64 0) ∧ Below w.heap.size w w' :=
  (askFaultL true hv).mono fun e w' ⟨he, hb⟩ => ⟨by rw [he, h]; simp, hb⟩
theorem askNo {S : Nat → Prop} {w : World} {v : Value} {os : List Wn} (hv : RdO S w v os) (h : ownF os = 0) : Calls Try.prog 15 #[v, .bool false] w fun e w' => e = .returned (.int .i64 3) ∧ Below w.heap.size w w' :=
  (askFaultL false hv).mono fun e w' ⟨he, hb⟩ => ⟨by rw [he, h]; simp, hb⟩
theorem askBad {S : Nat → Prop} {w : World} {v : Value} {os : List Wn} {y : Int} (r : Bool) (hv : RdO S w v os) (h : ownF os = y) (hy : y ≠ 0) : Calls Try.prog 15 #[v, .bool r] w fun e w' => e = .returned (.int .i64 y) ∧ Below w.heap.size w w' :=
  (askFaultL r hv).mono fun e w' ⟨he, hb⟩ => ⟨by rw [he, h, if_pos hy], hb⟩

set_option maxHeartbeats 4000000 in
set_option maxRecDepth 4000 in
theorem implTakeLock {S : Nat → Prop} {w : World} {v : Value} {os : List Wn} (t a : Int) (hv : RdO S w v os) :
    Calls Try.prog 6 #[v, .int .i64 t, .int .i64 a] w (EndsO (tkC os t a) (tkR os t a) w) := by
  obtain ⟨ao, c, rfl⟩ := hv.shape
  have HV := hide hv
  obtain ⟨m, hm⟩ : ∃ m, os.length = m := ⟨_, rfl⟩
  rw [hm] at HV ⊢
  clear hv hm
  obtain ⟨C, hC⟩ : ∃ C, tkC os t a = C := ⟨_, rfl⟩
  obtain ⟨R, hR⟩ : ∃ R, tkR os t a = R := ⟨_, rfl⟩
  rw [hR]
  unfold tkR at hR
  rw [hC] at hR ⊢
  unfold tkC at hC
  obtain ⟨y, hy⟩ : ∃ y, ownF os = y := ⟨_, rfl⟩
  rw [hy] at hC
  have HY := hide hy
  by_cases hy0 : y = 0
  · subst hy0
    have HOw := hide (own_of hy)
    clear hy
    rw [if_neg (by simp)] at hC
    by_cases ht : 0 < t ∧ t ≤ 99
    · by_cases ha : 0 ≤ a ∧ a < 40
      · rw [if_pos ⟨ht, ha⟩] at hC
        have HT := hide ht
        have HA := hide ha
        have HCt := hide hC
        clear ht ha hC
        go_enter Try.func6, Try.ntmps6
        go_wp2_with fail
        refine (isTxnY t HT.out.1 HT.out.2 _).mono ?_
        rintro e w1 ⟨rfl, rfl⟩
        go_wp2_with fail
        refine (isHomeY a HA.out.1 HA.out.2 _).mono ?_
        rintro e w1' ⟨rfl, rfl⟩
        go_wp2_with fail
        refine (askOk (HV.out.later (below_alloc _ _)) HY.out).mono ?_
        rintro e w2 ⟨rfl, hb⟩
        have HB2 := hide (below_on (below_alloc _ _) hb)
        have c0 : w2.cell? ⟨w.heap.size, 0, none⟩ = some (.int .i64 0) := cell_later hb (by simp [go_sem])
        have c1 : w2.cell? ⟨w.heap.size, 1, none⟩ = some (.slice none 0 0) := cell_later hb (by simp [go_sem])
        have f0 : ∀ o, w2.frozen? ⟨w.heap.size, o, none⟩ = false := fun o => ((bcell hb).2 _ _ (by simp)).trans (by simp [go_sem])
        have hw2 : w.heap.size < w2.heap.size := World.block_lt_of_cell? _ _ c0
        clear hb
        go_wp2_with fail
        refine (heldInL (HV.out.later HB2.out) HOw.out).mono ?_
        rintro e w3 ⟨h, rfl, hb, hd⟩
        have hz3 := hb.size
        have HB3 := hide (below_on HB2.out hb)
        have HB23 := hide hb
        have d0 := cell_later hb c0
        have d1 := cell_later hb c1
        have f1 : ∀ o, w3.frozen? ⟨w.heap.size, o, none⟩ = false := fun o => ((bcell hb).2 _ _ (World.block_lt_of_cell? _ _ c0)).trans (f0 o)
        have HD := hide hd
        clear hb hd c0 c1 f0 HB2
        go_wp2_with fail
        refine (takeFaultL HD.out HA.out HT.out).mono ?_
        rintro e w4 ⟨he, hb⟩
        rw [HCt.out] at he
        subst he
        have HB4 := hide (below_on HB3.out hb)
        have HB24 := hide (HB23.out.trans (hb.mono hz3))
        have c0 := cell_later hb d0
        have c1 := cell_later hb d1
        have f0 : ∀ o, w4.frozen? ⟨w.heap.size, o, none⟩ = false := fun o => ((bcell hb).2 _ _ (World.block_lt_of_cell? _ _ d0)).trans (f1 o)
        have HD4 : Hid (HeldAt w4 w2.heap.size h (2 * os.length) (ownr os) (holds os)) := by obtain ⟨D, B, hd⟩ := HD.out; exact ⟨D, B, hd.later hb⟩
        have hz4 := hb.size
        clear hb d0 d1 f1 HB3 HD HB23
        by_cases hC0 : C = 0
        · subst hC0
          rw [if_pos rfl] at hR
          have HRe := hide hR
          have hft := tkF_ok HCt.out
          have HPut := hide (putL (a := a) (t := t) HD4.out (by have := HOw.out.len; omega) HA.out HT.out hft)
          have HF := hide hft
          clear hR hft
          go_wp2_with fail
          refine HPut.out.mono ?_
          rintro e w5 ⟨rfl, hb, hd⟩
          have HB25 := hide (HB24.out.trans hb)
          have HB5 := hide (HB4.out.trans (hb.mono (by omega)))
          have hz5 := hb.size
          have d0 : w5.cell? ⟨w.heap.size, 0, none⟩ = some (.int .i64 0) := (World.cell?_of_block (hb.block _ hw2)).trans c0
          have d1 : w5.cell? ⟨w.heap.size, 1, none⟩ = some (.slice none 0 0) := (World.cell?_of_block (hb.block _ hw2)).trans c1
          have f1 : ∀ o, w5.frozen? ⟨w.heap.size, o, none⟩ = false := fun o => (hb.frozen (p := ⟨w.heap.size, o, none⟩) hw2).trans (f0 o)
          have HOwn : Hid (Calls Try.prog 21 #[.map (some h)] w5 fun e w' => ∃ z, e = .returned z ∧ Below w5.heap.size w5 w' ∧ OwO w5.heap.size w' z R) := by
            have hT := HT.out
            refine ownersL hd (by have := HOw.out.len; omega) ?_ ?_
            · rw [← HRe.out]; exact tkL_up HOw.out HF.out
            · intro o; rw [← HRe.out]; exact tkL_mem HOw.out (by omega) HF.out o
          clear hb hd c0 c1 f0
          go_wp2_with fail
          refine HOwn.out.mono ?_
          rintro e w6 ⟨zz, rfl, hb, ho⟩
          obtain ⟨az, cz, rfl⟩ := ho.shape
          have HB6 := hide (below_on HB5.out hb)
          have c0 := cell_later hb d0
          have c1 := cell_later hb d1
          have F0 := ((bcell hb).2 _ 0 (World.block_lt_of_cell? _ _ d0)).trans (f1 0)
          have F1 := ((bcell hb).2 _ 1 (World.block_lt_of_cell? _ _ d0)).trans (f1 1)
          have HFi := hide (ret_owns (x := .int .i64 0) HB6.out (Nat.le_refl _) ho (by omega))
          clear hb d0 d1 f1 ho
          go_wp2
          refine bodyPost_ret (v := .agg #[.int .i64 0, .slice az R.length cz]) (by simp [results, Try.results6, go_sem, c0, c1]) rfl ⟨_, rfl, HFi.out.1, HFi.out.2⟩
        · rw [if_neg hC0] at hR
          subst hR
          have F0 := f0 0
          have F1 := f0 1
          clear f0
          go_wp2
          refine bodyPost_ret (v := .agg #[.int .i64 C, .slice none 0 0]) (by simp [results, Try.results6, go_sem, c0, c1]) rfl ⟨_, rfl, ?_, OwO_nil _ _⟩
          exact (HB4.out.setCell (Nat.le_refl _) _).setCell (Nat.le_refl _) _
      · rw [if_neg (fun h => ha h.2)] at hC
        subst hC
        rw [if_neg (by decide)] at hR
        subst hR
        have HT := hide ht
        have HA := hide ha
        clear ht ha
        go_enter Try.func6, Try.ntmps6
        go_wp2_with fail
        refine (isTxnY t HT.out.1 HT.out.2 _).mono ?_
        rintro e w1 ⟨rfl, rfl⟩
        go_wp2_with fail
        refine (isHomeN a HA.out _).mono ?_
        rintro e w1' ⟨rfl, rfl⟩
        go_wp2_with fail
        refine (askNo (HV.out.later (below_alloc _ _)) HY.out).mono ?_
        rintro e w2 ⟨rfl, hb⟩
        have HB2 := hide (below_on (below_alloc _ _) hb)
        have c0 : w2.cell? ⟨w.heap.size, 0, none⟩ = some (.int .i64 0) := cell_later hb (by simp [go_sem])
        have c1 : w2.cell? ⟨w.heap.size, 1, none⟩ = some (.slice none 0 0) := cell_later hb (by simp [go_sem])
        have f0 : ∀ o, w2.frozen? ⟨w.heap.size, o, none⟩ = false := fun o => ((bcell hb).2 _ _ (by simp)).trans (by simp [go_sem])
        have hw2 : w.heap.size < w2.heap.size := World.block_lt_of_cell? _ _ c0
        clear hb
        have F0 := f0 0
        have F1 := f0 1
        clear f0
        go_wp2
        refine bodyPost_ret (v := .agg #[.int .i64 3, .slice none 0 0]) (by simp [results, Try.results6, go_sem, c0, c1]) rfl ⟨_, rfl, ?_, OwO_nil _ _⟩
        exact (HB2.out.setCell (Nat.le_refl _) _).setCell (Nat.le_refl _) _
    · rw [if_neg (fun h => ht h.1)] at hC
      subst hC
      rw [if_neg (by decide)] at hR
      subst hR
      have HT := hide ht
      clear ht
      go_enter Try.func6, Try.ntmps6
      go_wp2_with fail
      refine (isTxnN t HT.out _).mono ?_
      rintro e w1 ⟨rfl, rfl⟩
      go_wp2_with fail
      refine (askNo (HV.out.later (below_alloc _ _)) HY.out).mono ?_
      rintro e w2 ⟨rfl, hb⟩
      have HB2 := hide (below_on (below_alloc _ _) hb)
      have c0 : w2.cell? ⟨w.heap.size, 0, none⟩ = some (.int .i64 0) := cell_later hb (by simp [go_sem])
      have c1 : w2.cell? ⟨w.heap.size, 1, none⟩ = some (.slice none 0 0) := cell_later hb (by simp [go_sem])
      have f0 : ∀ o, w2.frozen? ⟨w.heap.size, o, none⟩ = false := fun o => ((bcell hb).2 _ _ (by simp)).trans (by simp [go_sem])
      have hw2 : w.heap.size < w2.heap.size := World.block_lt_of_cell? _ _ c0
      clear hb
      have F0 := f0 0
      have F1 := f0 1
      clear f0
      go_wp2
      refine bodyPost_ret (v := .agg #[.int .i64 3, .slice none 0 0]) (by simp [results, Try.results6, go_sem, c0, c1]) rfl ⟨_, rfl, ?_, OwO_nil _ _⟩
      exact (HB2.out.setCell (Nat.le_refl _) _).setCell (Nat.le_refl _) _
  · rw [if_pos hy0] at hC
    subst hC
    rw [if_neg hy0] at hR
    subst hR
    clear hy
    by_cases ht : 0 < t ∧ t ≤ 99
    · by_cases ha : 0 ≤ a ∧ a < 40
      · have HT := hide ht
        have HA := hide ha
        clear ht ha
        go_enter Try.func6, Try.ntmps6
        go_wp2_with fail
        refine (isTxnY t HT.out.1 HT.out.2 _).mono ?_
        rintro e w1 ⟨rfl, rfl⟩
        go_wp2_with fail
        refine (isHomeY a HA.out.1 HA.out.2 _).mono ?_
        rintro e w1' ⟨rfl, rfl⟩
        go_wp2_with fail
        refine (askBad true (HV.out.later (below_alloc _ _)) HY.out hy0).mono ?_
        rintro e w2 ⟨rfl, hb⟩
        have HB2 := hide (below_on (below_alloc _ _) hb)
        have c0 : w2.cell? ⟨w.heap.size, 0, none⟩ = some (.int .i64 0) := cell_later hb (by simp [go_sem])
        have c1 : w2.cell? ⟨w.heap.size, 1, none⟩ = some (.slice none 0 0) := cell_later hb (by simp [go_sem])
        have f0 : ∀ o, w2.frozen? ⟨w.heap.size, o, none⟩ = false := fun o => ((bcell hb).2 _ _ (by simp)).trans (by simp [go_sem])
        have hw2 : w.heap.size < w2.heap.size := World.block_lt_of_cell? _ _ c0
        clear hb
        have F0 := f0 0
        have F1 := f0 1
        clear f0
        go_wp2
        refine bodyPost_ret (v := .agg #[.int .i64 y, .slice none 0 0]) (by simp [results, Try.results6, go_sem, c0, c1]) rfl ⟨_, rfl, ?_, OwO_nil _ _⟩
        exact (HB2.out.setCell (Nat.le_refl _) _).setCell (Nat.le_refl _) _
      · have HT := hide ht
        have HA := hide ha
        clear ht ha
        go_enter Try.func6, Try.ntmps6
        go_wp2_with fail
        refine (isTxnY t HT.out.1 HT.out.2 _).mono ?_
        rintro e w1 ⟨rfl, rfl⟩
        go_wp2_with fail
        refine (isHomeN a HA.out _).mono ?_
        rintro e w1' ⟨rfl, rfl⟩
        go_wp2_with fail
        refine (askBad false (HV.out.later (below_alloc _ _)) HY.out hy0).mono ?_
        rintro e w2 ⟨rfl, hb⟩
        have HB2 := hide (below_on (below_alloc _ _) hb)
        have c0 : w2.cell? ⟨w.heap.size, 0, none⟩ = some (.int .i64 0) := cell_later hb (by simp [go_sem])
        have c1 : w2.cell? ⟨w.heap.size, 1, none⟩ = some (.slice none 0 0) := cell_later hb (by simp [go_sem])
        have f0 : ∀ o, w2.frozen? ⟨w.heap.size, o, none⟩ = false := fun o => ((bcell hb).2 _ _ (by simp)).trans (by simp [go_sem])
        have hw2 : w.heap.size < w2.heap.size := World.block_lt_of_cell? _ _ c0
        clear hb
        have F0 := f0 0
        have F1 := f0 1
        clear f0
        go_wp2
        refine bodyPost_ret (v := .agg #[.int .i64 y, .slice none 0 0]) (by simp [results, Try.results6, go_sem, c0, c1]) rfl ⟨_, rfl, ?_, OwO_nil _ _⟩
        exact (HB2.out.setCell (Nat.le_refl _) _).setCell (Nat.le_refl _) _
    · have HT := hide ht
      clear ht
      go_enter Try.func6, Try.ntmps6
      go_wp2_with fail
      refine (isTxnN t HT.out _).mono ?_
      rintro e w1 ⟨rfl, rfl⟩
      go_wp2_with fail
      refine (askBad false (HV.out.later (below_alloc _ _)) HY.out hy0).mono ?_
      rintro e w2 ⟨rfl, hb⟩
      have HB2 := hide (below_on (below_alloc _ _) hb)
      have c0 : w2.cell? ⟨w.heap.size, 0, none⟩ = some (.int .i64 0) := cell_later hb (by simp [go_sem])
      have c1 : w2.cell? ⟨w.heap.size, 1, none⟩ = some (.slice none 0 0) := cell_later hb (by simp [go_sem])
      have f0 : ∀ o, w2.frozen? ⟨w.heap.size, o, none⟩ = false := fun o => ((bcell hb).2 _ _ (by simp)).trans (by simp [go_sem])
      have hw2 : w.heap.size < w2.heap.size := World.block_lt_of_cell? _ _ c0
      clear hb
      have F0 := f0 0
      have F1 := f0 1
      clear f0
      go_wp2
      refine bodyPost_ret (v := .agg #[.int .i64 y, .slice none 0 0]) (by simp [results, Try.results6, go_sem, c0, c1]) rfl ⟨_, rfl, ?_, OwO_nil _ _⟩
      exact (HB2.out.setCell (Nat.le_refl _) _).setCell (Nat.le_refl _) _

theorem fldC (x y : Value) (w : World) : (Instr.field 28 (.agg #[x, y]) 0).run Try.prog w = .ok x w := by kernel_rfl
/-- What 'MayTake' answers. -/
noncomputable def mayT (os : List Wn) (t a : Int) : Bool := decide (tkC os t a = 0)
theorem implMayTake {S : Nat → Prop} {w : World} {v : Value} {os : List Wn} (t a : Int) (hv : RdO S w v os) :
    Calls Try.prog 8 #[v, .int .i64 t, .int .i64 a] w fun e w' => e = .returned (.bool (mayT os t a)) ∧ Below w.heap.size w w' := by
  obtain ⟨ao, c, rfl⟩ := hv.shape
  have HC := hide (implTakeLock t a hv)
  unfold mayT
  generalize tkC os t a = z at HC ⊢
  clear hv
  by_cases hz : z = 0
  · subst hz
    rw [decide_eq_true rfl]
    go_enter Try.func8, Try.ntmps8
    go_wp2_with fail
    refine HC.out.mono ?_
    rintro e w1 ⟨zz, rfl, hb, ho⟩
    obtain ⟨az, cz, rfl⟩ := ho.shape
    have HB := hide hb
    have hfl := fldC (.int .i64 0) (.slice az (tkR os t a).length cz) w1
    clear hb ho
    go_wp2
    go_ret
    exact ⟨rfl, HB.out⟩
  · have hzb : (z == 0) = false := by simpa using hz
    rw [decide_eq_false hz]
    go_enter Try.func8, Try.ntmps8
    go_wp2_with fail
    refine HC.out.mono ?_
    rintro e w1 ⟨zz, rfl, hb, ho⟩
    obtain ⟨az, cz, rfl⟩ := ho.shape
    have HB := hide hb
    have hfl := fldC (.int .i64 z) (.slice az (tkR os t a).length cz) w1
    clear hb ho
    go_wp2
    go_ret
    exact ⟨rfl, HB.out⟩
end Go.Proofs.Ytkpkoapcmnapoab
