/- 'impl.FormatDisk' and 'spec.FormatDisk', walked. -/
import Derived.Test.YtkdbkkhmaiomkaaImpl2c
import Derived.Test.YtkdbkkhmaiomkaaImpl2h
import Derived.Deep.OwnRows
import Derived.Test.YtkdbkkhmaiomkaaZero
namespace Go.Proofs.Ytkdbkkhmaiomkaa
open Go.RowKit

def fmtF (q : Int) : Int := if 1 ≤ q ∧ q ≤ 65000 then 0 else 3
def fmtXs (q : Int) : List (List Int) := if 1 ≤ q ∧ q ≤ 65000 then (List.replicate 66 []).set (q % 2).toNat (packL q 0 []) else []
theorem head_fmt (q : Int) : headF q 0 [] = fmtF q := by
  unfold fmtF
  split
  · rename_i h
    exact headF_ok ⟨h.1, h.2, by omega, by omega⟩ (by simp) (fun i hi => absurd hi (by simp))
  · rename_i h
    exact headF_range (fun k => h ⟨k.1, k.2.1⟩)

/-- 66 rows of which one has words. -/
theorem fmt_own {w : World} {g p B0 lo hi : Nat} {z : Value} {ws : List Int} (hg1 : B0 ≤ g) (hg2 : g < w.heap.size) (hp : p < 66) (hc : ∀ i, i < 66 → w.cell? ⟨g, i, none⟩ = some (if i = p then z else .slice none 0 0)) (hz : IvI lo hi w z ws) (hlo : B0 ≤ lo) (hgd : hi ≤ g ∨ g < lo) :
    OwD B0 w (.slice (some ⟨g, 0, none⟩) 66 66) (.slice none 0 0) ((List.replicate 66 []).set p ws) [] := by
  obtain ⟨bz, r, q⟩ := hz
  refine ⟨fun b => b = g ∨ (ws ≠ [] ∧ b = bz), fun _ => False, fun b hb => ?_, fun b hb => hb.elim, fun _ _ h => h, ?_, ⟨none, 0, 0, 0, fun _ => .slice none 0 0, fun _ => 0, by simp, by simp, fun h => absurd rfl h, fun i hi => absurd hi (by simp)⟩⟩
  · rcases hb with rfl | ⟨hne, rfl⟩
    · exact ⟨hg1, hg2⟩
    · obtain ⟨k1, k2, k3, _⟩ := q hne
      exact ⟨by omega, k3⟩
  · refine ⟨_, 66, g, 0, fun i => if i = p then z else .slice none 0 0, fun i => if i = p then bz else 0, by simp, by simp, fun _ => ⟨rfl, Or.inl rfl⟩, fun i hi => ?_⟩
    have hi' : i < 66 := by simpa using hi
    have hat : ∀ j, j < 66 → ((List.replicate 66 ([] : List Int)).set p ws).getD j [] = if j = p then ws else [] := fun j hj => by
      by_cases e : j = p
      · subst e
        rw [getD_set_same _ _ _ (by simpa using hp), if_pos rfl]
      · rw [getD_set_other _ _ _ _ e, if_neg e]
        simp only [List.getD, List.getElem?_replicate]
        rw [if_pos hj]
        rfl
    refine ⟨by rw [Nat.zero_add]; exact hc i hi', ?_, fun hne => ?_⟩
    · rw [hat i hi']
      by_cases e : i = p
      · simp only [if_pos e]; exact r
      · simp only [if_neg e]; exact ⟨none, 0, by simp, by simp, fun h => absurd rfl h⟩
    · rw [hat i hi'] at hne
      by_cases e : i = p
      · rw [if_pos e] at hne
        obtain ⟨k1, k2, k3, k4⟩ := q hne
        simp only [if_pos e]
        refine ⟨Or.inr ⟨hne, by first | trivial | rfl⟩, by omega, k4, fun j hj hnj _ => ?_⟩
        have hj' : j < 66 := by simpa using hj
        rw [hat j hj'] at hnj
        by_cases e2 : j = p
        · rw [e, e2]
        · rw [if_neg e2] at hnj; exact absurd rfl hnj
      · rw [if_neg e] at hne; exact absurd rfl hne

theorem fmt_nil (B : Nat) (w : World) : OwD B w (.slice none 0 0) (.slice none 0 0) [] [] :=
  ⟨fun _ => False, fun _ => False, fun _ h => h.elim, fun _ h => h.elim, fun _ _ h => h, ⟨none, 0, 0, 0, fun _ => .slice none 0 0, fun _ => 0, by simp, by simp, fun h => absurd rfl h, fun i hi => absurd hi (by simp)⟩, ⟨none, 0, 0, 0, fun _ => .slice none 0 0, fun _ => 0, by simp, by simp, fun h => absurd rfl h, fun i hi => absurd hi (by simp)⟩⟩

theorem made_cells (w : World) (n : Nat) (e : TypeId) (i : Nat) (hi : i < n) : (w.alloc (.cells (madeCells #[.slice none 0 0] n) e)).cell? ⟨w.heap.size, i, none⟩ = some (.slice none 0 0) := by
  have := (World.rowIs_made w (.slice none 0 0) n e).cell hi
  simpa using this

set_option maxHeartbeats 2000000 in
set_option maxRecDepth 4000 in
theorem implFormat (q : Int) (w : World) : Calls Try.prog 11 #[.int .i64 q] w (EndsD (fmtF q) (fmtXs q) [] w) := by
  unfold EndsD fmtXs
  have A0 := hide (below_alloc w (.cells #[.int .i64 0, .slice none 0 0, .slice none 0 0] 39))
  have HP := hide (fun (w : World) => implPackHeader (w := w) q 0 (RdI_nil (fun _ => True) w none 0))
  rw [head_fmt] at HP
  by_cases hq : 1 ≤ q ∧ q ≤ 65000
  · have hf : fmtF q = 0 := by unfold fmtF; rw [if_pos hq]
    rw [hf, if_pos rfl] at HP
    rw [hf, if_pos hq]
    have HL := hide (packL_len (s := q) (t := 0) (xs := []) (by simp))
    obtain ⟨ws, hws⟩ : ∃ ws, packL q 0 [] = ws := ⟨_, rfl⟩
    rw [hws] at HP HL ⊢
    have hq0 : 0 ≤ q := by omega
    have HPl := hide (fun (w : World) => headerPlace q hq0 w)
    obtain ⟨p, hp⟩ : ∃ p : Nat, q % 2 = (p : Int) := ⟨(q % 2).toNat, by omega⟩
    have hp2 : p < 2 := by omega
    rw [hp] at HPl ⊢
    rw [Int.toNat_natCast]
    have hmk : ∀ w, (Instr.makeSlice 22 (.int .i64 66) (.int .i64 66)).run Try.prog w = .ok (.slice (some ⟨w.heap.size, 0, none⟩) 66 66) (w.alloc (.cells (madeCells #[.slice none 0 0] 66) 26)) := run_make_row' (P := Try.prog) 22 26 (.slice none 0 0) 24 Try.underlying22 Try.infoInts rfl .i64 .i64 66 (by omega) (by omega)
    have hmc : Hid (∀ (w : World) (e : TypeId) (i : Nat), i < 66 → (w.alloc (.cells (madeCells #[.slice none 0 0] 66) e)).cell? ⟨w.heap.size, i, none⟩ = some (.slice none 0 0)) := fun w e i hi => made_cells w 66 e i hi
    generalize madeCells #[.slice none 0 0] 66 = MC at hmk hmc
    clear hws hf hp
    go_enter Try.func11, Try.ntmps11
    go_wp2_with fail
    refine (HP.out _).mono ?_
    rintro e w1 ⟨z1, rfl, hb1, ho1⟩
    obtain ⟨a1, k1, hz1⟩ := ho1.shape
    rw [HL.out] at hz1
    subst hz1
    have BH := below_alloc w1 (.cells #[.int .i64 0, .slice a1 64 k1] 46)
    have BM := below_alloc (w1.alloc (.cells #[.int .i64 0, .slice a1 64 k1] 46)) (.cells MC 26)
    have hb1s : w.heap.size + 1 ≤ w1.heap.size := by have := hb1.size; simpa using this
    have HW : Hid (Below w.heap.size w ((w1.alloc (.cells #[.int .i64 0, .slice a1 64 k1] 46)).alloc (.cells MC 26)) ∧ Var3 ((w1.alloc (.cells #[.int .i64 0, .slice a1 64 k1] 46)).alloc (.cells MC 26)) w.heap.size (.int .i64 0) (.slice none 0 0) (.slice none 0 0) ∧ (∀ o, ((w1.alloc (.cells #[.int .i64 0, .slice a1 64 k1] 46)).alloc (.cells MC 26)).frozen? ⟨w.heap.size, o, none⟩ = false) ∧ ((w1.alloc (.cells #[.int .i64 0, .slice a1 64 k1] 46)).alloc (.cells MC 26)).cell? ⟨w1.heap.size, 1, none⟩ = some (.slice a1 64 k1) ∧ (∀ i, i < 66 → ((w1.alloc (.cells #[.int .i64 0, .slice a1 64 k1] 46)).alloc (.cells MC 26)).cell? ⟨w1.heap.size + 1, i, none⟩ = some (.slice none 0 0)) ∧ (∀ o, ((w1.alloc (.cells #[.int .i64 0, .slice a1 64 k1] 46)).alloc (.cells MC 26)).frozen? ⟨w1.heap.size + 1, o, none⟩ = false) ∧ IvI (w.heap.size + 1) w1.heap.size ((w1.alloc (.cells #[.int .i64 0, .slice a1 64 k1] 46)).alloc (.cells MC 26)) (.slice a1 64 k1) ws ∧ w1.heap.size + 2 ≤ ((w1.alloc (.cells #[.int .i64 0, .slice a1 64 k1] 46)).alloc (.cells MC 26)).heap.size) := by
      have hbb := below_on BH BM
      refine ⟨below_on A0.out (below_on hb1 hbb), (Var3_new w _ _ _ _).later (below_on hb1 hbb), fun o => ?_, ?_, fun i hi => ?_, fun o => by simp [go_sem], ?_, by simp⟩
      · exact ((bcell (below_on hb1 hbb)).2 _ _ (by simp)).trans (by simp [go_sem])
      · exact cell_later BM (by simp [go_sem])
      · have := hmc.out (w1.alloc (.cells #[.int .i64 0, .slice a1 64 k1] 46)) 26 i hi
        rw [World.size_alloc] at this
        exact this
      · have := ho1.iv.later hbb
        rw [World.size_alloc] at this
        exact this
    clear hb1 ho1 BH BM hmc
    go_upto_region 5 with fail
    refine forget (fun wx => Below w.heap.size w wx ∧ Var3 wx w.heap.size (.int .i64 0) (.slice none 0 0) (.slice none 0 0) ∧ (∀ o, wx.frozen? ⟨w.heap.size, o, none⟩ = false) ∧ wx.cell? ⟨w1.heap.size, 1, none⟩ = some (.slice a1 64 k1) ∧ (∀ i, i < 66 → wx.cell? ⟨w1.heap.size + 1, i, none⟩ = some (.slice none 0 0)) ∧ (∀ o, wx.frozen? ⟨w1.heap.size + 1, o, none⟩ = false) ∧ IvI (w.heap.size + 1) w1.heap.size wx (.slice a1 64 k1) ws ∧ w1.heap.size + 2 ≤ wx.heap.size) HW.out ?_
    clear HW hmk
    obtain ⟨H, hH⟩ : ∃ H, w1.heap.size = H := ⟨_, rfl⟩
    rw [hH] at hb1s ⊢
    clear hH
    rintro V ⟨hbV, ⟨r0, r1, r2⟩, rf, h1, hcs, hfs, hiv, hVs⟩
    have HBV := hide hbV
    have HIV := hide hiv
    have HCS := hide hcs
    have HRF := hide rf
    have cp := hcs p (by omega)
    have fp := hfs p
    have f0 := rf 0
    have f1 := rf 1
    have f2 := rf 2
    have hpi : (p : Int) < 66 := by omega
    have hpn : H ≠ H + 1 := by omega
    clear hbV hiv hcs hfs rf
    go_region_held3 (fun w' => w'.cell? ⟨H, 1, none⟩ = some (.slice a1 64 k1)) (first | exact h1 | exact (World.cell?_setCell_other V _ _ _ (by intro e; injection e with e1 _; omega)).trans h1)
      (first | (go_at_call 18; refine (HPl.out _).mono ?_; rintro e w9 ⟨he, hw9⟩; rw [he, hw9]; clear he hw9))
    have hwp : Wr (fun y => y = H + 1) V ((V.setCell ⟨H + 1, p, none⟩ (.slice a1 64 k1)).drewN 1) := ((Wr.refl (fun y => y = H + 1) _).setCell (p := ⟨H + 1, p, none⟩) rfl _).drewN 1
    have HE : Hid (∀ i, i < 66 → ((V.setCell ⟨H + 1, p, none⟩ (.slice a1 64 k1)).drewN 1).cell? ⟨H + 1, i, none⟩ = some (if i = p then .slice a1 64 k1 else .slice none 0 0)) := fun i hi => by
      by_cases e : i = p
      · subst e; rw [if_pos rfl]; exact World.cell?_setCell_same _ _ _ (HCS.out i hi)
      · rw [if_neg e]
        exact (World.cell?_setCell_other V _ _ _ (by intro h'; injection h' with _ h2; omega)).trans (HCS.out i hi)
    have HW : Hid (Below w.heap.size w ((V.setCell ⟨H + 1, p, none⟩ (.slice a1 64 k1)).drewN 1) ∧ Var3 ((V.setCell ⟨H + 1, p, none⟩ (.slice a1 64 k1)).drewN 1) w.heap.size (.int .i64 0) (.slice none 0 0) (.slice none 0 0) ∧ (∀ o, ((V.setCell ⟨H + 1, p, none⟩ (.slice a1 64 k1)).drewN 1).frozen? ⟨w.heap.size, o, none⟩ = false) ∧ (∀ i, i < 66 → ((V.setCell ⟨H + 1, p, none⟩ (.slice a1 64 k1)).drewN 1).cell? ⟨H + 1, i, none⟩ = some (if i = p then .slice a1 64 k1 else .slice none 0 0)) ∧ IvI (w.heap.size + 1) H ((V.setCell ⟨H + 1, p, none⟩ (.slice a1 64 k1)).drewN 1) (.slice a1 64 k1) ws ∧ H + 2 ≤ ((V.setCell ⟨H + 1, p, none⟩ (.slice a1 64 k1)).drewN 1).heap.size) :=
      ⟨HBV.out.trans (hwp.below (by omega) (fun b hb => by omega)), Var3.wr ⟨r0, r1, r2⟩ hwp (by omega), fun o => (hwp.frz _ _ (by omega)).trans (HRF.out o), HE.out, HIV.out.wr hwp (fun b e1 e2 => by omega), Nat.le_trans hVs hwp.size⟩
    clear hwp HE r0 r1 r2 f0 f1 f2 cp fp h1
    go_upto_region 6 with fail
    refine forget (fun wx => Below w.heap.size w wx ∧ Var3 wx w.heap.size (.int .i64 0) (.slice none 0 0) (.slice none 0 0) ∧ (∀ o, wx.frozen? ⟨w.heap.size, o, none⟩ = false) ∧ (∀ i, i < 66 → wx.cell? ⟨H + 1, i, none⟩ = some (if i = p then .slice a1 64 k1 else .slice none 0 0)) ∧ IvI (w.heap.size + 1) H wx (.slice a1 64 k1) ws ∧ H + 2 ≤ wx.heap.size) HW.out ?_
    clear HW HBV HIV HCS HRF
    rintro V2 ⟨hb2, ⟨r0, r1, r2⟩, rf, hc2, hi2, hs2⟩
    have HB2 := hide hb2
    have HC2 := hide hc2
    have HI2 := hide hi2
    have f0 := rf 0
    have f1 := rf 1
    have f2 := rf 2
    clear hb2 hc2 hi2 rf
    go_wp2
    have hw3 : Wr (fun y => y = w.heap.size) V2 (((V2.setCell ⟨w.heap.size, 0, none⟩ (.int .i64 0)).setCell ⟨w.heap.size, 1, none⟩ (.slice (some ⟨H + 1, 0, none⟩) 66 66)).setCell ⟨w.heap.size, 2, none⟩ (.slice none 0 0)) := (((Wr.refl (fun y => y = w.heap.size) _).setCell (p := ⟨w.heap.size, 0, none⟩) rfl _).setCell (p := ⟨w.heap.size, 1, none⟩) rfl _).setCell (p := ⟨w.heap.size, 2, none⟩) rfl _
    refine bodyPost_ret (v := .agg #[.int .i64 0, .slice (some ⟨H + 1, 0, none⟩) 66 66, .slice none 0 0]) (by simp [results, Try.results11, go_sem, r0, r1, r2]) rfl ⟨_, _, rfl, HB2.out.trans (hw3.below (by omega) (fun b hb => by omega)), fmt_own (lo := w.heap.size + 1) (hi := H) (by omega) (by have := hw3.size; omega) (by omega) (fun i hi => cell_wr hw3 (HC2.out i hi) (by omega)) (HI2.out.wr hw3 (fun b e1 e2 => by omega)) (by omega) (by omega)⟩
  · have hf : fmtF q = 3 := by unfold fmtF; rw [if_neg hq]
    rw [hf, if_neg (by decide)] at HP
    rw [hf, if_neg hq]
    go_enter Try.func11, Try.ntmps11
    go_wp2_with fail
    refine (HP.out _).mono ?_
    rintro e w1 ⟨z1, rfl, hb1, ho1⟩
    obtain ⟨a1, k1, rfl⟩ := ho1.shape
    have r0 : w1.cell? ⟨w.heap.size, 0, none⟩ = some (.int .i64 0) := cell_later hb1 (by simp [go_sem])
    have r1 : w1.cell? ⟨w.heap.size, 1, none⟩ = some (.slice none 0 0) := cell_later hb1 (by simp [go_sem])
    have r2 : w1.cell? ⟨w.heap.size, 2, none⟩ = some (.slice none 0 0) := cell_later hb1 (by simp [go_sem])
    have f0 : w1.frozen? ⟨w.heap.size, 0, none⟩ = false := ((bcell hb1).2 _ _ (by simp)).trans (by simp [go_sem])
    have f1 : w1.frozen? ⟨w.heap.size, 1, none⟩ = false := ((bcell hb1).2 _ _ (by simp)).trans (by simp [go_sem])
    have f2 : w1.frozen? ⟨w.heap.size, 2, none⟩ = false := ((bcell hb1).2 _ _ (by simp)).trans (by simp [go_sem])
    have hlt : w.heap.size < w1.heap.size := World.block_lt_of_cell? _ _ r0
    have HB1 := hide (below_on A0.out hb1)
    clear hb1 ho1
    go_wp2
    have BA := below_alloc (((w1.setCell ⟨w.heap.size, 0, none⟩ (.int .i64 3)).setCell ⟨w.heap.size, 1, none⟩ (.slice none 0 0)).setCell ⟨w.heap.size, 2, none⟩ (.slice none 0 0)) (.cells #[.int .i64 3, .slice a1 0 k1] 46)
    have m0 := cell_later BA (a := ⟨w.heap.size, 0, none⟩) (v := .int .i64 3) (by simp [go_sem, r0])
    have m1 := cell_later BA (a := ⟨w.heap.size, 1, none⟩) (v := .slice none 0 0) (by simp [go_sem, r1])
    have m2 := cell_later BA (a := ⟨w.heap.size, 2, none⟩) (v := .slice none 0 0) (by simp [go_sem, r2])
    refine bodyPost_ret (v := .agg #[.int .i64 3, .slice none 0 0, .slice none 0 0]) (by simp [results, Try.results11, go_sem, m0, m1, m2]) rfl ⟨_, _, rfl, (((HB1.out.setCell (by simp) _).setCell (by simp) _).setCell (by simp) _).trans (BA.mono (by simp; omega)), fmt_nil _ _⟩

/-- 'l1New' of 66 blocks: where its rows lie. -/
theorem l1New66 (w : World) :
    Calls Try.prog 25 #[.int .i64 66] w fun e w' => e = .returned (.agg #[.slice (some ⟨w.heap.size + 1, 0, none⟩) 66 66, .slice none 0 0]) ∧ Below w.heap.size w w' ∧ w'.heap.size = w.heap.size + 2 ∧ (∀ i, i < 66 → w'.cell? ⟨w.heap.size + 1, i, none⟩ = some (.slice none 0 0)) ∧ ∀ o, w'.frozen? ⟨w.heap.size + 1, o, none⟩ = false := by
  have hmk : ∀ w, (Instr.makeSlice 22 (.int .i64 66) (.int .i64 66)).run Try.prog w = .ok (.slice (some ⟨w.heap.size, 0, none⟩) 66 66) (w.alloc (.cells (madeCells #[.slice none 0 0] 66) 26)) := run_make_row' (P := Try.prog) 22 26 (.slice none 0 0) 24 Try.underlying22 Try.infoInts rfl .i64 .i64 66 (by omega) (by omega)
  have hmc : Hid (∀ (w : World) (e : TypeId) (i : Nat), i < 66 → (w.alloc (.cells (madeCells #[.slice none 0 0] 66) e)).cell? ⟨w.heap.size, i, none⟩ = some (.slice none 0 0)) := fun w e i hi => made_cells w 66 e i hi
  generalize madeCells #[.slice none 0 0] 66 = MC at hmk hmc
  go_enter Try.func25, Try.ntmps25
  go_wp2
  refine bodyPost_ret (v := .agg #[.slice (some ⟨w.heap.size + 1, 0, none⟩) 66 66, .slice none 0 0]) (by simp [results, Try.results25, go_sem]) rfl ⟨rfl, below_on (below_alloc _ _) (below_alloc _ _), by simp, fun i hi => ?_, fun o => by simp [go_sem]⟩
  have h := hmc.out (w.alloc (.cells #[.slice (some ⟨w.heap.size + 1, 0, none⟩) 66 66, .slice none 0 0] 25)) 26 i hi
  rw [World.size_alloc] at h
  exact h

set_option linter.unusedSimpArgs false in
set_option maxHeartbeats 2000000 in
set_option maxRecDepth 4000 in
theorem l3Format (q : Int) (hq : 1 ≤ q ∧ q ≤ 65000) (w : World) :
    Calls Try.prog 16 #[.int .i64 q] w fun e w' => ∃ u, e = .returned (.agg #[u, .slice none 0 0]) ∧ Below w.heap.size w w' ∧ OwD (w.heap.size + 1) w' u (.slice none 0 0) (fmtXs q) [] ∧ (∃ g, u = .slice (some ⟨g, 0, none⟩) 66 66) := by
  unfold fmtXs
  rw [if_pos hq]
  have A0 := hide (below_alloc w (.cells #[.slice none 0 0, .slice none 0 0] 25))
  have HL := hide (packL_len (s := q) (t := 0) (xs := []) (by simp))
  have HPk := hide (fun (w : World) (b : Nat) (hd : HdAt w b 0 q 0 (.slice none 0 0)) => l2Pack hd (RdI_nil (fun _ => True) w none 0) (by simp))
  obtain ⟨ws, hws⟩ : ∃ ws, packL q 0 [] = ws := ⟨_, rfl⟩
  rw [hws] at HPk HL ⊢
  obtain ⟨p, hp⟩ : ∃ p : Nat, q % 2 = (p : Int) := ⟨(q % 2).toNat, by omega⟩
  have hp2 : p < 2 := by omega
  have htm : Int.tmod q 2 = (p : Int) := (Int.tmod_eq_emod_of_nonneg (by omega)).trans hp
  rw [hp, Int.toNat_natCast]
  clear hws hp
  go_enter Try.func16, Try.ntmps16
  go_wp2_with fail
  refine (l1New66 _).mono ?_
  rintro e w1 ⟨rfl, hb1, hz1, hc1, hf1⟩
  rw [World.size_alloc] at hz1 hc1 hf1 ⊢
  have BD := below_on (below_alloc w1 (.cells #[.slice (some ⟨w.heap.size + 1 + 1, 0, none⟩) 66 66, .slice none 0 0] 25)) (below_alloc _ (.cells #[.int .i64 q, .int .i64 0, .slice none 0 0] 49))
  have HW : Hid (Below w.heap.size w ((w1.alloc (.cells #[.slice (some ⟨w.heap.size + 1 + 1, 0, none⟩) 66 66, .slice none 0 0] 25)).alloc (.cells #[.int .i64 q, .int .i64 0, .slice none 0 0] 49)) ∧ Var2 ((w1.alloc (.cells #[.slice (some ⟨w.heap.size + 1 + 1, 0, none⟩) 66 66, .slice none 0 0] 25)).alloc (.cells #[.int .i64 q, .int .i64 0, .slice none 0 0] 49)) w.heap.size (.slice none 0 0) (.slice none 0 0) ∧ (∀ o, ((w1.alloc (.cells #[.slice (some ⟨w.heap.size + 1 + 1, 0, none⟩) 66 66, .slice none 0 0] 25)).alloc (.cells #[.int .i64 q, .int .i64 0, .slice none 0 0] 49)).frozen? ⟨w.heap.size, o, none⟩ = false) ∧ Var2 ((w1.alloc (.cells #[.slice (some ⟨w.heap.size + 1 + 1, 0, none⟩) 66 66, .slice none 0 0] 25)).alloc (.cells #[.int .i64 q, .int .i64 0, .slice none 0 0] 49)) w1.heap.size (.slice (some ⟨w.heap.size + 1 + 1, 0, none⟩) 66 66) (.slice none 0 0) ∧ HdAt ((w1.alloc (.cells #[.slice (some ⟨w.heap.size + 1 + 1, 0, none⟩) 66 66, .slice none 0 0] 25)).alloc (.cells #[.int .i64 q, .int .i64 0, .slice none 0 0] 49)) (w1.heap.size + 1) 0 q 0 (.slice none 0 0) ∧ (∀ i, i < 66 → ((w1.alloc (.cells #[.slice (some ⟨w.heap.size + 1 + 1, 0, none⟩) 66 66, .slice none 0 0] 25)).alloc (.cells #[.int .i64 q, .int .i64 0, .slice none 0 0] 49)).cell? ⟨w.heap.size + 1 + 1, i, none⟩ = some (.slice none 0 0)) ∧ (∀ o, ((w1.alloc (.cells #[.slice (some ⟨w.heap.size + 1 + 1, 0, none⟩) 66 66, .slice none 0 0] 25)).alloc (.cells #[.int .i64 q, .int .i64 0, .slice none 0 0] 49)).frozen? ⟨w.heap.size + 1 + 1, o, none⟩ = false) ∧ ((w1.alloc (.cells #[.slice (some ⟨w.heap.size + 1 + 1, 0, none⟩) 66 66, .slice none 0 0] 25)).alloc (.cells #[.int .i64 q, .int .i64 0, .slice none 0 0] 49)).heap.size = w1.heap.size + 2) := by
    have hd := HdAt_new (w1.alloc (.cells #[.slice (some ⟨w.heap.size + 1 + 1, 0, none⟩) 66 66, .slice none 0 0] 25)) q 0 (.slice none 0 0) 49
    rw [World.size_alloc] at hd
    refine ⟨below_on A0.out (below_on hb1 BD), (Var2_new w _ _ _).later (below_on hb1 BD), fun o => ((bcell (below_on hb1 BD)).2 _ _ (by simp)).trans (by simp [go_sem]), (Var2_new w1 _ _ _).later (below_alloc _ _), hd, fun i hi => cell_later BD (hc1 i hi), fun o => ((bcell BD).2 _ _ (by omega)).trans (hf1 o), by simp⟩
  have hz1' : w.heap.size + 1 + 2 ≤ w1.heap.size := by omega
  clear hb1 hc1 hf1 BD hz1
  go_upto_region 3 with fail
  refine forget (fun wx => Below w.heap.size w wx ∧ Var2 wx w.heap.size (.slice none 0 0) (.slice none 0 0) ∧ (∀ o, wx.frozen? ⟨w.heap.size, o, none⟩ = false) ∧ Var2 wx w1.heap.size (.slice (some ⟨w.heap.size + 1 + 1, 0, none⟩) 66 66) (.slice none 0 0) ∧ HdAt wx (w1.heap.size + 1) 0 q 0 (.slice none 0 0) ∧ (∀ i, i < 66 → wx.cell? ⟨w.heap.size + 1 + 1, i, none⟩ = some (.slice none 0 0)) ∧ (∀ o, wx.frozen? ⟨w.heap.size + 1 + 1, o, none⟩ = false) ∧ wx.heap.size = w1.heap.size + 2) HW.out ?_
  clear HW
  obtain ⟨D, hD⟩ : ∃ D, w1.heap.size = D := ⟨_, rfl⟩
  rw [hD] at hz1' ⊢
  clear hD
  rintro V ⟨hbV, hVr, rf, ⟨d0, d1⟩, hHd, hcs, hfs, hVs0⟩
  have hVs : D + 2 ≤ V.heap.size := by omega
  clear hVs0
  have HBV := hide hbV
  have HVr := hide hVr
  have HRF := hide rf
  have HHd := hide hHd
  have HCS := hide hcs
  have HFS := hide hfs
  have hpi : (p : Int) < 66 := by omega
  clear hbV hVr rf hHd hcs hfs
  go_region_held3 (fun w' => w'.cell? ⟨D, 0, none⟩ = some (.slice (some ⟨w.heap.size + 1 + 1, 0, none⟩) 66 66)) (first | exact d0 | exact e0 | exact (World.cell?_setCell_other w4 _ _ _ (by intro e; injection e with e1 _; omega)).trans e0)
    (first | (go_at_call 26; refine (HPk.out (V.drewN 1) (D + 1) ⟨HHd.out.seq, HHd.out.start, HHd.out.addrs⟩).mono ?_; rintro e w4 ⟨z4, rfl, hb4, ho4⟩; obtain ⟨a4, k4, hz4⟩ := ho4.shape; rw [HL.out] at hz4; subst hz4; have e0 := cell_later hb4 d0; have e1 := cell_later hb4 d1; have cp := cell_later hb4 (HCS.out p (by omega)); have fp := ((bcell hb4).2 _ _ (show w.heap.size + 1 + 1 < V.heap.size by omega)).trans (HFS.out p); have HB4 := hide (below_on (below_drewN V 1) hb4); have HO4 := hide ho4.iv; clear hb4 ho4))
  have hz4 := HB4.out.size
  have hwp : Wr (fun y => y = w.heap.size + 1 + 1) w4 (w4.setCell ⟨w.heap.size + 1 + 1, p, none⟩ (.slice a4 64 k4)) := (Wr.refl (fun y => y = w.heap.size + 1 + 1) _).setCell (p := ⟨w.heap.size + 1 + 1, p, none⟩) rfl _
  have HE : Hid (∀ i, i < 66 → (w4.setCell ⟨w.heap.size + 1 + 1, p, none⟩ (.slice a4 64 k4)).cell? ⟨w.heap.size + 1 + 1, i, none⟩ = some (if i = p then .slice a4 64 k4 else .slice none 0 0)) := fun i hi => by
    have hold := cell_later HB4.out (HCS.out i hi)
    by_cases e : i = p
    · subst e; rw [if_pos rfl]; exact World.cell?_setCell_same _ _ _ hold
    · rw [if_neg e]
      exact (World.cell?_setCell_other w4 _ _ _ (by intro h'; injection h' with _ h2; omega)).trans hold
  have HW : Hid (Below w.heap.size w (w4.setCell ⟨w.heap.size + 1 + 1, p, none⟩ (.slice a4 64 k4)) ∧ Var2 (w4.setCell ⟨w.heap.size + 1 + 1, p, none⟩ (.slice a4 64 k4)) w.heap.size (.slice none 0 0) (.slice none 0 0) ∧ (∀ o, (w4.setCell ⟨w.heap.size + 1 + 1, p, none⟩ (.slice a4 64 k4)).frozen? ⟨w.heap.size, o, none⟩ = false) ∧ Var2 (w4.setCell ⟨w.heap.size + 1 + 1, p, none⟩ (.slice a4 64 k4)) D (.slice (some ⟨w.heap.size + 1 + 1, 0, none⟩) 66 66) (.slice none 0 0) ∧ (∀ i, i < 66 → (w4.setCell ⟨w.heap.size + 1 + 1, p, none⟩ (.slice a4 64 k4)).cell? ⟨w.heap.size + 1 + 1, i, none⟩ = some (if i = p then .slice a4 64 k4 else .slice none 0 0)) ∧ IvI V.heap.size w4.heap.size (w4.setCell ⟨w.heap.size + 1 + 1, p, none⟩ (.slice a4 64 k4)) (.slice a4 64 k4) ws ∧ w4.heap.size ≤ (w4.setCell ⟨w.heap.size + 1 + 1, p, none⟩ (.slice a4 64 k4)).heap.size) :=
    ⟨(below_on HBV.out HB4.out).trans (hwp.below (by omega) (fun b hb => by omega)), (HVr.out.later HB4.out).wr hwp (by omega), fun o => (hwp.frz _ _ (by omega)).trans (((bcell HB4.out).2 _ _ (by omega)).trans (HRF.out o)), Var2.wr ⟨e0, e1⟩ hwp (by omega), HE.out, HO4.out.wr hwp (fun b e1 e2 => by have : V.heap.size ≤ b := e1; omega), hwp.size⟩
  clear hwp HE cp fp e0 e1 d0 d1
  go_upto_region 4 with fail
  refine forget (fun wx => Below w.heap.size w wx ∧ Var2 wx w.heap.size (.slice none 0 0) (.slice none 0 0) ∧ (∀ o, wx.frozen? ⟨w.heap.size, o, none⟩ = false) ∧ Var2 wx D (.slice (some ⟨w.heap.size + 1 + 1, 0, none⟩) 66 66) (.slice none 0 0) ∧ (∀ i, i < 66 → wx.cell? ⟨w.heap.size + 1 + 1, i, none⟩ = some (if i = p then .slice a4 64 k4 else .slice none 0 0)) ∧ IvI V.heap.size w4.heap.size wx (.slice a4 64 k4) ws ∧ w4.heap.size ≤ wx.heap.size) HW.out ?_
  clear HW HBV HVr HRF HHd HCS HFS HB4 HO4
  rintro V2 ⟨hb2, ⟨r0, r1⟩, rf, ⟨d0, d1⟩, hc2, hi2, hs2⟩
  have HB2 := hide hb2
  have HC2 := hide hc2
  have HI2 := hide hi2
  have f0 := rf 0
  have f1 := rf 1
  clear hb2 hc2 hi2 rf
  go_wp2
  have hw3 : Wr (fun y => y = w.heap.size) V2 ((V2.setCell ⟨w.heap.size, 0, none⟩ (.slice (some ⟨w.heap.size + 1 + 1, 0, none⟩) 66 66)).setCell ⟨w.heap.size, 1, none⟩ (.slice none 0 0)) := ((Wr.refl (fun y => y = w.heap.size) _).setCell (p := ⟨w.heap.size, 0, none⟩) rfl _).setCell (p := ⟨w.heap.size, 1, none⟩) rfl _
  exact bodyPost_ret (v := .agg #[.slice (some ⟨w.heap.size + 1 + 1, 0, none⟩) 66 66, .slice none 0 0]) (by simp [results, Try.results16, go_sem, r0, r1]) rfl ⟨_, rfl, HB2.out.trans (hw3.below (by omega) (fun b hb => by omega)), fmt_own (lo := V.heap.size) (hi := w4.heap.size) (by omega) (by have := hw3.size; omega) (by omega) (fun i hi => cell_wr hw3 (HC2.out i hi) (by omega)) (HI2.out.wr hw3 (fun b e1 e2 => by omega)) (by omega) (by omega), _, rfl⟩

set_option maxHeartbeats 1000000 in
set_option maxRecDepth 4000 in
theorem specFormat (q : Int) (w : World) : Calls Try.prog 9 #[.int .i64 q] w (EndsD (fmtF q) (fmtXs q) [] w) := by
  unfold EndsD
  have A0 := hide (below_alloc w (.cells #[.int .i64 0, .slice none 0 0, .slice none 0 0] 39))
  by_cases hq : 1 ≤ q ∧ q ≤ 65000
  · have hf : fmtF q = 0 := by unfold fmtF; rw [if_pos hq]
    rw [hf]
    have HF := hide (fun (w : World) => l3Format q hq w)
    generalize fmtXs q = xss at HF
    go_enter Try.func9, Try.ntmps9
    go_wp2_with fail
    refine (l1In_yes q 1 65000 hq.1 hq.2 _).mono ?_
    rintro e wx ⟨he, hwx⟩
    rw [he, hwx]
    clear he hwx
    go_wp2_with fail
    refine (HF.out _).mono ?_
    rintro e w1 ⟨u, rfl, hb1, ho1, g, rfl⟩
    have r0 : w1.cell? ⟨w.heap.size, 0, none⟩ = some (.int .i64 0) := cell_later hb1 (by simp [go_sem])
    have r1 : w1.cell? ⟨w.heap.size, 1, none⟩ = some (.slice none 0 0) := cell_later hb1 (by simp [go_sem])
    have r2 : w1.cell? ⟨w.heap.size, 2, none⟩ = some (.slice none 0 0) := cell_later hb1 (by simp [go_sem])
    have f0 : w1.frozen? ⟨w.heap.size, 0, none⟩ = false := ((bcell hb1).2 _ _ (by simp)).trans (by simp [go_sem])
    have f1 : w1.frozen? ⟨w.heap.size, 1, none⟩ = false := ((bcell hb1).2 _ _ (by simp)).trans (by simp [go_sem])
    have f2 : w1.frozen? ⟨w.heap.size, 2, none⟩ = false := ((bcell hb1).2 _ _ (by simp)).trans (by simp [go_sem])
    have HB1 := hide (below_on A0.out hb1)
    have HO1 := hide ho1
    clear hb1 ho1
    go_wp2
    have hfin := ret_disk (x := .int .i64 0) HB1.out (r := w.heap.size) (Nat.le_refl _) HO1.out (by simp only [World.size_alloc]; omega)
    exact bodyPost_ret (v := .agg #[.int .i64 0, .slice (some ⟨g, 0, none⟩) 66 66, .slice none 0 0]) (by simp [results, Try.results9, go_sem, r0, r1, r2]) rfl ⟨_, _, rfl, hfin.1, hfin.2⟩
  · have hf : fmtF q = 3 := by unfold fmtF; rw [if_neg hq]
    have hx : fmtXs q = [] := by unfold fmtXs; rw [if_neg hq]
    rw [hf, hx]
    go_enter Try.func9, Try.ntmps9
    go_wp2_with fail
    refine (l1In_no q 1 65000 (by omega) _).mono ?_
    rintro e wx ⟨he, hwx⟩
    rw [he, hwx]
    clear he hwx
    go_wp2
    exact bodyPost_ret (v := .agg #[.int .i64 3, .slice none 0 0, .slice none 0 0]) (by simp [results, Try.results9, go_sem]) rfl ⟨_, _, rfl, by (repeat (first | refine Below.setCell ?_ (by first | (simp; done) | (simp; omega) | omega) _ | exact A0.out | exact below_alloc _ _)), fmt_nil _ _⟩
theorem fmt_bound (q : Int) : tot (fmtXs q) (fmtXs q).length + totP [] ([] : List (Int × List Int)).length ≤ 16777216 := by
  have h : ∀ i, ((fmtXs q).getD i []).length ≤ 64 := fun i => by
    unfold fmtXs
    split
    · rename_i hq
      by_cases e : i = (q % 2).toNat
      · subst e
        rw [getD_set_same _ _ _ (by simp; omega), packL_len (by simp)]
        omega
      · rw [getD_set_other _ _ _ _ e]
        simp only [List.getD, List.getElem?_replicate]
        split <;> simp
    · simp
  have hl : (fmtXs q).length ≤ 66 := by
    unfold fmtXs
    split <;> simp
  have := tot_short h (fmtXs q).length (Nat.le_refl _)
  have ht : totP [] ([] : List (Int × List Int)).length = 0 := by simp [totP]
  omega
end Go.Proofs.Ytkdbkkhmaiomkaa
