/- Fmt Run2 in one text: what each says stands at its head below. -/
import Derived.Test.YtamknomapabmfaaGreatG20
import Derived.Deep.OwnRows
import Derived.Test.YtamknomapabmfaaGreatG07
import Derived.Test.YtamknomapabmfaaGreatG14
import Derived.Test.YtamknomapabmfaaGreatG15
import Derived.Test.YtamknomapabmfaaGreatG25
import Derived.Test.YtamknomapabmfaaGreatG10
import Derived.Deep.CutRange
/- 'impl.FormatDisk' and 'spec.FormatDisk', walked. -/
namespace Go.Proofs.YtamknomapabmfaaGreat
open Go.RowKit

def fmtF (q : Int) : Int := if 1 ≤ q ∧ q ≤ 65000 then 0 else 3
def fmtXs (q : Int) : List (List Int) := if 1 ≤ q ∧ q ≤ 65000 then (List.replicate 66 []).set (q % 2).toNat (packL q 0 []) else []
theorem head_fmt (q : Int) : headF q 0 [] = fmtF q := by
  unfold fmtF
  split
  · rename_i h
    exact headF_ok ⟨h.1, h.2, by omega, by omega⟩ (by simp) (fun i hi => absurd hi (by simp))
  · rename_i h
    exact headF_range (fun k => h ⟨k.1, k.2.1⟩)

/-- 66 rows of which one has words. -/
theorem fmt_own {w : World} {g p B0 lo hi : Nat} {z : Value} {ws : List Int} (hg1 : B0 ≤ g) (hg2 : g < w.heap.size) (hp : p < 66) (hc : ∀ i, i < 66 → w.cell? ⟨g, i, none⟩ = some (if i = p then z else .slice none 0 0)) (hz : IvI lo hi w z ws) (hlo : B0 ≤ lo) (hgd : hi ≤ g ∨ g < lo) :
    OwD B0 w (.slice (some ⟨g, 0, none⟩) 66 66) (.slice none 0 0) ((List.replicate 66 []).set p ws) [] := by
  obtain ⟨bz, r, q⟩ := hz
  refine ⟨fun b => b = g ∨ (ws ≠ [] ∧ b = bz), fun _ => False, fun b hb => ?_, fun b hb => hb.elim, fun _ _ h => h, ?_, ⟨none, 0, 0, 0, fun _ => .slice none 0 0, fun _ => 0, by simp, by simp, fun h => absurd rfl h, fun i hi => absurd hi (by simp)⟩⟩
  · rcases hb with rfl | ⟨hne, rfl⟩
    · exact ⟨hg1, hg2⟩
    · obtain ⟨k1, k2, k3, _⟩ := q hne
      exact ⟨by omega, k3⟩
  · refine ⟨_, 66, g, 0, fun i => if i = p then z else .slice none 0 0, fun i => if i = p then bz else 0, by simp, by simp, fun _ => ⟨rfl, Or.inl rfl⟩, fun i hi => ?_⟩
    have hi' : i < 66 := by simpa using hi
    have hat : ∀ j, j < 66 → ((List.replicate 66 ([] : List Int)).set p ws).getD j [] = if j = p then ws else [] := fun j hj => by
      by_cases e : j = p
      · subst e
        rw [getD_set_same _ _ _ (by simpa using hp), if_pos rfl]
      · rw [getD_set_other _ _ _ _ e, if_neg e]
        simp only [List.getD, List.getElem?_replicate]
        rw [if_pos hj]
        rfl
    refine ⟨by rw [Nat.zero_add]; exact hc i hi', ?_, fun hne => ?_⟩
    · rw [hat i hi']
      by_cases e : i = p
      · simp only [if_pos e]; exact r
      · simp only [if_neg e]; exact ⟨none, 0, by simp, by simp, fun h => absurd rfl h⟩
    · rw [hat i hi'] at hne
      by_cases e : i = p
      · rw [if_pos e] at hne
        obtain ⟨k1, k2, k3, k4⟩ := q hne
        simp only [if_pos e]
        refine ⟨Or.inr ⟨hne, by first | trivial | rfl⟩, by omega, k4, fun j hj hnj _ => ?_⟩
        have hj' : j < 66 := by simpa using hj
        rw [hat j hj'] at hnj
        by_cases e2 : j = p
        · rw [e, e2]
        · rw [if_neg e2] at hnj; exact absurd rfl hnj
      · rw [if_neg e] at hne; exact absurd rfl hne

theorem fmt_nil (B : Nat) (w : World) : OwD B w (.slice none 0 0) (.slice none 0 0) [] [] :=
  ⟨fun _ => False, fun _ => False, fun _ h => h.elim, fun _ h => h.elim, fun _ _ h => h, ⟨none, 0, 0, 0, fun _ => .slice none 0 0, fun _ => 0, by simp, by simp, fun h => absurd rfl h, fun i hi => absurd hi (by simp)⟩, ⟨none, 0, 0, 0, fun _ => .slice none 0 0, fun _ => 0, by simp, by simp, fun h => absurd rfl h, fun i hi => absurd hi (by simp)⟩⟩

theorem made_cells (w : World) (n : Nat) (e : TypeId) (i : Nat) (hi : i < n) : (w.alloc (.cells (madeCells #[.slice none 0 0] n) e)).cell? ⟨w.heap.size, i, none⟩ = some (.slice none 0 0) := by
  have := (World.rowIs_made w (.slice none 0 0) n e).cell hi
  simpa using this

/-- 'l1New' of 66 blocks: where its rows lie. -/
theorem l1New66 (w : World) :
    Calls Tryz.prog 65 #[.int .i64 66] w fun e w' => e = .returned (.agg #[.slice (some ⟨w.heap.size + 1, 0, none⟩) 66 66, .slice none 0 0]) ∧ Below w.heap.size w w' ∧ w'.heap.size = w.heap.size + 2 ∧ (∀ i, i < 66 → w'.cell? ⟨w.heap.size + 1, i, none⟩ = some (.slice none 0 0)) ∧ ∀ o, w'.frozen? ⟨w.heap.size + 1, o, none⟩ = false := by
  have hmk : ∀ w, (Instr.makeSlice 52 (.int .i64 66) (.int .i64 66)).run Tryz.prog w = .ok (.slice (some ⟨w.heap.size, 0, none⟩) 66 66) (w.alloc (.cells (madeCells #[.slice none 0 0] 66) 24)) := run_make_row' (P := Tryz.prog) 52 24 (.slice none 0 0) 24 Tryz.underlying52 Tryz.infoInts rfl .i64 .i64 66 (by omega) (by omega)
  have hmc : Hid (∀ (w : World) (e : TypeId) (i : Nat), i < 66 → (w.alloc (.cells (madeCells #[.slice none 0 0] 66) e)).cell? ⟨w.heap.size, i, none⟩ = some (.slice none 0 0)) := fun w e i hi => made_cells w 66 e i hi
  generalize madeCells #[.slice none 0 0] 66 = MC at hmk hmc
  go_enter Tryz.func65, Tryz.ntmps65
  go_wp2
  refine bodyPost_ret (v := .agg #[.slice (some ⟨w.heap.size + 1, 0, none⟩) 66 66, .slice none 0 0]) (by simp [results, Tryz.results65, go_sem]) rfl ⟨rfl, below_on (below_alloc _ _) (below_alloc _ _), by simp, fun i hi => ?_, fun o => by simp [go_sem]⟩
  have h := hmc.out (w.alloc (.cells #[.slice (some ⟨w.heap.size + 1, 0, none⟩) 66 66, .slice none 0 0] 54)) 24 i hi
  rw [World.size_alloc] at h
  exact h

set_option linter.unusedSimpArgs false in
set_option maxHeartbeats 2000000 in
set_option maxRecDepth 4000 in
theorem l3Format (q : Int) (hq : 1 ≤ q ∧ q ≤ 65000) (w : World) :
    Calls Tryz.prog 48 #[.int .i64 q] w fun e w' => ∃ u, e = .returned (.agg #[u, .slice none 0 0]) ∧ Below w.heap.size w w' ∧ OwD (w.heap.size + 1) w' u (.slice none 0 0) (fmtXs q) [] ∧ (∃ g, u = .slice (some ⟨g, 0, none⟩) 66 66) := by
  unfold fmtXs
  rw [if_pos hq]
  have A0 := hide (below_alloc w (.cells #[.slice none 0 0, .slice none 0 0] 54))
  have HL := hide (packL_len (s := q) (t := 0) (xs := []) (by simp))
  have HPk := hide (fun (w : World) (b : Nat) (hd : HdAt w b 0 q 0 (.slice none 0 0)) => l2Pack hd (RdI_nil (fun _ => True) w none 0) (by simp))
  obtain ⟨ws, hws⟩ : ∃ ws, packL q 0 [] = ws := ⟨_, rfl⟩
  rw [hws] at HPk HL ⊢
  obtain ⟨p, hp⟩ : ∃ p : Nat, q % 2 = (p : Int) := ⟨(q % 2).toNat, by omega⟩
  have hp2 : p < 2 := by omega
  have htm : Int.tmod q 2 = (p : Int) := (Int.tmod_eq_emod_of_nonneg (by omega)).trans hp
  rw [hp, Int.toNat_natCast]
  clear hws hp
  go_enter Tryz.func48, Tryz.ntmps48
  go_wp2_with fail
  refine (l1New66 _).mono ?_
  rintro e w1 ⟨rfl, hb1, hz1, hc1, hf1⟩
  rw [World.size_alloc] at hz1 hc1 hf1 ⊢
  have BD := below_on (below_alloc w1 (.cells #[.slice (some ⟨w.heap.size + 1 + 1, 0, none⟩) 66 66, .slice none 0 0] 54)) (below_alloc _ (.cells #[.int .i64 q, .int .i64 0, .slice none 0 0] 102))
  have HW : Hid (Below w.heap.size w ((w1.alloc (.cells #[.slice (some ⟨w.heap.size + 1 + 1, 0, none⟩) 66 66, .slice none 0 0] 54)).alloc (.cells #[.int .i64 q, .int .i64 0, .slice none 0 0] 102)) ∧ Var2 ((w1.alloc (.cells #[.slice (some ⟨w.heap.size + 1 + 1, 0, none⟩) 66 66, .slice none 0 0] 54)).alloc (.cells #[.int .i64 q, .int .i64 0, .slice none 0 0] 102)) w.heap.size (.slice none 0 0) (.slice none 0 0) ∧ (∀ o, ((w1.alloc (.cells #[.slice (some ⟨w.heap.size + 1 + 1, 0, none⟩) 66 66, .slice none 0 0] 54)).alloc (.cells #[.int .i64 q, .int .i64 0, .slice none 0 0] 102)).frozen? ⟨w.heap.size, o, none⟩ = false) ∧ Var2 ((w1.alloc (.cells #[.slice (some ⟨w.heap.size + 1 + 1, 0, none⟩) 66 66, .slice none 0 0] 54)).alloc (.cells #[.int .i64 q, .int .i64 0, .slice none 0 0] 102)) w1.heap.size (.slice (some ⟨w.heap.size + 1 + 1, 0, none⟩) 66 66) (.slice none 0 0) ∧ HdAt ((w1.alloc (.cells #[.slice (some ⟨w.heap.size + 1 + 1, 0, none⟩) 66 66, .slice none 0 0] 54)).alloc (.cells #[.int .i64 q, .int .i64 0, .slice none 0 0] 102)) (w1.heap.size + 1) 0 q 0 (.slice none 0 0) ∧ (∀ i, i < 66 → ((w1.alloc (.cells #[.slice (some ⟨w.heap.size + 1 + 1, 0, none⟩) 66 66, .slice none 0 0] 54)).alloc (.cells #[.int .i64 q, .int .i64 0, .slice none 0 0] 102)).cell? ⟨w.heap.size + 1 + 1, i, none⟩ = some (.slice none 0 0)) ∧ (∀ o, ((w1.alloc (.cells #[.slice (some ⟨w.heap.size + 1 + 1, 0, none⟩) 66 66, .slice none 0 0] 54)).alloc (.cells #[.int .i64 q, .int .i64 0, .slice none 0 0] 102)).frozen? ⟨w.heap.size + 1 + 1, o, none⟩ = false) ∧ ((w1.alloc (.cells #[.slice (some ⟨w.heap.size + 1 + 1, 0, none⟩) 66 66, .slice none 0 0] 54)).alloc (.cells #[.int .i64 q, .int .i64 0, .slice none 0 0] 102)).heap.size = w1.heap.size + 2) := by
    have hd := HdAt_new (w1.alloc (.cells #[.slice (some ⟨w.heap.size + 1 + 1, 0, none⟩) 66 66, .slice none 0 0] 54)) q 0 (.slice none 0 0) 102
    rw [World.size_alloc] at hd
    refine ⟨below_on A0.out (below_on hb1 BD), (Var2_new w _ _ _).later (below_on hb1 BD), fun o => ((bcell (below_on hb1 BD)).2 _ _ (by simp)).trans (by simp [go_sem]), (Var2_new w1 _ _ _).later (below_alloc _ _), hd, fun i hi => cell_later BD (hc1 i hi), fun o => ((bcell BD).2 _ _ (by omega)).trans (hf1 o), by simp⟩
  have hz1' : w.heap.size + 1 + 2 ≤ w1.heap.size := by omega
  clear hb1 hc1 hf1 BD hz1
  go_upto_region 3 with fail
  refine forget (fun wx => Below w.heap.size w wx ∧ Var2 wx w.heap.size (.slice none 0 0) (.slice none 0 0) ∧ (∀ o, wx.frozen? ⟨w.heap.size, o, none⟩ = false) ∧ Var2 wx w1.heap.size (.slice (some ⟨w.heap.size + 1 + 1, 0, none⟩) 66 66) (.slice none 0 0) ∧ HdAt wx (w1.heap.size + 1) 0 q 0 (.slice none 0 0) ∧ (∀ i, i < 66 → wx.cell? ⟨w.heap.size + 1 + 1, i, none⟩ = some (.slice none 0 0)) ∧ (∀ o, wx.frozen? ⟨w.heap.size + 1 + 1, o, none⟩ = false) ∧ wx.heap.size = w1.heap.size + 2) HW.out ?_
  clear HW
  obtain ⟨D, hD⟩ : ∃ D, w1.heap.size = D := ⟨_, rfl⟩
  rw [hD] at hz1' ⊢
  clear hD
  rintro V ⟨hbV, hVr, rf, ⟨d0, d1⟩, hHd, hcs, hfs, hVs0⟩
  have hVs : D + 2 ≤ V.heap.size := by omega
  clear hVs0
  have HBV := hide hbV
  have HVr := hide hVr
  have HRF := hide rf
  have HHd := hide hHd
  have HCS := hide hcs
  have HFS := hide hfs
  have hpi : (p : Int) < 66 := by omega
  clear hbV hVr rf hHd hcs hfs
  go_region_held3 (fun w' => w'.cell? ⟨D, 0, none⟩ = some (.slice (some ⟨w.heap.size + 1 + 1, 0, none⟩) 66 66)) (first | exact d0 | exact e0 | exact (World.cell?_setCell_other w4 _ _ _ (by intro e; injection e with e1 _; omega)).trans e0)
    (first | (go_at_call 66; refine (HPk.out (V.drewN 1) (D + 1) ⟨HHd.out.seq, HHd.out.start, HHd.out.addrs⟩).mono ?_; rintro e w4 ⟨z4, rfl, hb4, ho4⟩; obtain ⟨a4, k4, hz4⟩ := ho4.shape; rw [HL.out] at hz4; subst hz4; have e0 := cell_later hb4 d0; have e1 := cell_later hb4 d1; have cp := cell_later hb4 (HCS.out p (by omega)); have fp := ((bcell hb4).2 _ _ (show w.heap.size + 1 + 1 < V.heap.size by omega)).trans (HFS.out p); have HB4 := hide (below_on (below_drewN V 1) hb4); have HO4 := hide ho4.iv; clear hb4 ho4))
  have hz4 := HB4.out.size
  have hwp : Wr (fun y => y = w.heap.size + 1 + 1) w4 (w4.setCell ⟨w.heap.size + 1 + 1, p, none⟩ (.slice a4 64 k4)) := (Wr.refl (fun y => y = w.heap.size + 1 + 1) _).setCell (p := ⟨w.heap.size + 1 + 1, p, none⟩) rfl _
  have HE : Hid (∀ i, i < 66 → (w4.setCell ⟨w.heap.size + 1 + 1, p, none⟩ (.slice a4 64 k4)).cell? ⟨w.heap.size + 1 + 1, i, none⟩ = some (if i = p then .slice a4 64 k4 else .slice none 0 0)) := fun i hi => by
    have hold := cell_later HB4.out (HCS.out i hi)
    by_cases e : i = p
    · subst e; rw [if_pos rfl]; exact World.cell?_setCell_same _ _ _ hold
    · rw [if_neg e]
      exact (World.cell?_setCell_other w4 _ _ _ (by intro h'; injection h' with _ h2; omega)).trans hold
  have HW : Hid (Below w.heap.size w (w4.setCell ⟨w.heap.size + 1 + 1, p, none⟩ (.slice a4 64 k4)) ∧ Var2 (w4.setCell ⟨w.heap.size + 1 + 1, p, none⟩ (.slice a4 64 k4)) w.heap.size (.slice none 0 0) (.slice none 0 0) ∧ (∀ o, (w4.setCell ⟨w.heap.size + 1 + 1, p, none⟩ (.slice a4 64 k4)).frozen? ⟨w.heap.size, o, none⟩ = false) ∧ Var2 (w4.setCell ⟨w.heap.size + 1 + 1, p, none⟩ (.slice a4 64 k4)) D (.slice (some ⟨w.heap.size + 1 + 1, 0, none⟩) 66 66) (.slice none 0 0) ∧ (∀ i, i < 66 → (w4.setCell ⟨w.heap.size + 1 + 1, p, none⟩ (.slice a4 64 k4)).cell? ⟨w.heap.size + 1 + 1, i, none⟩ = some (if i = p then .slice a4 64 k4 else .slice none 0 0)) ∧ IvI V.heap.size w4.heap.size (w4.setCell ⟨w.heap.size + 1 + 1, p, none⟩ (.slice a4 64 k4)) (.slice a4 64 k4) ws ∧ w4.heap.size ≤ (w4.setCell ⟨w.heap.size + 1 + 1, p, none⟩ (.slice a4 64 k4)).heap.size) :=
    ⟨(below_on HBV.out HB4.out).trans (hwp.below (by omega) (fun b hb => by omega)), (HVr.out.later HB4.out).wr hwp (by omega), fun o => (hwp.frz _ _ (by omega)).trans (((bcell HB4.out).2 _ _ (by omega)).trans (HRF.out o)), Var2.wr ⟨e0, e1⟩ hwp (by omega), HE.out, HO4.out.wr hwp (fun b e1 e2 => by have : V.heap.size ≤ b := e1; omega), hwp.size⟩
  clear hwp HE cp fp e0 e1 d0 d1
  go_upto_region 4 with fail
  refine forget (fun wx => Below w.heap.size w wx ∧ Var2 wx w.heap.size (.slice none 0 0) (.slice none 0 0) ∧ (∀ o, wx.frozen? ⟨w.heap.size, o, none⟩ = false) ∧ Var2 wx D (.slice (some ⟨w.heap.size + 1 + 1, 0, none⟩) 66 66) (.slice none 0 0) ∧ (∀ i, i < 66 → wx.cell? ⟨w.heap.size + 1 + 1, i, none⟩ = some (if i = p then .slice a4 64 k4 else .slice none 0 0)) ∧ IvI V.heap.size w4.heap.size wx (.slice a4 64 k4) ws ∧ w4.heap.size ≤ wx.heap.size) HW.out ?_
  clear HW HBV HVr HRF HHd HCS HFS HB4 HO4
  rintro V2 ⟨hb2, ⟨r0, r1⟩, rf, ⟨d0, d1⟩, hc2, hi2, hs2⟩
  have HB2 := hide hb2
  have HC2 := hide hc2
  have HI2 := hide hi2
  have f0 := rf 0
  have f1 := rf 1
  clear hb2 hc2 hi2 rf
  go_wp2
  have hw3 : Wr (fun y => y = w.heap.size) V2 ((V2.setCell ⟨w.heap.size, 0, none⟩ (.slice (some ⟨w.heap.size + 1 + 1, 0, none⟩) 66 66)).setCell ⟨w.heap.size, 1, none⟩ (.slice none 0 0)) := ((Wr.refl (fun y => y = w.heap.size) _).setCell (p := ⟨w.heap.size, 0, none⟩) rfl _).setCell (p := ⟨w.heap.size, 1, none⟩) rfl _
  exact bodyPost_ret (v := .agg #[.slice (some ⟨w.heap.size + 1 + 1, 0, none⟩) 66 66, .slice none 0 0]) (by simp [results, Tryz.results48, go_sem, r0, r1]) rfl ⟨_, rfl, HB2.out.trans (hw3.below (by omega) (fun b hb => by omega)), fmt_own (lo := V.heap.size) (hi := w4.heap.size) (by omega) (by have := hw3.size; omega) (by omega) (fun i hi => cell_wr hw3 (HC2.out i hi) (by omega)) (HI2.out.wr hw3 (fun b e1 e2 => by omega)) (by omega) (by omega), _, rfl⟩

theorem fmt_bound (q : Int) : tot (fmtXs q) (fmtXs q).length + totP [] ([] : List (Int × List Int)).length ≤ 16777216 := by
  have h : ∀ i, ((fmtXs q).getD i []).length ≤ 64 := fun i => by
    unfold fmtXs
    split
    · rename_i hq
      by_cases e : i = (q % 2).toNat
      · subst e
        rw [getD_set_same _ _ _ (by simp; omega), packL_len (by simp)]
        omega
      · rw [getD_set_other _ _ _ _ e]
        simp only [List.getD, List.getElem?_replicate]
        split <;> simp
    · simp
  have hl : (fmtXs q).length ≤ 66 := by
    unfold fmtXs
    split <;> simp
  have := tot_short h (fmtXs q).length (Nat.le_refl _)
  have ht : totP [] ([] : List (Int × List Int)).length = 0 := by simp [totP]
  omega
end Go.Proofs.YtamknomapabmfaaGreat
/- Chapter 3, the model's draw 'l3Right': a disk without a fault. -/

namespace Go.Proofs.YtamknomapabmfaaGreat
open Go.RowKit

theorem ap_words (xss : List (List Int)) (ps qs : List (Int × List Int)) : ∀ i, i < (apT xss ps qs).length → ((apT xss ps qs).getD i st0).2.2.length ≤ 1048576 := by
  unfold apT
  split
  · rename_i h
    obtain ⟨_, h66, hhd⟩ := in_ok h.1
    obtain ⟨_, hA24, _⟩ := headF_zero hhd
    obtain ⟨hq12, hqA⟩ := hpF_zero h.2.1
    have hl := apTs_len (inS xss ps) (inT xss ps) (inA xss ps) qs
    intro i hi
    rw [hl] at hi
    by_cases h1 : i < qs.length
    · rw [apTs_at _ _ _ _ _ h1]; have := (wordsF_zero (hqA i h1).2).1; dsimp only; omega
    · have : i = qs.length ∨ i = qs.length + 1 ∨ i = qs.length + 2 := by omega
      rcases this with rfl | rfl | rfl
      · rw [apTs_0]; simp
      · rw [apTs_1, packL_len (by simp; omega)]; omega
      · rw [apTs_2]; simp
  · intro i hi; simp at hi
theorem pn_words {xss : List (List Int)} {ps : List (Int × List Int)} (hs : Small xss ps) : ∀ i, i < (pnT xss ps).length → ((pnT xss ps).getD i st0).2.2.length ≤ 1048576 := by
  unfold pnT
  split
  · rename_i h
    obtain ⟨_, h66, hhd⟩ := in_ok h.1
    obtain ⟨_, hA24, _⟩ := headF_zero hhd
    have hl := insTs_len xss ps (inS xss ps) (inT xss ps) (inA xss ps)
    intro i hi
    rw [hl] at hi
    by_cases h1 : i < (inA xss ps).length
    · rw [insTs_at _ _ _ _ _ _ h1]; exact slotW_len hs h66 _ _
    · have : i = (inA xss ps).length ∨ i = (inA xss ps).length + 1 ∨ i = (inA xss ps).length + 2 := by omega
      rcases this with rfl | rfl | rfl
      · rw [insTs_0]; simp
      · rw [insTs_1, packL_len (by simp)]; omega
      · rw [insTs_2]; simp
  · intro i hi; simp at hi
/-- The disk in its variable, beside the result's and the source. -/
structure RightAt (w : World) (D : Nat) (u v : Value) (xss : List (List Int)) (ps : List (Int × List Int)) (wr : World) : Prop where
  size : w.heap.size ≤ wr.heap.size
  o : w.heap.size < D ∧ D < wr.heap.size
  c0 : wr.cell? ⟨D, 0, none⟩ = some u
  c1 : wr.cell? ⟨D, 1, none⟩ = some v
  of : ∀ o, wr.frozen? ⟨D, o, none⟩ = false
  r0 : wr.cell? ⟨w.heap.size, 0, none⟩ = some (.slice none 0 0)
  r1 : wr.cell? ⟨w.heap.size, 1, none⟩ = some (.slice none 0 0)
  rf : ∀ o, wr.frozen? ⟨w.heap.size, o, none⟩ = false
  rd : RdII (fun b => w.heap.size < b ∧ b ≠ D) wr u xss
  rp : RdP (fun b => w.heap.size < b ∧ b ≠ D) wr v ps
  so : Sound xss ps
theorem RightAt.wr {w : World} {D : Nat} {u v : Value} {xss : List (List Int)} {ps : List (Int × List Int)} {wr w' : World} {T : Nat → Prop} (h : RightAt w D u v xss ps wr) (hw : Wr T wr w') (hT : ∀ b, w.heap.size ≤ b → b < wr.heap.size → ¬ T b) (hT2 : ∀ b, w.heap.size < b → ¬ T b) : RightAt w D u v xss ps w' := by
  have ho := h.o
  exact ⟨Nat.le_trans h.size hw.size, ⟨ho.1, Nat.lt_of_lt_of_le ho.2 hw.size⟩, cell_wr hw h.c0 (hT _ (by omega) ho.2), cell_wr hw h.c1 (hT _ (by omega) ho.2), fun o => (hw.frz _ _ ho.2).trans (h.of o),
    cell_wr hw h.r0 (hT _ (Nat.le_refl _) (by omega)), cell_wr hw h.r1 (hT _ (Nat.le_refl _) (by omega)), fun o => (hw.frz _ _ (by omega)).trans (h.rf o), h.rd.wr hw (fun b hb => hT2 b hb.1), h.rp.wr hw (fun b hb => hT2 b hb.1), h.so⟩
theorem RightAt.later {w : World} {D : Nat} {u v : Value} {xss : List (List Int)} {ps : List (Int × List Int)} {wr w' : World} (h : RightAt w D u v xss ps wr) (hb : Below wr.heap.size wr w') : RightAt w D u v xss ps w' :=
  h.wr (Wr.of_below hb fun _ => False) (fun _ _ _ => id) (fun _ _ => id)
theorem RightAt.drawn {w : World} {D s : Nat} {u v : Value} {xss : List (List Int)} {ps : List (Int × List Int)} {wr w' : World} (h : RightAt w D u v xss ps wr) (hw : Wr (· = s) wr w') (hs : s < w.heap.size) : RightAt w D u v xss ps w' :=
  h.wr hw (fun b h1 _ e => by omega) (fun b h1 e => by omega)
theorem Drawn.lateR {N s : Nat} {v : Value} {bs : List Nat} {t t' : Nat} {a b c : World} (h : Drawn N s v bs t t' a b) (hb : Below b.heap.size b c) : Drawn N s v bs t t' a c := h.later hb
/-- The plan in its variable. -/
structure PlanAt (w : World) (D P : Nat) (x : Int) (z : Value) (ts : List St) (wr : World) : Prop where
  p : w.heap.size < P ∧ P ≠ D ∧ P < wr.heap.size
  c0 : wr.cell? ⟨P, 0, none⟩ = some (.int .i64 x)
  c1 : wr.cell? ⟨P, 1, none⟩ = some z
  of : ∀ o, wr.frozen? ⟨P, o, none⟩ = false
  rd : RdT (fun b => w.heap.size < b ∧ b ≠ P) wr z ts
  words : ∀ i, i < ts.length → (ts.getD i st0).2.2.length ≤ 1048576
theorem PlanAt.drawn {w : World} {D P s : Nat} {x : Int} {z : Value} {ts : List St} {wr w' : World} (h : PlanAt w D P x z ts wr) (hw : Wr (· = s) wr w') (hs : s < w.heap.size) : PlanAt w D P x z ts w' := by
  have hp := h.p
  exact ⟨⟨hp.1, hp.2.1, Nat.lt_of_lt_of_le hp.2.2 hw.size⟩, cell_wr hw h.c0 (by omega), cell_wr hw h.c1 (by omega), fun o => (hw.frz _ _ hp.2.2).trans (h.of o), h.rd.wr hw (fun b hb e => by omega), h.words⟩
theorem RdT.monoR {S T : Nat → Prop} {w : World} {v : Value} {ts : List St} (h : RdT S w v ts) (hT : ∀ b, S b → T b) : RdT T w v ts := by
  obtain ⟨ao, c, e1, e2, e3⟩ := h
  refine ⟨ao, c, e1, e2, fun hne => ?_⟩
  obtain ⟨b, off, V, f1, f2, f3⟩ := e3 hne
  refine ⟨b, off, V, f1, hT b f2, fun i hi => ⟨(f3 i hi).1, (f3 i hi).2.1, (f3 i hi).2.2.1, (f3 i hi).2.2.2.narrow fun _ b hb => hT b hb⟩⟩
/-- A plan that was made anew is stored into P. -/
theorem plan_put {w : World} {D P : Nat} {x : Int} {z : Value} {ts : List St} {u v : Value} {xss : List (List Int)} {ps : List (Int × List Int)} {wr : World} {S : Nat → Prop} (hR : RightAt w D u v xss ps wr) (hP : w.heap.size < P ∧ P ≠ D ∧ P < wr.heap.size) {y0 y1 : Value} (h0 : wr.cell? ⟨P, 0, none⟩ = some y0) (h1 : wr.cell? ⟨P, 1, none⟩ = some y1) (hf : ∀ o, wr.frozen? ⟨P, o, none⟩ = false)
    (hT : RdT S wr z ts) (hS : ∀ b, S b → w.heap.size < b ∧ b ≠ P) (hu : RdII (fun b => w.heap.size < b ∧ b ≠ D ∧ b ≠ P) wr u xss) (hv : RdP (fun b => w.heap.size < b ∧ b ≠ D ∧ b ≠ P) wr v ps) (hw : ∀ i, i < ts.length → (ts.getD i st0).2.2.length ≤ 1048576) :
    PlanAt w D P x z ts ((wr.setCell ⟨P, 0, none⟩ (.int .i64 x)).setCell ⟨P, 1, none⟩ z) ∧ RightAt w D u v xss ps ((wr.setCell ⟨P, 0, none⟩ (.int .i64 x)).setCell ⟨P, 1, none⟩ z) := by
  have hW : Wr (fun b => b = P) wr ((wr.setCell ⟨P, 0, none⟩ (.int .i64 x)).setCell ⟨P, 1, none⟩ z) := ((Wr.refl (fun b => b = P) _).setCell (p := ⟨P, 0, none⟩) rfl _).setCell (p := ⟨P, 1, none⟩) rfl _
  have ho := hR.o
  refine ⟨⟨⟨hP.1, hP.2.1, by simp; omega⟩, by simp [go_sem, h0], by simp [go_sem, h1], fun o => by rw [World.frozen?_setCell, World.frozen?_setCell]; exact hf o, (hT.wr hW (fun b hb => (hS b hb).2)).monoR hS, hw⟩, ?_⟩
  exact ⟨Nat.le_trans hR.size hW.size, ⟨ho.1, by simp; omega⟩, cell_wr hW hR.c0 (by omega), cell_wr hW hR.c1 (by omega), fun o => (hW.frz _ _ ho.2).trans (hR.of o), cell_wr hW hR.r0 (by omega), cell_wr hW hR.r1 (by omega), fun o => (hW.frz _ _ (by omega)).trans (hR.rf o),
    (hu.wr hW (fun b hb => hb.2.2)).monoR (fun b hb => ⟨hb.1, hb.2.1⟩), (hv.wr hW (fun b hb => hb.2.2)).monoR (fun b hb => ⟨hb.1, hb.2.1⟩), hR.so⟩
theorem Tryz.fldQ1 (x y z : Value) (w : World) : (Instr.field 92 (.agg #[x, y, z]) 1).run Tryz.prog w = .ok (.agg #[y, z]) w := by
  simp [Instr.field, run_underlying Tryz.underlying92, asAgg, part, isAgg, run_underlying Tryz.underlying54]
end Go.Proofs.YtamknomapabmfaaGreat
