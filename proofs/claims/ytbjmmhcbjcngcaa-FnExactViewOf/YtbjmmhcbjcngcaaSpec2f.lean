/- Chapter 2, the model's side: 'spec.l2Side', 'spec.HeaderIn', walked. Made by program in part. -/
import Derived.Test.YtbjmmhcbjcngcaaSpec2e
import Derived.Test.YtbjmmhcbjcngcaaBlockAt2
namespace Go.Proofs.Ytbjmmhcbjcngcaa
open Go.RowKit

/-- The header at one of the two blocks, if it belongs there. -/
def sideF (ws : List Int) (at_ : Int) : Int := if unpF ws = 0 then (if unpS ws % 2 = at_ then 0 else 5) else unpF ws
def sideS (ws : List Int) (at_ : Int) : Int := if unpF ws = 0 ∧ unpS ws % 2 ≠ at_ then 0 else unpS ws
def sideT (ws : List Int) (at_ : Int) : Int := if unpF ws = 0 ∧ unpS ws % 2 ≠ at_ then 0 else unpT ws
def sideA (ws : List Int) (at_ : Int) : List Int := if unpF ws = 0 ∧ unpS ws % 2 ≠ at_ then [] else unpA ws

theorem unp_pos {ws : List Int} (h : unpF ws = 0) : 0 ≤ unpS ws := by
  unfold unpS
  rw [if_pos h]
  unfold unpF at h
  split at h
  · split at h
    · rename_i h1 h2
      have := ((okUb_iff ws).1 h2).2.2.1
      have := (headF_zero this).1
      omega
    · exact absurd h (by decide)
  · rename_i h1
    exact absurd h h1
theorem unpA_len (ws : List Int) (hw : ws.length ≤ 1048576) : (unpA ws).length ≤ 1048576 := by
  unfold unpA
  split
  · unfold addrsOf; simp; omega
  · simp
theorem sideA_len (ws : List Int) (at_ : Int) (hw : ws.length ≤ 1048576) : (sideA ws at_).length ≤ 1048576 := by
  unfold sideA
  split
  · simp
  · exact unpA_len ws hw

set_option maxHeartbeats 4000000 in
set_option maxRecDepth 4000 in
theorem l2Side {S T : Nat → Prop} {w : World} {bd : Nat} {u v : Value} {xss : List (List Int)} {ps : List (Int × List Int)} (at_ : Int) (hd0 : w.cell? ⟨bd, 0, none⟩ = some u) (hd1 : w.cell? ⟨bd, 1, none⟩ = some v) (hu : RdII S w u xss) (hv : RdP T w v ps) (ha1 : 0 ≤ at_) (ha2 : at_ < (xss.length : Int)) :
    Calls Try.prog 49 #[.pointer (some ⟨bd, 0, none⟩), .int .i64 at_] w (EndsH (sideF (blkTo xss ps at_ ps.length) at_) (sideS (blkTo xss ps at_ ps.length) at_) (sideT (blkTo xss ps at_ ps.length) at_) (sideA (blkTo xss ps at_ ps.length) at_) w) := by
  unfold EndsH
  have hm : ps.length ≤ 9223372036854775807 := by obtain ⟨_, _, _, h⟩ := hv.shape; exact h
  have A0 := hide (below_alloc w (.cells #[.int .i64 0, .int .i64 0, .int .i64 0, .slice none 0 0] 61))
  obtain ⟨ao, cu, rfl, _⟩ := hu.shape
  obtain ⟨ao', cv, rfl, _⟩ := hv.shape
  have HAt := hide (l1At_cells xss ps xss.length ps.length bd ao ao' cu cv _ at_ rfl rfl hm (cell_later A0.out hd0) (cell_later A0.out hd1) (hu.later A0.out) (hv.later A0.out) ha1 ha2)
  obtain ⟨ws, hws⟩ : ∃ ws, blkTo xss ps at_ ps.length = ws := ⟨_, rfl⟩
  rw [hws] at HAt ⊢
  obtain ⟨c, hc⟩ : ∃ c, unpF ws = c := ⟨_, rfl⟩
  obtain ⟨s, hs⟩ : ∃ s, unpS ws = s := ⟨_, rfl⟩
  obtain ⟨t, ht⟩ : ∃ t, unpT ws = t := ⟨_, rfl⟩
  obtain ⟨A, hA⟩ : ∃ A, unpA ws = A := ⟨_, rfl⟩
  have HUn := hide (fun (S : Nat → Prop) (w : World) (y : Value) (hy : RdI S w y ws) => specUnpack hy)
  rw [hc, hs, ht, hA] at HUn
  have HPos : Hid (c = 0 → 0 ≤ s) := by unfold Hid; rw [← hc, ← hs]; exact unp_pos
  obtain ⟨x, hx⟩ : ∃ x, sideF ws at_ = x := ⟨_, rfl⟩
  obtain ⟨s1, hs1⟩ : ∃ s1, sideS ws at_ = s1 := ⟨_, rfl⟩
  obtain ⟨t1, ht1⟩ : ∃ t1, sideT ws at_ = t1 := ⟨_, rfl⟩
  obtain ⟨A1, hA1⟩ : ∃ A1, sideA ws at_ = A1 := ⟨_, rfl⟩
  rw [hx, hs1, ht1, hA1]
  unfold sideF at hx
  unfold sideS at hs1
  unfold sideT at ht1
  unfold sideA at hA1
  rw [hc, hs] at hx hs1
  rw [hc, hs, ht] at ht1
  rw [hc, hs, hA] at hA1
  have HX := hide hx
  have HS1 := hide hs1
  have HT1 := hide ht1
  have HA1 := hide hA1
  clear hx hs1 ht1 hA1 hc hs ht hA hws hu hv hm ha1 ha2 hd0 hd1
  go_enter Try.func49, Try.ntmps49
  go_wp2_with fail
  refine HAt.out.mono ?_
  rintro e w1 ⟨z1, rfl, ⟨q, rfl⟩, hr1⟩
  have HR1 := hide hr1
  clear hr1
  go_wp2_with fail
  refine (HUn.out _ _ _ HR1.out).mono ?_
  rintro e w2 ⟨z2, rfl, hb2, ho2⟩
  obtain ⟨az, cz, rfl⟩ := ho2.shape
  obtain ⟨l, hl⟩ : ∃ l, A.length = l := ⟨_, rfl⟩
  rw [hl] at ho2 ⊢
  have v0 : w2.cell? ⟨w.heap.size, 0, none⟩ = some (.int .i64 0) := cell_later hb2 (by simp [go_sem])
  have v1 : w2.cell? ⟨w.heap.size, 1, none⟩ = some (.int .i64 0) := cell_later hb2 (by simp [go_sem])
  have v2 : w2.cell? ⟨w.heap.size, 2, none⟩ = some (.int .i64 0) := cell_later hb2 (by simp [go_sem])
  have v3 : w2.cell? ⟨w.heap.size, 3, none⟩ = some (.slice none 0 0) := cell_later hb2 (by simp [go_sem])
  have f : ∀ o, w2.frozen? ⟨w.heap.size, o, none⟩ = false := fun o => ((bcell hb2).2 _ _ (by simp)).trans (by simp [go_sem])
  have hsz : w.heap.size < w2.heap.size := by have := hb2.size; simp at this; omega
  have y0 := f 0
  have y1 := f 1
  have y2 := f 2
  have y3 := f 3
  have HB := hide (below_on A0.out (below_on (below_drewN _ q) hb2))
  have HO : Hid (OwI (w.heap.size + 1) w2 (.slice az l cz) A) := ho2.mono (by simp)
  clear hb2 ho2 f hl
  by_cases hc0 : c = 0
  · subst hc0
    have hs0 := HPos.out rfl
    have hmod : Int.tmod s 2 = s % 2 := Int.tmod_eq_emod_of_nonneg hs0
    by_cases hat : s % 2 = at_
    · have e1 : x = 0 := by rw [← HX.out, if_pos rfl, if_pos hat]
      have e2 : s1 = s := by rw [← HS1.out, if_neg (fun h => h.2 hat)]
      have e3 : t1 = t := by rw [← HT1.out, if_neg (fun h => h.2 hat)]
      have e4 : A1 = A := by rw [← HA1.out, if_neg (fun h => h.2 hat)]
      subst e1 e2 e3 e4
      clear HX HS1 HT1 HA1
      go_wp2
      have BA := below_alloc ((((w2.setCell ⟨w.heap.size, 0, none⟩ (.int .i64 0)).setCell ⟨w.heap.size, 1, none⟩ (.int .i64 s1)).setCell ⟨w.heap.size, 2, none⟩ (.int .i64 t1)).setCell ⟨w.heap.size, 3, none⟩ (.slice az l cz)) (.cells #[.int .i64 0, .int .i64 s1, .int .i64 t1, .slice az l cz] 61)
      have m0 := cell_later BA (a := ⟨w.heap.size, 0, none⟩) (v := .int .i64 0) (by simp [go_sem, v0])
      have m1 := cell_later BA (a := ⟨w.heap.size, 1, none⟩) (v := .int .i64 s1) (by simp [go_sem, v1])
      have m2 := cell_later BA (a := ⟨w.heap.size, 2, none⟩) (v := .int .i64 t1) (by simp [go_sem, v2])
      have m3 := cell_later BA (a := ⟨w.heap.size, 3, none⟩) (v := .slice az l cz) (by simp [go_sem, v3])
      have hfin := ret_head (x := .int .i64 0) (s := .int .i64 s1) (t := .int .i64 t1) HB.out (r := w.heap.size) (Nat.le_refl _) HO.out (by omega) (by omega)
      exact bodyPost_ret (v := .agg #[.int .i64 0, .int .i64 s1, .int .i64 t1, .slice az l cz]) (by simp [results, Try.results49, go_sem, m0, m1, m2, m3]) rfl ⟨_, rfl, hfin.1.trans (BA.mono (by simp; omega)), hfin.2.later BA⟩
    · have e1 : x = 5 := by rw [← HX.out, if_pos rfl, if_neg hat]
      have e2 : s1 = 0 := by rw [← HS1.out, if_pos ⟨rfl, hat⟩]
      have e3 : t1 = 0 := by rw [← HT1.out, if_pos ⟨rfl, hat⟩]
      have e4 : A1 = [] := by rw [← HA1.out, if_pos ⟨rfl, hat⟩]
      subst e1 e2 e3 e4
      clear HX HS1 HT1 HA1
      go_wp2
      have BA := below_alloc ((((w2.setCell ⟨w.heap.size, 0, none⟩ (.int .i64 5)).setCell ⟨w.heap.size, 1, none⟩ (.int .i64 0)).setCell ⟨w.heap.size, 2, none⟩ (.int .i64 0)).setCell ⟨w.heap.size, 3, none⟩ (.slice none 0 0)) (.cells #[.int .i64 0, .int .i64 s, .int .i64 t, .slice az l cz] 61)
      have m0 := cell_later BA (a := ⟨w.heap.size, 0, none⟩) (v := .int .i64 5) (by simp [go_sem, v0])
      have m1 := cell_later BA (a := ⟨w.heap.size, 1, none⟩) (v := .int .i64 0) (by simp [go_sem, v1])
      have m2 := cell_later BA (a := ⟨w.heap.size, 2, none⟩) (v := .int .i64 0) (by simp [go_sem, v2])
      have m3 := cell_later BA (a := ⟨w.heap.size, 3, none⟩) (v := .slice none 0 0) (by simp [go_sem, v3])
      have hfin := ret_head (x := .int .i64 5) (s := .int .i64 0) (t := .int .i64 0) HB.out (r := w.heap.size) (Nat.le_refl _) (OwI_nil (w.heap.size + 1) w2) (by omega) (by omega)
      exact bodyPost_ret (v := .agg #[.int .i64 5, .int .i64 0, .int .i64 0, .slice none 0 0]) (by simp [results, Try.results49, go_sem, m0, m1, m2, m3]) rfl ⟨_, rfl, hfin.1.trans (BA.mono (by simp; omega)), hfin.2.later BA⟩
  · have e1 : x = c := by rw [← HX.out, if_neg hc0]
    have e2 : s1 = s := by rw [← HS1.out, if_neg (fun h => hc0 h.1)]
    have e3 : t1 = t := by rw [← HT1.out, if_neg (fun h => hc0 h.1)]
    have e4 : A1 = A := by rw [← HA1.out, if_neg (fun h => hc0 h.1)]
    subst e1 e2 e3 e4
    clear HX HS1 HT1 HA1
    go_wp2
    have BA := below_alloc ((((w2.setCell ⟨w.heap.size, 0, none⟩ (.int .i64 x)).setCell ⟨w.heap.size, 1, none⟩ (.int .i64 s1)).setCell ⟨w.heap.size, 2, none⟩ (.int .i64 t1)).setCell ⟨w.heap.size, 3, none⟩ (.slice az l cz)) (.cells #[.int .i64 x, .int .i64 s1, .int .i64 t1, .slice az l cz] 61)
    have m0 := cell_later BA (a := ⟨w.heap.size, 0, none⟩) (v := .int .i64 x) (by simp [go_sem, v0])
    have m1 := cell_later BA (a := ⟨w.heap.size, 1, none⟩) (v := .int .i64 s1) (by simp [go_sem, v1])
    have m2 := cell_later BA (a := ⟨w.heap.size, 2, none⟩) (v := .int .i64 t1) (by simp [go_sem, v2])
    have m3 := cell_later BA (a := ⟨w.heap.size, 3, none⟩) (v := .slice az l cz) (by simp [go_sem, v3])
    have hfin := ret_head (x := .int .i64 x) (s := .int .i64 s1) (t := .int .i64 t1) HB.out (r := w.heap.size) (Nat.le_refl _) HO.out (by omega) (by omega)
    exact bodyPost_ret (v := .agg #[.int .i64 x, .int .i64 s1, .int .i64 t1, .slice az l cz]) (by simp [results, Try.results49, go_sem, m0, m1, m2, m3]) rfl ⟨_, rfl, hfin.1.trans (BA.mono (by simp; omega)), hfin.2.later BA⟩
end Go.Proofs.Ytbjmmhcbjcngcaa
