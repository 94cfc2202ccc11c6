/- Impl2g Spec2f Spec2g Impl2h Log Impl2c IvT in one text: what each says stands at its head below. -/
import Derived.Test.YtamknomapabmfaaGreatG16
import Derived.Test.YtamknomapabmfaaGreatG19
import Derived.Test.YtamknomapabmfaaGreatG09
import Derived.Test.YtamknomapabmfaaGreatG06
import Derived.Test.YtamknomapabmfaaGreatG13
/- Chapter 2, the program's side: 'impl.hasHeader', 'impl.copyHeader', 'impl.NewestOf', walked. Made by program (gen2g.py). -/
namespace Go.Proofs.YtamknomapabmfaaGreat
open Go.RowKit
/-- What 'NewestOf' keeps while it asks. -/
structure NwAt (w : World) (ca sa ta : Int) (ya : Value) (cb sb tb : Int) (yb : Value) (W : World) : Prop where
  below : Below w.heap.size w W
  size : w.heap.size + 3 ≤ W.heap.size
  a0 : W.cell? ⟨w.heap.size, 0, none⟩ = some (.int .i64 ca)
  ah : HdAt W w.heap.size 1 sa ta ya
  b0 : W.cell? ⟨w.heap.size + 1, 0, none⟩ = some (.int .i64 cb)
  bh : HdAt W (w.heap.size + 1) 1 sb tb yb
  r0 : W.cell? ⟨w.heap.size + 1 + 1, 0, none⟩ = some (.int .i64 0)
  rh : HdAt W (w.heap.size + 1 + 1) 1 0 0 (.slice none 0 0)
  rf : ∀ o, W.frozen? ⟨w.heap.size + 1 + 1, o, none⟩ = false
theorem NwAt.later {w W W' : World} {ca sa ta cb sb tb : Int} {ya yb : Value} (h : NwAt w ca sa ta ya cb sb tb yb W) (hb : Below W.heap.size W W') : NwAt w ca sa ta ya cb sb tb yb W' :=
  ⟨below_on h.below hb, Nat.le_trans h.size hb.size, cell_later hb h.a0, h.ah.later hb, cell_later hb h.b0, h.bh.later hb, cell_later hb h.r0, h.rh.later hb, fun o => ((bcell hb).2 _ _ (by have := h.size; omega)).trans (h.rf o)⟩

end Go.Proofs.YtamknomapabmfaaGreat
/- Chapter 2, the model's side: 'spec.l2Side', 'spec.HeaderIn', walked. Made by program in part. -/
namespace Go.Proofs.YtamknomapabmfaaGreat
open Go.RowKit

/-- The header at one of the two blocks, if it belongs there. -/
def sideF (ws : List Int) (at_ : Int) : Int := if unpF ws = 0 then (if unpS ws % 2 = at_ then 0 else 5) else unpF ws
def sideS (ws : List Int) (at_ : Int) : Int := if unpF ws = 0 ∧ unpS ws % 2 ≠ at_ then 0 else unpS ws
def sideT (ws : List Int) (at_ : Int) : Int := if unpF ws = 0 ∧ unpS ws % 2 ≠ at_ then 0 else unpT ws
def sideA (ws : List Int) (at_ : Int) : List Int := if unpF ws = 0 ∧ unpS ws % 2 ≠ at_ then [] else unpA ws

theorem unp_pos {ws : List Int} (h : unpF ws = 0) : 0 ≤ unpS ws := by
  unfold unpS
  rw [if_pos h]
  unfold unpF at h
  split at h
  · split at h
    · rename_i h1 h2
      have := ((okUb_iff ws).1 h2).2.2.1
      have := (headF_zero this).1
      omega
    · exact absurd h (by decide)
  · rename_i h1
    exact absurd h h1
theorem unpA_len (ws : List Int) (hw : ws.length ≤ 1048576) : (unpA ws).length ≤ 1048576 := by
  unfold unpA
  split
  · unfold addrsOf; simp; omega
  · simp
theorem sideA_len (ws : List Int) (at_ : Int) (hw : ws.length ≤ 1048576) : (sideA ws at_).length ≤ 1048576 := by
  unfold sideA
  split
  · simp
  · exact unpA_len ws hw

set_option maxHeartbeats 4000000 in
set_option maxRecDepth 4000 in
theorem l2Side {S T : Nat → Prop} {w : World} {bd : Nat} {u v : Value} {xss : List (List Int)} {ps : List (Int × List Int)} (at_ : Int) (hd0 : w.cell? ⟨bd, 0, none⟩ = some u) (hd1 : w.cell? ⟨bd, 1, none⟩ = some v) (hu : RdII S w u xss) (hv : RdP T w v ps) (ha1 : 0 ≤ at_) (ha2 : at_ < (xss.length : Int)) :
    Calls Tryz.prog 81 #[.pointer (some ⟨bd, 0, none⟩), .int .i64 at_] w (EndsH (sideF (blkTo xss ps at_ ps.length) at_) (sideS (blkTo xss ps at_ ps.length) at_) (sideT (blkTo xss ps at_ ps.length) at_) (sideA (blkTo xss ps at_ ps.length) at_) w) := by
  unfold EndsH
  have hm : ps.length ≤ 9223372036854775807 := by obtain ⟨_, _, _, h⟩ := hv.shape; exact h
  have A0 := hide (below_alloc w (.cells #[.int .i64 0, .int .i64 0, .int .i64 0, .slice none 0 0] 104))
  obtain ⟨ao, cu, rfl, _⟩ := hu.shape
  obtain ⟨ao', cv, rfl, _⟩ := hv.shape
  have HAt := hide (l1At_cells xss ps xss.length ps.length bd ao ao' cu cv _ at_ rfl rfl hm (cell_later A0.out hd0) (cell_later A0.out hd1) (hu.later A0.out) (hv.later A0.out) ha1 ha2)
  obtain ⟨ws, hws⟩ : ∃ ws, blkTo xss ps at_ ps.length = ws := ⟨_, rfl⟩
  rw [hws] at HAt ⊢
  obtain ⟨c, hc⟩ : ∃ c, unpF ws = c := ⟨_, rfl⟩
  obtain ⟨s, hs⟩ : ∃ s, unpS ws = s := ⟨_, rfl⟩
  obtain ⟨t, ht⟩ : ∃ t, unpT ws = t := ⟨_, rfl⟩
  obtain ⟨A, hA⟩ : ∃ A, unpA ws = A := ⟨_, rfl⟩
  have HUn := hide (fun (S : Nat → Prop) (w : World) (y : Value) (hy : RdI S w y ws) => specUnpack hy)
  rw [hc, hs, ht, hA] at HUn
  have HPos : Hid (c = 0 → 0 ≤ s) := by unfold Hid; rw [← hc, ← hs]; exact unp_pos
  obtain ⟨x, hx⟩ : ∃ x, sideF ws at_ = x := ⟨_, rfl⟩
  obtain ⟨s1, hs1⟩ : ∃ s1, sideS ws at_ = s1 := ⟨_, rfl⟩
  obtain ⟨t1, ht1⟩ : ∃ t1, sideT ws at_ = t1 := ⟨_, rfl⟩
  obtain ⟨A1, hA1⟩ : ∃ A1, sideA ws at_ = A1 := ⟨_, rfl⟩
  rw [hx, hs1, ht1, hA1]
  unfold sideF at hx
  unfold sideS at hs1
  unfold sideT at ht1
  unfold sideA at hA1
  rw [hc, hs] at hx hs1
  rw [hc, hs, ht] at ht1
  rw [hc, hs, hA] at hA1
  have HX := hide hx
  have HS1 := hide hs1
  have HT1 := hide ht1
  have HA1 := hide hA1
  clear hx hs1 ht1 hA1 hc hs ht hA hws hu hv hm ha1 ha2 hd0 hd1
  go_enter Tryz.func81, Tryz.ntmps81
  go_wp2_with fail
  refine HAt.out.mono ?_
  rintro e w1 ⟨z1, rfl, ⟨q, rfl⟩, hr1⟩
  have HR1 := hide hr1
  clear hr1
  go_wp2_with fail
  refine (HUn.out _ _ _ HR1.out).mono ?_
  rintro e w2 ⟨z2, rfl, hb2, ho2⟩
  obtain ⟨az, cz, rfl⟩ := ho2.shape
  obtain ⟨l, hl⟩ : ∃ l, A.length = l := ⟨_, rfl⟩
  rw [hl] at ho2 ⊢
  have v0 : w2.cell? ⟨w.heap.size, 0, none⟩ = some (.int .i64 0) := cell_later hb2 (by simp [go_sem])
  have v1 : w2.cell? ⟨w.heap.size, 1, none⟩ = some (.int .i64 0) := cell_later hb2 (by simp [go_sem])
  have v2 : w2.cell? ⟨w.heap.size, 2, none⟩ = some (.int .i64 0) := cell_later hb2 (by simp [go_sem])
  have v3 : w2.cell? ⟨w.heap.size, 3, none⟩ = some (.slice none 0 0) := cell_later hb2 (by simp [go_sem])
  have f : ∀ o, w2.frozen? ⟨w.heap.size, o, none⟩ = false := fun o => ((bcell hb2).2 _ _ (by simp)).trans (by simp [go_sem])
  have hsz : w.heap.size < w2.heap.size := by have := hb2.size; simp at this; omega
  have y0 := f 0
  have y1 := f 1
  have y2 := f 2
  have y3 := f 3
  have HB := hide (below_on A0.out (below_on (below_drewN _ q) hb2))
  have HO : Hid (OwI (w.heap.size + 1) w2 (.slice az l cz) A) := ho2.mono (by simp)
  clear hb2 ho2 f hl
  by_cases hc0 : c = 0
  · subst hc0
    have hs0 := HPos.out rfl
    have hmod : Int.tmod s 2 = s % 2 := Int.tmod_eq_emod_of_nonneg hs0
    by_cases hat : s % 2 = at_
    · have e1 : x = 0 := by rw [← HX.out, if_pos rfl, if_pos hat]
      have e2 : s1 = s := by rw [← HS1.out, if_neg (fun h => h.2 hat)]
      have e3 : t1 = t := by rw [← HT1.out, if_neg (fun h => h.2 hat)]
      have e4 : A1 = A := by rw [← HA1.out, if_neg (fun h => h.2 hat)]
      subst e1 e2 e3 e4
      clear HX HS1 HT1 HA1
      go_wp2
      have BA := below_alloc ((((w2.setCell ⟨w.heap.size, 0, none⟩ (.int .i64 0)).setCell ⟨w.heap.size, 1, none⟩ (.int .i64 s1)).setCell ⟨w.heap.size, 2, none⟩ (.int .i64 t1)).setCell ⟨w.heap.size, 3, none⟩ (.slice az l cz)) (.cells #[.int .i64 0, .int .i64 s1, .int .i64 t1, .slice az l cz] 104)
      have m0 := cell_later BA (a := ⟨w.heap.size, 0, none⟩) (v := .int .i64 0) (by simp [go_sem, v0])
      have m1 := cell_later BA (a := ⟨w.heap.size, 1, none⟩) (v := .int .i64 s1) (by simp [go_sem, v1])
      have m2 := cell_later BA (a := ⟨w.heap.size, 2, none⟩) (v := .int .i64 t1) (by simp [go_sem, v2])
      have m3 := cell_later BA (a := ⟨w.heap.size, 3, none⟩) (v := .slice az l cz) (by simp [go_sem, v3])
      have hfin := ret_head (x := .int .i64 0) (s := .int .i64 s1) (t := .int .i64 t1) HB.out (r := w.heap.size) (Nat.le_refl _) HO.out (by omega) (by omega)
      exact bodyPost_ret (v := .agg #[.int .i64 0, .int .i64 s1, .int .i64 t1, .slice az l cz]) (by simp [results, Tryz.results81, go_sem, m0, m1, m2, m3]) rfl ⟨_, rfl, hfin.1.trans (BA.mono (by simp; omega)), hfin.2.later BA⟩
    · have e1 : x = 5 := by rw [← HX.out, if_pos rfl, if_neg hat]
      have e2 : s1 = 0 := by rw [← HS1.out, if_pos ⟨rfl, hat⟩]
      have e3 : t1 = 0 := by rw [← HT1.out, if_pos ⟨rfl, hat⟩]
      have e4 : A1 = [] := by rw [← HA1.out, if_pos ⟨rfl, hat⟩]
      subst e1 e2 e3 e4
      clear HX HS1 HT1 HA1
      go_wp2
      have BA := below_alloc ((((w2.setCell ⟨w.heap.size, 0, none⟩ (.int .i64 5)).setCell ⟨w.heap.size, 1, none⟩ (.int .i64 0)).setCell ⟨w.heap.size, 2, none⟩ (.int .i64 0)).setCell ⟨w.heap.size, 3, none⟩ (.slice none 0 0)) (.cells #[.int .i64 0, .int .i64 s, .int .i64 t, .slice az l cz] 104)
      have m0 := cell_later BA (a := ⟨w.heap.size, 0, none⟩) (v := .int .i64 5) (by simp [go_sem, v0])
      have m1 := cell_later BA (a := ⟨w.heap.size, 1, none⟩) (v := .int .i64 0) (by simp [go_sem, v1])
      have m2 := cell_later BA (a := ⟨w.heap.size, 2, none⟩) (v := .int .i64 0) (by simp [go_sem, v2])
      have m3 := cell_later BA (a := ⟨w.heap.size, 3, none⟩) (v := .slice none 0 0) (by simp [go_sem, v3])
      have hfin := ret_head (x := .int .i64 5) (s := .int .i64 0) (t := .int .i64 0) HB.out (r := w.heap.size) (Nat.le_refl _) (OwI_nil (w.heap.size + 1) w2) (by omega) (by omega)
      exact bodyPost_ret (v := .agg #[.int .i64 5, .int .i64 0, .int .i64 0, .slice none 0 0]) (by simp [results, Tryz.results81, go_sem, m0, m1, m2, m3]) rfl ⟨_, rfl, hfin.1.trans (BA.mono (by simp; omega)), hfin.2.later BA⟩
  · have e1 : x = c := by rw [← HX.out, if_neg hc0]
    have e2 : s1 = s := by rw [← HS1.out, if_neg (fun h => hc0 h.1)]
    have e3 : t1 = t := by rw [← HT1.out, if_neg (fun h => hc0 h.1)]
    have e4 : A1 = A := by rw [← HA1.out, if_neg (fun h => hc0 h.1)]
    subst e1 e2 e3 e4
    clear HX HS1 HT1 HA1
    go_wp2
    have BA := below_alloc ((((w2.setCell ⟨w.heap.size, 0, none⟩ (.int .i64 x)).setCell ⟨w.heap.size, 1, none⟩ (.int .i64 s1)).setCell ⟨w.heap.size, 2, none⟩ (.int .i64 t1)).setCell ⟨w.heap.size, 3, none⟩ (.slice az l cz)) (.cells #[.int .i64 x, .int .i64 s1, .int .i64 t1, .slice az l cz] 104)
    have m0 := cell_later BA (a := ⟨w.heap.size, 0, none⟩) (v := .int .i64 x) (by simp [go_sem, v0])
    have m1 := cell_later BA (a := ⟨w.heap.size, 1, none⟩) (v := .int .i64 s1) (by simp [go_sem, v1])
    have m2 := cell_later BA (a := ⟨w.heap.size, 2, none⟩) (v := .int .i64 t1) (by simp [go_sem, v2])
    have m3 := cell_later BA (a := ⟨w.heap.size, 3, none⟩) (v := .slice az l cz) (by simp [go_sem, v3])
    have hfin := ret_head (x := .int .i64 x) (s := .int .i64 s1) (t := .int .i64 t1) HB.out (r := w.heap.size) (Nat.le_refl _) HO.out (by omega) (by omega)
    exact bodyPost_ret (v := .agg #[.int .i64 x, .int .i64 s1, .int .i64 t1, .slice az l cz]) (by simp [results, Tryz.results81, go_sem, m0, m1, m2, m3]) rfl ⟨_, rfl, hfin.1.trans (BA.mono (by simp; omega)), hfin.2.later BA⟩
end Go.Proofs.YtamknomapabmfaaGreat
/- Chapter 2, the model's side: 'spec.HeaderIn', walked. -/
namespace Go.Proofs.YtamknomapabmfaaGreat
open Go.RowKit

/-- The words of the k-th block. -/
def wsAt (xss : List (List Int)) (ps : List (Int × List Int)) (k : Int) : List Int := blkTo xss ps k ps.length
/-- Which of the two headers counts. -/
def inP (xss : List (List Int)) (ps : List (Int × List Int)) : Nat :=
  nwP (sideF (wsAt xss ps 0) 0) (sideS (wsAt xss ps 0) 0) (sideT (wsAt xss ps 0) 0) (sideA (wsAt xss ps 0) 0) (sideF (wsAt xss ps 1) 1) (sideS (wsAt xss ps 1) 1) (sideT (wsAt xss ps 1) 1) (sideA (wsAt xss ps 1) 1)
def inF (xss : List (List Int)) (ps : List (Int × List Int)) : Int := if diskF xss ps = 0 then (if xss.length = 66 then nwF (inP xss ps) else 1) else diskF xss ps
def inS (xss : List (List Int)) (ps : List (Int × List Int)) : Int := if diskF xss ps = 0 ∧ xss.length = 66 then nwI (inP xss ps) (sideS (wsAt xss ps 0) 0) (sideS (wsAt xss ps 1) 1) else 0
def inT (xss : List (List Int)) (ps : List (Int × List Int)) : Int := if diskF xss ps = 0 ∧ xss.length = 66 then nwI (inP xss ps) (sideT (wsAt xss ps 0) 0) (sideT (wsAt xss ps 1) 1) else 0
def inA (xss : List (List Int)) (ps : List (Int × List Int)) : List Int := if diskF xss ps = 0 ∧ xss.length = 66 then nwA (inP xss ps) (sideA (wsAt xss ps 0) 0) (sideA (wsAt xss ps 1) 1) else []

set_option maxHeartbeats 4000000 in
set_option maxRecDepth 4000 in
theorem specHeaderIn {S T : Nat → Prop} {w : World} {u v : Value} {xss : List (List Int)} {ps : List (Int × List Int)} (hu : RdII S w u xss) (hv : RdP T w v ps) (hs : Small xss ps) :
    Calls Tryz.prog 62 #[.agg #[u, v]] w (EndsH (inF xss ps) (inS xss ps) (inT xss ps) (inA xss ps) w) := by
  unfold EndsH inF inS inT inA
  have HU := hide hu
  have HV := hide hv
  have HS := hide hs
  obtain ⟨ao, c, rfl, hn⟩ := hu.shape
  obtain ⟨ao', c', rfl, hm⟩ := hv.shape
  clear hu hv hs
  obtain ⟨z, hz⟩ : ∃ z, diskF xss ps = z := ⟨_, rfl⟩
  have HZ := hide hz
  obtain ⟨n, hn'⟩ : ∃ n, xss.length = n := ⟨_, rfl⟩
  obtain ⟨m, hm'⟩ : ∃ m, ps.length = m := ⟨_, rfl⟩
  have HN := hide hn'
  have HM := hide hm'
  rw [hn'] at HU hn ⊢
  rw [hm'] at HV hm ⊢
  rw [hz]
  clear hn' hm' hz
  have A0 := hide (below_on (below_alloc w (.cells #[.slice ao n c, .slice ao' m c'] 54)) (below_alloc _ (.cells #[.int .i64 0, .int .i64 0, .int .i64 0, .slice none 0 0] 104)))
  by_cases h0 : z = 0
  · subst h0
    by_cases h66 : n = 66
    · subst h66
      rw [if_pos rfl, if_pos rfl, if_pos ⟨rfl, rfl⟩, if_pos ⟨rfl, rfl⟩, if_pos ⟨rfl, rfl⟩]
      have hl0 : (wsAt xss ps 0).length ≤ 1048576 := blkTo_len HS.out ps.length (Nat.le_refl _) (by omega) (by rw [HN.out]; omega)
      have hl1 : (wsAt xss ps 1).length ≤ 1048576 := blkTo_len HS.out ps.length (Nat.le_refl _) (by omega) (by rw [HN.out]; omega)
      have HL0 := hide (sideA_len (wsAt xss ps 0) 0 hl0)
      have HL1 := hide (sideA_len (wsAt xss ps 1) 1 hl1)
      have HSd : Hid (∀ (k : Int) (w' : World), 0 ≤ k → k < 66 → Below w.heap.size w w' → w'.cell? ⟨w.heap.size, 0, none⟩ = some (.slice ao 66 c) → w'.cell? ⟨w.heap.size, 1, none⟩ = some (.slice ao' m c') → Calls Tryz.prog 81 #[.pointer (some ⟨w.heap.size, 0, none⟩), .int .i64 k] w' (EndsH (sideF (wsAt xss ps k) k) (sideS (wsAt xss ps k) k) (sideT (wsAt xss ps k) k) (sideA (wsAt xss ps k) k) w')) :=
        fun k w' h1 h2 hb d0 d1 => l2Side k d0 d1 (HU.out.later hb) (HV.out.later hb) h1 (by rw [HN.out]; exact h2)
      unfold inP
      have HS0 := hide (fun w' hb d0 d1 => HSd.out 0 w' (by omega) (by omega) hb d0 d1)
      have HS1 := hide (fun w' hb d0 d1 => HSd.out 1 w' (by omega) (by omega) hb d0 d1)
      clear HSd hl0 hl1
      generalize sideF (wsAt xss ps 0) 0 = cx at HS0 ⊢
      generalize sideS (wsAt xss ps 0) 0 = sx at HS0 ⊢
      generalize sideT (wsAt xss ps 0) 0 = tx at HS0 ⊢
      generalize sideA (wsAt xss ps 0) 0 = xx at HS0 HL0 ⊢
      generalize sideF (wsAt xss ps 1) 1 = cy at HS1 ⊢
      generalize sideS (wsAt xss ps 1) 1 = sy at HS1 ⊢
      generalize sideT (wsAt xss ps 1) 1 = ty at HS1 ⊢
      generalize sideA (wsAt xss ps 1) 1 = xy at HS1 HL1 ⊢
      generalize hkk : nwP cx sx tx xx cy sy ty xy = k
      have HNw := hide (fun (S T : Nat → Prop) (w : World) (ya yb : Value) (h1 : RdI S w ya xx) (h2 : RdI T w yb xy) => specNewest cx sx tx cy sy ty h1 h2 HL0.out HL1.out)
      rw [hkk] at HNw
      generalize nwF k = rc at HNw ⊢
      generalize nwI k sx sy = rs at HNw ⊢
      generalize nwI k tx ty = rt at HNw ⊢
      generalize nwA k xx xy = ra at HNw ⊢
      clear hkk
      go_enter Tryz.func62, Tryz.ntmps62
      go_wp2_with fail
      refine (l1Fault (u := .slice ao 66 c) (v := .slice ao' m c') (by simp [go_sem]) (by simp [go_sem]) ((HU.out.later (below_alloc _ _)).later (below_alloc _ _)) ((HV.out.later (below_alloc _ _)).later (below_alloc _ _))).mono ?_
      rintro e w1 ⟨he, q, hw1⟩
      rw [HZ.out] at he
      subst he
      have B1 : Hid (Below w.heap.size w w1) := by rw [hw1]; exact below_on A0.out (below_drewN _ _)
      have d0 : w1.cell? ⟨w.heap.size, 0, none⟩ = some (.slice ao 66 c) := by rw [hw1]; simp [go_sem]
      have d1 : w1.cell? ⟨w.heap.size, 1, none⟩ = some (.slice ao' m c') := by rw [hw1]; simp [go_sem]
      have v0 : w1.cell? ⟨w.heap.size + 1, 0, none⟩ = some (.int .i64 0) := by rw [hw1]; simp [go_sem]
      have v1 : w1.cell? ⟨w.heap.size + 1, 1, none⟩ = some (.int .i64 0) := by rw [hw1]; simp [go_sem]
      have v2 : w1.cell? ⟨w.heap.size + 1, 2, none⟩ = some (.int .i64 0) := by rw [hw1]; simp [go_sem]
      have v3 : w1.cell? ⟨w.heap.size + 1, 3, none⟩ = some (.slice none 0 0) := by rw [hw1]; simp [go_sem]
      have f : ∀ o, w1.frozen? ⟨w.heap.size + 1, o, none⟩ = false := by rw [hw1]; intro o; simp [go_sem]
      have hz1 : w1.heap.size = w.heap.size + 2 := by rw [hw1]; simp
      clear hw1
      go_wp2_with fail
      refine (HS0.out _ B1.out d0 d1).mono ?_
      rintro e w2 ⟨z2, rfl, hb2, ho2⟩
      obtain ⟨a2, c2, rfl⟩ := ho2.shape
      have HB2 := hide hb2
      have HO2 := hide ho2
      have B2 := hide (below_on B1.out hb2)
      have d0 := cell_later hb2 d0
      have d1 := cell_later hb2 d1
      clear hb2 ho2
      go_wp2_with fail
      refine (HS1.out _ B2.out d0 d1).mono ?_
      rintro e w3 ⟨z3, rfl, hb3, ho3⟩
      obtain ⟨a3, c3, rfl⟩ := ho3.shape
      have HB3 := hide (below_on HB2.out hb3)
      have HO3 := hide ho3
      have HO2' := hide (HO2.out.later hb3)
      clear hb3 ho3 HO2
      go_wp2_with fail
      refine (HNw.out _ _ _ _ _ HO2'.out.rd HO3.out.rd).mono ?_
      rintro e w4 ⟨z4, rfl, hb4, ho4⟩
      obtain ⟨a4, c4, rfl⟩ := ho4.shape
      obtain ⟨l, hl⟩ : ∃ l, ra.length = l := ⟨_, rfl⟩
      rw [hl] at ho4 ⊢
      have hb14 := below_on HB3.out hb4
      have x0 := cell_later hb14 v0
      have x1 := cell_later hb14 v1
      have x2 := cell_later hb14 v2
      have x3 := cell_later hb14 v3
      have y0 := ((bcell hb14).2 _ _ (by omega)).trans (f 0)
      have y1 := ((bcell hb14).2 _ _ (by omega)).trans (f 1)
      have y2 := ((bcell hb14).2 _ _ (by omega)).trans (f 2)
      have y3 := ((bcell hb14).2 _ _ (by omega)).trans (f 3)
      have HB := hide (below_on B1.out hb14)
      have HO := hide ho4
      have hz3 := HB3.out.size
      clear hb4 ho4 hb14 hl f
      go_wp2
      have hfin := ret_head (x := .int .i64 rc) (s := .int .i64 rs) (t := .int .i64 rt) HB.out (r := w.heap.size + 1) (by omega) HO.out (by omega) (by omega)
      exact bodyPost_ret (v := .agg #[.int .i64 rc, .int .i64 rs, .int .i64 rt, .slice a4 l c4]) (by simp [results, Tryz.results62, go_sem, x0, x1, x2, x3]) rfl ⟨_, rfl, hfin.1, hfin.2⟩
    · have hn66 : ¬ ((n : Int) = 66) := by omega
      rw [if_pos rfl, if_neg h66, if_neg (fun h => h66 h.2), if_neg (fun h => h66 h.2), if_neg (fun h => h66 h.2)]
      go_enter Tryz.func62, Tryz.ntmps62
      go_wp2_with fail
      refine (l1Fault (u := .slice ao n c) (v := .slice ao' m c') (by simp [go_sem]) (by simp [go_sem]) ((HU.out.later (below_alloc _ _)).later (below_alloc _ _)) ((HV.out.later (below_alloc _ _)).later (below_alloc _ _))).mono ?_
      rintro e w1 ⟨he, q, rfl⟩
      rw [HZ.out] at he
      subst he
      go_wp2
      refine bodyPost_ret (v := .agg #[.int .i64 1, .int .i64 0, .int .i64 0, .slice none 0 0]) (by simp [results, Tryz.results62, go_sem]) rfl ⟨_, rfl, ?_, OwI_nil _ _⟩
      repeat (first | refine Below.setCell ?_ (by first | (simp; done) | (simp; omega) | omega) _ | exact below_on A0.out (below_drewN _ _))
  · rw [if_neg h0, if_neg (fun h => h0 h.1), if_neg (fun h => h0 h.1), if_neg (fun h => h0 h.1)]
    go_enter Tryz.func62, Tryz.ntmps62
    go_wp2_with fail
    refine (l1Fault (u := .slice ao n c) (v := .slice ao' m c') (by simp [go_sem]) (by simp [go_sem]) ((HU.out.later (below_alloc _ _)).later (below_alloc _ _)) ((HV.out.later (below_alloc _ _)).later (below_alloc _ _))).mono ?_
    rintro e w1 ⟨he, q, rfl⟩
    rw [HZ.out] at he
    subst he
    go_wp2
    refine bodyPost_ret (v := .agg #[.int .i64 z, .int .i64 0, .int .i64 0, .slice none 0 0]) (by simp [results, Tryz.results62, go_sem]) rfl ⟨_, rfl, ?_, OwI_nil _ _⟩
    repeat (first | refine Below.setCell ?_ (by first | (simp; done) | (simp; omega) | omega) _ | exact below_on A0.out (below_drewN _ _))
end Go.Proofs.YtamknomapabmfaaGreat
/- Chapter 2, the program's side: 'impl.headerPlace', 'impl.headerAt', 'impl.HeaderIn', walked. -/
namespace Go.Proofs.YtamknomapabmfaaGreat
open Go.RowKit
/-- The fault of a disk that must have 66 blocks. -/
def sizedF (xss : List (List Int)) (ps : List (Int × List Int)) : Int := if diskF xss ps = 0 then (if xss.length = 66 then 0 else 1) else diskF xss ps

theorem set4_far {w : World} {b h o : Nat} {x y z u : Value} (hb : b ≠ h) : ((((w.setCell ⟨h, 0, none⟩ x).setCell ⟨h, 1, none⟩ y).setCell ⟨h, 2, none⟩ z).setCell ⟨h, 3, none⟩ u).cell? ⟨b, o, none⟩ = w.cell? ⟨b, o, none⟩ := by
  rw [World.cell?_setCell_other _ _ _ _ (by intro e; injection e with e1 _; exact hb e1.symm), World.cell?_setCell_other _ _ _ _ (by intro e; injection e with e1 _; exact hb e1.symm), World.cell?_setCell_other _ _ _ _ (by intro e; injection e with e1 _; exact hb e1.symm), World.cell?_setCell_other _ _ _ _ (by intro e; injection e with e1 _; exact hb e1.symm)]

end Go.Proofs.YtamknomapabmfaaGreat
/- Chapter 3: the log: 'slotWords', 'l3Log', 'LogOf' of the model and of the program, walked. -/
namespace Go.Proofs.YtamknomapabmfaaGreat
open Go.RowKit

theorem nw_ok {ca sa ta cb sb tb : Int} {xa xb : List Int} {k : Nat} (hk : nwP ca sa ta xa cb sb tb xb = k) (h : nwF k = 0) : headF (nwI k sa sb) (nwI k ta tb) (nwA k xa xb) = 0 := by
  unfold nwP at hk
  split at hk
  · rename_i h1
    subst hk
    have := h1.1
    unfold rightB at this
    simp at this
    simpa [nwI, nwA] using this.2
  · split at hk
    · rename_i h1
      subst hk
      unfold rightB at h1
      simp at h1
      simpa [nwI, nwA] using h1.2
    · subst hk
      exact absurd h (by decide)

/-- What 'HeaderIn' answers has no fault. -/
theorem in_ok {xss : List (List Int)} {ps : List (Int × List Int)} (h : inF xss ps = 0) : diskF xss ps = 0 ∧ xss.length = 66 ∧ headF (inS xss ps) (inT xss ps) (inA xss ps) = 0 := by
  unfold inF at h
  split at h
  · rename_i h1
    split at h
    · rename_i h2
      refine ⟨h1, h2, ?_⟩
      unfold inS inT inA
      rw [if_pos ⟨h1, h2⟩, if_pos ⟨h1, h2⟩, if_pos ⟨h1, h2⟩]
      exact nw_ok rfl h
    · exact absurd h (by decide)
  · rename_i h1
    exact absurd h h1

/-- The words of the i-th block of a log that begins at t. -/
def slotW (xss : List (List Int)) (ps : List (Int × List Int)) (t i : Int) : List Int := blkTo xss ps (2 + (t + i) % 24) ps.length

theorem slotW_len {xss : List (List Int)} {ps : List (Int × List Int)} (hs : Small xss ps) (hl : xss.length = 66) (t i : Int) : (slotW xss ps t i).length ≤ 1048576 :=
  blkTo_len hs ps.length (Nat.le_refl _) (by omega) (by rw [hl]; omega)

/-- The log of a header. -/
def logPs (xss : List (List Int)) (ps : List (Int × List Int)) (t : Int) (A : List Int) : List (Int × List Int) := (List.range A.length).map fun (i : Nat) => (A.getD i 0, slotW xss ps t (i : Int))
theorem logPs_len (xss : List (List Int)) (ps : List (Int × List Int)) (t : Int) (A : List Int) : (logPs xss ps t A).length = A.length := by simp [logPs]
theorem logPs_at (xss : List (List Int)) (ps : List (Int × List Int)) (t : Int) (A : List Int) (i : Nat) (h : i < A.length) : (logPs xss ps t A).getD i (0, []) = (A.getD i 0, slotW xss ps t (i : Int)) := by simp [logPs, List.getD, h]

def lgF (xss : List (List Int)) (ps : List (Int × List Int)) : Int := inF xss ps
def lgP (xss : List (List Int)) (ps : List (Int × List Int)) : List (Int × List Int) := if inF xss ps = 0 then logPs xss ps (inT xss ps) (inA xss ps) else []

/-- The end of a function that stores a code and puts into its result's variable. -/
theorem ret_puts {w w3 : World} {P : Nat → Prop} {r : Nat} {z x : Value} {ps : List (Int × List Int)} (hb : Below w.heap.size w w3) (hr : w.heap.size ≤ r) (ho : OwP P w3 z ps) (hP : ∀ b, P b → r < b ∧ b < w3.heap.size) :
    Below w.heap.size w ((w3.setCell ⟨r, 0, none⟩ x).setCell ⟨r, 1, none⟩ z) ∧ OwP (fun b => w.heap.size ≤ b ∧ b < ((w3.setCell ⟨r, 0, none⟩ x).setCell ⟨r, 1, none⟩ z).heap.size) ((w3.setCell ⟨r, 0, none⟩ x).setCell ⟨r, 1, none⟩ z) z ps := by
  have hw : Wr (fun y => y = r) w3 ((w3.setCell ⟨r, 0, none⟩ x).setCell ⟨r, 1, none⟩ z) := ((Wr.refl (fun y => y = r) _).setCell (p := ⟨r, 0, none⟩) rfl _).setCell (p := ⟨r, 1, none⟩) rfl _
  exact ⟨(hb.setCell (p := ⟨r, 0, none⟩) hr _).setCell (p := ⟨r, 1, none⟩) hr _, (ho.wr hw (fun b h1 e => by have := (hP b h1).1; omega)).mono fun b h1 => by have := hP b h1; simp; omega⟩

end Go.Proofs.YtamknomapabmfaaGreat
/- Chapter 2, the program's side: 'impl.appendHalf', 'impl.PackHeader', walked. -/
namespace Go.Proofs.YtamknomapabmfaaGreat
open Go.RowKit
theorem packH_range {s t : Int} {xs : List Int} (hf : headF s t xs = 0) : ∀ i, i < 32 → 0 ≤ (packH s t xs).getD i 0 ∧ (packH s t xs).getD i 0 ≤ 65535 := by
  obtain ⟨⟨hs1, hs2, ht1, ht2⟩, hxl, hxr⟩ := headF_zero hf
  have hall : ∀ x ∈ packH s t xs, 0 ≤ x ∧ x ≤ 65535 := by
    intro x hx
    simp only [packH, List.mem_append, List.mem_cons, List.mem_replicate, List.not_mem_nil, or_false] at hx
    rcases hx with ((rfl | rfl | rfl) | hx) | ⟨_, rfl⟩
    · omega
    · omega
    · omega
    · obtain ⟨j, hj, rfl⟩ := List.getElem_of_mem hx
      have := hxr j hj
      simp only [List.getD, List.getElem?_eq_getElem hj, Option.getD_some] at this
      omega
    · omega
  intro i hi
  have hl := packH_len (s := s) (t := t) (xs := xs) (by omega)
  refine hall _ ?_
  simp only [List.getD, List.getElem?_eq_getElem (show i < (packH s t xs).length by omega), Option.getD_some]
  exact List.getElem_mem _

end Go.Proofs.YtamknomapabmfaaGreat
/- The laws' helpers over a code with steps. -/
namespace Go.Proofs.YtamknomapabmfaaGreat
open Go.RowKit

/-- What a call that ends in a code and steps is to leave. -/
def EndsT (x : Int) (rs : List St) (w : World) (e : Ending) (w' : World) : Prop :=
  ∃ z, e = .returned (.agg #[.int .i64 x, z]) ∧ Below w.heap.size w w' ∧ OwT (fun b => w.heap.size ≤ b ∧ b < w'.heap.size) w' z rs

/-- Steps in [lo, hi). -/
def IvT (lo hi : Nat) (w : World) (v : Value) (ts : List St) : Prop :=
  ∃ S : Nat → Prop, hi ≤ w.heap.size ∧ (∀ b, S b → lo ≤ b ∧ b < hi) ∧ OwT S w v ts
theorem OwT.iv {B : Nat} {w : World} {v : Value} {ts : List St} (h : OwT (fun b => B ≤ b ∧ b < w.heap.size) w v ts) : IvT B w.heap.size w v ts :=
  ⟨_, Nat.le_refl _, fun _ hb => hb, h⟩
theorem IvT.wr {lo hi : Nat} {V : Nat → Prop} {w w' : World} {v : Value} {ts : List St} (h : IvT lo hi w v ts) (hw : Wr V w w') (hd : ∀ b, lo ≤ b → b < hi → ¬ V b) : IvT lo hi w' v ts := by
  obtain ⟨S, h0, h1, h2⟩ := h
  exact ⟨S, Nat.le_trans h0 hw.size, h1, h2.wr hw fun b hb => hd b (h1 b hb).1 (h1 b hb).2⟩
theorem IvT.later {lo hi : Nat} {w w' : World} {v : Value} {ts : List St} (h : IvT lo hi w v ts) (hb : Below w.heap.size w w') : IvT lo hi w' v ts :=
  h.wr (Wr.of_below hb fun _ => False) fun _ _ _ => id
theorem IvT.rd {lo hi : Nat} {w : World} {v : Value} {ts : List St} (h : IvT lo hi w v ts) : RdT (fun b => lo ≤ b ∧ b < hi) w v ts := by
  obtain ⟨S, h0, h1, h2⟩ := h
  exact (h2.mono h1).rd

/-- Steps in [lo, hi) whose marks stand from k on. -/
def MkTs (k : Int) (lo hi : Nat) (w : World) (v : Value) (ts : List St) : Prop := RdT (fun b => lo ≤ b ∧ b < hi) w v (mkS k ts)
theorem MkTs.wr {k : Int} {lo hi : Nat} {V : Nat → Prop} {w w' : World} {v : Value} {ts : List St} (h : MkTs k lo hi w v ts) (hw : Wr V w w') (hd : ∀ b, lo ≤ b → b < hi → ¬ V b) : MkTs k lo hi w' v ts :=
  RdT.wr h hw fun b hb => hd b hb.1 hb.2
theorem MkTs.later {k : Int} {lo hi : Nat} {w w' : World} {v : Value} {ts : List St} (h : MkTs k lo hi w v ts) (hb : Below w.heap.size w w') : MkTs k lo hi w' v ts := RdT.later h hb

end Go.Proofs.YtamknomapabmfaaGreat
