/- Spec2g Impl2h in one text: what each says stands at its head below. -/
import Derived.Test.YtlmaopljihbdkaaGreatG25
import Derived.Test.YtlmaopljihbdkaaGreatG24
namespace Go.Proofs.YtlmaopljihbdkaaGreat
open Go.RowKit
def wsAt (xss : List (List Int)) (ps : List (Int × List Int)) (k : Int) : List Int := blkToD xss ps k ps.length
def inP (xss : List (List Int)) (ps : List (Int × List Int)) : Nat :=
  nwP (sideF (wsAt xss ps 0) 0) (sideS (wsAt xss ps 0) 0) (sideT (wsAt xss ps 0) 0) (sideA (wsAt xss ps 0) 0) (sideF (wsAt xss ps 1) 1) (sideS (wsAt xss ps 1) 1) (sideT (wsAt xss ps 1) 1) (sideA (wsAt xss ps 1) 1)
def inF (xss : List (List Int)) (ps : List (Int × List Int)) : Int := if diskF xss ps = 0 then (if xss.length = 66 then nwF (inP xss ps) else 1) else diskF xss ps
def inS (xss : List (List Int)) (ps : List (Int × List Int)) : Int := if diskF xss ps = 0 ∧ xss.length = 66 then nwI (inP xss ps) (sideS (wsAt xss ps 0) 0) (sideS (wsAt xss ps 1) 1) else 0
def inT (xss : List (List Int)) (ps : List (Int × List Int)) : Int := if diskF xss ps = 0 ∧ xss.length = 66 then nwI (inP xss ps) (sideT (wsAt xss ps 0) 0) (sideT (wsAt xss ps 1) 1) else 0
def inA (xss : List (List Int)) (ps : List (Int × List Int)) : List Int := if diskF xss ps = 0 ∧ xss.length = 66 then nwA (inP xss ps) (sideA (wsAt xss ps 0) 0) (sideA (wsAt xss ps 1) 1) else []
set_option maxHeartbeats 4000000 in
set_option maxRecDepth 4000 in
theorem specHeaderIn {S T : Nat → Prop} {w : World} {u v : Value} {xss : List (List Int)} {ps : List (Int × List Int)} (hu : RdII S w u xss) (hv : RdP T w v ps) (hs : Small xss ps) :
    Calls Tryz.prog 179 #[.agg #[u, v]] w (EndsH (inF xss ps) (inS xss ps) (inT xss ps) (inA xss ps) w) := by
  unfold EndsH inF inS inT inA
  have HU := hide hu
  have HV := hide hv
  have HS := hide hs
  obtain ⟨ao, c, rfl, hn⟩ := hu.shape
  obtain ⟨ao', c', rfl, hm⟩ := hv.shape
  clear hu hv hs
  obtain ⟨z, hz⟩ : ∃ z, diskF xss ps = z := ⟨_, rfl⟩
  have HZ := hide hz
  obtain ⟨n, hn'⟩ : ∃ n, xss.length = n := ⟨_, rfl⟩
  obtain ⟨m, hm'⟩ : ∃ m, ps.length = m := ⟨_, rfl⟩
  have HN := hide hn'
  have HM := hide hm'
  rw [hn'] at HU hn ⊢
  rw [hm'] at HV hm ⊢
  rw [hz]
  clear hn' hm' hz
  have A0 := hide (below_on (below_alloc w (.cells #[.slice ao n c, .slice ao' m c'] 59)) (below_alloc _ (.cells #[.int .i64 0, .int .i64 0, .int .i64 0, .slice none 0 0] 180)))
  by_cases h0 : z = 0
  · subst h0
    by_cases h66 : n = 66
    · subst h66
      rw [if_pos rfl, if_pos rfl, if_pos ⟨rfl, rfl⟩, if_pos ⟨rfl, rfl⟩, if_pos ⟨rfl, rfl⟩]
      have hl0 : (wsAt xss ps 0).length ≤ 1048576 := blkToD_len HS.out ps.length (Nat.le_refl _) (by omega) (by rw [HN.out]; omega)
      have hl1 : (wsAt xss ps 1).length ≤ 1048576 := blkToD_len HS.out ps.length (Nat.le_refl _) (by omega) (by rw [HN.out]; omega)
      have HL0 := hide (sideA_len (wsAt xss ps 0) 0 hl0)
      have HL1 := hide (sideA_len (wsAt xss ps 1) 1 hl1)
      have HSd : Hid (∀ (k : Int) (w' : World), 0 ≤ k → k < 66 → Below w.heap.size w w' → w'.cell? ⟨w.heap.size, 0, none⟩ = some (.slice ao 66 c) → w'.cell? ⟨w.heap.size, 1, none⟩ = some (.slice ao' m c') → Calls Tryz.prog 204 #[.pointer (some ⟨w.heap.size, 0, none⟩), .int .i64 k] w' (EndsH (sideF (wsAt xss ps k) k) (sideS (wsAt xss ps k) k) (sideT (wsAt xss ps k) k) (sideA (wsAt xss ps k) k) w')) :=
        fun k w' h1 h2 hb d0 d1 => l2Side k d0 d1 (HU.out.later hb) (HV.out.later hb) h1 (by rw [HN.out]; exact h2)
      unfold inP
      have HS0 := hide (fun w' hb d0 d1 => HSd.out 0 w' (by omega) (by omega) hb d0 d1)
      have HS1 := hide (fun w' hb d0 d1 => HSd.out 1 w' (by omega) (by omega) hb d0 d1)
      clear HSd hl0 hl1
      generalize sideF (wsAt xss ps 0) 0 = cx at HS0 ⊢
      generalize sideS (wsAt xss ps 0) 0 = sx at HS0 ⊢
      generalize sideT (wsAt xss ps 0) 0 = tx at HS0 ⊢
      generalize sideA (wsAt xss ps 0) 0 = xx at HS0 HL0 ⊢
      generalize sideF (wsAt xss ps 1) 1 = cy at HS1 ⊢
      generalize sideS (wsAt xss ps 1) 1 = sy at HS1 ⊢
      generalize sideT (wsAt xss ps 1) 1 = ty at HS1 ⊢
      generalize sideA (wsAt xss ps 1) 1 = xy at HS1 HL1 ⊢
      generalize hkk : nwP cx sx tx xx cy sy ty xy = k
      have HNw := hide (fun (S T : Nat → Prop) (w : World) (ya yb : Value) (h1 : RdI S w ya xx) (h2 : RdI T w yb xy) => specNewest cx sx tx cy sy ty h1 h2 HL0.out HL1.out)
      rw [hkk] at HNw
      generalize nwF k = rc at HNw ⊢
      generalize nwI k sx sy = rs at HNw ⊢
      generalize nwI k tx ty = rt at HNw ⊢
      generalize nwA k xx xy = ra at HNw ⊢
      clear hkk
      go_enter Tryz.func179, Tryz.ntmps179
      go_wp2_with fail
      refine (l1Fault (u := .slice ao 66 c) (v := .slice ao' m c') (by simp [go_sem]) (by simp [go_sem]) ((HU.out.later (below_alloc _ _)).later (below_alloc _ _)) ((HV.out.later (below_alloc _ _)).later (below_alloc _ _))).mono ?_
      rintro e w1 ⟨he, q, hw1⟩
      rw [HZ.out] at he
      subst he
      have B1 : Hid (Below w.heap.size w w1) := by rw [hw1]; exact below_on A0.out (below_drewN _ _)
      have d0 : w1.cell? ⟨w.heap.size, 0, none⟩ = some (.slice ao 66 c) := by rw [hw1]; simp [go_sem]
      have d1 : w1.cell? ⟨w.heap.size, 1, none⟩ = some (.slice ao' m c') := by rw [hw1]; simp [go_sem]
      have v0 : w1.cell? ⟨w.heap.size + 1, 0, none⟩ = some (.int .i64 0) := by rw [hw1]; simp [go_sem]
      have v1 : w1.cell? ⟨w.heap.size + 1, 1, none⟩ = some (.int .i64 0) := by rw [hw1]; simp [go_sem]
      have v2 : w1.cell? ⟨w.heap.size + 1, 2, none⟩ = some (.int .i64 0) := by rw [hw1]; simp [go_sem]
      have v3 : w1.cell? ⟨w.heap.size + 1, 3, none⟩ = some (.slice none 0 0) := by rw [hw1]; simp [go_sem]
      have f : ∀ o, w1.frozen? ⟨w.heap.size + 1, o, none⟩ = false := by rw [hw1]; intro o; simp [go_sem]
      have hz1 : w1.heap.size = w.heap.size + 2 := by rw [hw1]; simp
      clear hw1
      go_wp2_with fail
      refine (HS0.out _ B1.out d0 d1).mono ?_
      rintro e w2 ⟨z2, rfl, hb2, ho2⟩
      obtain ⟨a2, c2, rfl⟩ := ho2.shape
      have HB2 := hide hb2
      have HO2 := hide ho2
      have B2 := hide (below_on B1.out hb2)
      have d0 := cell_later hb2 d0
      have d1 := cell_later hb2 d1
      clear hb2 ho2
      go_wp2_with fail
      refine (HS1.out _ B2.out d0 d1).mono ?_
      rintro e w3 ⟨z3, rfl, hb3, ho3⟩
      obtain ⟨a3, c3, rfl⟩ := ho3.shape
      have HB3 := hide (below_on HB2.out hb3)
      have HO3 := hide ho3
      have HO2' := hide (HO2.out.later hb3)
      clear hb3 ho3 HO2
      go_wp2_with fail
      refine (HNw.out _ _ _ _ _ HO2'.out.rd HO3.out.rd).mono ?_
      rintro e w4 ⟨z4, rfl, hb4, ho4⟩
      obtain ⟨a4, c4, rfl⟩ := ho4.shape
      obtain ⟨l, hl⟩ : ∃ l, ra.length = l := ⟨_, rfl⟩
      rw [hl] at ho4 ⊢
      have hb14 := below_on HB3.out hb4
      have x0 := cell_later hb14 v0
      have x1 := cell_later hb14 v1
      have x2 := cell_later hb14 v2
      have x3 := cell_later hb14 v3
      have y0 := ((bcell hb14).2 _ _ (by omega)).trans (f 0)
      have y1 := ((bcell hb14).2 _ _ (by omega)).trans (f 1)
      have y2 := ((bcell hb14).2 _ _ (by omega)).trans (f 2)
      have y3 := ((bcell hb14).2 _ _ (by omega)).trans (f 3)
      have HB := hide (below_on B1.out hb14)
      have HO := hide ho4
      have hz3 := HB3.out.size
      clear hb4 ho4 hb14 hl f
      go_wp2
      have hfin := ret_head (x := .int .i64 rc) (s := .int .i64 rs) (t := .int .i64 rt) HB.out (r := w.heap.size + 1) (by omega) HO.out (by omega) (by omega)
      exact bodyPost_ret (v := .agg #[.int .i64 rc, .int .i64 rs, .int .i64 rt, .slice a4 l c4]) (by simp [results, Tryz.results179, go_sem, x0, x1, x2, x3]) rfl ⟨_, rfl, hfin.1, hfin.2⟩
    · have hn66 : ¬ ((n : Int) = 66) := by omega
      rw [if_pos rfl, if_neg h66, if_neg (fun h => h66 h.2), if_neg (fun h => h66 h.2), if_neg (fun h => h66 h.2)]
      go_enter Tryz.func179, Tryz.ntmps179
      go_wp2_with fail
      refine (l1Fault (u := .slice ao n c) (v := .slice ao' m c') (by simp [go_sem]) (by simp [go_sem]) ((HU.out.later (below_alloc _ _)).later (below_alloc _ _)) ((HV.out.later (below_alloc _ _)).later (below_alloc _ _))).mono ?_
      rintro e w1 ⟨he, q, rfl⟩
      rw [HZ.out] at he
      subst he
      go_wp2
      refine bodyPost_ret (v := .agg #[.int .i64 1, .int .i64 0, .int .i64 0, .slice none 0 0]) (by simp [results, Tryz.results179, go_sem]) rfl ⟨_, rfl, ?_, OwI_nil _ _⟩
      repeat (first | refine Below.setCell ?_ (by first | (simp; done) | (simp; omega) | omega) _ | exact below_on A0.out (below_drewN _ _))
  · rw [if_neg h0, if_neg (fun h => h0 h.1), if_neg (fun h => h0 h.1), if_neg (fun h => h0 h.1)]
    go_enter Tryz.func179, Tryz.ntmps179
    go_wp2_with fail
    refine (l1Fault (u := .slice ao n c) (v := .slice ao' m c') (by simp [go_sem]) (by simp [go_sem]) ((HU.out.later (below_alloc _ _)).later (below_alloc _ _)) ((HV.out.later (below_alloc _ _)).later (below_alloc _ _))).mono ?_
    rintro e w1 ⟨he, q, rfl⟩
    rw [HZ.out] at he
    subst he
    go_wp2
    refine bodyPost_ret (v := .agg #[.int .i64 z, .int .i64 0, .int .i64 0, .slice none 0 0]) (by simp [results, Tryz.results179, go_sem]) rfl ⟨_, rfl, ?_, OwI_nil _ _⟩
    repeat (first | refine Below.setCell ?_ (by first | (simp; done) | (simp; omega) | omega) _ | exact below_on A0.out (below_drewN _ _))
end Go.Proofs.YtlmaopljihbdkaaGreat
namespace Go.Proofs.YtlmaopljihbdkaaGreat
open Go.RowKit
theorem headerPlace (s : Int) (h : 0 ≤ s) (w : World) : Calls Tryz.prog 211 #[.int .i64 s] w fun e w' => e = .returned (.int .i64 (s % 2)) ∧ w' = w := by
  have hmod : Int.tmod s 2 = s % 2 := Int.tmod_eq_emod_of_nonneg h
  go_enter Tryz.func211, Tryz.ntmps211
  go_wp2
  go_ret
  exact ⟨rfl, rfl⟩
def sizedF (xss : List (List Int)) (ps : List (Int × List Int)) : Int := if diskF xss ps = 0 then (if xss.length = 66 then 0 else 1) else diskF xss ps
theorem sizedFault {S T : Nat → Prop} {w : World} {u v : Value} {xss : List (List Int)} {ps : List (Int × List Int)} (hu : RdII S w u xss) (hv : RdP T w v ps) :
    Calls Tryz.prog 183 #[.agg #[u, v]] w fun e w' => e = .returned (.int .i64 (sizedF xss ps)) ∧ Below w.heap.size w w' := by
  unfold sizedF
  have HU := hide hu
  have HV := hide hv
  obtain ⟨ao, c, rfl, hn⟩ := hu.shape
  clear hu hv
  obtain ⟨z, hz⟩ : ∃ z, diskF xss ps = z := ⟨_, rfl⟩
  have HZ := hide hz
  rw [hz]
  clear hz
  obtain ⟨n, hn'⟩ : ∃ n, xss.length = n := ⟨_, rfl⟩
  rw [hn'] at HU hn ⊢
  clear hn'
  by_cases h0 : z = 0
  · subst h0
    by_cases h66 : n = 66
    · subst h66
      rw [if_pos rfl, if_pos rfl]
      go_enter Tryz.func183, Tryz.ntmps183
      go_wp2_with fail
      refine (implFault (HU.out.later (below_alloc _ _)) (HV.out.later (below_alloc _ _))).mono ?_
      rintro e w1 ⟨he, hb⟩
      rw [HZ.out] at he
      subst he
      have c0 : w1.cell? ⟨w.heap.size, 0, none⟩ = some (.slice ao 66 c) := cell_later hb (by simp [go_sem])
      have HB := hide (below_on (below_alloc _ _) hb)
      clear hb
      go_wp2
      go_ret
      exact ⟨rfl, HB.out⟩
    · have hn66 : ¬ ((n : Int) = 66) := by omega
      rw [if_pos rfl, if_neg h66]
      go_enter Tryz.func183, Tryz.ntmps183
      go_wp2_with fail
      refine (implFault (HU.out.later (below_alloc _ _)) (HV.out.later (below_alloc _ _))).mono ?_
      rintro e w1 ⟨he, hb⟩
      rw [HZ.out] at he
      subst he
      have c0 : w1.cell? ⟨w.heap.size, 0, none⟩ = some (.slice ao n c) := cell_later hb (by simp [go_sem])
      have HB := hide (below_on (below_alloc _ _) hb)
      clear hb
      go_wp2
      go_ret
      exact ⟨rfl, HB.out⟩
  · rw [if_neg h0]
    go_enter Tryz.func183, Tryz.ntmps183
    go_wp2_with fail
    refine (implFault (HU.out.later (below_alloc _ _)) (HV.out.later (below_alloc _ _))).mono ?_
    rintro e w1 ⟨he, hb⟩
    rw [HZ.out] at he
    subst he
    have HB := hide (below_on (below_alloc _ _) hb)
    clear hb
    go_wp2
    go_ret
    exact ⟨rfl, HB.out⟩
theorem set4_far {w : World} {b h o : Nat} {x y z u : Value} (hb : b ≠ h) : ((((w.setCell ⟨h, 0, none⟩ x).setCell ⟨h, 1, none⟩ y).setCell ⟨h, 2, none⟩ z).setCell ⟨h, 3, none⟩ u).cell? ⟨b, o, none⟩ = w.cell? ⟨b, o, none⟩ := by
  rw [World.cell?_setCell_other _ _ _ _ (by intro e; injection e with e1 _; exact hb e1.symm), World.cell?_setCell_other _ _ _ _ (by intro e; injection e with e1 _; exact hb e1.symm), World.cell?_setCell_other _ _ _ _ (by intro e; injection e with e1 _; exact hb e1.symm), World.cell?_setCell_other _ _ _ _ (by intro e; injection e with e1 _; exact hb e1.symm)]
set_option maxHeartbeats 4000000 in
set_option maxRecDepth 4000 in
theorem headerAt {S T : Nat → Prop} {w : World} {u v : Value} {xss : List (List Int)} {ps : List (Int × List Int)} (at_ : Int) (hu : RdII S w u xss) (hv : RdP T w v ps) (hsm : Small xss ps) (ha1 : 0 ≤ at_) (ha2 : at_ < (xss.length : Int)) :
    Calls Tryz.prog 185 #[.agg #[u, v], .int .i64 at_] w (EndsH (sideF (blkToD xss ps at_ ps.length) at_) (sideS (blkToD xss ps at_ ps.length) at_) (sideT (blkToD xss ps at_ ps.length) at_) (sideA (blkToD xss ps at_ ps.length) at_) w) := by
  unfold EndsH
  obtain ⟨ao, cu, rfl, _⟩ := hu.shape
  obtain ⟨ao', cv, rfl, _⟩ := hv.shape
  have A0 := hide (below_on (below_alloc w (.cells #[.slice ao xss.length cu, .slice ao' ps.length cv] 59)) (below_alloc _ (.cells #[.int .i64 0, .int .i64 0, .int .i64 0, .slice none 0 0] 180)))
  have HAt := hide (wordsAt at_ (hu.later A0.out) (hv.later A0.out) hsm ha1 ha2)
  obtain ⟨ws, hws⟩ : ∃ ws, blkToD xss ps at_ ps.length = ws := ⟨_, rfl⟩
  rw [hws] at HAt ⊢
  obtain ⟨c, hc⟩ : ∃ c, unpF ws = c := ⟨_, rfl⟩
  obtain ⟨s, hs⟩ : ∃ s, unpS ws = s := ⟨_, rfl⟩
  obtain ⟨t, ht⟩ : ∃ t, unpT ws = t := ⟨_, rfl⟩
  obtain ⟨A, hA⟩ : ∃ A, unpA ws = A := ⟨_, rfl⟩
  have HUn := hide (fun (S : Nat → Prop) (w : World) (y : Value) (hy : RdI S w y ws) => implUnpack hy)
  rw [hc, hs, ht, hA] at HUn
  have HPos : Hid (c = 0 → 0 ≤ s) := by unfold Hid; rw [← hc, ← hs]; exact unp_pos
  obtain ⟨x, hx⟩ : ∃ x, sideF ws at_ = x := ⟨_, rfl⟩
  obtain ⟨s1, hs1⟩ : ∃ s1, sideS ws at_ = s1 := ⟨_, rfl⟩
  obtain ⟨t1, ht1⟩ : ∃ t1, sideT ws at_ = t1 := ⟨_, rfl⟩
  obtain ⟨A1, hA1⟩ : ∃ A1, sideA ws at_ = A1 := ⟨_, rfl⟩
  rw [hx, hs1, ht1, hA1]
  unfold sideF at hx
  unfold sideS at hs1
  unfold sideT at ht1
  unfold sideA at hA1
  rw [hc, hs] at hx hs1
  rw [hc, hs, ht] at ht1
  rw [hc, hs, hA] at hA1
  have HX := hide hx
  have HS1 := hide hs1
  have HT1 := hide ht1
  have HA1 := hide hA1
  clear hx hs1 ht1 hA1 hc hs ht hA hws hu hv hsm ha1 ha2
  go_enter Tryz.func185, Tryz.ntmps185
  go_wp2_with fail
  refine HAt.out.mono ?_
  rintro e w1 ⟨z1, rfl, hb1, ho1⟩
  obtain ⟨a1, c1, rfl⟩ := ho1.shape
  have HR1 := hide ho1.rd
  have HB1 := hide hb1
  have k0 : w1.cell? ⟨w.heap.size + 1, 0, none⟩ = some (.int .i64 0) := cell_later hb1 (by simp [go_sem])
  have k1 : w1.cell? ⟨w.heap.size + 1, 1, none⟩ = some (.int .i64 0) := cell_later hb1 (by simp [go_sem])
  have k2 : w1.cell? ⟨w.heap.size + 1, 2, none⟩ = some (.int .i64 0) := cell_later hb1 (by simp [go_sem])
  have k3 : w1.cell? ⟨w.heap.size + 1, 3, none⟩ = some (.slice none 0 0) := cell_later hb1 (by simp [go_sem])
  have kf : ∀ o, w1.frozen? ⟨w.heap.size + 1, o, none⟩ = false := fun o => ((bcell hb1).2 _ _ (by simp)).trans (by simp [go_sem])
  have hz1 : w.heap.size + 2 ≤ w1.heap.size := by have := hb1.size; simpa using this
  clear hb1 ho1
  go_wp2_with fail
  refine (HUn.out _ _ _ HR1.out).mono ?_
  rintro e w2 ⟨z2, rfl, hb2, ho2⟩
  obtain ⟨az, cz, rfl⟩ := ho2.shape
  obtain ⟨l, hl⟩ : ∃ l, A.length = l := ⟨_, rfl⟩
  rw [hl] at ho2 ⊢
  have v0 := cell_later hb2 k0
  have v1 := cell_later hb2 k1
  have v2 := cell_later hb2 k2
  have v3 := cell_later hb2 k3
  have f : ∀ o, w2.frozen? ⟨w.heap.size + 1, o, none⟩ = false := fun o => ((bcell hb2).2 _ _ (by omega)).trans (kf o)
  have hsz : w.heap.size + 1 < w2.heap.size := by have := hb2.size; omega
  have y0 := f 0
  have y1 := f 1
  have y2 := f 2
  have y3 := f 3
  have HB := hide (below_on A0.out (below_on HB1.out hb2))
  have HO : Hid (OwI (w.heap.size + 2) w2 (.slice az l cz) A) := ho2.mono (by omega)
  clear hb2 ho2 f hl k0 k1 k2 k3 kf HB1 HR1
  by_cases hc0 : c = 0
  · subst hc0
    have hs0 := HPos.out rfl
    have HPl := hide (fun (w : World) => headerPlace s hs0 w)
    obtain ⟨p, hp⟩ : ∃ p, s % 2 = p := ⟨_, rfl⟩
    rw [hp] at HPl HX HS1 HT1 HA1
    clear hp
    by_cases hat : p = at_
    · have e1 : x = 0 := by rw [← HX.out, if_pos rfl, if_pos hat]
      have e2 : s1 = s := by rw [← HS1.out, if_neg (fun h => h.2 hat)]
      have e3 : t1 = t := by rw [← HT1.out, if_neg (fun h => h.2 hat)]
      have e4 : A1 = A := by rw [← HA1.out, if_neg (fun h => h.2 hat)]
      subst e1 e2 e3 e4
      clear HX HS1 HT1 HA1
      go_wp2_with fail
      refine (HPl.out _).mono ?_
      rintro e w9 ⟨he, hw9⟩
      rw [he, hw9]
      clear he hw9
      go_wp2
      have BA := below_alloc ((((w2.setCell ⟨w.heap.size + 1, 0, none⟩ (.int .i64 0)).setCell ⟨w.heap.size + 1, 1, none⟩ (.int .i64 s1)).setCell ⟨w.heap.size + 1, 2, none⟩ (.int .i64 t1)).setCell ⟨w.heap.size + 1, 3, none⟩ (.slice az l cz)) (.cells #[.int .i64 0, .int .i64 s1, .int .i64 t1, .slice az l cz] 180)
      have m0 := cell_later BA (a := ⟨w.heap.size + 1, 0, none⟩) (v := .int .i64 0) (by simp [go_sem, v0])
      have m1 := cell_later BA (a := ⟨w.heap.size + 1, 1, none⟩) (v := .int .i64 s1) (by simp [go_sem, v1])
      have m2 := cell_later BA (a := ⟨w.heap.size + 1, 2, none⟩) (v := .int .i64 t1) (by simp [go_sem, v2])
      have m3 := cell_later BA (a := ⟨w.heap.size + 1, 3, none⟩) (v := .slice az l cz) (by simp [go_sem, v3])
      have hfin := ret_head (x := .int .i64 0) (s := .int .i64 s1) (t := .int .i64 t1) HB.out (r := w.heap.size + 1) (by omega) HO.out (by omega) (by omega)
      exact bodyPost_ret (v := .agg #[.int .i64 0, .int .i64 s1, .int .i64 t1, .slice az l cz]) (by simp [results, Tryz.results185, go_sem, m0, m1, m2, m3]) rfl ⟨_, rfl, hfin.1.trans (BA.mono (by simp; omega)), hfin.2.later BA⟩
    · have e1 : x = 5 := by rw [← HX.out, if_pos rfl, if_neg hat]
      have e2 : s1 = 0 := by rw [← HS1.out, if_pos ⟨rfl, hat⟩]
      have e3 : t1 = 0 := by rw [← HT1.out, if_pos ⟨rfl, hat⟩]
      have e4 : A1 = [] := by rw [← HA1.out, if_pos ⟨rfl, hat⟩]
      subst e1 e2 e3 e4
      clear HX HS1 HT1 HA1
      go_wp2_with fail
      refine (HPl.out _).mono ?_
      rintro e w9 ⟨he, hw9⟩
      rw [he, hw9]
      clear he hw9
      go_wp2
      have BA := below_alloc ((((w2.setCell ⟨w.heap.size + 1, 0, none⟩ (.int .i64 5)).setCell ⟨w.heap.size + 1, 1, none⟩ (.int .i64 0)).setCell ⟨w.heap.size + 1, 2, none⟩ (.int .i64 0)).setCell ⟨w.heap.size + 1, 3, none⟩ (.slice none 0 0)) (.cells #[.int .i64 0, .int .i64 s, .int .i64 t, .slice az l cz] 180)
      have m0 := cell_later BA (a := ⟨w.heap.size + 1, 0, none⟩) (v := .int .i64 5) (by simp [go_sem, v0])
      have m1 := cell_later BA (a := ⟨w.heap.size + 1, 1, none⟩) (v := .int .i64 0) (by simp [go_sem, v1])
      have m2 := cell_later BA (a := ⟨w.heap.size + 1, 2, none⟩) (v := .int .i64 0) (by simp [go_sem, v2])
      have m3 := cell_later BA (a := ⟨w.heap.size + 1, 3, none⟩) (v := .slice none 0 0) (by simp [go_sem, v3])
      have hfin := ret_head (x := .int .i64 5) (s := .int .i64 0) (t := .int .i64 0) HB.out (r := w.heap.size + 1) (by omega) (OwI_nil (w.heap.size + 2) w2) (by omega) (by omega)
      exact bodyPost_ret (v := .agg #[.int .i64 5, .int .i64 0, .int .i64 0, .slice none 0 0]) (by simp [results, Tryz.results185, go_sem, m0, m1, m2, m3]) rfl ⟨_, rfl, hfin.1.trans (BA.mono (by simp; omega)), hfin.2.later BA⟩
  · have e1 : x = c := by rw [← HX.out, if_neg hc0]
    have e2 : s1 = s := by rw [← HS1.out, if_neg (fun h => hc0 h.1)]
    have e3 : t1 = t := by rw [← HT1.out, if_neg (fun h => hc0 h.1)]
    have e4 : A1 = A := by rw [← HA1.out, if_neg (fun h => hc0 h.1)]
    subst e1 e2 e3 e4
    clear HX HS1 HT1 HA1
    go_wp2
    have BA := below_alloc ((((w2.setCell ⟨w.heap.size + 1, 0, none⟩ (.int .i64 x)).setCell ⟨w.heap.size + 1, 1, none⟩ (.int .i64 s1)).setCell ⟨w.heap.size + 1, 2, none⟩ (.int .i64 t1)).setCell ⟨w.heap.size + 1, 3, none⟩ (.slice az l cz)) (.cells #[.int .i64 x, .int .i64 s1, .int .i64 t1, .slice az l cz] 180)
    have m0 := cell_later BA (a := ⟨w.heap.size + 1, 0, none⟩) (v := .int .i64 x) (by simp [go_sem, v0])
    have m1 := cell_later BA (a := ⟨w.heap.size + 1, 1, none⟩) (v := .int .i64 s1) (by simp [go_sem, v1])
    have m2 := cell_later BA (a := ⟨w.heap.size + 1, 2, none⟩) (v := .int .i64 t1) (by simp [go_sem, v2])
    have m3 := cell_later BA (a := ⟨w.heap.size + 1, 3, none⟩) (v := .slice az l cz) (by simp [go_sem, v3])
    have hfin := ret_head (x := .int .i64 x) (s := .int .i64 s1) (t := .int .i64 t1) HB.out (r := w.heap.size + 1) (by omega) HO.out (by omega) (by omega)
    exact bodyPost_ret (v := .agg #[.int .i64 x, .int .i64 s1, .int .i64 t1, .slice az l cz]) (by simp [results, Tryz.results185, go_sem, m0, m1, m2, m3]) rfl ⟨_, rfl, hfin.1.trans (BA.mono (by simp; omega)), hfin.2.later BA⟩
set_option linter.unusedSimpArgs false in
set_option maxHeartbeats 4000000 in
set_option maxRecDepth 4000 in
theorem implHeaderIn {S T : Nat → Prop} {w : World} {u v : Value} {xss : List (List Int)} {ps : List (Int × List Int)} (hu : RdII S w u xss) (hv : RdP T w v ps) (hs : Small xss ps) :
    Calls Tryz.prog 149 #[.agg #[u, v]] w (EndsH (inF xss ps) (inS xss ps) (inT xss ps) (inA xss ps) w) := by
  unfold EndsH inF inS inT inA
  have HU := hide hu
  have HV := hide hv
  have HS := hide hs
  obtain ⟨ao, c, rfl, hn⟩ := hu.shape
  obtain ⟨ao', c', rfl, hm⟩ := hv.shape
  clear hu hv hs
  obtain ⟨z, hz⟩ : ∃ z, diskF xss ps = z := ⟨_, rfl⟩
  have HZ := hide hz
  obtain ⟨n, hn'⟩ : ∃ n, xss.length = n := ⟨_, rfl⟩
  obtain ⟨m, hm'⟩ : ∃ m, ps.length = m := ⟨_, rfl⟩
  have HN := hide hn'
  have HM := hide hm'
  rw [hn'] at HU hn ⊢
  rw [hm'] at HV hm ⊢
  rw [hz]
  clear hn' hm' hz
  have A0 := hide (below_on (below_alloc w (.cells #[.slice ao n c, .slice ao' m c'] 59)) (below_alloc _ (.cells #[.int .i64 0, .int .i64 0, .int .i64 0, .slice none 0 0] 180)))
  by_cases h0 : z = 0
  · subst h0
    by_cases h66 : n = 66
    · subst h66
      rw [if_pos rfl, if_pos rfl, if_pos ⟨rfl, rfl⟩, if_pos ⟨rfl, rfl⟩, if_pos ⟨rfl, rfl⟩]
      have hl0 : (wsAt xss ps 0).length ≤ 1048576 := blkToD_len HS.out ps.length (Nat.le_refl _) (by omega) (by rw [HN.out]; omega)
      have hl1 : (wsAt xss ps 1).length ≤ 1048576 := blkToD_len HS.out ps.length (Nat.le_refl _) (by omega) (by rw [HN.out]; omega)
      have HL0 := hide (sideA_len (wsAt xss ps 0) 0 hl0)
      have HL1 := hide (sideA_len (wsAt xss ps 1) 1 hl1)
      have HSd : Hid (∀ (k : Int) (w' : World), 0 ≤ k → k < 66 → Below w.heap.size w w' → Calls Tryz.prog 185 #[.agg #[.slice ao 66 c, .slice ao' m c'], .int .i64 k] w' (EndsH (sideF (wsAt xss ps k) k) (sideS (wsAt xss ps k) k) (sideT (wsAt xss ps k) k) (sideA (wsAt xss ps k) k) w')) :=
        fun k w' h1 h2 hb => headerAt k (HU.out.later hb) (HV.out.later hb) HS.out h1 (by rw [HN.out]; exact h2)
      unfold inP
      have HS0 := hide (fun w' hb => HSd.out 0 w' (by omega) (by omega) hb)
      have HS1 := hide (fun w' hb => HSd.out 1 w' (by omega) (by omega) hb)
      clear HSd hl0 hl1
      generalize sideF (wsAt xss ps 0) 0 = cx at HS0 ⊢
      generalize sideS (wsAt xss ps 0) 0 = sx at HS0 ⊢
      generalize sideT (wsAt xss ps 0) 0 = tx at HS0 ⊢
      generalize sideA (wsAt xss ps 0) 0 = xx at HS0 HL0 ⊢
      generalize sideF (wsAt xss ps 1) 1 = cy at HS1 ⊢
      generalize sideS (wsAt xss ps 1) 1 = sy at HS1 ⊢
      generalize sideT (wsAt xss ps 1) 1 = ty at HS1 ⊢
      generalize sideA (wsAt xss ps 1) 1 = xy at HS1 HL1 ⊢
      generalize hkk : nwP cx sx tx xx cy sy ty xy = k
      have HNw := hide (fun (S T : Nat → Prop) (w : World) (ya yb : Value) (h1 : RdI S w ya xx) (h2 : RdI T w yb xy) => implNewest cx sx tx cy sy ty h1 h2 HL0.out HL1.out)
      rw [hkk] at HNw
      generalize nwF k = rc at HNw ⊢
      generalize nwI k sx sy = rs at HNw ⊢
      generalize nwI k tx ty = rt at HNw ⊢
      generalize nwA k xx xy = ra at HNw ⊢
      clear hkk
      go_enter Tryz.func149, Tryz.ntmps149
      go_wp2_with fail
      refine (sizedFault (HU.out.later A0.out) (HV.out.later A0.out)).mono ?_
      rintro e w1 ⟨he, hb1⟩
      rw [sizedF, HZ.out, if_pos rfl, if_pos HN.out] at he
      subst he
      have B1 := hide (below_on A0.out hb1)
      have d0 : w1.cell? ⟨w.heap.size, 0, none⟩ = some (.slice ao 66 c) := cell_later hb1 (by simp [go_sem])
      have d1 : w1.cell? ⟨w.heap.size, 1, none⟩ = some (.slice ao' m c') := cell_later hb1 (by simp [go_sem])
      have v0 : w1.cell? ⟨w.heap.size + 1, 0, none⟩ = some (.int .i64 0) := cell_later hb1 (by simp [go_sem])
      have v1 : w1.cell? ⟨w.heap.size + 1, 1, none⟩ = some (.int .i64 0) := cell_later hb1 (by simp [go_sem])
      have v2 : w1.cell? ⟨w.heap.size + 1, 2, none⟩ = some (.int .i64 0) := cell_later hb1 (by simp [go_sem])
      have v3 : w1.cell? ⟨w.heap.size + 1, 3, none⟩ = some (.slice none 0 0) := cell_later hb1 (by simp [go_sem])
      have f : ∀ o, w1.frozen? ⟨w.heap.size + 1, o, none⟩ = false := fun o => ((bcell hb1).2 _ _ (by simp)).trans (by simp [go_sem])
      have hz1 : w.heap.size + 2 ≤ w1.heap.size := by have := hb1.size; simpa using this
      clear hb1
      have hdn : w.heap.size ≠ w.heap.size + 1 := by omega
      obtain ⟨l, hl⟩ : ∃ l, ra.length = l := ⟨_, rfl⟩
      have HLr := hide hl
      clear hl
      go_wp2_with fail
      refine wp_region_held_drew (S := fun w' => w'.cell? ⟨w.heap.size, 0, none⟩ = some (.slice ao 66 c) ∧ w'.cell? ⟨w.heap.size, 1, none⟩ = some (.slice ao' m c')) (by kernel_rfl) ⟨d0, d1⟩ (fun hHeld => ?_)
      refine wpAnyH_take (i := 0) (v := ?v0) rfl (by kernel_rfl) (by kernel_rfl) (by kernel_rfl) (fun _ _ _ h => h) (Or.inl ⟨by rfl, ?h0⟩) hHeld ?r0
      case h0 => intro w9 hSw; (try dsimp only at hSw); first | (go_simp; done) | (go_simp; with_reducible rfl)
      try simp only [Act.put, List.setIfInBounds_toArray, List.set_cons_zero, List.set_cons_succ]
      refine wpAnyH_take (i := 2) (v := ?v2) rfl (by kernel_rfl) (by kernel_rfl) (by kernel_rfl) (fun _ _ _ h => h) (Or.inl ⟨by rfl, ?h2⟩) hHeld ?r2
      case h2 => intro w9 hSw; (try dsimp only at hSw); first | (go_simp; done) | (go_simp; with_reducible rfl)
      try simp only [Act.put, List.setIfInBounds_toArray, List.set_cons_zero, List.set_cons_succ]
      refine wpAnyH_ready (rs := [1]) (by kernel_rfl) (by simp) (AllReadyH.cons rfl (fun K hK => ?_) AllReadyH.nil)
      go_simp
      go_at_call 185
      refine (HS0.out _ (below_on B1.out (below_drewN _ 1))).mono ?_
      rintro e w2 ⟨z2, rfl, hb2, ho2⟩
      obtain ⟨a2, c2, rfl⟩ := ho2.shape
      have HB2 := hide (below_on (below_drewN w1 1) hb2)
      have HO2 := hide ho2
      have e0 := cell_later hb2 d0
      have e1 := cell_later hb2 d1
      clear hb2 ho2
      refine hK.out _ _ ⟨e0, e1⟩ (fun _ => ?_)
      clear hK K
      try simp only [Act.put, List.setIfInBounds_toArray, List.set_cons_zero, List.set_cons_succ]
      refine wpAnyH_ready (rs := [3]) (by kernel_rfl) (by simp) (AllReadyH.cons rfl (fun K hK => ?_) AllReadyH.nil)
      go_simp
      go_at_call 185
      refine (HS1.out _ (below_on B1.out HB2.out)).mono ?_
      rintro e w3 ⟨z3, rfl, hb3, ho3⟩
      obtain ⟨a3, c3, rfl⟩ := ho3.shape
      have HB3 := hide (below_on HB2.out hb3)
      have HO3 := hide ho3
      have HO2' := hide (HO2.out.later hb3)
      have g0 := cell_later hb3 e0
      have g1 := cell_later hb3 e1
      clear hb3 ho3
      refine hK.out _ _ ⟨g0, g1⟩ (fun _ => ?_)
      clear hK K
      try simp only [Act.put, List.setIfInBounds_toArray, List.set_cons_zero, List.set_cons_succ]
      refine wpAnyH_ready (rs := [4]) (by kernel_rfl) (by simp) (AllReadyH.cons rfl (fun K hK => ?_) AllReadyH.nil)
      go_simp
      go_at_call 184
      refine (HNw.out _ _ _ _ _ HO2'.out.rd HO3.out.rd).mono ?_
      rintro e w4 ⟨z4, rfl, hb4, ho4⟩
      obtain ⟨a4, c4, hz4⟩ := ho4.shape
      rw [HLr.out] at hz4
      subst hz4
      have hb14 := below_on HB3.out hb4
      have i0 := cell_later hb4 g0
      have i1 := cell_later hb4 g1
      have x0 := cell_later hb14 v0
      have x1 := cell_later hb14 v1
      have x2 := cell_later hb14 v2
      have x3 := cell_later hb14 v3
      have y0 := ((bcell hb14).2 _ _ (by omega)).trans (f 0)
      have y1 := ((bcell hb14).2 _ _ (by omega)).trans (f 1)
      have y2 := ((bcell hb14).2 _ _ (by omega)).trans (f 2)
      have y3 := ((bcell hb14).2 _ _ (by omega)).trans (f 3)
      have HB := hide (below_on B1.out hb14)
      have HO := hide ho4
      have hz3 := HB3.out.size
      clear hb4 ho4 hb14
      refine hK.out _ _ ⟨i0, i1⟩ (fun _ => ?_)
      clear hK K
      try simp only [Act.put, List.setIfInBounds_toArray, List.set_cons_zero, List.set_cons_succ]
      refine wpAnyH_ready (rs := [5]) (by kernel_rfl) (by simp) (AllReadyH.cons rfl (fun K hK => ?_) AllReadyH.nil)
      go_simp
      refine hK.out _ _ ⟨(set4_far hdn).trans i0, (set4_far hdn).trans i1⟩ (fun _ => ?_)
      clear hK K
      try simp only [Act.put, List.setIfInBounds_toArray, List.set_cons_zero, List.set_cons_succ]
      refine wpAnyH_done (by kernel_rfl) ?_ _
      go_wp2
      have hfin := ret_head (x := .int .i64 rc) (s := .int .i64 rs) (t := .int .i64 rt) HB.out (r := w.heap.size + 1) (by omega) HO.out (by omega) (by omega)
      exact bodyPost_ret (v := .agg #[.int .i64 rc, .int .i64 rs, .int .i64 rt, .slice a4 l c4]) (by simp [results, Tryz.results149, go_sem, x0, x1, x2, x3]) rfl ⟨_, rfl, hfin.1, hfin.2⟩
    · have hn66 : ¬ ((n : Int) = 66) := by omega
      rw [if_pos rfl, if_neg h66, if_neg (fun h => h66 h.2), if_neg (fun h => h66 h.2), if_neg (fun h => h66 h.2)]
      go_enter Tryz.func149, Tryz.ntmps149
      go_wp2_with fail
      refine (sizedFault (HU.out.later A0.out) (HV.out.later A0.out)).mono ?_
      rintro e w1 ⟨he, hb1⟩
      rw [sizedF, HZ.out, if_pos rfl, if_neg (by rw [HN.out]; exact h66)] at he
      subst he
      have v0 : w1.cell? ⟨w.heap.size + 1, 0, none⟩ = some (.int .i64 0) := cell_later hb1 (by simp [go_sem])
      have v1 : w1.cell? ⟨w.heap.size + 1, 1, none⟩ = some (.int .i64 0) := cell_later hb1 (by simp [go_sem])
      have v2 : w1.cell? ⟨w.heap.size + 1, 2, none⟩ = some (.int .i64 0) := cell_later hb1 (by simp [go_sem])
      have v3 : w1.cell? ⟨w.heap.size + 1, 3, none⟩ = some (.slice none 0 0) := cell_later hb1 (by simp [go_sem])
      have y0 : w1.frozen? ⟨w.heap.size + 1, 0, none⟩ = false := ((bcell hb1).2 _ _ (by simp)).trans (by simp [go_sem])
      have y1 : w1.frozen? ⟨w.heap.size + 1, 1, none⟩ = false := ((bcell hb1).2 _ _ (by simp)).trans (by simp [go_sem])
      have y2 : w1.frozen? ⟨w.heap.size + 1, 2, none⟩ = false := ((bcell hb1).2 _ _ (by simp)).trans (by simp [go_sem])
      have y3 : w1.frozen? ⟨w.heap.size + 1, 3, none⟩ = false := ((bcell hb1).2 _ _ (by simp)).trans (by simp [go_sem])
      have d0 : w1.cell? ⟨w.heap.size, 0, none⟩ = some (.slice ao n c) := cell_later hb1 (by simp [go_sem])
      have HB := hide (below_on A0.out hb1)
      clear hb1
      go_wp2
      refine bodyPost_ret (v := .agg #[.int .i64 1, .int .i64 0, .int .i64 0, .slice none 0 0]) (by simp [results, Tryz.results149, go_sem, v0, v1, v2, v3]) rfl ⟨_, rfl, ?_, OwI_nil _ _⟩
      repeat (first | refine Below.setCell ?_ (by first | (simp; done) | (simp; omega) | omega) _ | exact HB.out)
  · rw [if_neg h0, if_neg (fun h => h0 h.1), if_neg (fun h => h0 h.1), if_neg (fun h => h0 h.1)]
    go_enter Tryz.func149, Tryz.ntmps149
    go_wp2_with fail
    refine (sizedFault (HU.out.later A0.out) (HV.out.later A0.out)).mono ?_
    rintro e w1 ⟨he, hb1⟩
    rw [sizedF, HZ.out, if_neg h0] at he
    subst he
    have v0 : w1.cell? ⟨w.heap.size + 1, 0, none⟩ = some (.int .i64 0) := cell_later hb1 (by simp [go_sem])
    have v1 : w1.cell? ⟨w.heap.size + 1, 1, none⟩ = some (.int .i64 0) := cell_later hb1 (by simp [go_sem])
    have v2 : w1.cell? ⟨w.heap.size + 1, 2, none⟩ = some (.int .i64 0) := cell_later hb1 (by simp [go_sem])
    have v3 : w1.cell? ⟨w.heap.size + 1, 3, none⟩ = some (.slice none 0 0) := cell_later hb1 (by simp [go_sem])
    have y0 : w1.frozen? ⟨w.heap.size + 1, 0, none⟩ = false := ((bcell hb1).2 _ _ (by simp)).trans (by simp [go_sem])
    have y1 : w1.frozen? ⟨w.heap.size + 1, 1, none⟩ = false := ((bcell hb1).2 _ _ (by simp)).trans (by simp [go_sem])
    have y2 : w1.frozen? ⟨w.heap.size + 1, 2, none⟩ = false := ((bcell hb1).2 _ _ (by simp)).trans (by simp [go_sem])
    have y3 : w1.frozen? ⟨w.heap.size + 1, 3, none⟩ = false := ((bcell hb1).2 _ _ (by simp)).trans (by simp [go_sem])
    have HB := hide (below_on A0.out hb1)
    clear hb1
    go_wp2
    refine bodyPost_ret (v := .agg #[.int .i64 z, .int .i64 0, .int .i64 0, .slice none 0 0]) (by simp [results, Tryz.results149, go_sem, v0, v1, v2, v3]) rfl ⟨_, rfl, ?_, OwI_nil _ _⟩
    repeat (first | refine Below.setCell ?_ (by first | (simp; done) | (simp; omega) | omega) _ | exact HB.out)
end Go.Proofs.YtlmaopljihbdkaaGreat
