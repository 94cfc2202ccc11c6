/- Chapter 2, the model's side: 'spec.HeaderIn', walked. -/
import Derived.Test.YtbjmmhcbjcngcaaSpec2f
namespace Go.Proofs.Ytbjmmhcbjcngcaa
open Go.RowKit

/-- The words of the k-th block. -/
def wsAt (xss : List (List Int)) (ps : List (Int × List Int)) (k : Int) : List Int := blkTo xss ps k ps.length
/-- Which of the two headers counts. -/
def inP (xss : List (List Int)) (ps : List (Int × List Int)) : Nat :=
  nwP (sideF (wsAt xss ps 0) 0) (sideS (wsAt xss ps 0) 0) (sideT (wsAt xss ps 0) 0) (sideA (wsAt xss ps 0) 0) (sideF (wsAt xss ps 1) 1) (sideS (wsAt xss ps 1) 1) (sideT (wsAt xss ps 1) 1) (sideA (wsAt xss ps 1) 1)
def inF (xss : List (List Int)) (ps : List (Int × List Int)) : Int := if diskF xss ps = 0 then (if xss.length = 66 then nwF (inP xss ps) else 1) else diskF xss ps
def inS (xss : List (List Int)) (ps : List (Int × List Int)) : Int := if diskF xss ps = 0 ∧ xss.length = 66 then nwI (inP xss ps) (sideS (wsAt xss ps 0) 0) (sideS (wsAt xss ps 1) 1) else 0
def inT (xss : List (List Int)) (ps : List (Int × List Int)) : Int := if diskF xss ps = 0 ∧ xss.length = 66 then nwI (inP xss ps) (sideT (wsAt xss ps 0) 0) (sideT (wsAt xss ps 1) 1) else 0
def inA (xss : List (List Int)) (ps : List (Int × List Int)) : List Int := if diskF xss ps = 0 ∧ xss.length = 66 then nwA (inP xss ps) (sideA (wsAt xss ps 0) 0) (sideA (wsAt xss ps 1) 1) else []

set_option maxHeartbeats 4000000 in
set_option maxRecDepth 4000 in
theorem specHeaderIn {S T : Nat → Prop} {w : World} {u v : Value} {xss : List (List Int)} {ps : List (Int × List Int)} (hu : RdII S w u xss) (hv : RdP T w v ps) (hs : Small xss ps) :
    Calls Try.prog 29 #[.agg #[u, v]] w (EndsH (inF xss ps) (inS xss ps) (inT xss ps) (inA xss ps) w) := by
  unfold EndsH inF inS inT inA
  have HU := hide hu
  have HV := hide hv
  have HS := hide hs
  obtain ⟨ao, c, rfl, hn⟩ := hu.shape
  obtain ⟨ao', c', rfl, hm⟩ := hv.shape
  clear hu hv hs
  obtain ⟨z, hz⟩ : ∃ z, diskF xss ps = z := ⟨_, rfl⟩
  have HZ := hide hz
  obtain ⟨n, hn'⟩ : ∃ n, xss.length = n := ⟨_, rfl⟩
  obtain ⟨m, hm'⟩ : ∃ m, ps.length = m := ⟨_, rfl⟩
  have HN := hide hn'
  have HM := hide hm'
  rw [hn'] at HU hn ⊢
  rw [hm'] at HV hm ⊢
  rw [hz]
  clear hn' hm' hz
  have A0 := hide (below_on (below_alloc w (.cells #[.slice ao n c, .slice ao' m c'] 32)) (below_alloc _ (.cells #[.int .i64 0, .int .i64 0, .int .i64 0, .slice none 0 0] 61)))
  by_cases h0 : z = 0
  · subst h0
    by_cases h66 : n = 66
    · subst h66
      rw [if_pos rfl, if_pos rfl, if_pos ⟨rfl, rfl⟩, if_pos ⟨rfl, rfl⟩, if_pos ⟨rfl, rfl⟩]
      have hl0 : (wsAt xss ps 0).length ≤ 1048576 := blkTo_len HS.out ps.length (Nat.le_refl _) (by omega) (by rw [HN.out]; omega)
      have hl1 : (wsAt xss ps 1).length ≤ 1048576 := blkTo_len HS.out ps.length (Nat.le_refl _) (by omega) (by rw [HN.out]; omega)
      have HL0 := hide (sideA_len (wsAt xss ps 0) 0 hl0)
      have HL1 := hide (sideA_len (wsAt xss ps 1) 1 hl1)
      have HSd : Hid (∀ (k : Int) (w' : World), 0 ≤ k → k < 66 → Below w.heap.size w w' → w'.cell? ⟨w.heap.size, 0, none⟩ = some (.slice ao 66 c) → w'.cell? ⟨w.heap.size, 1, none⟩ = some (.slice ao' m c') → Calls Try.prog 49 #[.pointer (some ⟨w.heap.size, 0, none⟩), .int .i64 k] w' (EndsH (sideF (wsAt xss ps k) k) (sideS (wsAt xss ps k) k) (sideT (wsAt xss ps k) k) (sideA (wsAt xss ps k) k) w')) :=
        fun k w' h1 h2 hb d0 d1 => l2Side k d0 d1 (HU.out.later hb) (HV.out.later hb) h1 (by rw [HN.out]; exact h2)
      unfold inP
      have HS0 := hide (fun w' hb d0 d1 => HSd.out 0 w' (by omega) (by omega) hb d0 d1)
      have HS1 := hide (fun w' hb d0 d1 => HSd.out 1 w' (by omega) (by omega) hb d0 d1)
      clear HSd hl0 hl1
      generalize sideF (wsAt xss ps 0) 0 = cx at HS0 ⊢
      generalize sideS (wsAt xss ps 0) 0 = sx at HS0 ⊢
      generalize sideT (wsAt xss ps 0) 0 = tx at HS0 ⊢
      generalize sideA (wsAt xss ps 0) 0 = xx at HS0 HL0 ⊢
      generalize sideF (wsAt xss ps 1) 1 = cy at HS1 ⊢
      generalize sideS (wsAt xss ps 1) 1 = sy at HS1 ⊢
      generalize sideT (wsAt xss ps 1) 1 = ty at HS1 ⊢
      generalize sideA (wsAt xss ps 1) 1 = xy at HS1 HL1 ⊢
      generalize hkk : nwP cx sx tx xx cy sy ty xy = k
      have HNw := hide (fun (S T : Nat → Prop) (w : World) (ya yb : Value) (h1 : RdI S w ya xx) (h2 : RdI T w yb xy) => specNewest cx sx tx cy sy ty h1 h2 HL0.out HL1.out)
      rw [hkk] at HNw
      generalize nwF k = rc at HNw ⊢
      generalize nwI k sx sy = rs at HNw ⊢
      generalize nwI k tx ty = rt at HNw ⊢
      generalize nwA k xx xy = ra at HNw ⊢
      clear hkk
      go_enter Try.func29, Try.ntmps29
      go_wp2_with fail
      refine (l1Fault (u := .slice ao 66 c) (v := .slice ao' m c') (by simp [go_sem]) (by simp [go_sem]) ((HU.out.later (below_alloc _ _)).later (below_alloc _ _)) ((HV.out.later (below_alloc _ _)).later (below_alloc _ _))).mono ?_
      rintro e w1 ⟨he, q, hw1⟩
      rw [HZ.out] at he
      subst he
      have B1 : Hid (Below w.heap.size w w1) := by rw [hw1]; exact below_on A0.out (below_drewN _ _)
      have d0 : w1.cell? ⟨w.heap.size, 0, none⟩ = some (.slice ao 66 c) := by rw [hw1]; simp [go_sem]
      have d1 : w1.cell? ⟨w.heap.size, 1, none⟩ = some (.slice ao' m c') := by rw [hw1]; simp [go_sem]
      have v0 : w1.cell? ⟨w.heap.size + 1, 0, none⟩ = some (.int .i64 0) := by rw [hw1]; simp [go_sem]
      have v1 : w1.cell? ⟨w.heap.size + 1, 1, none⟩ = some (.int .i64 0) := by rw [hw1]; simp [go_sem]
      have v2 : w1.cell? ⟨w.heap.size + 1, 2, none⟩ = some (.int .i64 0) := by rw [hw1]; simp [go_sem]
      have v3 : w1.cell? ⟨w.heap.size + 1, 3, none⟩ = some (.slice none 0 0) := by rw [hw1]; simp [go_sem]
      have f : ∀ o, w1.frozen? ⟨w.heap.size + 1, o, none⟩ = false := by rw [hw1]; intro o; simp [go_sem]
      have hz1 : w1.heap.size = w.heap.size + 2 := by rw [hw1]; simp
      clear hw1
      go_wp2_with fail
      refine (HS0.out _ B1.out d0 d1).mono ?_
      rintro e w2 ⟨z2, rfl, hb2, ho2⟩
      obtain ⟨a2, c2, rfl⟩ := ho2.shape
      have HB2 := hide hb2
      have HO2 := hide ho2
      have B2 := hide (below_on B1.out hb2)
      have d0 := cell_later hb2 d0
      have d1 := cell_later hb2 d1
      clear hb2 ho2
      go_wp2_with fail
      refine (HS1.out _ B2.out d0 d1).mono ?_
      rintro e w3 ⟨z3, rfl, hb3, ho3⟩
      obtain ⟨a3, c3, rfl⟩ := ho3.shape
      have HB3 := hide (below_on HB2.out hb3)
      have HO3 := hide ho3
      have HO2' := hide (HO2.out.later hb3)
      clear hb3 ho3 HO2
      go_wp2_with fail
      refine (HNw.out _ _ _ _ _ HO2'.out.rd HO3.out.rd).mono ?_
      rintro e w4 ⟨z4, rfl, hb4, ho4⟩
      obtain ⟨a4, c4, rfl⟩ := ho4.shape
      obtain ⟨l, hl⟩ : ∃ l, ra.length = l := ⟨_, rfl⟩
      rw [hl] at ho4 ⊢
      have hb14 := below_on HB3.out hb4
      have x0 := cell_later hb14 v0
      have x1 := cell_later hb14 v1
      have x2 := cell_later hb14 v2
      have x3 := cell_later hb14 v3
      have y0 := ((bcell hb14).2 _ _ (by omega)).trans (f 0)
      have y1 := ((bcell hb14).2 _ _ (by omega)).trans (f 1)
      have y2 := ((bcell hb14).2 _ _ (by omega)).trans (f 2)
      have y3 := ((bcell hb14).2 _ _ (by omega)).trans (f 3)
      have HB := hide (below_on B1.out hb14)
      have HO := hide ho4
      have hz3 := HB3.out.size
      clear hb4 ho4 hb14 hl f
      go_wp2
      have hfin := ret_head (x := .int .i64 rc) (s := .int .i64 rs) (t := .int .i64 rt) HB.out (r := w.heap.size + 1) (by omega) HO.out (by omega) (by omega)
      exact bodyPost_ret (v := .agg #[.int .i64 rc, .int .i64 rs, .int .i64 rt, .slice a4 l c4]) (by simp [results, Try.results29, go_sem, x0, x1, x2, x3]) rfl ⟨_, rfl, hfin.1, hfin.2⟩
    · have hn66 : ¬ ((n : Int) = 66) := by omega
      rw [if_pos rfl, if_neg h66, if_neg (fun h => h66 h.2), if_neg (fun h => h66 h.2), if_neg (fun h => h66 h.2)]
      go_enter Try.func29, Try.ntmps29
      go_wp2_with fail
      refine (l1Fault (u := .slice ao n c) (v := .slice ao' m c') (by simp [go_sem]) (by simp [go_sem]) ((HU.out.later (below_alloc _ _)).later (below_alloc _ _)) ((HV.out.later (below_alloc _ _)).later (below_alloc _ _))).mono ?_
      rintro e w1 ⟨he, q, rfl⟩
      rw [HZ.out] at he
      subst he
      go_wp2
      refine bodyPost_ret (v := .agg #[.int .i64 1, .int .i64 0, .int .i64 0, .slice none 0 0]) (by simp [results, Try.results29, go_sem]) rfl ⟨_, rfl, ?_, OwI_nil _ _⟩
      repeat (first | refine Below.setCell ?_ (by first | (simp; done) | (simp; omega) | omega) _ | exact below_on A0.out (below_drewN _ _))
  · rw [if_neg h0, if_neg (fun h => h0 h.1), if_neg (fun h => h0 h.1), if_neg (fun h => h0 h.1)]
    go_enter Try.func29, Try.ntmps29
    go_wp2_with fail
    refine (l1Fault (u := .slice ao n c) (v := .slice ao' m c') (by simp [go_sem]) (by simp [go_sem]) ((HU.out.later (below_alloc _ _)).later (below_alloc _ _)) ((HV.out.later (below_alloc _ _)).later (below_alloc _ _))).mono ?_
    rintro e w1 ⟨he, q, rfl⟩
    rw [HZ.out] at he
    subst he
    go_wp2
    refine bodyPost_ret (v := .agg #[.int .i64 z, .int .i64 0, .int .i64 0, .slice none 0 0]) (by simp [results, Try.results29, go_sem]) rfl ⟨_, rfl, ?_, OwI_nil _ _⟩
    repeat (first | refine Below.setCell ?_ (by first | (simp; done) | (simp; omega) | omega) _ | exact below_on A0.out (below_drewN _ _))
end Go.Proofs.Ytbjmmhcbjcngcaa
