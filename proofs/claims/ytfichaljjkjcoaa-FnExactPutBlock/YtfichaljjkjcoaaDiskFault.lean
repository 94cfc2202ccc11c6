/- The law 'FnExactDiskFault' walked. -/
import Derived.Test.YtfichaljjkjcoaaEq
import Derived.Test.YtfichaljjkjcoaaSz
import Derived.Test.YtfichaljjkjcoaaTo
import Derived.Test.YtfichaljjkjcoaaFault3
namespace Go.Proofs.Ytfichaljjkjcoaa
open Go.RowKit

theorem len_le_tot (xss : List (List Int)) (i : Nat) (h : i < xss.length) : (xss.getD i []).length ≤ tot xss xss.length := by
  have h1 := tot_succ xss i h
  have h2 := tot_le xss (i + 1) xss.length h
  omega
theorem len_le_totW (ps : List (Int × List Int)) (i : Nat) (h : i < ps.length) : (ps.getD i (0, [])).2.length ≤ totW ps ps.length := by
  have h1 := totW_succ ps i h
  have h2 := totW_le ps (i + 1) ps.length h
  omega

/-- What is small enough to be copied. -/
structure Small (xss : List (List Int)) (ps : List (Int × List Int)) : Prop where
  rows : xss.length ≤ 1048576
  row : ∀ i, i < xss.length → (xss.getD i []).length ≤ 1048576
  puts : ps.length ≤ 1048576
  put : ∀ i, i < ps.length → (ps.getD i (0, [])).2.length ≤ 1048576
  all : tot xss xss.length + totW ps ps.length ≤ 1048576

theorem Small.of {xss : List (List Int)} {ps : List (Int × List Int)} (h : szD xss ps ≤ 1048576) : Small xss ps := by
  unfold szD at h
  exact ⟨by omega, fun i hi => by have := len_le_tot xss i hi; omega, by omega, fun i hi => by have := len_le_totW ps i hi; omega, by omega⟩

theorem toDisk' {S T : Nat → Prop} {w : World} {u v : Value} {xss : List (List Int)} {ps : List (Int × List Int)} (hu : RdII S w u xss) (hv : RdP T w v ps) (hs : Small xss ps) :
    Calls Try.prog 23 #[.agg #[u, v]] w fun e w' => ∃ u' v', e = .returned (.agg #[u', v']) ∧ Below w.heap.size w w' ∧ OwD w.heap.size w' u' v' xss ps :=
  toDisk hu hv hs.rows hs.row hs.puts hs.put

theorem OwD.rdII {B : Nat} {w : World} {u v : Value} {xss : List (List Int)} {ps : List (Int × List Int)} (h : OwD B w u v xss ps) : RdII (fun b => B ≤ b ∧ b < w.heap.size) w u xss := by
  obtain ⟨S, T, h1, h2, h3, h4, h5⟩ := h
  exact (h4.mono h1).rd
theorem OwD.rdP {B : Nat} {w : World} {u v : Value} {xss : List (List Int)} {ps : List (Int × List Int)} (h : OwD B w u v xss ps) : RdP (fun b => B ≤ b ∧ b < w.heap.size) w v ps := by
  obtain ⟨S, T, h1, h2, h3, h4, h5⟩ := h
  exact (h5.mono h2).rd
theorem OwD.shape {B : Nat} {w : World} {u v : Value} {xss : List (List Int)} {ps : List (Int × List Int)} (h : OwD B w u v xss ps) : ∃ ao c ao' c', u = .slice ao xss.length c ∧ v = .slice ao' ps.length c' := by
  obtain ⟨S, T, h1, h2, h3, h4, h5⟩ := h
  obtain ⟨ao, c, rfl⟩ := h4.shape
  obtain ⟨ao', c', rfl⟩ := h5.shape
  exact ⟨_, _, _, _, rfl, rfl⟩

set_option maxHeartbeats 1000000 in
theorem law_fault {S T : Nat → Prop} {w : World} {u v : Value} {xss : List (List Int)} {ps : List (Int × List Int)} (hu : RdII S w u xss) (hv : RdP T w v ps) :
    Calls Try.prog 5 #[.agg #[u, v]] w fun e w' => e = .returned (.bool true) ∧ Below w.heap.size w w' := by
  have HU := hide hu
  have HV := hide hv
  clear hu hv
  by_cases hsz : szD xss ps ≤ 1048576
  · have HY := hide (szv_yes hsz)
    have HS := hide (Small.of hsz)
    have hp : ¬ (1048576 - szD xss ps < 0) := by omega
    clear hsz
    go_enter Try.func5, Try.ntmps5
    go_wp2_with fail
    refine (szDisk (HU.out.later (below_alloc _ _)) (HV.out.later (below_alloc _ _)) (by omega) (by omega)).mono ?_
    rintro e w1 ⟨he, hb⟩
    rw [HY.out] at he
    subst he
    have B1 := hide (below_on (below_alloc _ _) hb)
    have c0 : w1.cell? ⟨w.heap.size, 0, none⟩ = some u := cell_later hb (by simp [go_sem])
    have c1 : w1.cell? ⟨w.heap.size, 1, none⟩ = some v := cell_later hb (by simp [go_sem])
    clear hb
    go_wp2_with fail
    refine (toDisk' (HU.out.later B1.out) (HV.out.later B1.out) HS.out).mono ?_
    rintro e w2 ⟨u2, v2, rfl, hb, ho⟩
    have O2 := hide ho
    have B2 := hide (below_on B1.out hb)
    have d0 := cell_later hb c0
    have d1 := cell_later hb c1
    clear hb ho c0 c1 B1
    go_wp2_with fail
    refine (specFault O2.out.rdII O2.out.rdP).mono ?_
    rintro e w3 ⟨rfl, hb⟩
    have B3 := hide (below_on B2.out hb)
    have c0 := cell_later hb d0
    have c1 := cell_later hb d1
    clear hb d0 d1 B2 O2
    go_wp2_with fail
    refine (toDisk' (HU.out.later B3.out) (HV.out.later B3.out) HS.out).mono ?_
    rintro e w4 ⟨u4, v4, rfl, hb, ho⟩
    obtain ⟨ao, c, ao', c', rfl, rfl⟩ := ho.shape
    have O4 := hide ho
    have B4 := hide (below_on B3.out hb)
    have d0 := cell_later hb c0
    have d1 := cell_later hb c1
    have z4 : w.heap.size < w4.heap.size := by have := World.block_lt_of_cell? _ _ d0; exact this
    clear hb ho c0 c1 B3
    go_wp2_with fail
    refine (implFault (O4.out.rdII.later (below_alloc _ _)) (O4.out.rdP.later (below_alloc _ _))).mono ?_
    rintro e w5 ⟨rfl, hb⟩
    have c0 := cell_later hb (cell_later (below_alloc _ (.cells #[.slice ao xss.length c, .slice ao' ps.length c'] 27)) d0)
    have c1 := cell_later hb (cell_later (below_alloc _ (.cells #[.slice ao xss.length c, .slice ao' ps.length c'] 27)) d1)
    have x0 : w5.cell? ⟨w4.heap.size, 0, none⟩ = some (.slice ao xss.length c) := cell_later hb (by simp [go_sem])
    have x1 : w5.cell? ⟨w4.heap.size, 1, none⟩ = some (.slice ao' ps.length c') := cell_later hb (by simp [go_sem])
    have R5 := hide ((O4.out.rdII.later (below_alloc _ _)).later hb)
    have P5 := hide ((O4.out.rdP.later (below_alloc _ _)).later hb)
    have B5 := hide (below_on B4.out (below_on (below_alloc _ _) hb))
    clear hb d0 d1 O4 B4
    go_wp2_with fail
    go_region_held3 (fun w' => w'.cell? ⟨w.heap.size, 0, none⟩ = some u ∧ w'.cell? ⟨w.heap.size, 1, none⟩ = some v ∧ w'.cell? ⟨w4.heap.size, 0, none⟩ = some (.slice ao xss.length c) ∧ w'.cell? ⟨w4.heap.size, 1, none⟩ = some (.slice ao' ps.length c')) (simp [*, go_sem])
      (first
        | (go_at_call 23; refine (toDisk' (HU.out.later (below_on B5.out (below_drewN _ 1))) (HV.out.later (below_on B5.out (below_drewN _ 1))) HS.out).mono ?_; rintro e w6 ⟨u6, v6, rfl, hb, ho⟩; have e0 := cell_later hb c0; have e1 := cell_later hb c1; have e2 := cell_later hb x0; have e3 := cell_later hb x1; have O6 := hide ho; have R6 := hide ((R5.out.drewN 1).later hb); have P6 := hide ((P5.out.later (below_drewN _ 1)).later hb); have B6 := hide (below_on (below_on B5.out (below_drewN _ 1)) hb); clear hb ho)
        | (go_at_call 25; refine (eqDisk R6.out P6.out O6.out.rdII O6.out.rdP).mono ?_; rintro e w7 ⟨rfl, hb⟩; have i0 := cell_later hb e0; have i1 := cell_later hb e1; have i2 := cell_later hb e2; have i3 := cell_later hb e3; have B7 := hide (below_on B6.out hb); clear hb))
    go_wp2
    go_ret
    exact ⟨rfl, B7.out⟩
  · have HY := hide (szv_no (left := 1048576) (s := szD xss ps) (by omega))
    clear hsz
    go_enter Try.func5, Try.ntmps5
    go_wp2_with fail
    refine (szDisk (HU.out.later (below_alloc _ _)) (HV.out.later (below_alloc _ _)) (by omega) (by omega)).mono ?_
    rintro e w1 ⟨he, hb⟩
    rw [HY.out] at he
    subst he
    have B1 := hide (below_on (below_alloc _ _) hb)
    clear hb
    go_wp2
    go_ret
    exact ⟨rfl, B1.out⟩
end Go.Proofs.Ytfichaljjkjcoaa
