/- For every two stores that can be handed in (shared memory allowed): 'FnExactKeptOf' returns true, and its arguments read as they did; no condition. SameRaftsProof's text with other names. -/
import Derived.Test.YtebgonaiodblhaaRa2
import Derived.Test.YtebgonaiodblhaaKp
import Derived.Test.YtebgonaiodblhaaOpenR
import Derived.Test.YtebgonaiodblhaaEnV
import Derived.Deep.RegionHeld3
namespace Go.Proofs.Ytebgonaiodblhaa
open Go.RowKit

set_option maxHeartbeats 8000000 in
set_option maxRecDepth 4000 in
theorem lawKeptOf {S T S' T' : Nat → Prop} {w : World} {y z y' z' : Value} (r s : Rf) (Z : Bool) (hy : RdI S w y r.sn) (hz : RdJ T w z r.lg) (hy' : RdI S' w y' s.sn) (hz' : RdJ T' w z' s.lg)
    (hspec : ∀ (S T S' T' : Nat → Prop) (w' : World) (y z y' z' : Value), RdI S w' y r.sn → RdJ T w' z r.lg → RdI S' w' y' s.sn → RdJ T' w' z' s.lg → Calls Try.prog 11 #[.agg #[.int .i64 r.tm, .int .i64 r.vt, .int .i64 r.si, .int .i64 r.st, y, z], .agg #[.int .i64 s.tm, .int .i64 s.vt, .int .i64 s.si, .int .i64 s.st, y', z']] w' fun e w'' => e = .returned (.bool Z) ∧ Below w'.heap.size w' w'')
    (himpl : ∀ (S T S' T' : Nat → Prop) (w' : World) (y z y' z' : Value), RdI S w' y r.sn → RdJ T w' z r.lg → RdI S' w' y' s.sn → RdJ T' w' z' s.lg → Calls Try.prog 13 #[.agg #[.int .i64 r.tm, .int .i64 r.vt, .int .i64 r.si, .int .i64 r.st, y, z], .agg #[.int .i64 s.tm, .int .i64 s.vt, .int .i64 s.si, .int .i64 s.st, y', z']] w' fun e w'' => e = .returned (.bool Z) ∧ Below w'.heap.size w' w'') :
    Calls Try.prog 4 #[.agg #[.int .i64 r.tm, .int .i64 r.vt, .int .i64 r.si, .int .i64 r.st, y, z], .agg #[.int .i64 s.tm, .int .i64 s.vt, .int .i64 s.si, .int .i64 s.st, y', z']] w fun e w' => e = .returned (.bool true) ∧ Below w.heap.size w w' := by
  obtain ⟨ay, cy, rfl⟩ := hy.shape
  obtain ⟨az, cz, rfl, _⟩ := hz.shape
  obtain ⟨ay', cy', rfl⟩ := hy'.shape
  obtain ⟨az', cz', rfl, _⟩ := hz'.shape
  have HS := hide hspec
  have HI := hide himpl
  have hn1 := szU_nonneg r.lg
  have hn2 := szU_nonneg s.lg
  have HSzA := hide (fun (w' : World) (hb : Below w.heap.size w w') => szRaft (left := 1048576) r.tm r.vt r.si r.st (hy.later hb) (hz.later hb) (by omega) (by omega))
  have HToA := hide (fun (h : (r.sn.length : Int) + szU r.lg ≤ 1048576) (w' : World) (hb : Below w.heap.size w w') => toRaft r.tm r.vt r.si r.st (hy.later hb) (hz.later hb) (by omega) (smallU (qs := r.lg) (by omega)).1 (smallU (qs := r.lg) (by omega)).2.1)
  have HEqA := hide (fun (w' : World) (u1 u2 v1 v2 : Value) (S1 S2 T1 T2 : Nat → Prop) (k1 : RdI S1 w' u1 r.sn) (k2 : RdJ S2 w' u2 r.lg) (k3 : RdI T1 w' v1 r.sn) (k4 : RdJ T2 w' v2 r.lg) => eqRaft r.tm r.vt r.si r.st k1 k2 k3 k4)
  have HSzB := hide (fun (h1 : (r.sn.length : Int) + szU r.lg ≤ 1048576) (w' : World) (hb : Below w.heap.size w w') => szRaft (left := 1048576 - ((r.sn.length : Int) + szU r.lg)) s.tm s.vt s.si s.st (hy'.later hb) (hz'.later hb) (by omega) (by omega))
  have HToB := hide (fun (h : (s.sn.length : Int) + szU s.lg ≤ 1048576) (w' : World) (hb : Below w.heap.size w w') => toRaft s.tm s.vt s.si s.st (hy'.later hb) (hz'.later hb) (by omega) (smallU (qs := s.lg) (by omega)).1 (smallU (qs := s.lg) (by omega)).2.1)
  have HEqB := hide (fun (w' : World) (u1 u2 v1 v2 : Value) (S1 S2 T1 T2 : Nat → Prop) (k1 : RdI S1 w' u1 s.sn) (k2 : RdJ S2 w' u2 s.lg) (k3 : RdI T1 w' v1 s.sn) (k4 : RdJ T2 w' v2 s.lg) => eqRaft s.tm s.vt s.si s.st k1 k2 k3 k4)
  obtain ⟨sz, hsz⟩ : ∃ x, (r.sn.length : Int) + szU r.lg = x := ⟨_, rfl⟩
  obtain ⟨sz', hsz'⟩ : ∃ x, (s.sn.length : Int) + szU s.lg = x := ⟨_, rfl⟩
  have hp0 : 0 ≤ sz := by omega
  have hp1 : 0 ≤ sz' := by omega
  rw [hsz] at HSzA HToA HSzB
  rw [hsz'] at HSzB HToB
  clear hn1 hn2 hsz
  clear hsz'
  obtain ⟨l, hl⟩ : ∃ x, r.sn.length = x := ⟨_, rfl⟩
  obtain ⟨m, hm⟩ : ∃ x, r.lg.length = x := ⟨_, rfl⟩
  have HLA := hide hl
  have HMA := hide hm
  rw [hl] at HSzA HToA ⊢
  rw [hm] at HSzA HToA ⊢
  clear hl hm
  obtain ⟨l', hl'⟩ : ∃ x, s.sn.length = x := ⟨_, rfl⟩
  obtain ⟨m', hm'⟩ : ∃ x, s.lg.length = x := ⟨_, rfl⟩
  have HLB := hide hl'
  have HMB := hide hm'
  rw [hl'] at HSzB HToB ⊢
  rw [hm'] at HSzB HToB ⊢
  clear hl' hm'
  clear hy hz hy' hz' hspec himpl
  generalize r.tm = a at *
  generalize r.vt = b at *
  generalize r.si = c at *
  generalize r.st = d at *
  generalize s.tm = a' at *
  generalize s.vt = b' at *
  generalize s.si = c' at *
  generalize s.st = d' at *
  have BA := hide (below_on (below_alloc w (.cells #[.int .i64 a, .int .i64 b, .int .i64 c, .int .i64 d, .slice ay l cy, .slice az m cz] 32)) (below_alloc _ (.cells #[.int .i64 a', .int .i64 b', .int .i64 c', .int .i64 d', .slice ay' l' cy', .slice az' m' cz'] 32)))
  have VA := hide ((Var6_new w (.int .i64 a) (.int .i64 b) (.int .i64 c) (.int .i64 d) (.slice ay l cy) (.slice az m cz) 32).later (below_alloc _ (.cells #[.int .i64 a', .int .i64 b', .int .i64 c', .int .i64 d', .slice ay' l' cy', .slice az' m' cz'] 32)))
  have VB : Hid (Var6 ((w.alloc (.cells #[.int .i64 a, .int .i64 b, .int .i64 c, .int .i64 d, .slice ay l cy, .slice az m cz] 32)).alloc (.cells #[.int .i64 a', .int .i64 b', .int .i64 c', .int .i64 d', .slice ay' l' cy', .slice az' m' cz'] 32)) (w.heap.size + 1) (.int .i64 a') (.int .i64 b') (.int .i64 c') (.int .i64 d') (.slice ay' l' cy') (.slice az' m' cz')) := by have h := Var6_new (w.alloc (.cells #[.int .i64 a, .int .i64 b, .int .i64 c, .int .i64 d, .slice ay l cy, .slice az m cz] 32)) (.int .i64 a') (.int .i64 b') (.int .i64 c') (.int .i64 d') (.slice ay' l' cy') (.slice az' m' cz') 32; simp only [World.size_alloc] at h; exact h
  obtain ⟨W, hW⟩ : ∃ W, (w.alloc (.cells #[.int .i64 a, .int .i64 b, .int .i64 c, .int .i64 d, .slice ay l cy, .slice az m cz] 32)).alloc (.cells #[.int .i64 a', .int .i64 b', .int .i64 c', .int .i64 d', .slice ay' l' cy', .slice az' m' cz'] 32) = W := ⟨_, rfl⟩
  rw [hW] at BA VA VB
  by_cases hs : sz ≤ 1048576
  · skip
    have HY := hide (szv_yes (left := 1048576) (s := sz) (by omega))
    have hq0 : ¬ ((1048576 : Int) - sz < 0) := by omega
    obtain ⟨c0, c1, c2, c3, c4, c5⟩ := VA.out
    go_enter Try.func4, Try.ntmps4
    go_wp2_with fail
    (try rw [hW])
    clear hW
    refine (HSzA.out _ BA.out).mono ?_
    rintro e w1 ⟨he, hb⟩
    rw [HY.out] at he
    subst he
    have B1 := hide (below_on BA.out hb)
    have A1 := hide (VA.out.later hb)
    have Q1 := hide (VB.out.later hb)
    clear hb VA VB BA c0 c1 c2 c3 c4 c5
    by_cases ht : sz + sz' ≤ 1048576
    · skip
      have HX := hide (szv_yes (left := 1048576 - sz) (s := sz') (by omega))
      have hq1 : ¬ ((1048576 : Int) - sz - sz' < 0) := by omega
      obtain ⟨c0, c1, c2, c3, c4, c5⟩ := Q1.out
      go_wp2_with fail
      refine (HSzB.out hs _ B1.out).mono ?_
      rintro e w2 ⟨he, hb⟩
      rw [HX.out] at he
      subst he
      have B2 := hide (below_on B1.out hb)
      have A2 := hide (A1.out.later hb)
      have Q2 := hide (Q1.out.later hb)
      clear hb A1 Q1 B1 c0 c1 c2 c3 c4 c5
      have ht2 : sz' ≤ 1048576 := by omega
      obtain ⟨c0, c1, c2, c3, c4, c5⟩ := A2.out
      obtain ⟨p0, p1, p2, p3, p4, p5⟩ := Q2.out
      go_wp2_with fail
      go_region_held3 (fun w' => w'.cell? ⟨w.heap.size, 0, none⟩ = some (.int .i64 a) ∧ w'.cell? ⟨w.heap.size, 1, none⟩ = some (.int .i64 b) ∧ w'.cell? ⟨w.heap.size, 2, none⟩ = some (.int .i64 c) ∧ w'.cell? ⟨w.heap.size, 3, none⟩ = some (.int .i64 d) ∧ w'.cell? ⟨w.heap.size, 4, none⟩ = some (.slice ay l cy) ∧ w'.cell? ⟨w.heap.size, 5, none⟩ = some (.slice az m cz) ∧ w'.cell? ⟨w.heap.size + 1, 0, none⟩ = some (.int .i64 a') ∧ w'.cell? ⟨w.heap.size + 1, 1, none⟩ = some (.int .i64 b') ∧ w'.cell? ⟨w.heap.size + 1, 2, none⟩ = some (.int .i64 c') ∧ w'.cell? ⟨w.heap.size + 1, 3, none⟩ = some (.int .i64 d') ∧ w'.cell? ⟨w.heap.size + 1, 4, none⟩ = some (.slice ay' l' cy') ∧ w'.cell? ⟨w.heap.size + 1, 5, none⟩ = some (.slice az' m' cz')) (first | exact ⟨k0, k1, k2, k3, k4, k5, k6, k7, k8, k9, k10, k11⟩ | exact ⟨i0, i1, i2, i3, i4, i5, i6, i7, i8, i9, i10, i11⟩ | exact ⟨e0, e1, e2, e3, e4, e5, e6, e7, e8, e9, e10, e11⟩ | exact ⟨c0, c1, c2, c3, c4, c5, p0, p1, p2, p3, p4, p5⟩)
        (first | (go_at_call 11; refine (HS.out _ _ _ _ _ _ _ _ _ HP4.out.rdI HP4.out.rdJ HO4.out.rdI HO4.out.rdJ).mono ?_; rintro e w5 ⟨rfl, hb⟩; have k0 := cell_later hb i0; have k1 := cell_later hb i1; have k2 := cell_later hb i2; have k3 := cell_later hb i3; have k4 := cell_later hb i4; have k5 := cell_later hb i5; have k6 := cell_later hb i6; have k7 := cell_later hb i7; have k8 := cell_later hb i8; have k9 := cell_later hb i9; have k10 := cell_later hb i10; have k11 := cell_later hb i11; have HB5 := hide (below_on HB4.out hb); clear hb) | (go_at_call 12; refine (HToB.out ht2 _ (below_on B2.out HB3.out)).mono ?_; rintro e w4 ⟨y4, z4, rfl, hb, ho⟩; have i0 := cell_later hb e0; have i1 := cell_later hb e1; have i2 := cell_later hb e2; have i3 := cell_later hb e3; have i4 := cell_later hb e4; have i5 := cell_later hb e5; have i6 := cell_later hb e6; have i7 := cell_later hb e7; have i8 := cell_later hb e8; have i9 := cell_later hb e9; have i10 := cell_later hb e10; have i11 := cell_later hb e11; have HO4 := hide ho; have HP4 := hide (HO3.out.later hb); have HB4 := hide (below_on HB3.out hb); clear hb ho) | (go_at_call 12; refine (HToA.out hs _ (below_on B2.out (below_drewN _ 1))).mono ?_; rintro e w3 ⟨y3, z3, rfl, hb, ho⟩; have e0 := cell_later hb c0; have e1 := cell_later hb c1; have e2 := cell_later hb c2; have e3 := cell_later hb c3; have e4 := cell_later hb c4; have e5 := cell_later hb c5; have e6 := cell_later hb p0; have e7 := cell_later hb p1; have e8 := cell_later hb p2; have e9 := cell_later hb p3; have e10 := cell_later hb p4; have e11 := cell_later hb p5; have HO3 := hide ho; have HB3 := hide (below_on (below_drewN w2 1) hb); clear hb ho))
      have B5 := hide (below_on B2.out HB5.out)
      have A5 := hide (A2.out.later HB5.out)
      have Q5 := hide (Q2.out.later HB5.out)
      clear e0 e1 e2 e3 e4 e5 e6 e7 e8 e9 e10 e11 i0 i1 i2 i3 i4 i5 i6 i7 i8 i9 i10 i11 k0 k1 k2 k3 k4 k5 k6 k7 k8 k9 k10 k11 c0 c1 c2 c3 c4 c5 p0 p1 p2 p3 p4 p5
      clear A2 Q2 B2 HO3 HO4 HP4 HB3 HB4 HB5
      obtain ⟨c0, c1, c2, c3, c4, c5⟩ := A5.out
      go_wp2_with fail
      refine (HToA.out hs _ B5.out).mono ?_
      rintro e w6 ⟨yx, zx, rfl, hb0, ho⟩
      obtain ⟨bx, kx, gx, jx, hyx, hzx⟩ := ho.shape
      rw [HLA.out] at hyx
      rw [HMA.out] at hzx
      subst hyx
      subst hzx
      have hb := below_on hb0 (below_alloc w6 (.cells #[.int .i64 a, .int .i64 b, .int .i64 c, .int .i64 d, .slice bx l kx, .slice gx m jx] 37))
      have Xx := hide (Var6_new w6 (.int .i64 a) (.int .i64 b) (.int .i64 c) (.int .i64 d) (.slice bx l kx) (.slice gx m jx) 37)
      have Ox := hide (ho.later (below_alloc w6 (.cells #[.int .i64 a, .int .i64 b, .int .i64 c, .int .i64 d, .slice bx l kx, .slice gx m jx] 37)))
      have B6 := hide (below_on B5.out hb)
      have A6 := hide (A5.out.later hb)
      have Q6 := hide (Q5.out.later hb)
      clear hb hb0 ho A5 Q5 B5 c0 c1 c2 c3 c4 c5
      obtain ⟨W6, hW6⟩ : ∃ x, w6.alloc (.cells #[.int .i64 a, .int .i64 b, .int .i64 c, .int .i64 d, .slice bx l kx, .slice gx m jx] 37) = x := ⟨_, rfl⟩
      rw [hW6] at B6 A6 Q6 Xx Ox
      obtain ⟨bX, hbX⟩ : ∃ x, w6.heap.size = x := ⟨_, rfl⟩
      rw [hbX] at Xx
      obtain ⟨c0, c1, c2, c3, c4, c5⟩ := Q6.out
      go_wp2_with fail
      (try rw [hW6])
      (try rw [hbX])
      clear hW6 hbX c0 c1 c2 c3 c4 c5
      refine (HToB.out ht2 _ B6.out).mono ?_
      rintro e w7 ⟨yu, zu, rfl, hb0, ho⟩
      obtain ⟨bu, ku, gu, ju, hyu, hzu⟩ := ho.shape
      rw [HLB.out] at hyu
      rw [HMB.out] at hzu
      subst hyu
      subst hzu
      have hb := below_on hb0 (below_alloc w7 (.cells #[.int .i64 a', .int .i64 b', .int .i64 c', .int .i64 d', .slice bu l' ku, .slice gu m' ju] 37))
      have Xu := hide (Var6_new w7 (.int .i64 a') (.int .i64 b') (.int .i64 c') (.int .i64 d') (.slice bu l' ku) (.slice gu m' ju) 37)
      have Ou := hide (ho.later (below_alloc w7 (.cells #[.int .i64 a', .int .i64 b', .int .i64 c', .int .i64 d', .slice bu l' ku, .slice gu m' ju] 37)))
      have B7 := hide (below_on B6.out hb)
      have A7 := hide (A6.out.later hb)
      have Q7 := hide (Q6.out.later hb)
      have Y7 := hide (Xx.out.later hb)
      have P7 := hide (Ox.out.later hb)
      clear hb hb0 ho A6 Q6 B6 Xx Ox
      obtain ⟨W7, hW7⟩ : ∃ x, w7.alloc (.cells #[.int .i64 a', .int .i64 b', .int .i64 c', .int .i64 d', .slice bu l' ku, .slice gu m' ju] 37) = x := ⟨_, rfl⟩
      rw [hW7] at B7 A7 Q7 Y7 P7 Xu Ou
      obtain ⟨bU, hbU⟩ : ∃ x, w7.heap.size = x := ⟨_, rfl⟩
      rw [hbU] at Xu
      obtain ⟨c0, c1, c2, c3, c4, c5⟩ := Y7.out
      obtain ⟨p0, p1, p2, p3, p4, p5⟩ := Xu.out
      go_wp2_with fail
      (try rw [hW7])
      (try rw [hbU])
      clear hW7 hbU
      refine (HI.out _ _ _ _ _ _ _ _ _ P7.out.rdI P7.out.rdJ Ou.out.rdI Ou.out.rdJ).mono ?_
      rintro e w8 ⟨rfl, hb⟩
      have A8 := hide (A7.out.later hb)
      have Q8 := hide (Q7.out.later hb)
      have Y8 := hide (Y7.out.later hb)
      have P8 := hide (P7.out.later hb)
      have X8 := hide (Xu.out.later hb)
      have O8 := hide (Ou.out.later hb)
      have B8 := hide (below_on B7.out hb)
      clear hb A7 Q7 Y7 P7 Xu Ou B7 c0 c1 c2 c3 c4 c5 p0 p1 p2 p3 p4 p5
      have hzz : (Z != Z) = false := by simp
      obtain ⟨c0, c1, c2, c3, c4, c5⟩ := A8.out
      obtain ⟨p0, p1, p2, p3, p4, p5⟩ := Y8.out
      go_wp2_with fail
      go_region_held3 (fun w' => w'.cell? ⟨w.heap.size, 0, none⟩ = some (.int .i64 a) ∧ w'.cell? ⟨w.heap.size, 1, none⟩ = some (.int .i64 b) ∧ w'.cell? ⟨w.heap.size, 2, none⟩ = some (.int .i64 c) ∧ w'.cell? ⟨w.heap.size, 3, none⟩ = some (.int .i64 d) ∧ w'.cell? ⟨w.heap.size, 4, none⟩ = some (.slice ay l cy) ∧ w'.cell? ⟨w.heap.size, 5, none⟩ = some (.slice az m cz) ∧ w'.cell? ⟨bX, 0, none⟩ = some (.int .i64 a) ∧ w'.cell? ⟨bX, 1, none⟩ = some (.int .i64 b) ∧ w'.cell? ⟨bX, 2, none⟩ = some (.int .i64 c) ∧ w'.cell? ⟨bX, 3, none⟩ = some (.int .i64 d) ∧ w'.cell? ⟨bX, 4, none⟩ = some (.slice bx l kx) ∧ w'.cell? ⟨bX, 5, none⟩ = some (.slice gx m jx)) (first | exact ⟨i0, i1, i2, i3, i4, i5, i6, i7, i8, i9, i10, i11⟩ | exact ⟨e0, e1, e2, e3, e4, e5, e6, e7, e8, e9, e10, e11⟩ | exact ⟨c0, c1, c2, c3, c4, c5, p0, p1, p2, p3, p4, p5⟩)
        (first | (go_at_call 14; refine (HEqA.out _ _ _ _ _ _ _ _ _ (P8.out.rdI.later HB6.out) (P8.out.rdJ.later HB6.out) HO6.out.rdI HO6.out.rdJ).mono ?_; rintro e w10 ⟨rfl, hb7⟩; have i0 := cell_later hb7 e0; have i1 := cell_later hb7 e1; have i2 := cell_later hb7 e2; have i3 := cell_later hb7 e3; have i4 := cell_later hb7 e4; have i5 := cell_later hb7 e5; have i6 := cell_later hb7 e6; have i7 := cell_later hb7 e7; have i8 := cell_later hb7 e8; have i9 := cell_later hb7 e9; have i10 := cell_later hb7 e10; have i11 := cell_later hb7 e11; have HB7 := hide (below_on HB6.out hb7); clear hb7) | (go_at_call 12; refine (HToA.out hs _ (below_on B8.out (below_drewN _ 1))).mono ?_; rintro e w9 ⟨y6, z6, rfl, hb, ho⟩; have e0 := cell_later hb c0; have e1 := cell_later hb c1; have e2 := cell_later hb c2; have e3 := cell_later hb c3; have e4 := cell_later hb c4; have e5 := cell_later hb c5; have e6 := cell_later hb p0; have e7 := cell_later hb p1; have e8 := cell_later hb p2; have e9 := cell_later hb p3; have e10 := cell_later hb p4; have e11 := cell_later hb p5; have HO6 := hide ho; have HB6 := hide (below_on (below_drewN w8 1) hb); clear hb ho))
      have Q9 := hide (Q8.out.later HB7.out)
      have X9 := hide (X8.out.later HB7.out)
      have O9 := hide (O8.out.later HB7.out)
      have B9 := hide (below_on B8.out HB7.out)
      clear e0 e1 e2 e3 e4 e5 e6 e7 e8 e9 e10 e11 i0 i1 i2 i3 i4 i5 i6 i7 i8 i9 i10 i11 c0 c1 c2 c3 c4 c5 p0 p1 p2 p3 p4 p5
      clear A8 Q8 Y8 P8 X8 O8 B8 HO6 HB6 HB7
      obtain ⟨c0, c1, c2, c3, c4, c5⟩ := Q9.out
      obtain ⟨p0, p1, p2, p3, p4, p5⟩ := X9.out
      go_wp2_with fail
      go_region_held3 (fun w' => w'.cell? ⟨w.heap.size + 1, 0, none⟩ = some (.int .i64 a') ∧ w'.cell? ⟨w.heap.size + 1, 1, none⟩ = some (.int .i64 b') ∧ w'.cell? ⟨w.heap.size + 1, 2, none⟩ = some (.int .i64 c') ∧ w'.cell? ⟨w.heap.size + 1, 3, none⟩ = some (.int .i64 d') ∧ w'.cell? ⟨w.heap.size + 1, 4, none⟩ = some (.slice ay' l' cy') ∧ w'.cell? ⟨w.heap.size + 1, 5, none⟩ = some (.slice az' m' cz') ∧ w'.cell? ⟨bU, 0, none⟩ = some (.int .i64 a') ∧ w'.cell? ⟨bU, 1, none⟩ = some (.int .i64 b') ∧ w'.cell? ⟨bU, 2, none⟩ = some (.int .i64 c') ∧ w'.cell? ⟨bU, 3, none⟩ = some (.int .i64 d') ∧ w'.cell? ⟨bU, 4, none⟩ = some (.slice bu l' ku) ∧ w'.cell? ⟨bU, 5, none⟩ = some (.slice gu m' ju)) (first | exact ⟨i0, i1, i2, i3, i4, i5, i6, i7, i8, i9, i10, i11⟩ | exact ⟨e0, e1, e2, e3, e4, e5, e6, e7, e8, e9, e10, e11⟩ | exact ⟨c0, c1, c2, c3, c4, c5, p0, p1, p2, p3, p4, p5⟩)
        (first | (go_at_call 14; refine (HEqB.out _ _ _ _ _ _ _ _ _ (O9.out.rdI.later HB6.out) (O9.out.rdJ.later HB6.out) HO6.out.rdI HO6.out.rdJ).mono ?_; rintro e w12 ⟨rfl, hb7⟩; have i0 := cell_later hb7 e0; have i1 := cell_later hb7 e1; have i2 := cell_later hb7 e2; have i3 := cell_later hb7 e3; have i4 := cell_later hb7 e4; have i5 := cell_later hb7 e5; have i6 := cell_later hb7 e6; have i7 := cell_later hb7 e7; have i8 := cell_later hb7 e8; have i9 := cell_later hb7 e9; have i10 := cell_later hb7 e10; have i11 := cell_later hb7 e11; have HB7 := hide (below_on HB6.out hb7); clear hb7) | (go_at_call 12; refine (HToB.out ht2 _ (below_on B9.out (below_drewN _ 1))).mono ?_; rintro e w11 ⟨y6, z6, rfl, hb, ho⟩; have e0 := cell_later hb c0; have e1 := cell_later hb c1; have e2 := cell_later hb c2; have e3 := cell_later hb c3; have e4 := cell_later hb c4; have e5 := cell_later hb c5; have e6 := cell_later hb p0; have e7 := cell_later hb p1; have e8 := cell_later hb p2; have e9 := cell_later hb p3; have e10 := cell_later hb p4; have e11 := cell_later hb p5; have HO6 := hide ho; have HB6 := hide (below_on (below_drewN w10 1) hb); clear hb ho))
      have BZ := hide (below_on B9.out HB7.out)
      go_wp2
      go_ret
      exact ⟨rfl, BZ.out⟩
    · skip
      have HX := hide (szv_no (left := 1048576 - sz) (s := sz') (by omega))
      obtain ⟨c0, c1, c2, c3, c4, c5⟩ := Q1.out
      go_wp2_with fail
      refine (HSzB.out hs _ B1.out).mono ?_
      rintro e w2 ⟨he, hb⟩
      rw [HX.out] at he
      subst he
      have B2 := hide (below_on B1.out hb)
      have A2 := hide (A1.out.later hb)
      have Q2 := hide (Q1.out.later hb)
      clear hb A1 Q1 B1 c0 c1 c2 c3 c4 c5
      go_wp2
      go_ret
      exact ⟨rfl, B2.out⟩
  · skip
    have HY := hide (szv_no (left := 1048576) (s := sz) (by omega))
    obtain ⟨c0, c1, c2, c3, c4, c5⟩ := VA.out
    go_enter Try.func4, Try.ntmps4
    go_wp2_with fail
    (try rw [hW])
    clear hW
    refine (HSzA.out _ BA.out).mono ?_
    rintro e w1 ⟨he, hb⟩
    rw [HY.out] at he
    subst he
    have B1 := hide (below_on BA.out hb)
    have A1 := hide (VA.out.later hb)
    have Q1 := hide (VB.out.later hb)
    clear hb VA VB BA c0 c1 c2 c3 c4 c5
    go_wp2
    go_ret
    exact ⟨rfl, B1.out⟩

open Go.ChangeShapes Go.WideShapes Go.ChangeAt in
set_option maxRecDepth 100000 in
theorem fnExactKeptOf_lifted (os : Os) (started : os.Started) (H : Type) (enc : TypeId × Value → H) :
    ReturnsInHanded {} Try.checked os 4 .any (Rows.fnExactKeptOfSpec.pre6 enc Try.prog Try.f4 Rows.fnExactKeptOfRow.domain false) (Rows.fnExactKeptOfSpec.post enc Try.prog Try.f4 false true false false) := by
  refine returnsInHanded_of_change (C := Try.checked) Try.own started (by kernel_rfl) Try.func4
    (ChangeSpec.witness6 (enc := enc) (C := Try.checked) false ⟨#[], #[.agg #[.int .i64 0, .int .i64 0, .int .i64 0, .int .i64 0, .slice none 0 0, .slice none 0 0], .agg #[.int .i64 0, .int .i64 0, .int .i64 0, .int .i64 0, .slice none 0 0, .slice none 0 0]], []⟩ 8 (by kernel_rfl) (by kernel_rfl) (by kernel_rfl) (by kernel_rfl)) ?_
  intro W base args ds gs before hval0 hW hcnd _
  have hval : ∀ (j : Nat) t v, Try.f4.params[j]? = some t → args[j]? = some v → Value.okWide Try.prog W .any base t v := hval0
  have hW' := hW
  obtain ⟨p, q, hA0, hV, rfl, hfz, hnd⟩ := hW
  have hA : DataW.TrodAll enc Try.prog W 0 (fun _ => true) true Try.f4.params.toList args.toList ds p := hA0
  rw [Try.params4] at hA hval
  obtain ⟨v0, v1, d0, d1, p0, p1, rfl, rfl, rfl, h0, h1⟩ := trodAll_two hA
  obtain ⟨rfl, rfl⟩ := trodVars_none hV
  obtain ⟨r, y, z, rfl, hy, hz⟩ := rdRaft_of (hval 0 32 v0 rfl rfl) h0
  obtain ⟨s, y', z', rfl, hy', hz'⟩ := rdRaft_of (hval 1 32 v1 rfl rfl) h1
  clear hA0 hval0
  simp only [List.append_nil] at hW'
  refine (lawKeptOf r s (keptB r s) hy hz hy' hz' (fun _ _ _ _ _ _ _ _ _ h1 h2 h3 h4 => specKeptOf r s h1 h2 h3 h4) (fun _ _ _ _ _ _ _ _ _ h1 h2 h3 h4 => implKeptOf r s h1 h2 h3 h4)).mono fun e W' ⟨he, hb⟩ => ?_
  subst he
  exact ⟨_, rfl, _, _, _, [], p0 ++ p1, [], hW', trodAll_mk1 (shut_bool Try.underlying4 _), trodAll_mk2 (Below.trod Try.laidOut (by kernel_rfl) (of_decide_eq_true (by kernel_rfl)) h0 hb (fun x hx => by simpa using hW'.lt x (by simp [hx]))) (Below.trod Try.laidOut (by kernel_rfl) (of_decide_eq_true (by kernel_rfl)) h1 hb (fun x hx => by simpa using hW'.lt x (by simp [hx]))), rfl, hb.frame _, fun h => by cases h⟩

theorem fnExactKeptOf_holds : Rows.FnExactKeptOfSaid :=
  OpenClaim.holds_of_wide 4 Try.f4 rfl rfl rfl rfl rfl rfl rfl ⟨rfl, rfl, rfl, rfl, rfl⟩ rfl rfl rfl rfl rfl (by kernel_rfl) Try.func4 (by kernel_rfl)
    (of_decide_eq_true (by kernel_rfl)) (by unfold Func.isWrapper; first | (rw [if_pos (by decide +kernel)]; kernel_rfl) | (rw [if_neg (by decide +kernel)]; exact ⟨rfl, rfl⟩))
    (fun os started H enc _ => fnExactKeptOf_lifted os started H enc)
#print axioms fnExactKeptOf_holds
end Go.Proofs.Ytebgonaiodblhaa
