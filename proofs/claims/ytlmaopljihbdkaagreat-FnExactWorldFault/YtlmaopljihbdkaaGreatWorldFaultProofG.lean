/- For every world that can be handed in (shared memory allowed): 'FnExactWorldFault' returns true, and its argument reads as it did; no condition. Made by program (genworldfault.py). -/
import Derived.Test.YtlmaopljihbdkaaGreatG08
import Derived.Test.YtlmaopljihbdkaaGreatG53
namespace Go.Proofs.YtlmaopljihbdkaaGreat
open Go.RowKit
set_option maxHeartbeats 4000000 in
set_option maxRecDepth 4000 in
theorem lawWorldFault {S1 S2 S3 S4 : Nat → Prop} {w : World} {u v y z0 : Value} {xss : List (List Int)} {ps : List (Int × List Int)} (r : Rf) (z : Int) (hu : RdII S1 w u xss) (hv : RdP S2 w v ps) (hy : RdI S3 w y r.sn) (hz : RdJ S4 w z0 r.lg)
    (hspec : ∀ (S1 S2 S3 S4 : Nat → Prop) (w' : World) (u v y z0 : Value), RdII S1 w' u xss → RdP S2 w' v ps → RdI S3 w' y r.sn → RdJ S4 w' z0 r.lg → Small xss ps → Calls Tryz.prog 25 #[.agg #[u, v, .int .i64 r.tm, .int .i64 r.vt, .int .i64 r.si, .int .i64 r.st, y, z0]] w' fun e w'' => e = .returned (.int .i64 z) ∧ Below w'.heap.size w' w'')
    (himpl : ∀ (S1 S2 S3 S4 : Nat → Prop) (w' : World) (u v y z0 : Value), RdII S1 w' u xss → RdP S2 w' v ps → RdI S3 w' y r.sn → RdJ S4 w' z0 r.lg → Small xss ps → Calls Tryz.prog 27 #[.agg #[u, v, .int .i64 r.tm, .int .i64 r.vt, .int .i64 r.si, .int .i64 r.st, y, z0]] w' fun e w'' => e = .returned (.int .i64 z) ∧ Below w'.heap.size w' w'') :
    Calls Tryz.prog 5 #[.agg #[u, v, .int .i64 r.tm, .int .i64 r.vt, .int .i64 r.si, .int .i64 r.st, y, z0]] w fun e w' => e = .returned (.bool true) ∧ Below w.heap.size w w' := by
  obtain ⟨au, cu, rfl⟩ := hu.shapeW
  obtain ⟨av, cv, rfl⟩ := hv.shapeW
  obtain ⟨ay, cy, rfl⟩ := hy.shape
  obtain ⟨az, cz, rfl⟩ := hz.shapeW
  have HS := hide hspec
  have HI := hide himpl
  have hn := szU_nonneg r.lg
  have hn2 : 0 ≤ szD xss ps := by unfold szD; omega
  have HSz := hide (fun (w' : World) (hb : Below w.heap.size w w') => szWorld (left := 1048576) r.tm r.vt r.si r.st (hu.later hb) (hv.later hb) (hy.later hb) (hz.later hb) (by omega) (by omega))
  have HSm := hide (fun (h : szW xss ps r.sn r.lg ≤ 1048576) => Small.of (xss := xss) (ps := ps) (by unfold szW at h; omega))
  have HTo := hide (fun (h : szW xss ps r.sn r.lg ≤ 1048576) (w' : World) (hb : Below w.heap.size w w') => toWorld r.tm r.vt r.si r.st (hu.later hb) (hv.later hb) (hy.later hb) (hz.later hb) (HSm.out h).rows (HSm.out h).row (HSm.out h).puts (HSm.out h).put (by unfold szW at h; omega) (smallU (qs := r.lg) (by unfold szW at h; omega)).1 (smallU (qs := r.lg) (by unfold szW at h; omega)).2.1)
  have HEq := hide (fun (w' : World) (u1 u2 u3 u4 v1 v2 v3 v4 : Value) (S1 S2 S3 S4 T1 T2 T3 T4 : Nat → Prop) (k1 : RdII S1 w' u1 xss) (k2 : RdP S2 w' u2 ps) (k3 : RdI S3 w' u3 r.sn) (k4 : RdJ S4 w' u4 r.lg) (j1 : RdII T1 w' v1 xss) (j2 : RdP T2 w' v2 ps) (j3 : RdI T3 w' v3 r.sn) (j4 : RdJ T4 w' v4 r.lg) => eqWorld r.tm r.vt r.si r.st k1 k2 k3 k4 j1 j2 j3 j4)
  obtain ⟨sz, hsz⟩ : ∃ s, szW xss ps r.sn r.lg = s := ⟨_, rfl⟩
  rw [hsz] at HSz HTo HSm
  obtain ⟨l1, hl1⟩ : ∃ l, xss.length = l := ⟨_, rfl⟩
  have Hl1 := hide hl1
  obtain ⟨l2, hl2⟩ : ∃ l, ps.length = l := ⟨_, rfl⟩
  have Hl2 := hide hl2
  obtain ⟨l3, hl3⟩ : ∃ l, r.sn.length = l := ⟨_, rfl⟩
  have Hl3 := hide hl3
  obtain ⟨l4, hl4⟩ : ∃ l, r.lg.length = l := ⟨_, rfl⟩
  have Hl4 := hide hl4
  rw [hl1, hl2, hl3, hl4] at HSz HTo ⊢
  clear hu hv hy hz hspec himpl hsz hl1 hl2 hl3 hl4 hn hn2
  generalize r.tm = a at *
  generalize r.vt = b at *
  generalize r.si = c at *
  generalize r.st = d at *
  have BA := hide (below_alloc w (.cells #[.slice au l1 cu, .slice av l2 cv, .int .i64 a, .int .i64 b, .int .i64 c, .int .i64 d, .slice ay l3 cy, .slice az l4 cz] 55))
  have VA := hide (Var8_new w (.slice au l1 cu) (.slice av l2 cv) (.int .i64 a) (.int .i64 b) (.int .i64 c) (.int .i64 d) (.slice ay l3 cy) (.slice az l4 cz) 55)
  by_cases hs : sz ≤ 1048576
  · skip
    have HY := hide (szv_yes (left := 1048576) (s := sz) hs)
    have HSs := hide (HSm.out hs)
    have hp : ¬ ((1048576 : Int) - sz < 0) := by omega
    go_enter Tryz.func5, Tryz.ntmps5
    go_wp2_with fail
    refine (HSz.out _ BA.out).mono ?_
    rintro e w1 ⟨he, hb⟩
    rw [HY.out] at he
    subst he
    have B1 := hide (below_on BA.out hb)
    have V1 := hide (VA.out.later hb)
    clear hb
    obtain ⟨c0, c1, c2, c3, c4, c5, c6, c7⟩ := V1.out
    go_wp2_with fail
    refine (HTo.out hs _ B1.out).mono ?_
    rintro e w2 ⟨us, vs, ys, zs, rfl, hb, ho⟩
    obtain ⟨bs1, ks1, bs2, ks2, bs3, ks3, bs4, ks4, h1, h2, h3, h4⟩ := ho.shape
    rw [Hl1.out] at h1
    rw [Hl2.out] at h2
    rw [Hl3.out] at h3
    rw [Hl4.out] at h4
    subst h1 h2 h3 h4
    have Os := hide ho
    have B2 := hide (below_on B1.out hb)
    have V2 := hide (V1.out.later hb)
    clear hb ho
    clear c0 c1 c2 c3 c4 c5 c6 c7
    go_wp2_with fail
    refine (HS.out _ _ _ _ _ _ _ _ _ Os.out.rdII Os.out.rdP Os.out.rdI Os.out.rdJ HSs.out).mono ?_
    rintro e w3 ⟨rfl, hb⟩
    have B3 := hide (below_on B2.out hb)
    have V3 := hide (V2.out.later hb)
    clear hb Os
    obtain ⟨c0, c1, c2, c3, c4, c5, c6, c7⟩ := V3.out
    go_wp2_with fail
    refine (HTo.out hs _ B3.out).mono ?_
    rintro e w4 ⟨ux, vx, yx, zx, rfl, hb, ho⟩
    obtain ⟨bx1, kx1, bx2, kx2, bx3, kx3, bx4, kx4, h1, h2, h3, h4⟩ := ho.shape
    rw [Hl1.out] at h1
    rw [Hl2.out] at h2
    rw [Hl3.out] at h3
    rw [Hl4.out] at h4
    subst h1 h2 h3 h4
    have Ox := hide ho
    have B4 := hide (below_on B3.out hb)
    have V4 := hide (V3.out.later hb)
    clear hb ho
    clear c0 c1 c2 c3 c4 c5 c6 c7
    go_wp2_with fail
    refine (HI.out _ _ _ _ _ _ _ _ _ (Ox.out.rdII.later (below_alloc _ _)) (Ox.out.rdP.later (below_alloc _ _)) (Ox.out.rdI.later (below_alloc _ _)) (Ox.out.rdJ.later (below_alloc _ _)) HSs.out).mono ?_
    rintro e w5 ⟨rfl, hb⟩
    have hb5 := below_on (below_alloc w4 (.cells #[.slice bx1 l1 kx1, .slice bx2 l2 kx2, .int .i64 a, .int .i64 b, .int .i64 c, .int .i64 d, .slice bx3 l3 kx3, .slice bx4 l4 kx4] 61)) hb
    have X5 := hide ((Var8_new w4 (.slice bx1 l1 kx1) (.slice bx2 l2 kx2) (.int .i64 a) (.int .i64 b) (.int .i64 c) (.int .i64 d) (.slice bx3 l3 kx3) (.slice bx4 l4 kx4) 61).later hb)
    have V5 := hide (V4.out.later hb5)
    have B5 := hide (below_on B4.out hb5)
    have O5 := hide (Ox.out.later hb5)
    clear hb hb5 Ox
    obtain ⟨c0, c1, c2, c3, c4, c5, c6, c7⟩ := V5.out
    obtain ⟨x0, x1, x2, x3, x4, x5, x6, x7⟩ := X5.out
    go_wp2_with fail
    go_region_held3 (fun w' => w'.cell? ⟨w.heap.size, 0, none⟩ = some (.slice au l1 cu) ∧ w'.cell? ⟨w.heap.size, 1, none⟩ = some (.slice av l2 cv) ∧ w'.cell? ⟨w.heap.size, 2, none⟩ = some (.int .i64 a) ∧ w'.cell? ⟨w.heap.size, 3, none⟩ = some (.int .i64 b) ∧ w'.cell? ⟨w.heap.size, 4, none⟩ = some (.int .i64 c) ∧ w'.cell? ⟨w.heap.size, 5, none⟩ = some (.int .i64 d) ∧ w'.cell? ⟨w.heap.size, 6, none⟩ = some (.slice ay l3 cy) ∧ w'.cell? ⟨w.heap.size, 7, none⟩ = some (.slice az l4 cz) ∧ w'.cell? ⟨w4.heap.size, 0, none⟩ = some (.slice bx1 l1 kx1) ∧ w'.cell? ⟨w4.heap.size, 1, none⟩ = some (.slice bx2 l2 kx2) ∧ w'.cell? ⟨w4.heap.size, 2, none⟩ = some (.int .i64 a) ∧ w'.cell? ⟨w4.heap.size, 3, none⟩ = some (.int .i64 b) ∧ w'.cell? ⟨w4.heap.size, 4, none⟩ = some (.int .i64 c) ∧ w'.cell? ⟨w4.heap.size, 5, none⟩ = some (.int .i64 d) ∧ w'.cell? ⟨w4.heap.size, 6, none⟩ = some (.slice bx3 l3 kx3) ∧ w'.cell? ⟨w4.heap.size, 7, none⟩ = some (.slice bx4 l4 kx4)) (first | exact ⟨c0, c1, c2, c3, c4, c5, c6, c7, x0, x1, x2, x3, x4, x5, x6, x7⟩ | exact ⟨e0, e1, e2, e3, e4, e5, e6, e7, e8, e9, e10, e11, e12, e13, e14, e15⟩ | exact ⟨i0, i1, i2, i3, i4, i5, i6, i7, i8, i9, i10, i11, i12, i13, i14, i15⟩)
      (first | (go_at_call 28; refine (HEq.out _ _ _ _ _ _ _ _ _ _ _ _ _ _ _ _ _ (O5.out.rdII.later HB6.out) (O5.out.rdP.later HB6.out) (O5.out.rdI.later HB6.out) (O5.out.rdJ.later HB6.out) HO6.out.rdII HO6.out.rdP HO6.out.rdI HO6.out.rdJ).mono ?_; rintro e w7 ⟨rfl, hb7⟩; have i0 := cell_later hb7 e0; have i1 := cell_later hb7 e1; have i2 := cell_later hb7 e2; have i3 := cell_later hb7 e3; have i4 := cell_later hb7 e4; have i5 := cell_later hb7 e5; have i6 := cell_later hb7 e6; have i7 := cell_later hb7 e7; have i8 := cell_later hb7 e8; have i9 := cell_later hb7 e9; have i10 := cell_later hb7 e10; have i11 := cell_later hb7 e11; have i12 := cell_later hb7 e12; have i13 := cell_later hb7 e13; have i14 := cell_later hb7 e14; have i15 := cell_later hb7 e15; have HB7 := hide (below_on HB6.out hb7); clear hb7) | (go_at_call 26; refine (HTo.out hs _ (below_on B5.out (below_drewN _ 1))).mono ?_; rintro e w6 ⟨u6, v6, y6, z6, rfl, hb, ho⟩; have e0 := cell_later hb c0; have e1 := cell_later hb c1; have e2 := cell_later hb c2; have e3 := cell_later hb c3; have e4 := cell_later hb c4; have e5 := cell_later hb c5; have e6 := cell_later hb c6; have e7 := cell_later hb c7; have e8 := cell_later hb x0; have e9 := cell_later hb x1; have e10 := cell_later hb x2; have e11 := cell_later hb x3; have e12 := cell_later hb x4; have e13 := cell_later hb x5; have e14 := cell_later hb x6; have e15 := cell_later hb x7; have HO6 := hide ho; have HB6 := hide (below_on (below_drewN w5 1) hb); clear hb ho))
    have B7 := hide (below_on B5.out HB7.out)
    go_wp2
    go_ret
    exact ⟨rfl, B7.out⟩
  · have HY := hide (szv_no (left := 1048576) (s := sz) (by omega))
    clear hs
    go_enter Tryz.func5, Tryz.ntmps5
    go_wp2_with fail
    refine (HSz.out _ BA.out).mono ?_
    rintro e w1 ⟨he, hb⟩
    rw [HY.out] at he
    subst he
    have B1 := hide (below_on BA.out hb)
    clear hb
    go_wp2
    go_ret
    exact ⟨rfl, B1.out⟩
open Go.ChangeShapes Go.WideShapes Go.ChangeAt in
set_option maxRecDepth 100000 in
theorem fnExactWorldFault_lifted (os : Os) (started : os.Started) (H : Type) (enc : TypeId × Value → H) :
    ReturnsInHanded {} Tryz.checked os 5 .any (Rows.fnExactWorldFaultSpec.pre6 enc Tryz.prog Tryz.f5 Rows.fnExactWorldFaultRow.domain false) (Rows.fnExactWorldFaultSpec.post enc Tryz.prog Tryz.f5 false true false false) := by
  refine returnsInHanded_of_change (C := Tryz.checked) Tryz.own started (by kernel_rfl) Tryz.func5
    (ChangeSpec.witness6 (enc := enc) (C := Tryz.checked) false ⟨#[], #[.agg #[.slice none 0 0, .slice none 0 0, .int .i64 0, .int .i64 0, .int .i64 0, .int .i64 0, .slice none 0 0, .slice none 0 0]], []⟩ 8 (by kernel_rfl) (by kernel_rfl) (by kernel_rfl) (by kernel_rfl)) ?_
  intro W base args ds gs before hval0 hW hcnd _
  have hval : ∀ (j : Nat) t v, Tryz.f5.params[j]? = some t → args[j]? = some v → Value.okWide Tryz.prog W .any base t v := hval0
  have hW' := hW
  obtain ⟨p, q, hA0, hV, rfl, hfz, hnd⟩ := hW
  have hA : DataW.TrodAll enc Tryz.prog W 0 (fun _ => true) true Tryz.f5.params.toList args.toList ds p := hA0
  rw [Tryz.params5] at hA hval
  obtain ⟨v0, d0, rfl, rfl, h0⟩ := trodAll_one hA
  obtain ⟨rfl, rfl⟩ := trodVars_none hV
  obtain ⟨xss, ps, r, u, v, y, z, rfl, hu, hv, hy, hz⟩ := rdWorld_of (hval 0 55 v0 rfl rfl) h0
  clear hA0 hval0
  simp only [List.append_nil] at hW'
  refine (lawWorldFault r (wfF xss ps r) hu hv hy hz (fun _ _ _ _ _ _ _ _ _ h i j k m => specWorldFault r h i j k m) (fun _ _ _ _ _ _ _ _ _ h i j k m => implWorldFault r h i j k m)).mono fun e W' ⟨he, hb⟩ => ?_
  subst he
  exact ⟨_, rfl, _, _, _, [], p, [], hW', trodAll_mk1 (shut_bool Tryz.underlying4 _), trodAll_mk1 (Below.trod Tryz.laidOut (by kernel_rfl) (of_decide_eq_true (by kernel_rfl)) h0 hb (fun x hx => by simpa using hW'.lt x (by simp [hx]))), rfl, hb.frame _, fun h => by cases h⟩
theorem fnExactWorldFault_holds : Rows.FnExactWorldFaultSaid :=
  OpenClaim.holds_of_wide 5 Tryz.f5 rfl rfl rfl rfl rfl rfl rfl ⟨rfl, rfl, rfl, rfl, rfl⟩ rfl rfl rfl rfl rfl (by kernel_rfl) Tryz.func5 (by kernel_rfl)
    (of_decide_eq_true (by kernel_rfl)) (by unfold Func.isWrapper; first | (rw [if_pos (by decide +kernel)]; kernel_rfl) | (rw [if_neg (by decide +kernel)]; exact ⟨rfl, rfl⟩))
    (fun os started H enc _ => fnExactWorldFault_lifted os started H enc)
#print axioms fnExactWorldFault_holds
end Go.Proofs.YtlmaopljihbdkaaGreat
