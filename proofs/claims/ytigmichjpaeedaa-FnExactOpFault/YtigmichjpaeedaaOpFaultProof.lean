/- For every operation that can be handed in (shared memory allowed): 'FnExactOpFault' returns true, and its argument reads as it did; no condition. Made by program (genopfault.py). -/
import Derived.Test.YtigmichjpaeedaaOp
import Derived.Test.YtigmichjpaeedaaOp2
import Derived.Test.YtigmichjpaeedaaOpenOp
import Derived.Test.YtigmichjpaeedaaEnV
namespace Go.Proofs.Ytigmichjpaeedaa
open Go.RowKit

set_option maxHeartbeats 4000000 in
set_option maxRecDepth 4000 in
theorem lawOpFault {S T : Nat → Prop} {w : World} {y z0 : Value} (r : Rf) (z : Int) (hy : RdI S w y r.sn) (hz : RdJ T w z0 r.lg)
    (hspec : ∀ (S T : Nat → Prop) (w' : World) (y z0 : Value), RdI S w' y r.sn → RdJ T w' z0 r.lg → Calls Try.prog 7 #[.agg #[.int .i64 r.tm, .int .i64 r.vt, .int .i64 r.si, .int .i64 r.st, y, z0]] w' fun e w'' => e = .returned (.int .i64 z) ∧ Below w'.heap.size w' w'')
    (himpl : ∀ (S T : Nat → Prop) (w' : World) (y z0 : Value), RdI S w' y r.sn → RdJ T w' z0 r.lg → Calls Try.prog 9 #[.agg #[.int .i64 r.tm, .int .i64 r.vt, .int .i64 r.si, .int .i64 r.st, y, z0]] w' fun e w'' => e = .returned (.int .i64 z) ∧ Below w'.heap.size w' w'') :
    Calls Try.prog 3 #[.agg #[.int .i64 r.tm, .int .i64 r.vt, .int .i64 r.si, .int .i64 r.st, y, z0]] w fun e w' => e = .returned (.bool true) ∧ Below w.heap.size w w' := by
  obtain ⟨ay, cy, rfl⟩ := hy.shape
  obtain ⟨az, cz, rfl, _⟩ := hz.shape
  have HS := hide hspec
  have HI := hide himpl
  have HSz := hide (fun (w' : World) (hb : Below w.heap.size w w') => szOp (left := 1048576) r.tm r.vt r.si r.st (hy.later hb) (hz.later hb) (by omega) (by omega))
  have HTo := hide (fun (h : (r.sn.length : Int) + szU r.lg ≤ 1048576) (w' : World) (hb : Below w.heap.size w w') => toOp r.tm r.vt r.si r.st (hy.later hb) (hz.later hb) (by have := szU_nonneg r.lg; omega) (smallU (qs := r.lg) (by omega)).1 (smallU (qs := r.lg) (by omega)).2.1)
  have HEq := hide (fun (w' : World) (u1 u2 v1 v2 : Value) (S1 S2 T1 T2 : Nat → Prop) (k1 : RdI S1 w' u1 r.sn) (k2 : RdJ S2 w' u2 r.lg) (k3 : RdI T1 w' v1 r.sn) (k4 : RdJ T2 w' v2 r.lg) => eqOp r.tm r.vt r.si r.st k1 k2 k3 k4)
  obtain ⟨sz, hsz⟩ : ∃ s, (r.sn.length : Int) + szU r.lg = s := ⟨_, rfl⟩
  rw [hsz] at HSz HTo
  obtain ⟨l, hl⟩ : ∃ l, r.sn.length = l := ⟨_, rfl⟩
  obtain ⟨m, hm⟩ : ∃ m, r.lg.length = m := ⟨_, rfl⟩
  have HL := hide hl
  have HM := hide hm
  rw [hl] at HSz HTo ⊢
  rw [hm] at HSz HTo ⊢
  clear hy hz hspec himpl hsz hl hm
  generalize r.tm = a at *
  generalize r.vt = b at *
  generalize r.si = c at *
  generalize r.st = d at *
  have BA := hide (below_alloc w (.cells #[.int .i64 a, .int .i64 b, .int .i64 c, .int .i64 d, .slice ay l cy, .slice az m cz] 25))
  have VA := hide (Var6_new w (.int .i64 a) (.int .i64 b) (.int .i64 c) (.int .i64 d) (.slice ay l cy) (.slice az m cz) 25)
  by_cases hs : sz ≤ 1048576
  · skip
    have HY := hide (szv_yes (left := 1048576) (s := sz) hs)
    have hp : ¬ ((1048576 : Int) - sz < 0) := by omega
    go_enter Try.func3, Try.ntmps3
    go_wp2_with fail
    refine (HSz.out _ BA.out).mono ?_
    rintro e w1 ⟨he, hb⟩
    rw [HY.out] at he
    subst he
    have B1 := hide (below_on BA.out hb)
    have V1 := hide (VA.out.later hb)
    clear hb
    obtain ⟨c0, c1, c2, c3, c4, c5⟩ := V1.out
    go_wp2_with fail
    refine (HTo.out hs _ B1.out).mono ?_
    rintro e w2 ⟨ys, zs, rfl, hb, ho⟩
    obtain ⟨bs, ks, gs, js, hys, hzs⟩ := ho.shape
    rw [HL.out] at hys
    rw [HM.out] at hzs
    subst hys
    subst hzs
    have Os := hide ho
    have B2 := hide (below_on B1.out hb)
    have V2 := hide (V1.out.later hb)
    clear hb ho
    clear c0 c1 c2 c3 c4 c5
    go_wp2_with fail
    refine (HS.out _ _ _ _ _ Os.out.rdI Os.out.rdJ).mono ?_
    rintro e w3 ⟨rfl, hb⟩
    have B3 := hide (below_on B2.out hb)
    have V3 := hide (V2.out.later hb)
    clear hb Os
    obtain ⟨c0, c1, c2, c3, c4, c5⟩ := V3.out
    go_wp2_with fail
    refine (HTo.out hs _ B3.out).mono ?_
    rintro e w4 ⟨yx, zx, rfl, hb, ho⟩
    obtain ⟨bx, kx, gx, jx, hyx, hzx⟩ := ho.shape
    rw [HL.out] at hyx
    rw [HM.out] at hzx
    subst hyx
    subst hzx
    have Ox := hide ho
    have B4 := hide (below_on B3.out hb)
    have V4 := hide (V3.out.later hb)
    clear hb ho
    clear c0 c1 c2 c3 c4 c5
    go_wp2_with fail
    refine (HI.out _ _ _ _ _ (Ox.out.rdI.later (below_alloc _ _)) (Ox.out.rdJ.later (below_alloc _ _))).mono ?_
    rintro e w5 ⟨rfl, hb⟩
    have hb5 := below_on (below_alloc w4 (.cells #[.int .i64 a, .int .i64 b, .int .i64 c, .int .i64 d, .slice bx l kx, .slice gx m jx] 30)) hb
    have X5 := hide ((Var6_new w4 (.int .i64 a) (.int .i64 b) (.int .i64 c) (.int .i64 d) (.slice bx l kx) (.slice gx m jx) 30).later hb)
    have V5 := hide (V4.out.later hb5)
    have B5 := hide (below_on B4.out hb5)
    have O5 := hide (Ox.out.later hb5)
    clear hb hb5 Ox
    obtain ⟨c0, c1, c2, c3, c4, c5⟩ := V5.out
    obtain ⟨x0, x1, x2, x3, x4, x5⟩ := X5.out
    go_wp2_with fail
    go_region_held3 (fun w' => w'.cell? ⟨w.heap.size, 0, none⟩ = some (.int .i64 a) ∧ w'.cell? ⟨w.heap.size, 1, none⟩ = some (.int .i64 b) ∧ w'.cell? ⟨w.heap.size, 2, none⟩ = some (.int .i64 c) ∧ w'.cell? ⟨w.heap.size, 3, none⟩ = some (.int .i64 d) ∧ w'.cell? ⟨w.heap.size, 4, none⟩ = some (.slice ay l cy) ∧ w'.cell? ⟨w.heap.size, 5, none⟩ = some (.slice az m cz) ∧ w'.cell? ⟨w4.heap.size, 0, none⟩ = some (.int .i64 a) ∧ w'.cell? ⟨w4.heap.size, 1, none⟩ = some (.int .i64 b) ∧ w'.cell? ⟨w4.heap.size, 2, none⟩ = some (.int .i64 c) ∧ w'.cell? ⟨w4.heap.size, 3, none⟩ = some (.int .i64 d) ∧ w'.cell? ⟨w4.heap.size, 4, none⟩ = some (.slice bx l kx) ∧ w'.cell? ⟨w4.heap.size, 5, none⟩ = some (.slice gx m jx)) (first | exact ⟨c0, c1, c2, c3, c4, c5, x0, x1, x2, x3, x4, x5⟩ | exact ⟨e0, e1, e2, e3, e4, e5, e6, e7, e8, e9, e10, e11⟩ | exact ⟨i0, i1, i2, i3, i4, i5, i6, i7, i8, i9, i10, i11⟩)
      (first | (go_at_call 10; refine (HEq.out _ _ _ _ _ _ _ _ _ (O5.out.rdI.later HB6.out) (O5.out.rdJ.later HB6.out) HO6.out.rdI HO6.out.rdJ).mono ?_; rintro e w7 ⟨rfl, hb7⟩; have i0 := cell_later hb7 e0; have i1 := cell_later hb7 e1; have i2 := cell_later hb7 e2; have i3 := cell_later hb7 e3; have i4 := cell_later hb7 e4; have i5 := cell_later hb7 e5; have i6 := cell_later hb7 e6; have i7 := cell_later hb7 e7; have i8 := cell_later hb7 e8; have i9 := cell_later hb7 e9; have i10 := cell_later hb7 e10; have i11 := cell_later hb7 e11; have HB7 := hide (below_on HB6.out hb7); clear hb7) | (go_at_call 8; refine (HTo.out hs _ (below_on B5.out (below_drewN _ 1))).mono ?_; rintro e w6 ⟨y6, z6, rfl, hb, ho⟩; have e0 := cell_later hb c0; have e1 := cell_later hb c1; have e2 := cell_later hb c2; have e3 := cell_later hb c3; have e4 := cell_later hb c4; have e5 := cell_later hb c5; have e6 := cell_later hb x0; have e7 := cell_later hb x1; have e8 := cell_later hb x2; have e9 := cell_later hb x3; have e10 := cell_later hb x4; have e11 := cell_later hb x5; have HO6 := hide ho; have HB6 := hide (below_on (below_drewN w5 1) hb); clear hb ho))
    have B7 := hide (below_on B5.out HB7.out)
    go_wp2
    go_ret
    exact ⟨rfl, B7.out⟩
  · have HY := hide (szv_no (left := 1048576) (s := sz) (by omega))
    clear hs
    go_enter Try.func3, Try.ntmps3
    go_wp2_with fail
    refine (HSz.out _ BA.out).mono ?_
    rintro e w1 ⟨he, hb⟩
    rw [HY.out] at he
    subst he
    have B1 := hide (below_on BA.out hb)
    clear hb
    go_wp2
    go_ret
    exact ⟨rfl, B1.out⟩

open Go.ChangeShapes Go.WideShapes Go.ChangeAt in
set_option maxRecDepth 100000 in
theorem fnExactOpFault_lifted (os : Os) (started : os.Started) (H : Type) (enc : TypeId × Value → H) :
    ReturnsInHanded {} Try.checked os 3 .any (Rows.fnExactOpFaultSpec.pre6 enc Try.prog Try.f3 Rows.fnExactOpFaultRow.domain false) (Rows.fnExactOpFaultSpec.post enc Try.prog Try.f3 false true false false) := by
  refine returnsInHanded_of_change (C := Try.checked) Try.own started (by kernel_rfl) Try.func3
    (ChangeSpec.witness6 (enc := enc) (C := Try.checked) false ⟨#[], #[.agg #[.int .i64 0, .int .i64 0, .int .i64 0, .int .i64 0, .slice none 0 0, .slice none 0 0]], []⟩ 8 (by kernel_rfl) (by kernel_rfl) (by kernel_rfl) (by kernel_rfl)) ?_
  intro W base args ds gs before hval0 hW hcnd _
  have hval : ∀ (j : Nat) t v, Try.f3.params[j]? = some t → args[j]? = some v → Value.okWide Try.prog W .any base t v := hval0
  have hW' := hW
  obtain ⟨p, q, hA0, hV, rfl, hfz, hnd⟩ := hW
  have hA : DataW.TrodAll enc Try.prog W 0 (fun _ => true) true Try.f3.params.toList args.toList ds p := hA0
  rw [Try.params3] at hA hval
  obtain ⟨v0, d0, rfl, rfl, h0⟩ := trodAll_one hA
  obtain ⟨rfl, rfl⟩ := trodVars_none hV
  obtain ⟨r, y, z, rfl, hy, hz⟩ := rdOp_of (hval 0 25 v0 rfl rfl) h0
  clear hA0 hval0
  simp only [List.append_nil] at hW'
  refine (lawOpFault r (opF r) hy hz (fun _ _ _ _ _ h k => specOpFault r h k) (fun _ _ _ _ _ h k => implOpFault r h k)).mono fun e W' ⟨he, hb⟩ => ?_
  subst he
  exact ⟨_, rfl, _, _, _, [], p, [], hW', trodAll_mk1 (shut_bool Try.underlying4 _), trodAll_mk1 (Below.trod Try.laidOut (by kernel_rfl) (of_decide_eq_true (by kernel_rfl)) h0 hb (fun x hx => by simpa using hW'.lt x (by simp [hx]))), rfl, hb.frame _, fun h => by cases h⟩

theorem fnExactOpFault_holds : Rows.FnExactOpFaultSaid :=
  OpenClaim.holds_of_wide 3 Try.f3 rfl rfl rfl rfl rfl rfl rfl ⟨rfl, rfl, rfl, rfl, rfl⟩ rfl rfl rfl rfl rfl (by kernel_rfl) Try.func3 (by kernel_rfl)
    (of_decide_eq_true (by kernel_rfl)) (by unfold Func.isWrapper; first | (rw [if_pos (by decide +kernel)]; kernel_rfl) | (rw [if_neg (by decide +kernel)]; exact ⟨rfl, rfl⟩))
    (fun os started H enc _ => fnExactOpFault_lifted os started H enc)
#print axioms fnExactOpFault_holds
end Go.Proofs.Ytigmichjpaeedaa
