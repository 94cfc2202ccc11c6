/- AppendRaftProof in one text: what each says stands at its head below. -/
import Derived.Test.YtehamhldnpngiaaDoorG19
import Derived.Test.YtehamhldnpngiaaDoorG45
import Derived.Test.YtehamhldnpngiaaDoorG46
/- For every input that can be handed in (a store, a number, a number, a list of entries; shared memory allowed): 'FnExactAppendRaft' returns true, and its arguments read as they did; the two package variables as the text lays them. Made by program (rowgen.py). -/
namespace Go.Proofs.YtehamhldnpngiaaDoor
open Go.ChangeShapes Go.WideShapes Go.ChangeAt Go.RowKit
open Go.Extern.Stop Go.Stop Go.Extern

set_option maxHeartbeats 2000000 in
theorem lawAppendRaft_all {S0 T0 S3 : Nat → Prop} {w : World} (n0_0 n0_1 n0_2 n0_3 : Int) {y0 z0 : Value} {xs0 : List Int} {ps0 : List Oj} (a1 : Int) (a2 : Int) {y3 : Value} {xs3 : List Oj} (hy0 : RdI S0 w y0 xs0) (hz0 : RdJ T0 w z0 ps0) (hy3 : RdJ S3 w y3 xs3) (hg : Gl w) :
    Calls Tryd.prog 3 #[.agg #[.int .i64 n0_0, .int .i64 n0_1, .int .i64 n0_2, .int .i64 n0_3, y0, z0], .int .i64 a1, .int .i64 a2, y3] w fun e w' => e = .returned (.bool true) ∧ Below w.heap.size w w' := by
  by_cases hs0 : ((xs0.length : Int) + szU ps0) ≤ 1048576
  · skip
    by_cases hs3 : ((xs0.length : Int) + szU ps0) + szU xs3 ≤ 1048576
    · skip
      exact lawAppendRaft_small n0_0 n0_1 n0_2 n0_3 a1 a2 hy0 hz0 hy3 (apRC ⟨n0_0, n0_1, n0_2, n0_3, xs0, ps0⟩ a1 a2 xs3) (apRR ⟨n0_0, n0_1, n0_2, n0_3, xs0, ps0⟩ a1 a2 xs3).tm (apRR ⟨n0_0, n0_1, n0_2, n0_3, xs0, ps0⟩ a1 a2 xs3).vt (apRR ⟨n0_0, n0_1, n0_2, n0_3, xs0, ps0⟩ a1 a2 xs3).si (apRR ⟨n0_0, n0_1, n0_2, n0_3, xs0, ps0⟩ a1 a2 xs3).st (apRR ⟨n0_0, n0_1, n0_2, n0_3, xs0, ps0⟩ a1 a2 xs3).sn (apRR ⟨n0_0, n0_1, n0_2, n0_3, xs0, ps0⟩ a1 a2 xs3).lg (apRR_tot ⟨n0_0, n0_1, n0_2, n0_3, xs0, ps0⟩ a1 a2 xs3) (by have := szU_nonneg ps0; have := szU_nonneg xs3; omega)  (fun _ _ _ w y z v hy hz hc hv hc2 => specAppendRaft ⟨n0_0, n0_1, n0_2, n0_3, xs0, ps0⟩ a1 a2 hy hz hc hv hc2) (fun _ _ _ w9 y z v hb hy hz hc hv hc2 => implAppendRaft ⟨n0_0, n0_1, n0_2, n0_3, xs0, ps0⟩ a1 a2 (hg.later hb) hy hz hc hv hc2)
    · skip
      obtain ⟨ay0, cy0, rfl⟩ := hy0.shape
      obtain ⟨az0, cz0, rfl, _⟩ := hz0.shape
      have HRz0 := hide hz0
      clear hz0
      obtain ⟨ay3, cy3, rfl, _⟩ := hy3.shape
      have HZ0 := hide (szv_yes (left := (1048576 : Int)) (s := ((xs0.length : Int) + szU ps0)) (by omega))
      have hd0 : 0 ≤ (1048576 : Int) ∧ (1048576 : Int) ≤ 1048576 := by have := szU_nonneg ps0; have := szU_nonneg xs3; omega
      have hp0 : ¬ ((1048576 : Int) - ((xs0.length : Int) + szU ps0) < 0) := by omega
      have HZ3 := hide (szv_no (left := (1048576 : Int) - ((xs0.length : Int) + szU ps0)) (s := szU xs3) (by omega))
      have hd3 : 0 ≤ (1048576 : Int) - ((xs0.length : Int) + szU ps0) ∧ (1048576 : Int) - ((xs0.length : Int) + szU ps0) ≤ 1048576 := by have := szU_nonneg ps0; have := szU_nonneg xs3; omega
      have HR0 := hide hy0
      have HR3 := hide hy3
      have BB := hide (below_on (Below.refl w.heap.size w) (below_alloc _ (.cells #[.int .i64 n0_0, .int .i64 n0_1, .int .i64 n0_2, .int .i64 n0_3, .slice ay0 xs0.length cy0, .slice az0 ps0.length cz0] 25)))
      have F_b0 : Hid (Var6 (w.alloc (.cells #[.int .i64 n0_0, .int .i64 n0_1, .int .i64 n0_2, .int .i64 n0_3, .slice ay0 xs0.length cy0, .slice az0 ps0.length cz0] 25)) (w.heap.size) (.int .i64 n0_0) (.int .i64 n0_1) (.int .i64 n0_2) (.int .i64 n0_3) (.slice ay0 xs0.length cy0) (.slice az0 ps0.length cz0)) := by have h := Var6_new w (.int .i64 n0_0) (.int .i64 n0_1) (.int .i64 n0_2) (.int .i64 n0_3) (.slice ay0 xs0.length cy0) (.slice az0 ps0.length cz0) 25; (try simp at h); unfold Hid; exact h
      clear hy0 hy3
      clear hs0 hs3
      go_enter Tryd.func3, Tryd.ntmps3
      go_wp2_with fail
      refine (szRaft n0_0 n0_1 n0_2 n0_3 (HR0.out.later BB.out) (HRz0.out.later BB.out) hd0.1 hd0.2).mono ?_
      rintro e wz0 ⟨he, hb⟩
      rw [HZ0.out] at he
      subst he
      have G_b0 := hide (F_b0.out.later hb)
      clear F_b0
      have F_b0 := G_b0
      clear G_b0
      have BC := hide (below_on BB.out hb)
      clear BB
      have BB := BC
      clear BC hb
      obtain ⟨p0_0, p0_1, p0_2, p0_3, p0_4, p0_5⟩ := F_b0.out
      go_wp2_with fail
      refine (szEnU (HR3.out.later BB.out) hd3.1 hd3.2).mono ?_
      rintro e wz3 ⟨he, hb⟩
      rw [HZ3.out] at he
      subst he
      clear p0_0 p0_1 p0_2 p0_3 p0_4 p0_5
      have G_b0 := hide (F_b0.out.later hb)
      clear F_b0
      have F_b0 := G_b0
      clear G_b0
      have BC := hide (below_on BB.out hb)
      clear BB
      have BB := BC
      clear BC hb
      go_wp2
      go_ret
      exact ⟨rfl, BB.out⟩
  · skip
    obtain ⟨ay0, cy0, rfl⟩ := hy0.shape
    obtain ⟨az0, cz0, rfl, _⟩ := hz0.shape
    have HRz0 := hide hz0
    clear hz0
    obtain ⟨ay3, cy3, rfl, _⟩ := hy3.shape
    have HZ0 := hide (szv_no (left := (1048576 : Int)) (s := ((xs0.length : Int) + szU ps0)) (by omega))
    have hd0 : 0 ≤ (1048576 : Int) ∧ (1048576 : Int) ≤ 1048576 := by have := szU_nonneg ps0; have := szU_nonneg xs3; omega
    have HR0 := hide hy0
    have HR3 := hide hy3
    have BB := hide (below_on (Below.refl w.heap.size w) (below_alloc _ (.cells #[.int .i64 n0_0, .int .i64 n0_1, .int .i64 n0_2, .int .i64 n0_3, .slice ay0 xs0.length cy0, .slice az0 ps0.length cz0] 25)))
    have F_b0 : Hid (Var6 (w.alloc (.cells #[.int .i64 n0_0, .int .i64 n0_1, .int .i64 n0_2, .int .i64 n0_3, .slice ay0 xs0.length cy0, .slice az0 ps0.length cz0] 25)) (w.heap.size) (.int .i64 n0_0) (.int .i64 n0_1) (.int .i64 n0_2) (.int .i64 n0_3) (.slice ay0 xs0.length cy0) (.slice az0 ps0.length cz0)) := by have h := Var6_new w (.int .i64 n0_0) (.int .i64 n0_1) (.int .i64 n0_2) (.int .i64 n0_3) (.slice ay0 xs0.length cy0) (.slice az0 ps0.length cz0) 25; (try simp at h); unfold Hid; exact h
    clear hy0 hy3
    clear hs0
    go_enter Tryd.func3, Tryd.ntmps3
    go_wp2_with fail
    refine (szRaft n0_0 n0_1 n0_2 n0_3 (HR0.out.later BB.out) (HRz0.out.later BB.out) hd0.1 hd0.2).mono ?_
    rintro e wz0 ⟨he, hb⟩
    rw [HZ0.out] at he
    subst he
    have G_b0 := hide (F_b0.out.later hb)
    clear F_b0
    have F_b0 := G_b0
    clear G_b0
    have BC := hide (below_on BB.out hb)
    clear BB
    have BB := BC
    clear BC hb
    go_wp2
    go_ret
    exact ⟨rfl, BB.out⟩

set_option maxRecDepth 100000 in
theorem fnExactAppendRaft_lifted (os : Os) (started : os.Started) (H : Type) (enc : TypeId × Value → H) :
    ReturnsInHanded {} Tryd.checked os 3 .any (fun w args => (Rows.fnExactAppendRaftSpec.pre enc Tryd.prog Tryd.f3 [] false w args ∧ laidMetH Tryd.prog laidL w) ∧ sizedMet enc Tryd.prog Tryd.f3 (OpenSpec.ofChange Rows.fnExactAppendRaftSpec) false w args) (Rows.fnExactAppendRaftSpec.post enc Tryd.prog Tryd.f3 false true false false) := by
  refine returnsInHanded_of_change_and (C := Tryd.checked) (X := fun w _ => laidMetH Tryd.prog laidL w) (fun _ _ _ hh h => h.of_heap hh) Tryd.own started (by kernel_rfl) Tryd.func3
    (ChangeSpec.witness_at (enc := enc) (C := Tryd.checked) (os := os) (X := fun w _ => laidMetH Tryd.prog laidL w) false (laidWorld os) #[.agg #[.int .i64 0, .int .i64 0, .int .i64 0, .int .i64 0, .slice none 0 0, .slice none 0 0], .int .i64 0, .int .i64 0, .slice none 0 0] 8 rfl (by kernel_rfl) (by kernel_rfl) (by kernel_rfl) (by kernel_rfl) (by kernel_rfl) (laidWorld_met os _)) ?_
  intro W base args ds gs before hval0 hW _ _ hL _
  have hval : ∀ (j : Nat) t v, Tryd.f3.params[j]? = some t → args[j]? = some v → Value.okWide Tryd.prog W .any base t v := hval0
  have hW' := hW
  obtain ⟨p, q, hA0, hV0, rfl, hfz, hnd⟩ := hW
  have hA : DataW.TrodAll enc Tryd.prog W 0 (fun _ => true) true Tryd.f3.params.toList args.toList ds p := hA0
  have hV : DataW.TrodVars enc Tryd.prog W (fun _ => true) ["loop.example/g00311/impl.errNotYet"] gs q := hV0
  rw [Tryd.params3] at hA hval
  obtain ⟨v0, v1, v2, v3, d0, d1, d2, d3, p0, p1, p2, p3, rfl, rfl, rfl, h0, h1, h2, h3⟩ := trodAll_four hA
  obtain ⟨a, hv0, hg⟩ := gl_of_laid hL
  obtain ⟨rfl, rfl⟩ := hV.unique (vars_read enc hv0 trivial _)
  obtain ⟨⟨n0_0, n0_1, n0_2, n0_3, xs0, ps0⟩, y0, z0, rfl, hy0, hz0⟩ := rdRaft_of (hval 0 25 v0 rfl rfl) h0
  obtain ⟨a1, rfl, rfl, rfl, wf1⟩ := open_int Tryd.underlying2 (hval 1 2 v1 rfl rfl) h1
  obtain ⟨a2, rfl, rfl, rfl, wf2⟩ := open_int Tryd.underlying2 (hval 2 2 v2 rfl rfl) h2
  obtain ⟨xs3, hy3⟩ := rdEnarg_of (hval 3 23 v3 rfl rfl) h3
  clear hA0 hV0 hval0
  refine (lawAppendRaft_all n0_0 n0_1 n0_2 n0_3 a1 a2 hy0 hz0 hy3 hg).mono fun e W' ⟨he, hb⟩ => ?_
  subst he
  exact ⟨_, rfl, _, _, _, [], p0 ++ ([] ++ ([] ++ (p3))), [.cell 0 0], hW', trodAll_mk1 (shut_bool Tryd.underlying4 _), trodAll_mk4 (Below.trod Tryd.laidOut (by kernel_rfl) (of_decide_eq_true (by kernel_rfl)) h0 hb (fun x hx => by simpa using hW'.lt x (by simp [hx]))) (shut_int Tryd.underlying2 wf1) (shut_int Tryd.underlying2 wf2) (Below.trod Tryd.laidOut (by kernel_rfl) (of_decide_eq_true (by kernel_rfl)) h3 hb (fun x hx => by simpa using hW'.lt x (by simp [hx]))), vars_read enc (var_below hv0 hb) trivial _, hb.frame _, fun h => by cases h⟩

theorem fnExactAppendRaft_row : Rows.FnExactAppendRaftSaid :=
  OpenClaim.holds_of_wide 3 Tryd.f3 rfl rfl rfl rfl rfl rfl rfl ⟨rfl, rfl, rfl, rfl, rfl⟩ rfl rfl rfl rfl rfl (by kernel_rfl) Tryd.func3 (by kernel_rfl)
    (of_decide_eq_true (by kernel_rfl)) (by unfold Func.isWrapper; first | (rw [if_pos (by decide +kernel)]; kernel_rfl) | (rw [if_neg (by decide +kernel)]; exact ⟨rfl, rfl⟩))
    (fun os started H enc _ => fnExactAppendRaft_lifted os started H enc)
#print axioms fnExactAppendRaft_row
end Go.Proofs.YtehamhldnpngiaaDoor
