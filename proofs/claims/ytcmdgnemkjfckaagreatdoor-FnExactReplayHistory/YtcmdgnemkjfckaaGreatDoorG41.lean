/- ReplayHistoryProof in one text: what each says stands at its head below. -/
import Derived.Test.YtcmdgnemkjfckaaGreatDoorG29
import Derived.Test.YtcmdgnemkjfckaaGreatDoorG33
import Derived.Test.YtcmdgnemkjfckaaGreatDoorG39
import Derived.Test.YtcmdgnemkjfckaaGreatDoorG40
/- For every input that can be handed in (a store, a list of threads, a list of what was done; shared memory allowed): 'FnExactReplayHistory' returns true, and its arguments read as they did; the two package variables as the text lays them. Made by program (rowgen.py). -/
namespace Go.Proofs.YtcmdgnemkjfckaaGreatDoor
open Go.ChangeShapes Go.WideShapes Go.ChangeAt Go.RowKit
open Go.Extern.Stop Go.Stop Go.Extern

set_option maxHeartbeats 2000000 in
theorem lawReplayHistory_all {S0 T0 S2 : Nat → Prop} {w : World} (n0_0 n0_1 n0_2 n0_3 : Int) {y0 z0 : Value} {xs0 : List Int} {ps0 : List Oj} {y1 : Value} {xs1 : List Tq} {y2 : Value} {xs2 : List Dn} (hy0 : RdI S0 w y0 xs0) (hz0 : RdJ T0 w z0 ps0) (hy1 : RdThs w y1 xs1) (hy2 : RdDn S2 w y2 xs2) (hg : Gl w) :
    Calls Tryz.prog 3 #[.agg #[.int .i64 n0_0, .int .i64 n0_1, .int .i64 n0_2, .int .i64 n0_3, y0, z0], y1, y2] w fun e w' => e = .returned (.bool true) ∧ Below w.heap.size w w' := by
  by_cases hs0 : ((xs0.length : Int) + szU ps0) ≤ 1048576
  · skip
    by_cases hs1 : ((xs0.length : Int) + szU ps0) + szTw xs1 ≤ 1048576
    · skip
      by_cases hs2 : ((xs0.length : Int) + szU ps0) + szTw xs1 + (xs2.length : Int) ≤ 1048576
      · skip
        exact lawReplayHistory_small n0_0 n0_1 n0_2 n0_3 hy0 hz0 hy1 hy2 (rhC ⟨n0_0, n0_1, n0_2, n0_3, xs0, ps0⟩ xs1 xs2) 0 (rhV ⟨n0_0, n0_1, n0_2, n0_3, xs0, ps0⟩ xs1 xs2) (rhA ⟨n0_0, n0_1, n0_2, n0_3, xs0, ps0⟩ xs1 xs2).tm (rhA ⟨n0_0, n0_1, n0_2, n0_3, xs0, ps0⟩ xs1 xs2).vt (rhA ⟨n0_0, n0_1, n0_2, n0_3, xs0, ps0⟩ xs1 xs2).si (rhA ⟨n0_0, n0_1, n0_2, n0_3, xs0, ps0⟩ xs1 xs2).st (rhA ⟨n0_0, n0_1, n0_2, n0_3, xs0, ps0⟩ xs1 xs2).sn (rhA ⟨n0_0, n0_1, n0_2, n0_3, xs0, ps0⟩ xs1 xs2).lg (rhA_tot ⟨n0_0, n0_1, n0_2, n0_3, xs0, ps0⟩ xs1 xs2) (by have := szU_nonneg ps0; have := szTw_nonneg xs1; omega)  (fun _ _ _ w y z u v hy hz ht hd => specReplayHistory ⟨n0_0, n0_1, n0_2, n0_3, xs0, ps0⟩ hy hz ht hd) (fun _ _ _ w9 y z u v hb hy hz ht hd => implReplayHistory ⟨n0_0, n0_1, n0_2, n0_3, xs0, ps0⟩ (hg.later hb) hy hz ht hd)
      · skip
        obtain ⟨ay0, cy0, rfl⟩ := hy0.shape
        obtain ⟨az0, cz0, rfl, _⟩ := hz0.shape
        have HRz0 := hide hz0
        clear hz0
        obtain ⟨ay1, cy1, rfl, _⟩ := hy1.shape
        obtain ⟨ay2, cy2, rfl⟩ := hy2.shape
        have HZ0 := hide (szv_yes (left := (1048576 : Int)) (s := ((xs0.length : Int) + szU ps0)) (by omega))
        have hd0 : 0 ≤ (1048576 : Int) ∧ (1048576 : Int) ≤ 1048576 := by have := szU_nonneg ps0; have := szTw_nonneg xs1; omega
        have hp0 : ¬ ((1048576 : Int) - ((xs0.length : Int) + szU ps0) < 0) := by omega
        have HZ1 := hide (szv_yes (left := (1048576 : Int) - ((xs0.length : Int) + szU ps0)) (s := szTw xs1) (by omega))
        have hd1 : 0 ≤ (1048576 : Int) - ((xs0.length : Int) + szU ps0) ∧ (1048576 : Int) - ((xs0.length : Int) + szU ps0) ≤ 1048576 := by have := szU_nonneg ps0; have := szTw_nonneg xs1; omega
        have hp1 : ¬ ((1048576 : Int) - ((xs0.length : Int) + szU ps0) - szTw xs1 < 0) := by omega
        have HZ2 := hide (szv_no (left := (1048576 : Int) - ((xs0.length : Int) + szU ps0) - szTw xs1) (s := (xs2.length : Int)) (by omega))
        have hd2 : 0 ≤ (1048576 : Int) - ((xs0.length : Int) + szU ps0) - szTw xs1 ∧ (1048576 : Int) - ((xs0.length : Int) + szU ps0) - szTw xs1 ≤ 1048576 := by have := szU_nonneg ps0; have := szTw_nonneg xs1; omega
        have HR0 := hide hy0
        have HR1 := hide hy1
        have HR2 := hide hy2
        have BB := hide (below_on (Below.refl w.heap.size w) (below_alloc _ (.cells #[.int .i64 n0_0, .int .i64 n0_1, .int .i64 n0_2, .int .i64 n0_3, .slice ay0 xs0.length cy0, .slice az0 ps0.length cz0] 25)))
        have F_b0 : Hid (Var6 (w.alloc (.cells #[.int .i64 n0_0, .int .i64 n0_1, .int .i64 n0_2, .int .i64 n0_3, .slice ay0 xs0.length cy0, .slice az0 ps0.length cz0] 25)) (w.heap.size) (.int .i64 n0_0) (.int .i64 n0_1) (.int .i64 n0_2) (.int .i64 n0_3) (.slice ay0 xs0.length cy0) (.slice az0 ps0.length cz0)) := by have h := Var6_new w (.int .i64 n0_0) (.int .i64 n0_1) (.int .i64 n0_2) (.int .i64 n0_3) (.slice ay0 xs0.length cy0) (.slice az0 ps0.length cz0) 25; (try simp at h); unfold Hid; exact h
        clear hy0 hy1 hy2
        clear hs0 hs1 hs2
        go_enter Tryz.func3, Tryz.ntmps3
        go_wp2_with fail
        refine (szRaft n0_0 n0_1 n0_2 n0_3 (HR0.out.later BB.out) (HRz0.out.later BB.out) hd0.1 hd0.2).mono ?_
        rintro e wz0 ⟨he, hb⟩
        rw [HZ0.out] at he
        subst he
        have G_b0 := hide (F_b0.out.later hb)
        clear F_b0
        have F_b0 := G_b0
        clear G_b0
        have BC := hide (below_on BB.out hb)
        clear BB
        have BB := BC
        clear BC hb
        obtain ⟨p0_0, p0_1, p0_2, p0_3, p0_4, p0_5⟩ := F_b0.out
        go_wp2_with fail
        refine (szThs (HR1.out.later BB.out) hd1.1 hd1.2).mono ?_
        rintro e wz1 ⟨he, hb⟩
        rw [HZ1.out] at he
        subst he
        clear p0_0 p0_1 p0_2 p0_3 p0_4 p0_5
        have G_b0 := hide (F_b0.out.later hb)
        clear F_b0
        have F_b0 := G_b0
        clear G_b0
        have BC := hide (below_on BB.out hb)
        clear BB
        have BB := BC
        clear BC hb
        obtain ⟨p0_0, p0_1, p0_2, p0_3, p0_4, p0_5⟩ := F_b0.out
        go_wp2_with fail
        refine (szDn (HR2.out.later BB.out) hd2.1 hd2.2).mono ?_
        rintro e wz2 ⟨he, hb⟩
        rw [HZ2.out] at he
        subst he
        clear p0_0 p0_1 p0_2 p0_3 p0_4 p0_5
        have G_b0 := hide (F_b0.out.later hb)
        clear F_b0
        have F_b0 := G_b0
        clear G_b0
        have BC := hide (below_on BB.out hb)
        clear BB
        have BB := BC
        clear BC hb
        go_wp2
        go_ret
        exact ⟨rfl, BB.out⟩
    · skip
      obtain ⟨ay0, cy0, rfl⟩ := hy0.shape
      obtain ⟨az0, cz0, rfl, _⟩ := hz0.shape
      have HRz0 := hide hz0
      clear hz0
      obtain ⟨ay1, cy1, rfl, _⟩ := hy1.shape
      obtain ⟨ay2, cy2, rfl⟩ := hy2.shape
      have HZ0 := hide (szv_yes (left := (1048576 : Int)) (s := ((xs0.length : Int) + szU ps0)) (by omega))
      have hd0 : 0 ≤ (1048576 : Int) ∧ (1048576 : Int) ≤ 1048576 := by have := szU_nonneg ps0; have := szTw_nonneg xs1; omega
      have hp0 : ¬ ((1048576 : Int) - ((xs0.length : Int) + szU ps0) < 0) := by omega
      have HZ1 := hide (szv_no (left := (1048576 : Int) - ((xs0.length : Int) + szU ps0)) (s := szTw xs1) (by omega))
      have hd1 : 0 ≤ (1048576 : Int) - ((xs0.length : Int) + szU ps0) ∧ (1048576 : Int) - ((xs0.length : Int) + szU ps0) ≤ 1048576 := by have := szU_nonneg ps0; have := szTw_nonneg xs1; omega
      have HR0 := hide hy0
      have HR1 := hide hy1
      have HR2 := hide hy2
      have BB := hide (below_on (Below.refl w.heap.size w) (below_alloc _ (.cells #[.int .i64 n0_0, .int .i64 n0_1, .int .i64 n0_2, .int .i64 n0_3, .slice ay0 xs0.length cy0, .slice az0 ps0.length cz0] 25)))
      have F_b0 : Hid (Var6 (w.alloc (.cells #[.int .i64 n0_0, .int .i64 n0_1, .int .i64 n0_2, .int .i64 n0_3, .slice ay0 xs0.length cy0, .slice az0 ps0.length cz0] 25)) (w.heap.size) (.int .i64 n0_0) (.int .i64 n0_1) (.int .i64 n0_2) (.int .i64 n0_3) (.slice ay0 xs0.length cy0) (.slice az0 ps0.length cz0)) := by have h := Var6_new w (.int .i64 n0_0) (.int .i64 n0_1) (.int .i64 n0_2) (.int .i64 n0_3) (.slice ay0 xs0.length cy0) (.slice az0 ps0.length cz0) 25; (try simp at h); unfold Hid; exact h
      clear hy0 hy1 hy2
      clear hs0 hs1
      go_enter Tryz.func3, Tryz.ntmps3
      go_wp2_with fail
      refine (szRaft n0_0 n0_1 n0_2 n0_3 (HR0.out.later BB.out) (HRz0.out.later BB.out) hd0.1 hd0.2).mono ?_
      rintro e wz0 ⟨he, hb⟩
      rw [HZ0.out] at he
      subst he
      have G_b0 := hide (F_b0.out.later hb)
      clear F_b0
      have F_b0 := G_b0
      clear G_b0
      have BC := hide (below_on BB.out hb)
      clear BB
      have BB := BC
      clear BC hb
      obtain ⟨p0_0, p0_1, p0_2, p0_3, p0_4, p0_5⟩ := F_b0.out
      go_wp2_with fail
      refine (szThs (HR1.out.later BB.out) hd1.1 hd1.2).mono ?_
      rintro e wz1 ⟨he, hb⟩
      rw [HZ1.out] at he
      subst he
      clear p0_0 p0_1 p0_2 p0_3 p0_4 p0_5
      have G_b0 := hide (F_b0.out.later hb)
      clear F_b0
      have F_b0 := G_b0
      clear G_b0
      have BC := hide (below_on BB.out hb)
      clear BB
      have BB := BC
      clear BC hb
      go_wp2
      go_ret
      exact ⟨rfl, BB.out⟩
  · skip
    obtain ⟨ay0, cy0, rfl⟩ := hy0.shape
    obtain ⟨az0, cz0, rfl, _⟩ := hz0.shape
    have HRz0 := hide hz0
    clear hz0
    obtain ⟨ay1, cy1, rfl, _⟩ := hy1.shape
    obtain ⟨ay2, cy2, rfl⟩ := hy2.shape
    have HZ0 := hide (szv_no (left := (1048576 : Int)) (s := ((xs0.length : Int) + szU ps0)) (by omega))
    have hd0 : 0 ≤ (1048576 : Int) ∧ (1048576 : Int) ≤ 1048576 := by have := szU_nonneg ps0; have := szTw_nonneg xs1; omega
    have HR0 := hide hy0
    have HR1 := hide hy1
    have HR2 := hide hy2
    have BB := hide (below_on (Below.refl w.heap.size w) (below_alloc _ (.cells #[.int .i64 n0_0, .int .i64 n0_1, .int .i64 n0_2, .int .i64 n0_3, .slice ay0 xs0.length cy0, .slice az0 ps0.length cz0] 25)))
    have F_b0 : Hid (Var6 (w.alloc (.cells #[.int .i64 n0_0, .int .i64 n0_1, .int .i64 n0_2, .int .i64 n0_3, .slice ay0 xs0.length cy0, .slice az0 ps0.length cz0] 25)) (w.heap.size) (.int .i64 n0_0) (.int .i64 n0_1) (.int .i64 n0_2) (.int .i64 n0_3) (.slice ay0 xs0.length cy0) (.slice az0 ps0.length cz0)) := by have h := Var6_new w (.int .i64 n0_0) (.int .i64 n0_1) (.int .i64 n0_2) (.int .i64 n0_3) (.slice ay0 xs0.length cy0) (.slice az0 ps0.length cz0) 25; (try simp at h); unfold Hid; exact h
    clear hy0 hy1 hy2
    clear hs0
    go_enter Tryz.func3, Tryz.ntmps3
    go_wp2_with fail
    refine (szRaft n0_0 n0_1 n0_2 n0_3 (HR0.out.later BB.out) (HRz0.out.later BB.out) hd0.1 hd0.2).mono ?_
    rintro e wz0 ⟨he, hb⟩
    rw [HZ0.out] at he
    subst he
    have G_b0 := hide (F_b0.out.later hb)
    clear F_b0
    have F_b0 := G_b0
    clear G_b0
    have BC := hide (below_on BB.out hb)
    clear BB
    have BB := BC
    clear BC hb
    go_wp2
    go_ret
    exact ⟨rfl, BB.out⟩

set_option maxRecDepth 100000 in
theorem fnExactReplayHistory_lifted (os : Os) (started : os.Started) (H : Type) (enc : TypeId × Value → H) :
    ReturnsInHanded {} Tryz.checked os 3 .any (fun w args => (Rows.fnExactReplayHistorySpec.pre enc Tryz.prog Tryz.f3 [] false w args ∧ laidMetH Tryz.prog laidL w) ∧ sizedMet enc Tryz.prog Tryz.f3 (OpenSpec.ofChange Rows.fnExactReplayHistorySpec) false w args) (Rows.fnExactReplayHistorySpec.post enc Tryz.prog Tryz.f3 false true false false) := by
  refine returnsInHanded_of_change_and (C := Tryz.checked) (X := fun w _ => laidMetH Tryz.prog laidL w) (fun _ _ _ hh h => h.of_heap hh) Tryz.own started (by kernel_rfl) Tryz.func3
    (ChangeSpec.witness_at (enc := enc) (C := Tryz.checked) (os := os) (X := fun w _ => laidMetH Tryz.prog laidL w) false (laidWorld os) #[.agg #[.int .i64 0, .int .i64 0, .int .i64 0, .int .i64 0, .slice none 0 0, .slice none 0 0], .slice none 0 0, .slice none 0 0] 8 rfl (by kernel_rfl) (by kernel_rfl) (by kernel_rfl) (by kernel_rfl) (by kernel_rfl) (laidWorld_met os _)) ?_
  intro W base args ds gs before hval0 hW _ _ hL _
  have hval : ∀ (j : Nat) t v, Tryz.f3.params[j]? = some t → args[j]? = some v → Value.okWide Tryz.prog W .any base t v := hval0
  have hW' := hW
  obtain ⟨p, q, hA0, hV0, rfl, hfz, hnd⟩ := hW
  have hA : DataW.TrodAll enc Tryz.prog W 0 (fun _ => true) true Tryz.f3.params.toList args.toList ds p := hA0
  have hV : DataW.TrodVars enc Tryz.prog W (fun _ => true) ["loop.example/g00311/impl.errNotYet"] gs q := hV0
  rw [Tryz.params3] at hA hval
  obtain ⟨v0, v1, v2, d0, d1, d2, p0, p1, p2, rfl, rfl, rfl, h0, h1, h2⟩ := trodAll_three hA
  obtain ⟨a, hv0, hg⟩ := gl_of_laid hL
  obtain ⟨rfl, rfl⟩ := hV.unique (vars_read enc hv0 trivial _)
  obtain ⟨⟨n0_0, n0_1, n0_2, n0_3, xs0, ps0⟩, y0, z0, rfl, hy0, hz0⟩ := rdRaft_of (hval 0 25 v0 rfl rfl) h0
  obtain ⟨xs1, hy1⟩ := rdThsarg_of (hval 1 26 v1 rfl rfl) h1
  obtain ⟨xs2, hy2, _⟩ := rdDnarg_of (hval 2 27 v2 rfl rfl) h2
  clear hA0 hV0 hval0
  refine (lawReplayHistory_all n0_0 n0_1 n0_2 n0_3 hy0 hz0 hy1 hy2 hg).mono fun e W' ⟨he, hb⟩ => ?_
  subst he
  exact ⟨_, rfl, _, _, _, [], p0 ++ (p1 ++ (p2)), [.cell 0 0], hW', trodAll_mk1 (shut_bool Tryz.underlying4 _), trodAll_mk3 (Below.trod Tryz.laidOut (by kernel_rfl) (of_decide_eq_true (by kernel_rfl)) h0 hb (fun x hx => by simpa using hW'.lt x (by simp [hx]))) (Below.trod Tryz.laidOut (by kernel_rfl) (of_decide_eq_true (by kernel_rfl)) h1 hb (fun x hx => by simpa using hW'.lt x (by simp [hx]))) (Below.trod Tryz.laidOut (by kernel_rfl) (of_decide_eq_true (by kernel_rfl)) h2 hb (fun x hx => by simpa using hW'.lt x (by simp [hx]))), vars_read enc (var_below hv0 hb) trivial _, hb.frame _, fun h => by cases h⟩

theorem fnExactReplayHistory_row : Rows.FnExactReplayHistorySaid :=
  OpenClaim.holds_of_wide 3 Tryz.f3 rfl rfl rfl rfl rfl rfl rfl ⟨rfl, rfl, rfl, rfl, rfl⟩ rfl rfl rfl rfl rfl (by kernel_rfl) Tryz.func3 (by kernel_rfl)
    (of_decide_eq_true (by kernel_rfl)) (by unfold Func.isWrapper; first | (rw [if_pos (by decide +kernel)]; kernel_rfl) | (rw [if_neg (by decide +kernel)]; exact ⟨rfl, rfl⟩))
    (fun os started H enc _ => fnExactReplayHistory_lifted os started H enc)
#print axioms fnExactReplayHistory_row
end Go.Proofs.YtcmdgnemkjfckaaGreatDoor
