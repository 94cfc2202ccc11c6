/- For every input that can be handed in (a disk, a list of numbers; shared memory allowed): 'FnExactCrashDisk' returns true, and its arguments read as they did; no condition. Made by program (genproof.py). -/
import Derived.Test.YtfichaljjkjcoabLawCrashDisk
import Derived.Test.YtfichaljjkjcoabCrash
import Derived.Test.YtfichaljjkjcoabCrash2
import Derived.Test.YtfichaljjkjcoabOpen
namespace Go.Proofs.Ytfichaljjkjcoab
open Go.ChangeShapes Go.WideShapes Go.ChangeAt Go.RowKit

set_option maxHeartbeats 1000000 in
theorem lawCrashDisk_all {S T S1 : Nat → Prop} {w : World} {u v : Value} {xss : List (List Int)} {ps : List (Int × List Int)} {y1 : Value} {xs1 : List Int} (hu : RdII S w u xss) (hv : RdP T w v ps) (hy1 : RdI S1 w y1 xs1) :
    Calls Try.prog 4 #[.agg #[u, v], y1] w fun e w' => e = .returned (.bool true) ∧ Below w.heap.size w w' := by
  by_cases hl1 : xs1.length ≤ 1048576
  · skip
    by_cases hsz : szD xss ps ≤ 1048576
    · have HM := Small.of hsz
      exact lawCrashDisk_small  hu hv hy1 (crashF xss ps xs1) (crashXs xss ps xs1) [] (crash_bound xss ps xs1) hsz hl1 (fun _ _ _ w u v y hu hv hy => specCrash hu hv hy HM) (fun _ _ _ w u v y hu hv hy => implCrash hu hv hy HM)
    · have HY := hide (szv_no (left := 1048576) (s := szD xss ps) (by omega))
      have HU := hide hu
      have HV := hide hv
      clear hsz hu hv
      obtain ⟨ay1, cy1, hyv1, _⟩ := hy1
      subst hyv1
      go_enter Try.func4, Try.ntmps4
      go_wp2_with fail
      refine (szDisk (HU.out.later (below_alloc _ _)) (HV.out.later (below_alloc _ _)) (by omega) (by omega)).mono ?_
      rintro e w1 ⟨he, hb⟩
      rw [HY.out] at he
      subst he
      have B1 := hide (below_on (below_alloc _ _) hb)
      clear hb
      go_wp2
      go_ret
      exact ⟨rfl, B1.out⟩
  · obtain ⟨ay1, cy1, hyv1, hym1, _⟩ := hy1
    subst hyv1
    have hbig : 1048576 < xs1.length := by omega
    clear hl1
    go_enter Try.func4, Try.ntmps4
    go_wp2
    go_ret
    exact ⟨rfl, below_alloc _ _⟩

set_option maxRecDepth 100000 in
theorem fnExactCrashDisk_lifted (os : Os) (started : os.Started) (H : Type) (enc : TypeId × Value → H) :
    ReturnsInHanded {} Try.checked os 4 .any (Rows.fnExactCrashDiskSpec.pre6 enc Try.prog Try.f4 Rows.fnExactCrashDiskRow.domain false) (Rows.fnExactCrashDiskSpec.post enc Try.prog Try.f4 false true false false) := by
  refine returnsInHanded_of_change (C := Try.checked) Try.own started (by kernel_rfl) Try.func4
    (ChangeSpec.witness6 (enc := enc) (C := Try.checked) false ⟨#[], #[.agg #[.slice none 0 0, .slice none 0 0], .slice none 0 0], []⟩ 8 (by kernel_rfl) (by kernel_rfl) (by kernel_rfl) (by kernel_rfl)) ?_
  intro W base args ds gs before hval0 hW hcnd _
  have hval : ∀ (j : Nat) t v, Try.f4.params[j]? = some t → args[j]? = some v → Value.okWide Try.prog W .any base t v := hval0
  have hW' := hW
  obtain ⟨p, q, hA0, hV, rfl, hfz, hnd⟩ := hW
  have hA : DataW.TrodAll enc Try.prog W 0 (fun _ => true) true Try.f4.params.toList args.toList ds p := hA0
  rw [Try.params4] at hA hval
  obtain ⟨v0, v1, d0, d1, p0, p1, rfl, rfl, rfl, h0, h1⟩ := trodAll_two hA
  obtain ⟨rfl, rfl⟩ := trodVars_none hV
  obtain ⟨u, u', xss, ps, rfl, hu, hp⟩ := rdD_of (hval 0 25 v0 rfl rfl) h0
  obtain ⟨xs1, hy1⟩ := rdIarg_of (hval 1 39 v1 rfl rfl) h1
  clear hA0 hval0
  simp only [List.append_nil] at hW'
  refine (lawCrashDisk_all hu hp hy1).mono fun e W' ⟨he, hb⟩ => ?_
  subst he
  exact ⟨_, rfl, _, _, _, [], p0 ++ p1, [], hW', trodAll_mk1 (shut_bool Try.underlying4 _), trodAll_mk2 (Below.trod Try.laidOut (by kernel_rfl) (of_decide_eq_true (by kernel_rfl)) h0 hb (fun x hx => by simpa using hW'.lt x (by simp [hx]))) (Below.trod Try.laidOut (by kernel_rfl) (of_decide_eq_true (by kernel_rfl)) h1 hb (fun x hx => by simpa using hW'.lt x (by simp [hx]))), rfl, hb.frame _, fun h => by cases h⟩

theorem fnExactCrashDisk_holds : Rows.FnExactCrashDiskSaid :=
  OpenClaim.holds_of_wide 4 Try.f4 rfl rfl rfl rfl rfl rfl rfl ⟨rfl, rfl, rfl, rfl, rfl⟩ rfl rfl rfl rfl rfl (by kernel_rfl) Try.func4 (by kernel_rfl)
    (of_decide_eq_true (by kernel_rfl)) (by unfold Func.isWrapper; first | (rw [if_pos (by decide +kernel)]; kernel_rfl) | (rw [if_neg (by decide +kernel)]; exact ⟨rfl, rfl⟩))
    (fun os started H enc _ => fnExactCrashDisk_lifted os started H enc)
#print axioms fnExactCrashDisk_holds
end Go.Proofs.Ytfichaljjkjcoab
