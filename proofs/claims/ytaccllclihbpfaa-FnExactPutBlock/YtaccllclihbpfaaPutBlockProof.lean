/- For every input that can be handed in (a disk, a number, a list of numbers; shared memory allowed): 'FnExactPutBlock' returns true, and its arguments read as they did; no condition. Made by program (genproof.py). -/
import Derived.Test.YtaccllclihbpfaaLawPutBlock
import Derived.Test.YtaccllclihbpfaaPutBlock2
import Derived.Test.YtaccllclihbpfaaOpen
namespace Go.Proofs.Ytaccllclihbpfaa
open Go.ChangeShapes Go.WideShapes Go.ChangeAt Go.RowKit

set_option maxHeartbeats 1000000 in
theorem lawPutBlock_all {S T S2 : Nat → Prop} {w : World} {u v : Value} {xss : List (List Int)} {ps : List (Int × List Int)} (a1 : Int) {y2 : Value} {xs2 : List Int} (hu : RdII S w u xss) (hv : RdP T w v ps) (hy2 : RdI S2 w y2 xs2) :
    Calls Try.prog 6 #[.agg #[u, v], .int .i64 a1, y2] w fun e w' => e = .returned (.bool true) ∧ Below w.heap.size w w' := by
  by_cases hl2 : xs2.length ≤ 1048576
  · skip
    by_cases hsz : szD xss ps ≤ 1048576
    · have HM := Small.of hsz
      exact lawPutBlock_small a1 hu hv hy2 (putF xss ps a1 xs2) (putXs xss ps a1 xs2) (putPs xss ps a1 xs2) (put_bound HM hl2) hsz hl2 (fun _ _ _ w u v y hu hv hy => specPut a1 hu hv hy HM hl2) (fun _ _ _ w u v y hu hv hy => implPut a1 hu hv hy HM hl2)
    · have HY := hide (szv_no (left := 1048576) (s := szD xss ps) (by omega))
      have HU := hide hu
      have HV := hide hv
      clear hsz hu hv
      obtain ⟨ay2, cy2, hyv2, _⟩ := hy2
      subst hyv2
      go_enter Try.func6, Try.ntmps6
      go_wp2_with fail
      refine (szDisk (HU.out.later (below_alloc _ _)) (HV.out.later (below_alloc _ _)) (by omega) (by omega)).mono ?_
      rintro e w1 ⟨he, hb⟩
      rw [HY.out] at he
      subst he
      have B1 := hide (below_on (below_alloc _ _) hb)
      clear hb
      go_wp2
      go_ret
      exact ⟨rfl, B1.out⟩
  · obtain ⟨ay2, cy2, hyv2, hym2, _⟩ := hy2
    subst hyv2
    have hbig : 1048576 < xs2.length := by omega
    clear hl2
    go_enter Try.func6, Try.ntmps6
    go_wp2
    go_ret
    exact ⟨rfl, below_alloc _ _⟩

set_option maxRecDepth 100000 in
theorem fnExactPutBlock_lifted (os : Os) (started : os.Started) (H : Type) (enc : TypeId × Value → H) :
    ReturnsInHanded {} Try.checked os 6 .any (Rows.fnExactPutBlockSpec.pre6 enc Try.prog Try.f6 Rows.fnExactPutBlockRow.domain false) (Rows.fnExactPutBlockSpec.post enc Try.prog Try.f6 false true false false) := by
  refine returnsInHanded_of_change (C := Try.checked) Try.own started (by kernel_rfl) Try.func6
    (ChangeSpec.witness6 (enc := enc) (C := Try.checked) false ⟨#[], #[.agg #[.slice none 0 0, .slice none 0 0], .int .i64 0, .slice none 0 0], []⟩ 8 (by kernel_rfl) (by kernel_rfl) (by kernel_rfl) (by kernel_rfl)) ?_
  intro W base args ds gs before hval0 hW hcnd _
  have hval : ∀ (j : Nat) t v, Try.f6.params[j]? = some t → args[j]? = some v → Value.okWide Try.prog W .any base t v := hval0
  have hW' := hW
  obtain ⟨p, q, hA0, hV, rfl, hfz, hnd⟩ := hW
  have hA : DataW.TrodAll enc Try.prog W 0 (fun _ => true) true Try.f6.params.toList args.toList ds p := hA0
  rw [Try.params6] at hA hval
  obtain ⟨v0, v1, v2, d0, d1, d2, p0, p1, p2, rfl, rfl, rfl, h0, h1, h2⟩ := trodAll_three hA
  obtain ⟨rfl, rfl⟩ := trodVars_none hV
  obtain ⟨u, u', xss, ps, rfl, hu, hp⟩ := rdD_of (hval 0 66 v0 rfl rfl) h0
  obtain ⟨a1, rfl, rfl, rfl, wf1⟩ := open_int Try.underlying2 (hval 1 2 v1 rfl rfl) h1
  obtain ⟨xs2, hy2⟩ := rdIarg_of (hval 2 28 v2 rfl rfl) h2
  clear hA0 hval0
  simp only [List.append_nil] at hW'
  refine (lawPutBlock_all a1 hu hp hy2).mono fun e W' ⟨he, hb⟩ => ?_
  subst he
  exact ⟨_, rfl, _, _, _, [], p0 ++ ([] ++ p2), [], hW', trodAll_mk1 (shut_bool Try.underlying4 _), trodAll_mk3 (Below.trod Try.laidOut (by kernel_rfl) (of_decide_eq_true (by kernel_rfl)) h0 hb (fun x hx => by simpa using hW'.lt x (by simp [hx]))) (shut_int Try.underlying2 wf1) (Below.trod Try.laidOut (by kernel_rfl) (of_decide_eq_true (by kernel_rfl)) h2 hb (fun x hx => by simpa using hW'.lt x (by simp [hx]))), rfl, hb.frame _, fun h => by cases h⟩

theorem fnExactPutBlock_holds : Rows.FnExactPutBlockSaid :=
  OpenClaim.holds_of_wide 6 Try.f6 rfl rfl rfl rfl rfl rfl rfl ⟨rfl, rfl, rfl, rfl, rfl⟩ rfl rfl rfl rfl rfl (by kernel_rfl) Try.func6 (by kernel_rfl)
    (of_decide_eq_true (by kernel_rfl)) (by unfold Func.isWrapper; first | (rw [if_pos (by decide +kernel)]; kernel_rfl) | (rw [if_neg (by decide +kernel)]; exact ⟨rfl, rfl⟩))
    (fun os started H enc _ => fnExactPutBlock_lifted os started H enc)
#print axioms fnExactPutBlock_holds
end Go.Proofs.Ytaccllclihbpfaa
