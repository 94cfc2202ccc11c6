/- For every input that can be handed in (a list of puts; shared memory allowed): 'FnExactLoadRaft' returns true, and its arguments read as they did; no condition. Made by program (rowgen.py). -/
import Derived.Test.YtlmaopljihbdkaaGreatG10
import Derived.Test.YtlmaopljihbdkaaGreatG52
import Derived.Test.YtlmaopljihbdkaaGreatG27
namespace Go.Proofs.YtlmaopljihbdkaaGreat
open Go.ChangeShapes Go.WideShapes Go.ChangeAt Go.RowKit

set_option maxHeartbeats 2000000 in
theorem lawLoadRaft_all {S0 : Nat → Prop} {w : World} {y0 : Value} {xs0 : List (Int × List Int)} (hy0 : RdP S0 w y0 xs0) :
    Calls Tryz.prog 4 #[y0] w fun e w' => e = .returned (.bool true) ∧ Below w.heap.size w w' := by
  by_cases hs0 : szQ xs0 ≤ 1048576
  · skip
    exact lawLoadRaft_small  hy0 (ldC xs0) (ldR xs0).tm (ldR xs0).vt (ldR xs0).si (ldR xs0).st (ldR xs0).sn (ldR xs0).lg (ldR_tot xs0) (by have := szQ_nonneg xs0; omega)  (fun _ w y hy => specLoadRaft hy) (fun _ w y hy => implLoadRaft hy)
  · skip
    obtain ⟨ay0, cy0, rfl, _⟩ := hy0.shape
    have HZ0 := hide (szv_no (left := (1048576 : Int)) (s := szQ xs0) (by omega))
    have hd0 : 0 ≤ (1048576 : Int) ∧ (1048576 : Int) ≤ 1048576 := by have := szQ_nonneg xs0; omega
    have HR0 := hide hy0
    have BB := hide (Below.refl w.heap.size w)
    clear hy0
    clear hs0
    go_enter Tryz.func4, Tryz.ntmps4
    go_wp2_with fail
    refine (szP (HR0.out.later BB.out) hd0.1 hd0.2).mono ?_
    rintro e wz0 ⟨he, hb⟩
    rw [show ((xs0.length : Int) + (totW xs0 xs0.length : Int)) = szQ xs0 from rfl, HZ0.out] at he
    subst he
    have BC := hide (below_on BB.out hb)
    clear BB
    have BB := BC
    clear BC hb
    go_wp2
    go_ret
    exact ⟨rfl, BB.out⟩

set_option maxRecDepth 100000 in
theorem fnExactLoadRaft_lifted (os : Os) (started : os.Started) (H : Type) (enc : TypeId × Value → H) :
    ReturnsInHanded {} Tryz.checked os 4 .any (Rows.fnExactLoadRaftSpec.pre6 enc Tryz.prog Tryz.f4 Rows.fnExactLoadRaftRow.domain false) (Rows.fnExactLoadRaftSpec.post enc Tryz.prog Tryz.f4 false true false false) := by
  refine returnsInHanded_of_change (C := Tryz.checked) Tryz.own started (by kernel_rfl) Tryz.func4
    (ChangeSpec.witness6 (enc := enc) (C := Tryz.checked) false ⟨#[], #[.slice none 0 0], []⟩ 8 (by kernel_rfl) (by kernel_rfl) (by kernel_rfl) (by kernel_rfl)) ?_
  intro W base args ds gs before hval0 hW hcnd _
  have hval : ∀ (j : Nat) t v, Tryz.f4.params[j]? = some t → args[j]? = some v → Value.okWide Tryz.prog W .any base t v := hval0
  have hW' := hW
  obtain ⟨p, q, hA0, hV, rfl, hfz, hnd⟩ := hW
  have hA : DataW.TrodAll enc Tryz.prog W 0 (fun _ => true) true Tryz.f4.params.toList args.toList ds p := hA0
  rw [Tryz.params4] at hA hval
  obtain ⟨v0, d0, rfl, rfl, h0⟩ := trodAll_one hA
  obtain ⟨rfl, rfl⟩ := trodVars_none hV
  obtain ⟨xs0, hy0⟩ := rdParg_of (hval 0 40 v0 rfl rfl) h0
  clear hA0 hval0
  simp only [List.append_nil] at hW'
  refine (lawLoadRaft_all  hy0).mono fun e W' ⟨he, hb⟩ => ?_
  subst he
  exact ⟨_, rfl, _, _, _, [], p, [], hW', trodAll_mk1 (shut_bool Tryz.underlying4 _), trodAll_mk1 (Below.trod Tryz.laidOut (by kernel_rfl) (of_decide_eq_true (by kernel_rfl)) h0 hb (fun x hx => by simpa using hW'.lt x (by simp [hx]))), rfl, hb.frame _, fun h => by cases h⟩

theorem fnExactLoadRaft_holds : Rows.FnExactLoadRaftSaid :=
  OpenClaim.holds_of_wide 4 Tryz.f4 rfl rfl rfl rfl rfl rfl rfl ⟨rfl, rfl, rfl, rfl, rfl⟩ rfl rfl rfl rfl rfl (by kernel_rfl) Tryz.func4 (by kernel_rfl)
    (of_decide_eq_true (by kernel_rfl)) (by unfold Func.isWrapper; first | (rw [if_pos (by decide +kernel)]; kernel_rfl) | (rw [if_neg (by decide +kernel)]; exact ⟨rfl, rfl⟩))
    (fun os started H enc _ => fnExactLoadRaft_lifted os started H enc)
#print axioms fnExactLoadRaft_holds
end Go.Proofs.YtlmaopljihbdkaaGreat
