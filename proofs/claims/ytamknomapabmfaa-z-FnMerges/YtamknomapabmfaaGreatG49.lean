/- LawMerges in one text: what each says stands at its head below. -/
import Derived.Test.YtamknomapabmfaaGreatG40
import Derived.Test.YtamknomapabmfaaGreatG31
import Derived.Test.YtamknomapabmfaaGreatG44
import Derived.Test.YtamknomapabmfaaGreatG48
import Derived.Test.YtamknomapabmfaaGreatG41
import Derived.Test.YtamknomapabmfaaGreatG35
import Derived.Test.YtamknomapabmfaaGreatG36
/- The law 'FnMerges' walked. Made by program (genlawmerges.py). -/
namespace Go.Proofs.YtamknomapabmfaaGreat
open Go.RowKit

theorem RdB.freshG {s : Nat} {w : World} {v : Value} {bs : List Nat} (h : RdB s w v bs) : RdB w.heap.size w v bs := by
  obtain ⟨ao, c, e1, e2, e3⟩ := h
  refine ⟨ao, c, e1, e2, fun hne => ?_⟩
  obtain ⟨b, off, f1, f2, f3⟩ := e3 hne
  have := World.block_lt_of_cell? _ _ (f3 0 (List.length_pos_iff.2 hne)).1
  exact ⟨b, off, f1, by simp at this; omega, f3⟩
theorem RdB.laterG {s : Nat} {w w' : World} {v : Value} {bs : List Nat} (h : RdB s w v bs) (hb : Below w.heap.size w w') : RdB w'.heap.size w' v bs := by
  obtain ⟨ao, c, e1, e2, e3⟩ := h
  refine ⟨ao, c, e1, e2, fun hne => ?_⟩
  obtain ⟨b, off, f1, f2, f3⟩ := e3 hne
  have h1 := cell_later hb (f3 0 (List.length_pos_iff.2 hne)).1
  have := World.block_lt_of_cell? _ _ h1
  exact ⟨b, off, f1, by simp at this; omega, fun i hi => ⟨cell_later hb (f3 i hi).1, (f3 i hi).2⟩⟩
/-- Two objects in a list of their own. -/
theorem rdJ_two (w : World) {a f b g : Int} {y z : Value} {xs ys : List Int} {S T : Nat → Prop} (hy : RdI S w y xs) (hz : RdI T w z ys) : RdJ (fun _ => True) (w.alloc (.cells #[.int .i64 a, .int .i64 f, y, .int .i64 b, .int .i64 g, z] 26)) (.slice (some ⟨w.heap.size, 0, none⟩) 2 2) [(a, f, xs), (b, g, ys)] := by
  have bA := below_alloc w (.cells #[.int .i64 a, .int .i64 f, y, .int .i64 b, .int .i64 g, z] 26)
  refine ⟨_, 2, rfl, by simp, fun _ => ⟨w.heap.size, 0, fun i => if i = 0 then y else z, rfl, trivial, fun i hi => ?_⟩⟩
  simp only [List.length_cons, List.length_nil] at hi
  match i, hi with
  | 0, _ => exact ⟨by simp [go_sem], by simp [go_sem], by simp [go_sem], (hy.later bA).narrow fun _ _ _ => trivial⟩
  | 1, _ => exact ⟨by simp [go_sem], by simp [go_sem], by simp [go_sem], (hz.later bA).narrow fun _ _ _ => trivial⟩
theorem Tryz.fldX1 (x y : Value) (w : World) : (Instr.field 35 (.agg #[x, y]) 1).run Tryz.prog w = .ok y w := by
  simp [Instr.field, run_underlying Tryz.underlying35, asAgg, part, isAgg, run_underlying Tryz.underlying30]
theorem Tryz.fldX0 (x y : Value) (w : World) : (Instr.field 35 (.agg #[x, y]) 0).run Tryz.prog w = .ok x w := by
  simp [Instr.field, run_underlying Tryz.underlying35, asAgg, part, isAgg, run_underlying Tryz.underlying2]

set_option linter.unusedSimpArgs false in
set_option maxHeartbeats 4000000 in
set_option maxRecDepth 4000 in
theorem lawMerges {s0 : Nat} {w : World} {v : Value} {bs : List Nat} (hv : RdB s0 w v bs) (hsm : bs.length ≤ 1048576) :
    Calls Tryz.prog 3 #[v] w fun e w' => e = .returned (.bool true) ∧ Below w.heap.size w w' := by
  have HV : Hid (RdB w.heap.size w v bs) := RdB.freshG hv
  obtain ⟨ao, c, rfl, hle, h3⟩ := hv
  clear h3
  have fX1 := Tryz.fldX1
  have fX0 := Tryz.fldX0
  go_enter Tryz.func3, Tryz.ntmps3
  go_wp2_with fail
  refine (lwBig ao bs.length c w (by omega)).mono ?_
  rintro e wx ⟨he, hwx⟩
  rw [decide_eq_false (by omega : ¬ (1048576 < bs.length))] at he
  rw [he, hwx]
  clear he hwx wx
  go_wp2_with fail
  refine (drawClash HV.out).mono ?_
  rintro e w1 ⟨a, f, a1, n1, c1, b, g, a2, n2, c2, xs, ys, rfl, hb1, hx, hy⟩
  have bA := below_on (below_alloc w1 (.cells #[.int .i64 a, .int .i64 f, .slice a1 n1 c1] 26)) (below_alloc _ (.cells #[.int .i64 b, .int .i64 g, .slice a2 n2 c2] 26))
  have B1 := hide (below_on hb1 bA)
  have HX := hide (hx.later bA)
  have HY := hide (hy.later bA)
  have dc0 : ((w1.alloc (.cells #[.int .i64 0, .int .i64 0, .slice none 0 0] 26)).alloc (.cells #[.int .i64 0, .int .i64 0, .slice none 0 0] 26)).cell? ⟨w1.heap.size, 0, none⟩ = some (.int .i64 0) := by simp [go_sem]
  have df0 : ((w1.alloc (.cells #[.int .i64 0, .int .i64 0, .slice none 0 0] 26)).alloc (.cells #[.int .i64 0, .int .i64 0, .slice none 0 0] 26)).frozen? ⟨w1.heap.size, 0, none⟩ = false := by simp [go_sem]
  have dc1 : ((w1.alloc (.cells #[.int .i64 0, .int .i64 0, .slice none 0 0] 26)).alloc (.cells #[.int .i64 0, .int .i64 0, .slice none 0 0] 26)).cell? ⟨w1.heap.size, 1, none⟩ = some (.int .i64 0) := by simp [go_sem]
  have df1 : ((w1.alloc (.cells #[.int .i64 0, .int .i64 0, .slice none 0 0] 26)).alloc (.cells #[.int .i64 0, .int .i64 0, .slice none 0 0] 26)).frozen? ⟨w1.heap.size, 1, none⟩ = false := by simp [go_sem]
  have dc2 : ((w1.alloc (.cells #[.int .i64 0, .int .i64 0, .slice none 0 0] 26)).alloc (.cells #[.int .i64 0, .int .i64 0, .slice none 0 0] 26)).cell? ⟨w1.heap.size, 2, none⟩ = some (.slice none 0 0) := by simp [go_sem]
  have df2 : ((w1.alloc (.cells #[.int .i64 0, .int .i64 0, .slice none 0 0] 26)).alloc (.cells #[.int .i64 0, .int .i64 0, .slice none 0 0] 26)).frozen? ⟨w1.heap.size, 2, none⟩ = false := by simp [go_sem]
  have ec0 : ((w1.alloc (.cells #[.int .i64 0, .int .i64 0, .slice none 0 0] 26)).alloc (.cells #[.int .i64 0, .int .i64 0, .slice none 0 0] 26)).cell? ⟨w1.heap.size + 1, 0, none⟩ = some (.int .i64 0) := by simp [go_sem]
  have ef0 : ((w1.alloc (.cells #[.int .i64 0, .int .i64 0, .slice none 0 0] 26)).alloc (.cells #[.int .i64 0, .int .i64 0, .slice none 0 0] 26)).frozen? ⟨w1.heap.size + 1, 0, none⟩ = false := by simp [go_sem]
  have ec1 : ((w1.alloc (.cells #[.int .i64 0, .int .i64 0, .slice none 0 0] 26)).alloc (.cells #[.int .i64 0, .int .i64 0, .slice none 0 0] 26)).cell? ⟨w1.heap.size + 1, 1, none⟩ = some (.int .i64 0) := by simp [go_sem]
  have ef1 : ((w1.alloc (.cells #[.int .i64 0, .int .i64 0, .slice none 0 0] 26)).alloc (.cells #[.int .i64 0, .int .i64 0, .slice none 0 0] 26)).frozen? ⟨w1.heap.size + 1, 1, none⟩ = false := by simp [go_sem]
  have ec2 : ((w1.alloc (.cells #[.int .i64 0, .int .i64 0, .slice none 0 0] 26)).alloc (.cells #[.int .i64 0, .int .i64 0, .slice none 0 0] 26)).cell? ⟨w1.heap.size + 1, 2, none⟩ = some (.slice none 0 0) := by simp [go_sem]
  have ef2 : ((w1.alloc (.cells #[.int .i64 0, .int .i64 0, .slice none 0 0] 26)).alloc (.cells #[.int .i64 0, .int .i64 0, .slice none 0 0] 26)).frozen? ⟨w1.heap.size + 1, 2, none⟩ = false := by simp [go_sem]
  have A0 : Hid (((w1.alloc (.cells #[.int .i64 a, .int .i64 f, .slice a1 n1 c1] 26)).alloc (.cells #[.int .i64 b, .int .i64 g, .slice a2 n2 c2] 26)).cell? ⟨w1.heap.size, 0, none⟩ = some (.int .i64 a)) := by simp [Hid, go_sem]
  have A1 : Hid (((w1.alloc (.cells #[.int .i64 a, .int .i64 f, .slice a1 n1 c1] 26)).alloc (.cells #[.int .i64 b, .int .i64 g, .slice a2 n2 c2] 26)).cell? ⟨w1.heap.size, 1, none⟩ = some (.int .i64 f)) := by simp [Hid, go_sem]
  have A2 : Hid (((w1.alloc (.cells #[.int .i64 a, .int .i64 f, .slice a1 n1 c1] 26)).alloc (.cells #[.int .i64 b, .int .i64 g, .slice a2 n2 c2] 26)).cell? ⟨w1.heap.size, 2, none⟩ = some (.slice a1 n1 c1)) := by simp [Hid, go_sem]
  have E0 : Hid (((w1.alloc (.cells #[.int .i64 a, .int .i64 f, .slice a1 n1 c1] 26)).alloc (.cells #[.int .i64 b, .int .i64 g, .slice a2 n2 c2] 26)).cell? ⟨w1.heap.size + 1, 0, none⟩ = some (.int .i64 b)) := by simp [Hid, go_sem]
  have E1 : Hid (((w1.alloc (.cells #[.int .i64 a, .int .i64 f, .slice a1 n1 c1] 26)).alloc (.cells #[.int .i64 b, .int .i64 g, .slice a2 n2 c2] 26)).cell? ⟨w1.heap.size + 1, 1, none⟩ = some (.int .i64 g)) := by simp [Hid, go_sem]
  have E2 : Hid (((w1.alloc (.cells #[.int .i64 a, .int .i64 f, .slice a1 n1 c1] 26)).alloc (.cells #[.int .i64 b, .int .i64 g, .slice a2 n2 c2] 26)).cell? ⟨w1.heap.size + 1, 2, none⟩ = some (.slice a2 n2 c2)) := by simp [Hid, go_sem]
  clear hb1 hx hy bA
  go_upto_region 4 with fail
  clear dc0 dc1 dc2 df0 df1 df2 ec0 ec1 ec2 ef0 ef1 ef2
  generalize (w1.alloc (.cells #[.int .i64 a, .int .i64 f, .slice a1 n1 c1] 26)).alloc (.cells #[.int .i64 b, .int .i64 g, .slice a2 n2 c2] 26) = W1 at B1 HX HY A0 A1 A2 E0 E1 E2 ⊢
  have a0 := A0.out
  have a1' := A1.out
  have a2' := A2.out
  have e0 := E0.out
  have e1 := E1.out
  have e2 := E2.out
  go_wp2_with fail
  refine (implClashObjects a f b g HX.out HY.out).mono ?_
  rintro e w2 ⟨rfl, hb2⟩
  have C2 := hide hb2
  clear hb2 a0 a1' a2' e0 e1 e2
  have a0 := cell_later C2.out A0.out
  have a1' := cell_later C2.out A1.out
  have a2' := cell_later C2.out A2.out
  have e0 := cell_later C2.out E0.out
  have e1 := cell_later C2.out E1.out
  have e2 := cell_later C2.out E2.out
  go_wp2_with fail
  refine (specClashObjects a f b g (HX.out.later C2.out) (HY.out.later C2.out)).mono ?_
  rintro e w3 ⟨rfl, hb3⟩
  have C3 := hide (below_on C2.out hb3)
  clear hb3 C2 a0 a1' a2' e0 e1 e2
  go_wp2_with fail
  refine (drawPutsOf (HV.out.laterG (below_on B1.out C3.out))).mono ?_
  rintro e w4 ⟨z, y, S, vs, os, rfl, hb4, hrz, hry, hlo⟩
  obtain ⟨az, cz, rfl, _⟩ := hrz.shape
  obtain ⟨ay, cy, rfl, _⟩ := hry.shape
  have C4 := hide (below_on C3.out hb4)
  have HZ := hide hrz
  have HYo := hide hry
  obtain ⟨m, hm⟩ : ∃ m, vs.length = m := ⟨_, rfl⟩
  obtain ⟨k0, hk0⟩ : ∃ k, os.length = k := ⟨_, rfl⟩
  rw [hm] at HZ ⊢
  rw [hk0] at HYo ⊢
  clear hb4 hrz hry hm hk0 C3
  have KP := hide (fun (w' : World) (hb : Below w4.heap.size w4 w') => implPutsOf (HZ.out.later hb) (HYo.out.later hb))
  have KQ := hide (fun (w' : World) (hb : Below w4.heap.size w4 w') => specPutsOf (HZ.out.later hb) (HYo.out.later hb))
  have K2 := hide (fun (os' : List Oj) (T : Nat → Prop) (w' : World) (z' : Value) (hb : Below w4.heap.size w4 w') (h : RdJ T w' z' os') => implPutsOf (HZ.out.later hb) h)
  have KA := hide (fun (T : Nat → Prop) (qs : List (Int × List Int)) (w' : World) (z' : Value) (hb : Below w4.heap.size w4 w') (h : RdP T w' z' qs) => implApplyPuts (HZ.out.later hb) h)
  have HAp := hide (fun h => @poV_apart vs os h)
  have HVf : Hid (poC vs os = 0 → vF vs = 0) := fun h => by
    unfold poC at h
    by_cases h1 : vF vs = 0
    · exact h1
    · rw [if_neg h1] at h; exact absurd h h1
  have HTw := hide (fun h1 h2 h3 h4 => two_same (vs := vs) (a := (a, f, xs)) (b := (b, g, ys)) h1 h2 h3 h4)
  have KFa := hide (fun (w' : World) (hb : Below w4.heap.size w4 w') => implObjectFault a f (HX.out.later (below_on C4.out hb)))
  have KFb := hide (fun (w' : World) (hb : Below w4.heap.size w4 w') => implObjectFault b g (HY.out.later (below_on C4.out hb)))
  generalize poV vs os = PV at KP KQ HAp
  generalize poC vs os = C at KP KQ HAp HVf
  dsimp only at HTw
  generalize clashB a f xs b g ys = cl at HTw ⊢
  obtain ⟨lp, hlp⟩ : ∃ l, PV.length = l := ⟨_, rfl⟩
  have HLp := hide hlp
  clear hlp
  go_wp2_with fail
  refine (KP.out _ (Below.refl _ _)).mono ?_
  rintro e w5 ⟨zP, rfl, hb5, ho5⟩
  obtain ⟨aP, cP, hzP⟩ := ho5.shape
  rw [HLp.out] at hzP
  subst hzP
  have bA := below_alloc w5 (.cells #[.int .i64 C, .slice aP lp cP] 35)
  have C5 := hide (below_on hb5 bA)
  have HP := hide (ho5.rd.later bA)
  have r0 : (w5.alloc (.cells #[.int .i64 C, .slice aP lp cP] 35)).cell? ⟨w5.heap.size, 0, none⟩ = some (.int .i64 C) := by simp [go_sem]
  have R1 : Hid ((w5.alloc (.cells #[.int .i64 C, .slice aP lp cP] 35)).cell? ⟨w5.heap.size, 1, none⟩ = some (.slice aP lp cP)) := by simp [Hid, go_sem]
  clear hb5 ho5 bA
  by_cases hC : C = 0
  · subst hC
    have HAp0 := hide (HAp.out (by trivial))
    have HVf0 := hide (HVf.out (by trivial))
    rw [HLp.out] at HAp0
    clear HAp HVf KP
    have hlpm : lp ≤ 9223372036854775807 := by obtain ⟨_, _, _, h, _⟩ := HP.out; rw [HLp.out] at h; exact h
    go_wp2
    generalize w5.alloc (.cells #[.int .i64 0, .slice aP lp cP] 35) = W5 at C5 HP r0 R1 ⊢
    go_loopw [9] (fun i wr => ∃ j q : Nat, j ≤ lp ∧ i = .int .i64 (j : Int) ∧ wr = W5.drewN q) (fun i _ => lp - (RowKit.intOf i).toNat)
    case atStart => exact ⟨0, 0, Nat.zero_le _, rfl, rfl⟩
    case round =>
      obtain ⟨j, q, hj, rfl, rfl⟩ := hrel
      have r1 := R1.out
      by_cases hlt : j < lp
      · have hj0 : (0 : Int) ≤ (j : Int) := Int.natCast_nonneg _
        have hj1 : (j : Int) < (lp : Int) := by omega
        go_wp2
        go_loopw [10] (fun i wr => ∃ k q2 : Nat, k ≤ j ∧ i = .int .i64 (k : Int) ∧ wr = W5.drewN q2) (fun i _ => j - (RowKit.intOf i).toNat)
        case atStart => exact ⟨0, q, Nat.zero_le _, rfl, rfl⟩
        case round =>
          obtain ⟨k, q2, hk, rfl, rfl⟩ := hrel
          have r1 := R1.out
          by_cases hlt2 : k < j
          · obtain ⟨b1, off1, V1, hao1, g1, _, _⟩ := HP.out.at (k := k) (by rw [HLp.out]; omega)
            obtain ⟨b2, off2, V2, hao2, g2, _, _⟩ := HP.out.at (k := j) (by rw [HLp.out]; exact hlt)
            rw [hao1] at hao2
            injection hao2 with hao2
            injection hao2 with hh1 hh2
            subst hh1 hh2 hao1
            have hne := HAp0.out j k hlt2 hlt
            generalize (PV.getD k (0, [])).1 = x at g1 hne
            generalize (PV.getD j (0, [])).1 = x' at g2 hne
            have hneb : (x == x') = false := by simpa using hne
            have hk0i : (0 : Int) ≤ (k : Int) := Int.natCast_nonneg _
            have hk1i : (k : Int) < (j : Int) := by omega
            have hk2i : (k : Int) < (lp : Int) := by omega
            go_wp2_with fail
            go_quiet (fail)
            go_wp2
            go_roundw
            case rel => exact ⟨k + 1, q2 + nq, by omega, by go_num, by first | rfl | rw [World.drewN_drewN]⟩
            case measure => simp [RowKit.intOf]; omega
          · have hkj : k = j := by omega
            subst hkj
            go_wp2
            go_roundw
            case rel => exact ⟨k + 1, q2, by omega, by go_num, by first | rfl | trivial⟩
            case measure => simp [RowKit.intOf]; omega
      · have D0 := hide (below_drewN W5 q)
        have B5 := hide (below_on C4.out (below_on C5.out D0.out))
        go_upto_region 19 with fail
        go_cut [82] from 71 to 81 (fun x wx => ((x = .bool true ∧ Hid (cl = false ∧ objF a f xs = 0 ∧ objF b g ys = 0)) ∨ x = .bool false) ∧ Hid (Below W5.heap.size W5 wx))
        case first =>
          cases cl with
          | true =>
            go_wp2_with fail
            go_meet
            case rel => exact ⟨Or.inr rfl, D0.out⟩
          | false =>
            have a0 := cell_later B5.out A0.out
            have a1' := cell_later B5.out A1.out
            have a2' := cell_later B5.out A2.out
            have KFa2 := hide (KFa.out _ (below_on C5.out D0.out))
            by_cases ha : objF a f xs = 0
            · rw [ha] at KFa2
              go_wp2_with fail
              refine KFa2.out.mono ?_
              rintro e w6 ⟨rfl, hb6⟩
              have D6 := hide (below_on D0.out hb6)
              clear hb6 a0 a1' a2'
              have e0 := cell_later (below_on C4.out (below_on C5.out D6.out)) E0.out
              have e1 := cell_later (below_on C4.out (below_on C5.out D6.out)) E1.out
              have e2 := cell_later (below_on C4.out (below_on C5.out D6.out)) E2.out
              have KFb2 := hide (KFb.out _ (below_on C5.out D6.out))
              by_cases hb : objF b g ys = 0
              · rw [hb] at KFb2
                go_wp2_with fail
                refine KFb2.out.mono ?_
                rintro e w7 ⟨rfl, hb7⟩
                have D7 := hide (below_on D6.out hb7)
                clear hb7
                go_wp2_with fail
                go_meet
                case rel => exact ⟨Or.inl ⟨(by first | rfl | trivial), (by first | rfl | trivial), ha, hb⟩, D7.out⟩
              · obtain ⟨ob, hob⟩ : ∃ ob, objF b g ys = ob := ⟨_, rfl⟩
                rw [hob] at KFb2 hb
                have hbb : (ob == 0) = false := by simpa using hb
                clear hob
                go_wp2_with fail
                refine KFb2.out.mono ?_
                rintro e w7 ⟨rfl, hb7⟩
                have D7 := hide (below_on D6.out hb7)
                clear hb7
                go_wp2_with fail
                go_meet
                case rel => exact ⟨Or.inr rfl, D7.out⟩
            · obtain ⟨oa, hoa⟩ : ∃ oa, objF a f xs = oa := ⟨_, rfl⟩
              rw [hoa] at KFa2 ha
              have hab : (oa == 0) = false := by simpa using ha
              clear hoa
              go_wp2_with fail
              refine KFa2.out.mono ?_
              rintro e w6 ⟨rfl, hb6⟩
              have D6 := hide (below_on D0.out hb6)
              clear hb6 a0 a1' a2'
              go_wp2_with fail
              go_meet
              case rel => exact ⟨Or.inr rfl, D6.out⟩
        case rest =>
          rename World => wk
          obtain ⟨hx82, Dk⟩ := hcut
          clear D0 B5
          go_upto_if 82 with fail
          go_cut [11, 12] from 83 to 109 (fun _ _ wx => Hid (Below W5.heap.size W5 wx))
          case first =>
            rcases hx82 with ⟨rfl, HG⟩ | rfl
            · obtain ⟨hcl, ha, hb⟩ := HG.out
              have HT2 := hide (HTw.out HVf0.out ha hb hcl)
              clear HTw HG hcl ha hb
              have Bk := hide (below_on C4.out (below_on C5.out Dk.out))
              have a0 := cell_later Bk.out A0.out
              have a1' := cell_later Bk.out A1.out
              have a2' := cell_later Bk.out A2.out
              have e0 := cell_later Bk.out E0.out
              have e1 := cell_later Bk.out E1.out
              have e2 := cell_later Bk.out E2.out
              have bA := below_alloc wk (.cells #[.int .i64 a, .int .i64 f, .slice a1 n1 c1, .int .i64 b, .int .i64 g, .slice a2 n2 c2] 26)
              have HJ := hide (rdJ_two (a := a) (f := f) (b := b) (g := g) wk (HX.out.later Bk.out) (HY.out.later Bk.out))
              have K3 := hide (K2.out _ _ _ _ (below_on C5.out (below_on Dk.out bA)) HJ.out)
              rw [HT2.out.1] at K3
              generalize hX : poV vs [(a, f, xs), (b, g, ys)] = X at K3
              have HX9 := hide hX
              have Dm := hide (below_on Dk.out bA)
              clear bA HJ hX
              go_wp2_with fail
              refine K3.out.mono ?_
              rintro e w8 ⟨z8, rfl, hb8, ho8⟩
              obtain ⟨a8, c8, hz8⟩ := ho8.shape
              generalize X.length = l8 at hz8
              subst hz8
              have bA := below_alloc w8 (.cells #[.int .i64 0, .slice a8 l8 c8] 35)
              have D8 := hide (below_on Dm.out (below_on hb8 bA))
              have HR8 := hide (ho8.rd.later bA)
              have x0 : (w8.alloc (.cells #[.int .i64 0, .slice a8 l8 c8] 35)).cell? ⟨w8.heap.size, 0, none⟩ = some (.int .i64 0) := by simp [go_sem]
              have x1 : (w8.alloc (.cells #[.int .i64 0, .slice a8 l8 c8] 35)).cell? ⟨w8.heap.size, 1, none⟩ = some (.slice a8 l8 c8) := by simp [go_sem]
              clear hb8 ho8 bA K3 Dm a0 a1' a2' e0 e1 e2
              go_upto_region 21 with fail
              generalize w8.alloc (.cells #[.int .i64 0, .slice a8 l8 c8] 35) = W8 at D8 HR8 x0 x1 ⊢
              have B8 := hide (below_on C4.out (below_on C5.out D8.out))
              have a0 := cell_later B8.out A0.out
              have a1' := cell_later B8.out A1.out
              have a2' := cell_later B8.out A2.out
              have e0 := cell_later B8.out E0.out
              have e1 := cell_later B8.out E1.out
              have e2 := cell_later B8.out E2.out
              have bA := below_alloc W8 (.cells #[.int .i64 b, .int .i64 g, .slice a2 n2 c2, .int .i64 a, .int .i64 f, .slice a1 n1 c1] 26)
              have HJ := hide (rdJ_two (a := b) (f := g) (b := a) (g := f) W8 (HY.out.later B8.out) (HX.out.later B8.out))
              have K4 := hide (K2.out _ _ _ _ (below_on C5.out (below_on D8.out bA)) HJ.out)
              have HT3 := HT2
              generalize hY : poV vs [(b, g, ys), (a, f, xs)] = Y at K4 HT3
              generalize poC vs [(b, g, ys), (a, f, xs)] = cY at K4
              have Dm := hide (below_on D8.out bA)
              have x0m := cell_later bA x0
              have x1m := cell_later bA x1
              have HR8m := hide (HR8.out.later bA)
              clear bA HJ hY
              go_wp2_with fail
              refine K4.out.mono ?_
              rintro e w9 ⟨z9, rfl, hb9, ho9⟩
              obtain ⟨a9, c9, hz9⟩ := ho9.shape
              generalize Y.length = l9 at hz9
              subst hz9
              have bA := below_alloc w9 (.cells #[.int .i64 cY, .slice a9 l9 c9] 35)
              have D9 := hide (below_on Dm.out (below_on hb9 bA))
              have HR9 := hide (ho9.rd.later bA)
              have HR8n := hide (HR8m.out.later (below_on hb9 bA))
              have x0n := cell_later (below_on hb9 bA) x0m
              have x1n := cell_later (below_on hb9 bA) x1m
              have y1 : (w9.alloc (.cells #[.int .i64 cY, .slice a9 l9 c9] 35)).cell? ⟨w9.heap.size, 1, none⟩ = some (.slice a9 l9 c9) := by simp [go_sem]
              clear hb9 ho9 bA K4 Dm a0 a1' a2' e0 e1 e2 x0 x1 x0m x1m HR8 HR8m
              go_upto_region 22 with fail
              generalize w9.alloc (.cells #[.int .i64 cY, .slice a9 l9 c9] 35) = W9 at D9 HR9 HR8n x0n x1n y1 ⊢
              have HEq : Hid (apR vs X = apR vs Y) := by
                have h := HT3.out.2
                rw [HX9.out] at h
                exact h
              refine wp_region_held_drew (S := fun w' => w'.cell? ⟨w8.heap.size, 0, none⟩ = some (.int .i64 0) ∧ w'.cell? ⟨w8.heap.size, 1, none⟩ = some (.slice a8 l8 c8) ∧ w'.cell? ⟨w9.heap.size, 1, none⟩ = some (.slice a9 l9 c9)) (by kernel_rfl) ⟨x0n, x1n, y1⟩ (fun hHeld => ?_)
              refine wpAnyH_take (i := 0) (v := ?vg0) rfl (by kernel_rfl) (by kernel_rfl) (by kernel_rfl) (fun _ _ _ h => h) (Or.inl ⟨by rfl, ?hg0⟩) hHeld ?rg0
              case hg0 => intro w9 hSw; (try dsimp only at hSw); first | (go_simp; done) | (go_simp; with_reducible rfl) | (go_simp; simp; done)
              try simp only [Act.put, List.setIfInBounds_toArray, List.set_cons_zero, List.set_cons_succ, List.getElem_toArray, List.getElem_cons_zero]
              refine wpAnyH_take (i := 1) (v := ?vg1) rfl (by kernel_rfl) (by kernel_rfl) (by kernel_rfl) (fun _ _ _ h => h) (Or.inl ⟨by rfl, ?hg1⟩) hHeld ?rg1
              case hg1 => intro w9 hSw; (try dsimp only at hSw); first | (go_simp; done) | (go_simp; with_reducible rfl) | (go_simp; simp; done)
              try simp only [Act.put, List.setIfInBounds_toArray, List.set_cons_zero, List.set_cons_succ, List.getElem_toArray, List.getElem_cons_zero, List.getElem_cons_succ]
              refine wpAnyH_take (i := 2) (v := ?vg2) rfl (by kernel_rfl) (by kernel_rfl) (by kernel_rfl) (fun _ _ _ h => h) (Or.inl ⟨by rfl, ?hg2⟩) hHeld ?rg2
              case hg2 => intro w9 hSw; (try dsimp only at hSw); first | (go_simp; done) | (go_simp; with_reducible rfl) | (go_simp; simp; done)
              try simp only [Act.put, List.setIfInBounds_toArray, List.set_cons_zero, List.set_cons_succ, List.getElem_toArray, List.getElem_cons_zero, List.getElem_cons_succ]
              refine wpAnyH_take (i := 3) (v := ?vg3) rfl (by kernel_rfl) (by kernel_rfl) (by kernel_rfl) (fun _ _ _ h => h) (Or.inl ⟨by rfl, ?hg3⟩) hHeld ?rg3
              case hg3 => intro w9 hSw; (try dsimp only at hSw); first | (go_simp; done) | (go_simp; with_reducible rfl) | (go_simp; simp; done)
              try simp only [Act.put, List.setIfInBounds_toArray, List.set_cons_zero, List.set_cons_succ, List.getElem_toArray, List.getElem_cons_zero, List.getElem_cons_succ]
              refine wpAnyH_take (i := 4) (v := ?vg4) rfl (by kernel_rfl) (by kernel_rfl) (by kernel_rfl) (fun _ _ _ h => h) (Or.inl ⟨by rfl, ?hg4⟩) hHeld ?rg4
              case hg4 => intro w9 hSw; (try dsimp only at hSw); first | (go_simp; done) | (go_simp; with_reducible rfl) | (go_simp; simp; done)
              try simp only [Act.put, List.setIfInBounds_toArray, List.set_cons_zero, List.set_cons_succ, List.getElem_toArray, List.getElem_cons_zero, List.getElem_cons_succ]
              refine wpAnyH_take (i := 5) (v := ?vg5) rfl (by kernel_rfl) (by kernel_rfl) (by kernel_rfl) (fun _ _ _ h => h) (Or.inl ⟨by rfl, ?hg5⟩) hHeld ?rg5
              case hg5 => intro w9 hSw; (try dsimp only at hSw); first | (go_simp; done) | (go_simp; with_reducible rfl) | (go_simp; simp; done)
              try simp only [Act.put, List.setIfInBounds_toArray, List.set_cons_zero, List.set_cons_succ, List.getElem_toArray, List.getElem_cons_zero, List.getElem_cons_succ]
              refine wpAnyH_take (i := 6) (v := ?vg6) rfl (by kernel_rfl) (by kernel_rfl) (by kernel_rfl) (fun _ _ _ h => h) (Or.inl ⟨by rfl, ?hg6⟩) hHeld ?rg6
              case hg6 => intro w9 hSw; (try dsimp only at hSw); first | (go_simp; done) | (go_simp; with_reducible rfl) | (go_simp; simp; done)
              try simp only [Act.put, List.setIfInBounds_toArray, List.set_cons_zero, List.set_cons_succ, List.getElem_toArray, List.getElem_cons_zero, List.getElem_cons_succ]
              refine wpAnyH_take (i := 9) (v := ?vg9) rfl (by kernel_rfl) (by kernel_rfl) (by kernel_rfl) (fun _ _ _ h => h) (Or.inl ⟨by rfl, ?hg9⟩) hHeld ?rg9
              case hg9 => intro w9 hSw; (try dsimp only at hSw); first | (go_simp; done) | (go_simp; with_reducible rfl) | (go_simp; simp; done)
              try simp only [Act.put, List.setIfInBounds_toArray, List.set_cons_zero, List.set_cons_succ, List.getElem_toArray, List.getElem_cons_zero, List.getElem_cons_succ]
              refine wpAnyH_take (i := 10) (v := ?vg10) rfl (by kernel_rfl) (by kernel_rfl) (by kernel_rfl) (fun _ _ _ h => h) (Or.inl ⟨by rfl, ?hg10⟩) hHeld ?rg10
              case hg10 => intro w9 hSw; (try dsimp only at hSw); first | (go_simp; done) | (go_simp; with_reducible rfl) | (go_simp; simp; done)
              try simp only [Act.put, List.setIfInBounds_toArray, List.set_cons_zero, List.set_cons_succ, List.getElem_toArray, List.getElem_cons_zero, List.getElem_cons_succ]
              refine wpAnyH_take (i := 11) (v := ?vg11) rfl (by kernel_rfl) (by kernel_rfl) (by kernel_rfl) (fun _ _ _ h => h) (Or.inl ⟨by rfl, ?hg11⟩) hHeld ?rg11
              case hg11 => intro w9 hSw; (try dsimp only at hSw); first | (go_simp; done) | (go_simp; with_reducible rfl) | (go_simp; simp; done)
              try simp only [Act.put, List.setIfInBounds_toArray, List.set_cons_zero, List.set_cons_succ, List.getElem_toArray, List.getElem_cons_zero, List.getElem_cons_succ]
              refine wpAnyH_ready (rs := [7]) (by kernel_rfl) (by simp) (AllReadyH.cons rfl (fun K hK => ?_) AllReadyH.nil)
              · skip
                go_simp
                go_at_call 13
                refine (KA.out _ _ _ _ (below_on C5.out (below_on D9.out (below_drewN W9 1))) (HR8n.out.later (below_drewN W9 1))).mono ?_
                rintro e wp ⟨zp, rfl, hbp, hop⟩
                obtain ⟨ap, cp, hzp⟩ := hop.shape
                have HBp := hide (below_on (below_drewN W9 1) hbp)
                have HRp := hide hop.rd
                generalize hlp9 : List.length _ = lp9 at hzp
                subst hzp
                obtain ⟨j1, j2, j3⟩ := hHeld
                have m1 := cell_later hbp j1
                have m2 := cell_later hbp j2
                have m3 := cell_later hbp j3
                clear hbp hop j1 j2 j3
                refine hK.out _ _ ⟨m1, m2, m3⟩ (fun hHeld => ?_)
                clear hK K
                try simp only [Act.put, List.setIfInBounds_toArray, List.set_cons_zero, List.set_cons_succ, List.getElem_toArray, List.getElem_cons_zero, List.getElem_cons_succ]
                refine wpAnyH_take (i := 8) (v := ?vh8) rfl (by kernel_rfl) (by kernel_rfl) (by kernel_rfl) (fun _ _ _ h => h) (Or.inl ⟨by rfl, ?hh8⟩) hHeld ?rh8
                case hh8 => intro w9 hSw; (try dsimp only at hSw); first | (go_simp; done) | (go_simp; with_reducible rfl) | (go_simp; simp; done)
                try simp only [Act.put, List.setIfInBounds_toArray, List.set_cons_zero, List.set_cons_succ, List.getElem_toArray, List.getElem_cons_zero, List.getElem_cons_succ]
                refine wpAnyH_ready (rs := [12]) (by kernel_rfl) (by simp) (AllReadyH.cons rfl (fun K hK => ?_) AllReadyH.nil)
                go_simp
                go_at_call 13
                refine (KA.out _ _ _ _ (below_on C5.out (below_on D9.out HBp.out)) (HR9.out.later HBp.out)).mono ?_
                rintro e wq ⟨zq, rfl, hbq, hoq⟩
                obtain ⟨aq, cq, hzq⟩ := hoq.shape
                have HBq := hide (below_on HBp.out hbq)
                have HRq := hide hoq.rd
                have HRp2 := hide (HRp.out.later hbq)
                generalize hlq9 : List.length _ = lq9 at hzq
                subst hzq
                have o1 := cell_later hbq m1
                have o2 := cell_later hbq m2
                have o3 := cell_later hbq m3
                clear hbq hoq
                refine hK.out _ _ ⟨o1, o2, o3⟩ (fun hHeld => ?_)
                clear hK K
                try simp only [Act.put, List.setIfInBounds_toArray, List.set_cons_zero, List.set_cons_succ, List.getElem_toArray, List.getElem_cons_zero, List.getElem_cons_succ]
                refine wpAnyH_take (i := 13) (v := ?vh13) rfl (by kernel_rfl) (by kernel_rfl) (by kernel_rfl) (fun _ _ _ h => h) (Or.inl ⟨by rfl, ?hh13⟩) hHeld ?rh13
                case hh13 => intro w9 hSw; (try dsimp only at hSw); first | (go_simp; done) | (go_simp; with_reducible rfl) | (go_simp; simp; done)
                try simp only [Act.put, List.setIfInBounds_toArray, List.set_cons_zero, List.set_cons_succ, List.getElem_toArray, List.getElem_cons_zero, List.getElem_cons_succ]
                refine wpAnyH_ready (rs := [14]) (by kernel_rfl) (by simp) (AllReadyH.cons rfl (fun K hK => ?_) AllReadyH.nil)
                go_simp
                go_at_call 12
                refine (implSameViews HRp2.out HRq.out).mono ?_
                rintro e wr9 ⟨he, hbr⟩
                rw [decide_eq_true HEq.out] at he
                subst he
                have HBr := hide (below_on HBq.out hbr)
                have u1 := cell_later hbr o1
                have u2 := cell_later hbr o2
                have u3 := cell_later hbr o3
                clear hbr
                refine hK.out _ _ ⟨u1, u2, u3⟩ (fun hHeld => ?_)
                clear hK K
                try simp only [Act.put, List.setIfInBounds_toArray, List.set_cons_zero, List.set_cons_succ, List.getElem_toArray, List.getElem_cons_zero, List.getElem_cons_succ]
                refine wpAnyH_take (i := 15) (v := ?vh15) rfl (by kernel_rfl) (by kernel_rfl) (by kernel_rfl) (fun _ _ _ h => h) (Or.inl ⟨by rfl, ?hh15⟩) hHeld ?rh15
                case hh15 => intro w9 hSw; (try dsimp only at hSw); first | (go_simp; done) | (go_simp; with_reducible rfl) | (go_simp; simp; done)
                try simp only [Act.put, List.setIfInBounds_toArray, List.set_cons_zero, List.set_cons_succ, List.getElem_toArray, List.getElem_cons_zero, List.getElem_cons_succ]
                refine wpAnyH_take (i := 16) (v := ?vh16) rfl (by kernel_rfl) (by kernel_rfl) (by kernel_rfl) (fun _ _ _ h => h) (Or.inl ⟨by rfl, ?hh16⟩) hHeld ?rh16
                case hh16 => intro w9 hSw; (try dsimp only at hSw); first | (go_simp; done) | (go_simp; with_reducible rfl) | (go_simp; simp; done)
                try simp only [Act.put, List.setIfInBounds_toArray, List.set_cons_zero, List.set_cons_succ, List.getElem_toArray, List.getElem_cons_zero, List.getElem_cons_succ]
                refine wpAnyH_done (by kernel_rfl) ?_ _
                go_wp2_with fail
                go_meet
                case rel => exact below_on D9.out HBr.out
            · go_wp2_with fail
              go_meet
              case rel => exact Dk.out
          case rest =>
            rename World => wz
            have Dz := hcut
            have r1 := cell_later Dz.out R1.out
            go_wp2_with fail
            refine wp_region_held_drew (S := fun w' => w'.cell? ⟨w5.heap.size, 1, none⟩ = some (.slice aP lp cP)) (by kernel_rfl) r1 (fun hHeld => ?_)
            refine wpAnyH_take (i := 0) (v := ?vk0) rfl (by kernel_rfl) (by kernel_rfl) (by kernel_rfl) (fun _ _ _ h => h) (Or.inl ⟨by rfl, ?hk0⟩) hHeld ?rk0
            case hk0 => intro w9 hSw; (try dsimp only at hSw); first | (go_simp; done) | (go_simp; with_reducible rfl) | (go_simp; simp; done)
            try simp only [Act.put, List.setIfInBounds_toArray, List.set_cons_zero, List.set_cons_succ, List.getElem_toArray, List.getElem_cons_zero]
            refine wpAnyH_take (i := 1) (v := ?vk1) rfl (by kernel_rfl) (by kernel_rfl) (by kernel_rfl) (fun _ _ _ h => h) (Or.inl ⟨by rfl, ?hk1⟩) hHeld ?rk1
            case hk1 => intro w9 hSw; (try dsimp only at hSw); first | (go_simp; done) | (go_simp; with_reducible rfl) | (go_simp; simp; done)
            try simp only [Act.put, List.setIfInBounds_toArray, List.set_cons_zero, List.set_cons_succ, List.getElem_toArray, List.getElem_cons_zero, List.getElem_cons_succ]
            refine wpAnyH_take (i := 2) (v := ?vk2) rfl (by kernel_rfl) (by kernel_rfl) (by kernel_rfl) (fun _ _ _ h => h) (Or.inl ⟨by rfl, ?hk2⟩) hHeld ?rk2
            case hk2 => intro w9 hSw; (try dsimp only at hSw); first | (go_simp; done) | (go_simp; with_reducible rfl) | (go_simp; simp; done)
            try simp only [Act.put, List.setIfInBounds_toArray, List.set_cons_zero, List.set_cons_succ, List.getElem_toArray, List.getElem_cons_zero, List.getElem_cons_succ]
            refine wpAnyH_take (i := 3) (v := ?vk3) rfl (by kernel_rfl) (by kernel_rfl) (by kernel_rfl) (fun _ _ _ h => h) (Or.inl ⟨by rfl, ?hk3⟩) hHeld ?rk3
            case hk3 => intro w9 hSw; (try dsimp only at hSw); first | (go_simp; done) | (go_simp; with_reducible rfl) | (go_simp; simp; done)
            try simp only [Act.put, List.setIfInBounds_toArray, List.set_cons_zero, List.set_cons_succ, List.getElem_toArray, List.getElem_cons_zero, List.getElem_cons_succ]
            refine wpAnyH_take (i := 4) (v := ?vk4) rfl (by kernel_rfl) (by kernel_rfl) (by kernel_rfl) (fun _ _ _ h => h) (Or.inl ⟨by rfl, ?hk4⟩) hHeld ?rk4
            case hk4 => intro w9 hSw; (try dsimp only at hSw); first | (go_simp; done) | (go_simp; with_reducible rfl) | (go_simp; simp; done)
            try simp only [Act.put, List.setIfInBounds_toArray, List.set_cons_zero, List.set_cons_succ, List.getElem_toArray, List.getElem_cons_zero, List.getElem_cons_succ]
            refine wpAnyH_ready (rs := [5]) (by kernel_rfl) (by simp) (AllReadyH.cons rfl (fun K hK => ?_) AllReadyH.nil)
            go_simp
            go_at_call 10
            refine (KQ.out _ (below_on C5.out (below_on Dz.out (below_drewN wz 1)))).mono ?_
            rintro e w6 ⟨z6, rfl, hb6, ho6⟩
            obtain ⟨a6, c6, hz6⟩ := ho6.shape
            rw [HLp.out] at hz6
            subst hz6
            have e0 := cell_later hb6 hHeld
            have HB6 := hide (below_on (below_on C5.out (below_on Dz.out (below_drewN wz 1))) hb6)
            clear hb6 ho6
            refine hK.out _ _ e0 (fun hHeld => ?_)
            clear hK K
            try simp only [Act.put, List.setIfInBounds_toArray, List.set_cons_zero, List.set_cons_succ, List.getElem_toArray, List.getElem_cons_zero, List.getElem_cons_succ]
            refine wpAnyH_take (i := 6) (v := ?vk6) rfl (by kernel_rfl) (by kernel_rfl) (by kernel_rfl) (fun _ _ _ h => h) (Or.inl ⟨by rfl, ?hk6⟩) hHeld ?rk6
            case hk6 => intro w9 hSw; (try dsimp only at hSw); first | (go_simp; done) | (go_simp; with_reducible rfl) | (go_simp; simp; done)
            try simp only [Act.put, List.setIfInBounds_toArray, List.set_cons_zero, List.set_cons_succ, List.getElem_toArray, List.getElem_cons_zero, List.getElem_cons_succ]
            refine wpAnyH_take (i := 7) (v := ?vk7) rfl (by kernel_rfl) (by kernel_rfl) (by kernel_rfl) (fun _ _ _ h => h) (Or.inl ⟨by rfl, ?hk7⟩) hHeld ?rk7
            case hk7 => intro w9 hSw; (try dsimp only at hSw); first | (go_simp; done) | (go_simp; with_reducible rfl) | (go_simp; simp; done)
            try simp only [Act.put, List.setIfInBounds_toArray, List.set_cons_zero, List.set_cons_succ, List.getElem_toArray, List.getElem_cons_zero, List.getElem_cons_succ]
            refine wpAnyH_take (i := 8) (v := ?vk8) rfl (by kernel_rfl) (by kernel_rfl) (by kernel_rfl) (fun _ _ _ h => h) (Or.inl ⟨by rfl, ?hk8⟩) hHeld ?rk8
            case hk8 => intro w9 hSw; (try dsimp only at hSw); first | (go_simp; done) | (go_simp; with_reducible rfl) | (go_simp; simp; done)
            try simp only [Act.put, List.setIfInBounds_toArray, List.set_cons_zero, List.set_cons_succ, List.getElem_toArray, List.getElem_cons_zero, List.getElem_cons_succ]
            refine wpAnyH_take (i := 9) (v := ?vk9) rfl (by kernel_rfl) (by kernel_rfl) (by kernel_rfl) (fun _ _ _ h => h) (Or.inl ⟨by rfl, ?hk9⟩) hHeld ?rk9
            case hk9 => intro w9 hSw; (try dsimp only at hSw); first | (go_simp; done) | (go_simp; with_reducible rfl) | (go_simp; simp; done)
            try simp only [Act.put, List.setIfInBounds_toArray, List.set_cons_zero, List.set_cons_succ, List.getElem_toArray, List.getElem_cons_zero, List.getElem_cons_succ]
            refine wpAnyH_done (by kernel_rfl) ?_ _
            go_wp2
            go_ret
            exact ⟨by simp, below_on B1.out (below_on C4.out HB6.out)⟩
  · have hCn : (C != 0) = true := by simpa using hC
    go_wp2_with fail
    generalize w5.alloc (.cells #[.int .i64 C, .slice aP lp cP] 35) = W5 at C5 HP r0 R1 ⊢
    refine wp_region_held_drew (S := fun w' => w'.cell? ⟨w5.heap.size, 0, none⟩ = some (.int .i64 C)) (by kernel_rfl) r0 (fun hHeld => ?_)
    refine wpAnyH_take (i := 0) (v := ?vd0) rfl (by kernel_rfl) (by kernel_rfl) (by kernel_rfl) (fun _ _ _ h => h) (Or.inl ⟨by rfl, ?hd0⟩) hHeld ?rd0
    case hd0 => intro w9 hSw; (try dsimp only at hSw); first | (go_simp; done) | (go_simp; with_reducible rfl) | (go_simp; simp; done)
    try simp only [Act.put, List.setIfInBounds_toArray, List.set_cons_zero, List.set_cons_succ, List.getElem_toArray, List.getElem_cons_zero]
    refine wpAnyH_take (i := 1) (v := ?vd1) rfl (by kernel_rfl) (by kernel_rfl) (by kernel_rfl) (fun _ _ _ h => h) (Or.inl ⟨by rfl, ?hd1⟩) hHeld ?rd1
    case hd1 => intro w9 hSw; (try dsimp only at hSw); first | (go_simp; done) | (go_simp; with_reducible rfl) | (go_simp; simp; done)
    try simp only [Act.put, List.setIfInBounds_toArray, List.set_cons_zero, List.set_cons_succ, List.getElem_toArray, List.getElem_cons_zero, List.getElem_cons_succ]
    refine wpAnyH_take (i := 4) (v := ?vd4) rfl (by kernel_rfl) (by kernel_rfl) (by kernel_rfl) (fun _ _ _ h => h) (Or.inl ⟨by rfl, ?hd4⟩) hHeld ?rd4
    case hd4 => intro w9 hSw; (try dsimp only at hSw); first | (go_simp; done) | (go_simp; with_reducible rfl) | (go_simp; simp; done)
    try simp only [Act.put, List.setIfInBounds_toArray, List.set_cons_zero, List.set_cons_succ, List.getElem_toArray, List.getElem_cons_zero, List.getElem_cons_succ]
    refine wpAnyH_take (i := 5) (v := ?vd5) rfl (by kernel_rfl) (by kernel_rfl) (by kernel_rfl) (fun _ _ _ h => h) (Or.inl ⟨by rfl, ?hd5⟩) hHeld ?rd5
    case hd5 => intro w9 hSw; (try dsimp only at hSw); first | (go_simp; done) | (go_simp; with_reducible rfl) | (go_simp; simp; done)
    try simp only [Act.put, List.setIfInBounds_toArray, List.set_cons_zero, List.set_cons_succ, List.getElem_toArray, List.getElem_cons_zero, List.getElem_cons_succ]
    refine wpAnyH_ready (rs := [2]) (by kernel_rfl) (by simp) (AllReadyH.cons rfl (fun K hK => ?_) AllReadyH.nil)
    go_simp
    go_at_call 10
    refine (KQ.out _ (below_on C5.out (below_drewN W5 1))).mono ?_
    rintro e w6 ⟨z6, rfl, hb6, ho6⟩
    have e0 := cell_later hb6 hHeld
    have HB6 := hide (below_on (below_on C5.out (below_drewN W5 1)) hb6)
    clear hb6 ho6
    refine hK.out _ _ e0 (fun hHeld => ?_)
    clear hK K
    try simp only [Act.put, List.setIfInBounds_toArray, List.set_cons_zero, List.set_cons_succ, List.getElem_toArray, List.getElem_cons_zero, List.getElem_cons_succ]
    refine wpAnyH_take (i := 3) (v := ?vd3) rfl (by kernel_rfl) (by kernel_rfl) (by kernel_rfl) (fun _ _ _ h => h) (Or.inl ⟨by rfl, ?hd3⟩) hHeld ?rd3
    case hd3 => intro w9 hSw; (try dsimp only at hSw); first | (go_simp; done) | (go_simp; with_reducible rfl) | (go_simp; simp; done)
    try simp only [Act.put, List.setIfInBounds_toArray, List.set_cons_zero, List.set_cons_succ, List.getElem_toArray, List.getElem_cons_zero, List.getElem_cons_succ]
    refine wpAnyH_take (i := 6) (v := ?vd6) rfl (by kernel_rfl) (by kernel_rfl) (by kernel_rfl) (fun _ _ _ h => h) (Or.inl ⟨by rfl, ?hd6⟩) hHeld ?rd6
    case hd6 => intro w9 hSw; (try dsimp only at hSw); first | (go_simp; done) | (go_simp; with_reducible rfl) | (go_simp; simp; done)
    try simp only [Act.put, List.setIfInBounds_toArray, List.set_cons_zero, List.set_cons_succ, List.getElem_toArray, List.getElem_cons_zero, List.getElem_cons_succ]
    refine wpAnyH_take (i := 7) (v := ?vd7) rfl (by kernel_rfl) (by kernel_rfl) (by kernel_rfl) (fun _ _ _ h => h) (Or.inl ⟨by rfl, ?hd7⟩) hHeld ?rd7
    case hd7 => intro w9 hSw; (try dsimp only at hSw); first | (go_simp; done) | (go_simp; with_reducible rfl) | (go_simp; simp; done)
    try simp only [Act.put, List.setIfInBounds_toArray, List.set_cons_zero, List.set_cons_succ, List.getElem_toArray, List.getElem_cons_zero, List.getElem_cons_succ]
    refine wpAnyH_done (by kernel_rfl) ?_ _
    go_wp2
    go_ret
    exact ⟨by simp, below_on B1.out (below_on C4.out HB6.out)⟩
end Go.Proofs.YtamknomapabmfaaGreat
