/- L4 Open OpenP OpenE OpenR in one text: what each says stands at its head below. -/
import Derived.Test.YtlmaopljihbdkaaGreatG33
import Derived.Test.YtlmaopljihbdkaaGreatG10
import Derived.Test.YtlmaopljihbdkaaGreatG01
import Derived.ProofKit
import Derived.Lib.SmallJoins
import Derived.Deep.SlicePairs
import Derived.Test.YtlmaopljihbdkaaGreatG09
import Derived.Test.YtlmaopljihbdkaaGreatG13
/- Chapter 4, the model's side: 'l4Last', 'l4Puts', walked. -/
namespace Go.Proofs.YtlmaopljihbdkaaGreat
open Go.RowKit

set_option maxHeartbeats 1000000 in
set_option maxRecDepth 4000 in
theorem l4Last {S : Nat → Prop} {w : World} {v : Value} {qs : List (Int × List Int)} (a : Int) (hv : RdP S w v qs) :
    Calls Tryz.prog 138 #[v, .int .i64 a] w fun e w' => w' = w ∧ ((e = .returned (.int .i64 (-1)) ∧ ∀ j, j < qs.length → (qs.getD j (0, [])).1 ≠ a) ∨ ∃ i : Nat, e = .returned (.int .i64 (i : Int)) ∧ i < qs.length ∧ (qs.getD i (0, [])).1 = a ∧ ∀ j, i < j → j < qs.length → (qs.getD j (0, [])).1 ≠ a) := by
  obtain ⟨ao, c, rfl, hm⟩ := hv.shape
  have HV := hide hv
  obtain ⟨n, hn⟩ : ∃ n, qs.length = n := ⟨_, rfl⟩
  have HN := hide hn
  rw [hn] at HV hm ⊢
  clear hv hn
  have hw0 : IntKind.i64.wrap ((n : Int) - 1) = (n : Int) - 1 := by simp [IntKind.wrap, IntKind.bits, IntKind.signed]; omega
  go_enter Tryz.func138, Tryz.ntmps138
  go_wp2
  go_loopw [5] (fun i wr => ∃ k : Nat, k ≤ n ∧ i = .int .i64 ((k : Int) - 1) ∧ Hid (∀ j, k ≤ j → j < n → (qs.getD j (0, [])).1 ≠ a) ∧ wr = w) (fun i _ => (intOf i + 1).toNat)
  case atStart => exact ⟨n, Nat.le_refl _, rfl, fun j h1 h2 => by omega, rfl⟩
  case round =>
    obtain ⟨k, hk, rfl, HA, rfl⟩ := hrel
    by_cases hk0 : k = 0
    · subst hk0
      have HR : Hid (∀ j, j < n → (qs.getD j (0, [])).1 ≠ a) := fun j hj => HA.out j (Nat.zero_le _) hj
      go_wp2
      go_ret
      exact ⟨rfl, Or.inl ⟨rfl, HR.out⟩⟩
    · obtain ⟨i, rfl⟩ : ∃ i, k = i + 1 := ⟨k - 1, by omega⟩
      have e1 : ((i + 1 : Nat) : Int) - 1 = (i : Int) := by omega
      rw [e1]
      obtain ⟨b, off, V, rfl, q1, _, _⟩ := HV.out.at (k := i) (by rw [HN.out]; omega)
      obtain ⟨x, hx⟩ : ∃ x, (qs.getD i (0, [])).1 = x := ⟨_, rfl⟩
      have HX := hide hx
      rw [hx] at q1
      have hi0 : (0 : Int) ≤ (i : Int) := Int.natCast_nonneg _
      have hi1 : (i : Int) < (n : Int) := by omega
      have hwi : IntKind.i64.wrap ((i : Int) - 1) = (i : Int) - 1 := by simp [IntKind.wrap, IntKind.bits, IntKind.signed]; omega
      clear hx e1
      by_cases hxa : x = a
      · subst hxa
        have HR : Hid (∀ j, i < j → j < n → (qs.getD j (0, [])).1 ≠ x) := fun j h1 h2 => HA.out j h1 h2
        go_wp2
        go_ret
        exact ⟨rfl, Or.inr ⟨i, rfl, by omega, HX.out, HR.out⟩⟩
      · have HA2 : Hid (∀ j, i ≤ j → j < n → (qs.getD j (0, [])).1 ≠ a) := by
          intro j h1 h2
          by_cases e : j = i
          · subst e; rw [HX.out]; exact hxa
          · exact HA.out j (by omega) h2
        go_wp2
        go_roundw
        case rel => exact ⟨i, by omega, by first | rfl | go_num, HA2.out, by simp⟩
        case measure => simp [intOf]; try omega

set_option maxHeartbeats 1000000 in
set_option maxRecDepth 4000 in
theorem l4Puts {T : Nat → Prop} {w : World} {v : Value} {ps : List (Int × List Int)} (hv : RdP T w v ps) :
    Calls Tryz.prog 90 #[v] w fun e w' => e = .returned (.int .i64 (hpF 60 ps)) ∧ ∃ q, w' = w.drewN q := by
  obtain ⟨ao, c, rfl, hm'⟩ := hv.shape
  have HV := hide hv
  obtain ⟨m, hm⟩ : ∃ m, ps.length = m := ⟨_, rfl⟩
  have HM := hide hm
  rw [hm] at HV hm' ⊢
  clear hv hm
  by_cases h70 : 60 < m
  · have HZ := hide (show hpF 60 ps = 2 by unfold hpF; rw [if_pos (by rw [HM.out]; exact h70)])
    go_enter Tryz.func90, Tryz.ntmps90
    go_wp2
    go_ret
    exact ⟨ret_int HZ.out.symm, 0, rfl⟩
  · have HE := hide (show hpF 60 ps = firstP 40 ps by unfold hpF; rw [if_neg (by rw [HM.out]; exact h70)])
    go_enter Tryz.func90, Tryz.ntmps90
    go_wp2
    go_loopw [3] (fun i wr => ∃ j : Nat, j ≤ m ∧ i = .int .i64 j ∧ Hid (firstP 40 ps = firstP 40 (ps.drop j)) ∧ Hid (∃ q, wr = w.drewN q)) (fun i _ => m - (intOf i).toNat)
    case atStart => exact ⟨0, Nat.zero_le _, rfl, by simp [Hid], ⟨0, rfl⟩⟩
    case round =>
      obtain ⟨j, hj, rfl, HG, HB2⟩ := hrel
      by_cases hlt2 : j < m
      · obtain ⟨b2, off2, V2, rfl, q1, q2, q3⟩ := HV.out.at (k := j) (by rw [HM.out]; exact hlt2)
        have g1 := (drewN_cell HB2.out _).trans q1
        have g2 := (drewN_cell HB2.out _).trans q2
        have R2 : Hid (RdI T wr V2 (ps.getD j (0, [])).2) := by obtain ⟨q, rfl⟩ := HB2; exact q3
        obtain ⟨x, hx⟩ : ∃ x, (ps.getD j (0, [])).1 = x := ⟨_, rfl⟩
        have HX := hide hx
        rw [hx] at g1
        clear q1 q2 q3 hx
        by_cases hat : 0 ≤ x ∧ x < 40
        · obtain ⟨ha1, ha2⟩ := hat
          by_cases hw : wordsF (ps.getD j (0, [])).2 = 0
          · have HF2 := hide (HG.out.trans (firstP_ok (by rw [HM.out]; exact hlt2) (by rw [HX.out]; exact ⟨ha1, ha2⟩) hw))
            have HW := hide hw
            clear hw
            go_wp2_with fail
            refine (l2Home_yes x ha1 (by omega) _).mono ?_
            rintro e w1 ⟨rfl, rfl⟩
            go_wp2_with fail
            refine (l1Words R2.out).mono ?_
            rintro e w' ⟨he, hq⟩
            rw [HW.out] at he
            subst he
            have HB3 := hide (drewN_on HB2.out hq)
            clear hq
            go_wp2
            go_roundw
            case rel => exact ⟨j + 1, by omega, by go_num, HF2.out, HB3.out⟩
            case measure => simp [intOf]; omega
          · have HF2 := hide (HE.out.trans (HG.out.trans (firstP_no (by rw [HM.out]; exact hlt2) (by rw [HX.out]; exact ⟨ha1, ha2⟩) hw)))
            obtain ⟨z, hz⟩ : ∃ z, wordsF (ps.getD j (0, [])).2 = z := ⟨_, rfl⟩
            have HW := hide hz
            rw [hz] at hw
            clear hz
            go_wp2_with fail
            refine (l2Home_yes x ha1 (by omega) _).mono ?_
            rintro e w1 ⟨rfl, rfl⟩
            go_wp2_with fail
            refine (l1Words R2.out).mono ?_
            rintro e w' ⟨he, hq⟩
            rw [HW.out] at he
            subst he
            have HB3 := hide (drewN_on HB2.out hq)
            clear hq
            go_wp2
            go_ret
            exact ⟨ret_int (by rw [HF2.out, HW.out]), HB3.out⟩
        · have HZ := hide (HE.out.trans (HG.out.trans (firstP_at (n := 40) (by rw [HM.out]; exact hlt2) (by rw [HX.out]; exact hat))))
          have HA := hide (show x < 0 ∨ 39 < x by omega)
          clear hat
          go_wp2_with fail
          refine (l2Home_no x HA.out _).mono ?_
          rintro e w1 ⟨rfl, rfl⟩
          go_wp2
          go_ret
          exact ⟨ret_int HZ.out.symm, HB2.out⟩
      · have HZ := hide (HE.out.trans (HG.out.trans (firstP_end (by rw [HM.out]; omega))))
        go_wp2
        go_ret
        exact ⟨ret_int HZ.out.symm, HB2.out⟩
end Go.Proofs.YtlmaopljihbdkaaGreat
/- From the form's readings of arguments to the readings that the walks take. -/
namespace Go.Proofs.YtlmaopljihbdkaaGreat
open Go.ChangeShapes Go.WideShapes Go.ChangeAt Go.RowKit Go.Deep

theorem Tryz.own : ownKnob Tryz.prog.godebug = none := by kernel_rfl
theorem Tryz.laidOut : laidOutB Tryz.prog = true := by kernel_rfl
theorem Tryz.cellsInt : Tryz.prog.cellsOf 2 = 1 := by kernel_rfl
theorem Tryz.cellsInts : Tryz.prog.cellsOf 22 = 1 := by kernel_rfl

theorem addr_plain {w : World} {a : Addr} {v : Value} (h : w.cell? a = some v) : a = ⟨a.block, a.off, none⟩ := by
  obtain ⟨b, o, s⟩ := a
  cases s with
  | none => rfl
  | some k =>
    unfold World.cell? at h
    revert h
    cases w.heap[(⟨b, o, some k⟩ : Addr).block]? with
    | none => intro h; cases h
    | some ob => cases ob <;> intro h <;> simp at h

theorem addr_add (b o i : Nat) : (⟨b, o, none⟩ : Addr).add i = ⟨b, o + i, none⟩ := Addr.add_lit ..

section
variable {H : Type} {enc : TypeId × Value → H} {w : World}

theorem rdI_of {fuel : Nat} {held : Bool} {v : Value} {x : DataW H × List MemPlace} (h : DataW.trod enc Tryz.prog w 0 (fun _ => true) held fuel 22 [v] = some x) : ∃ xs, RdI (fun _ => True) w v xs := by
  rcases open_ints Tryz.underlying22 Tryz.underlying2 Tryz.cellsInt h with ⟨hcs, _⟩ | ⟨a, len, cap, zs, hcs, _, hl, hm, hz, _, hcell, _⟩
  · simp at hcs
    exact ⟨[], none, 0, by simp [hcs], by simp, fun h => absurd rfl h⟩
  · simp at hcs
    simp only [if_true] at hz
    unfold maxLen at hm
    have hlen : (zs.take len).length = len := by simp; omega
    refine ⟨zs.take len, some a, cap - len, by rw [hcs, hlen, Nat.add_sub_cancel' hl], by rw [hlen]; omega, fun hne => ?_⟩
    have hpos : 0 < len := by rw [← hlen]; exact List.length_pos_iff.2 hne
    have e := addr_plain (hcell 0 (by omega))
    have e0 : a.add 0 = a := by simp [Addr.add]
    rw [e0] at e
    refine ⟨a.block, a.off, by rw [← e], trivial, fun i hi => ?_⟩
    rw [hlen] at hi
    rw [← addr_add, ← e, hcell i (by omega)]
    simp [List.getD, hi]

theorem rdII_of {fuel : Nat} {held : Bool} {v : Value} {x : DataW H × List MemPlace} (h : DataW.trod enc Tryz.prog w 0 (fun _ => true) held fuel 51 [v] = some x) : ∃ xss, RdII (fun _ => True) w v xss := by
  rcases open_slice1 Tryz.underlying51 Tryz.cellsInts h with ⟨hcs, _⟩ | ⟨a, len, cap, m, n, V, D, Pl, hcs, _, hl, hm, hmm, _, hx⟩
  · simp at hcs
    exact ⟨[], none, 0, by simp [hcs], by simp, fun h => absurd rfl h⟩
  · simp at hcs
    simp only [if_true] at hmm
    unfold maxLen at hm
    obtain ⟨F, hF⟩ := choose_lt (α := List Int) (n := len) (p := fun i xs => RdI (fun _ => True) w (V i) xs) (fun i hi => rdI_of (hx i (by omega)).2)
    have hlen : ((List.range len).map F).length = len := by simp
    refine ⟨(List.range len).map F, some a, cap, by rw [hcs, hlen], by rw [hlen]; omega, fun hne => ?_⟩
    have hpos : 0 < len := by rw [← hlen]; exact List.length_pos_iff.2 hne
    have e := addr_plain (hx 0 (by omega)).1
    have e0 : a.add 0 = a := by simp [Addr.add]
    rw [e0] at e
    refine ⟨a.block, a.off, V, by rw [← e], trivial, fun i hi => ?_⟩
    rw [hlen] at hi
    refine ⟨by rw [← addr_add, ← e]; exact (hx i (by omega)).1, ?_⟩
    have : ((List.range len).map F).getD i [] = F i := by simp [List.getD, hi]
    rw [this]
    exact hF i hi

theorem rdP_of {fuel : Nat} {held : Bool} {v : Value} {x : DataW H × List MemPlace} (h : DataW.trod enc Tryz.prog w 0 (fun _ => true) held fuel 40 [v] = some x) : ∃ ps, RdP (fun _ => True) w v ps := by
  rcases open_slice_pairs Tryz.underlying40 Tryz.underlying85 (by kernel_rfl) rfl rfl (by kernel_rfl) (by kernel_rfl) h with ⟨hcs, _⟩ | ⟨a, len, cap, m, n, V0, V1, D0, D1, P0, P1, hcs, _, hl, hm, hmm, _, hx⟩
  · simp at hcs
    exact ⟨[], none, 0, by simp [hcs], by simp, fun h => absurd rfl h⟩
  · simp at hcs
    simp only [if_true] at hmm
    unfold maxLen at hm
    obtain ⟨F, hF⟩ := choose_lt (α := Int × List Int) (n := len) (p := fun i p => V0 i = .int .i64 p.1 ∧ RdI (fun _ => True) w (V1 i) p.2) (fun i hi => by
      obtain ⟨k, hk, _⟩ := DataW.trod_int Tryz.underlying2 (hx i (by omega)).2.2.1
      obtain ⟨xs, hxs⟩ := rdI_of (hx i (by omega)).2.2.2
      exact ⟨(k, xs), by simpa using hk, hxs⟩)
    have hlen : ((List.range len).map F).length = len := by simp
    refine ⟨(List.range len).map F, some a, cap, by rw [hcs, hlen], by rw [hlen]; omega, fun hne => ?_⟩
    have hpos : 0 < len := by rw [← hlen]; exact List.length_pos_iff.2 hne
    have e := addr_plain (hx 0 (by omega)).1
    have e0 : a.add (0 * 2) = a := by simp [Addr.add]
    rw [e0] at e
    refine ⟨a.block, a.off, V1, by rw [← e], trivial, fun i hi => ?_⟩
    rw [hlen] at hi
    have e2 : ((List.range len).map F).getD i (0, []) = F i := by simp [List.getD, hi]
    rw [e2, ← (hF i hi).1]
    refine ⟨by rw [← addr_add, ← e]; exact (hx i (by omega)).1, by rw [Nat.add_assoc, ← addr_add, ← e]; exact (hx i (by omega)).2.1, (hF i hi).2⟩

set_option maxRecDepth 100000 in
/-- A list of numbers among the arguments. -/
theorem rdIarg_of {r : Reach} {b0 : Nat} {v : Value} {d : DataW H} {p : List MemPlace} (hv : Value.okWide Tryz.prog w r b0 22 v) (h : DataW.Trod enc Tryz.prog w 0 (fun _ => true) true 22 v d p) : ∃ xs, RdI (fun _ => True) w v xs := by
  obtain ⟨a0, len, cap, rfl⟩ := okWide_slice Tryz.underlying22 hv
  obtain ⟨fuel, hf⟩ := h
  exact rdI_of (by simpa [Value.cells] using hf)

set_option maxRecDepth 100000 in
/-- A disk among the arguments. -/
theorem rdD_of {r : Reach} {b0 : Nat} {v : Value} {d : DataW H} {p : List MemPlace} (hv : Value.okWide Tryz.prog w r b0 53 v) (h : DataW.Trod enc Tryz.prog w 0 (fun _ => true) true 53 v d p) :
    ∃ u u' xss ps, v = .agg #[u, u'] ∧ RdII (fun _ => True) w u xss ∧ RdP (fun _ => True) w u' ps := by
  obtain ⟨u, u', y0, y1, m, rfl, _, _, h0, h1⟩ := Joins.open_agg2 Tryz.underlying53 (by kernel_rfl) (by kernel_rfl) hv h
  obtain ⟨xss, hx⟩ := rdII_of h0
  obtain ⟨ps, hp⟩ := rdP_of h1
  exact ⟨u, u', xss, ps, rfl, hx, hp⟩
end
end Go.Proofs.YtlmaopljihbdkaaGreat
/- Puts among the arguments. -/
namespace Go.Proofs.YtlmaopljihbdkaaGreat
open Go.ChangeShapes Go.WideShapes Go.ChangeAt Go.RowKit

set_option maxRecDepth 100000 in
/-- A list of puts among the arguments. -/
theorem rdParg_of {H : Type} {enc : TypeId × Value → H} {w : World} {r : Reach} {b0 : Nat} {v : Value} {d : DataW H} {p : List MemPlace} (hv : Value.okWide Tryz.prog w r b0 40 v) (h : DataW.Trod enc Tryz.prog w 0 (fun _ => true) true 40 v d p) : ∃ ps, RdP (fun _ => True) w v ps := by
  obtain ⟨a0, len, cap, rfl⟩ := okWide_slice Tryz.underlying40 hv
  obtain ⟨fuel, hf⟩ := h
  exact rdP_of (by simpa [Value.cells] using hf)
end Go.Proofs.YtlmaopljihbdkaaGreat
/- Entries among the arguments. -/
namespace Go.Proofs.YtlmaopljihbdkaaGreat
open Go.ChangeShapes Go.WideShapes Go.ChangeAt Go.RowKit Go.Deep

set_option maxRecDepth 100000 in
theorem rdEn_of {H : Type} {enc : TypeId × Value → H} {w : World} {fuel : Nat} {held : Bool} {v : Value} {x : DataW H × List MemPlace} (h : DataW.trod enc Tryz.prog w 0 (fun _ => true) held fuel 23 [v] = some x) : ∃ os, RdJ (fun _ => True) w v os := by
  rcases open_slice Tryz.underlying23 h with ⟨hcs, _⟩ | ⟨a, len, cap, m, n, D, Pl, hcs, _, hl, hm, hmm, _, hx⟩
  · simp at hcs
    exact ⟨[], none, 0, by simp [hcs], by simp, fun h => absurd rfl h⟩
  · simp at hcs
    simp only [if_true] at hmm
    unfold maxLen at hm
    have ce : Tryz.prog.cellsOf 106 = 3 := by kernel_rfl
    have each : ∀ i, i < len → ∃ q : Oj × Value, w.cell? (a.add (i * 3)) = some (.int .i64 q.1.1) ∧ w.cell? (a.add (i * 3 + 1)) = some (.int .i64 q.1.2.1) ∧ w.cell? (a.add (i * 3 + 2)) = some q.2 ∧ RdI (fun _ => True) w q.2 q.1.2.2 := by
      intro i hi
      obtain ⟨cs', h1, h2⟩ := hx i (by omega)
      rw [ce] at h1
      obtain ⟨_, hlen, hcell⟩ := World.cells?_some h1
      obtain ⟨ys, k, hk, hxy, _, hxl, hf⟩ := DataW.trod_struct Tryz.underlying106 h2
      match ys, hxl, cs', hlen with
      | [y0, y1, y2], _, [v0, v1, v2], _ =>
        have g0 := hf 0 _ rfl
        have g1 := hf 1 _ rfl
        have g2 := hf 2 _ rfl
        have e0 := hcell 0 (by omega)
        have e1 := hcell 1 (by omega)
        have e2 := hcell 2 (by omega)
        rw [add_add] at e0 e1 e2
        have c1 : Tryz.prog.cellsOf 2 = 1 := by kernel_rfl
        have c2 : Tryz.prog.cellsOf 22 = 1 := by kernel_rfl
        simp [c1, c2] at g0 g1 g2
        obtain ⟨k0, hk0, _⟩ := DataW.trod_int Tryz.underlying2 g0
        obtain ⟨k1, hk1, _⟩ := DataW.trod_int Tryz.underlying2 g1
        obtain ⟨xs, hxs⟩ := rdI_of g2
        simp at hk0 hk1
        subst hk0 hk1
        exact ⟨((k0, k1, xs), v2), by simpa using e0, by simpa using e1, by simpa using e2, hxs⟩
    obtain ⟨q, hq⟩ := choose_lt each
    have hlen : ((List.range len).map fun i => (q i).1).length = len := by simp
    refine ⟨(List.range len).map fun i => (q i).1, some a, cap, by rw [hcs, hlen], by rw [hlen]; omega, fun hne => ?_⟩
    have hpos : 0 < len := by rw [← hlen]; exact List.length_pos_iff.2 hne
    have e := addr_plain (hq 0 (by omega)).1
    have e0 : a.add (0 * 3) = a := by simp [Addr.add]
    rw [e0] at e
    refine ⟨a.block, a.off, fun i => (q i).2, by rw [← e], trivial, fun i hi => ?_⟩
    rw [hlen] at hi
    have e2 : ((List.range len).map fun i => (q i).1).getD i oj0 = (q i).1 := by simp [List.getD, hi]
    rw [e2]
    obtain ⟨k0, k1, k2, k3⟩ := hq i hi
    exact ⟨by rw [← addr_add, ← e]; exact k0, by rw [Nat.add_assoc, ← addr_add, ← e]; exact k1, by rw [Nat.add_assoc, ← addr_add, ← e]; exact k2, k3⟩

set_option maxRecDepth 100000 in
/-- A list of entries among the arguments. -/
theorem rdEnarg_of {H : Type} {enc : TypeId × Value → H} {w : World} {r : Reach} {b0 : Nat} {v : Value} {d : DataW H} {p : List MemPlace} (hv : Value.okWide Tryz.prog w r b0 23 v) (h : DataW.Trod enc Tryz.prog w 0 (fun _ => true) true 23 v d p) : ∃ os, RdJ (fun _ => True) w v os := by
  obtain ⟨a0, len, cap, rfl⟩ := okWide_slice Tryz.underlying23 hv
  obtain ⟨fuel, hf⟩ := h
  exact rdEn_of (by simpa [Value.cells] using hf)
section
variable {H : Type} {enc : TypeId × Value → H} {w : World}

set_option maxRecDepth 100000 in
/-- A entry among the arguments. -/
theorem rdEntry_of {r : Reach} {b0 : Nat} {v : Value} {d : DataW H} {p : List MemPlace} (hv : Value.okWide Tryz.prog w r b0 106 v) (h : DataW.Trod enc Tryz.prog w 0 (fun _ => true) true 106 v d p) :
    ∃ s t y xs, v = .agg #[.int .i64 s, .int .i64 t, y] ∧ RdI (fun _ => True) w y xs := by
  obtain ⟨v0, v1, v2, y0, y1, y2, m, rfl, _, _, h0, h1, h2⟩ := Joins.open_agg3 Tryz.underlying106 (by kernel_rfl) (by kernel_rfl) hv h
  obtain ⟨s, hs, _⟩ := DataW.trod_int Tryz.underlying2 h0
  obtain ⟨t, ht, _⟩ := DataW.trod_int Tryz.underlying2 h1
  obtain ⟨xs, hx⟩ := rdI_of h2
  simp at hs ht
  subst hs ht
  exact ⟨s, t, v2, xs, rfl, hx⟩

end
end Go.Proofs.YtlmaopljihbdkaaGreat
/- A store among the arguments. -/
namespace Go.Proofs.YtlmaopljihbdkaaGreat
open Go.ChangeShapes Go.WideShapes Go.ChangeAt Go.RowKit Go.Deep

set_option maxRecDepth 100000 in
theorem rdRaft_of {H : Type} {enc : TypeId × Value → H} {w : World} {r : Reach} {b0 : Nat} {v : Value} {d : DataW H} {p : List MemPlace} (hv : Value.okWide Tryz.prog w r b0 25 v) (h : DataW.Trod enc Tryz.prog w 0 (fun _ => true) true 25 v d p) :
    ∃ (s : Rf) (y z : Value), v = .agg #[.int .i64 s.tm, .int .i64 s.vt, .int .i64 s.si, .int .i64 s.st, y, z] ∧ RdI (fun _ => True) w y s.sn ∧ RdJ (fun _ => True) w z s.lg := by
  obtain ⟨cs, rfl, hsz⟩ := okWide_struct Tryz.underlying25 hv
  have ce : Tryz.prog.cellsOf 25 = 6 := by kernel_rfl
  rw [ce] at hsz
  obtain ⟨fuel, hf0⟩ := h
  obtain ⟨ys, k, hk, hxy, _, hxl, hf⟩ := DataW.trod_struct Tryz.underlying25 hf0
  obtain ⟨l⟩ := cs
  have hsz' : l.length = 6 := hsz
  match ys, hxl, l, hsz' with
  | [y0, y1, y2, y3, y4, y5], _, [v0, v1, v2, v3, v4, v5], _ =>
    have g0 := hf 0 _ rfl
    have g1 := hf 1 _ rfl
    have g2 := hf 2 _ rfl
    have g3 := hf 3 _ rfl
    have g4 := hf 4 _ rfl
    have g5 := hf 5 _ rfl
    have c1 : Tryz.prog.cellsOf 2 = 1 := by kernel_rfl
    have c2 : Tryz.prog.cellsOf 22 = 1 := by kernel_rfl
    have c3 : Tryz.prog.cellsOf 23 = 1 := by kernel_rfl
    simp [c1, c2, c3, Value.cells] at g0 g1 g2 g3 g4 g5
    obtain ⟨k0, hk0, _⟩ := DataW.trod_int Tryz.underlying2 g0
    obtain ⟨k1, hk1, _⟩ := DataW.trod_int Tryz.underlying2 g1
    obtain ⟨k2, hk2, _⟩ := DataW.trod_int Tryz.underlying2 g2
    obtain ⟨k3, hk3, _⟩ := DataW.trod_int Tryz.underlying2 g3
    obtain ⟨xs, hxs⟩ := rdI_of g4
    obtain ⟨os, hos⟩ := rdEn_of g5
    simp at hk0 hk1 hk2 hk3
    subst hk0 hk1 hk2 hk3
    exact ⟨⟨k0, k1, k2, k3, xs, os⟩, v4, v5, rfl, hxs, hos⟩
end Go.Proofs.YtlmaopljihbdkaaGreat
