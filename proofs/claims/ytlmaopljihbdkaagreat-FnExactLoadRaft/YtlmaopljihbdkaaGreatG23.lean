/- Spec2 Impl2 HomeF Obj1 BuiltEn in one text: what each says stands at its head below. -/
import Derived.Test.YtlmaopljihbdkaaGreatG05
import Derived.Test.YtlmaopljihbdkaaGreatG13
import Derived.Test.YtlmaopljihbdkaaGreatG06
import Derived.Test.YtlmaopljihbdkaaGreatG18
/- Chapter 2, the model's side: 'spec.l2Fault', 'spec.HeaderFault', walked. -/
namespace Go.Proofs.YtlmaopljihbdkaaGreat
open Go.RowKit

/-- The fault of a header. -/
def headF (s t : Int) (xs : List Int) : Int :=
  if 1 ≤ s ∧ s ≤ 65000 ∧ 0 ≤ t ∧ t ≤ 23 then (if 24 < xs.length then 2 else if (∀ i, i < xs.length → 0 ≤ xs.getD i 0 ∧ xs.getD i 0 ≤ 39) then 0 else 3) else 3
theorem headF_range {s t : Int} {xs : List Int} (h : ¬ (1 ≤ s ∧ s ≤ 65000 ∧ 0 ≤ t ∧ t ≤ 23)) : headF s t xs = 3 := by unfold headF; rw [if_neg h]
theorem headF_many {s t : Int} {xs : List Int} (h : 1 ≤ s ∧ s ≤ 65000 ∧ 0 ≤ t ∧ t ≤ 23) (h2 : 24 < xs.length) : headF s t xs = 2 := by unfold headF; rw [if_pos h, if_pos h2]
theorem headF_ok {s t : Int} {xs : List Int} (h : 1 ≤ s ∧ s ≤ 65000 ∧ 0 ≤ t ∧ t ≤ 23) (h2 : ¬ 24 < xs.length) (h3 : ∀ i, i < xs.length → 0 ≤ xs.getD i 0 ∧ xs.getD i 0 ≤ 39) : headF s t xs = 0 := by unfold headF; rw [if_pos h, if_neg h2, if_pos h3]
theorem headF_at {s t : Int} {xs : List Int} (h : 1 ≤ s ∧ s ≤ 65000 ∧ 0 ≤ t ∧ t ≤ 23) (h2 : ¬ 24 < xs.length) {i : Nat} (hi : i < xs.length) (h3 : ¬ (0 ≤ xs.getD i 0 ∧ xs.getD i 0 ≤ 39)) : headF s t xs = 3 := by
  unfold headF; rw [if_pos h, if_neg h2, if_neg (fun k => h3 (k i hi))]
theorem headF_zero {s t : Int} {xs : List Int} (h : headF s t xs = 0) : (1 ≤ s ∧ s ≤ 65000 ∧ 0 ≤ t ∧ t ≤ 23) ∧ xs.length ≤ 24 ∧ ∀ i, i < xs.length → 0 ≤ xs.getD i 0 ∧ xs.getD i 0 ≤ 39 := by
  unfold headF at h
  split at h
  · rename_i h1
    split at h
    · exact absurd h (by decide)
    · rename_i h2
      split at h
      · rename_i h3
        exact ⟨h1, by omega, h3⟩
      · exact absurd h (by decide)
  · exact absurd h (by decide)

/-- A header's cells, at whatever place. -/
structure HdAt (w : World) (b o : Nat) (s t : Int) (y : Value) : Prop where
  seq : w.cell? ⟨b, o, none⟩ = some (.int .i64 s)
  start : w.cell? ⟨b, o + 1, none⟩ = some (.int .i64 t)
  addrs : w.cell? ⟨b, o + 2, none⟩ = some y

theorem l2Home_yes (v : Int) (h1 : 0 ≤ v) (h2 : v ≤ 39) (w : World) : Calls Tryz.prog 137 #[.int .i64 v] w fun e w' => e = .returned (.bool true) ∧ w' = w := by
  go_enter Tryz.func137, Tryz.ntmps137
  go_wp2_with fail
  refine (l1In_yes v 0 39 h1 h2 w).mono ?_
  rintro e w1 ⟨rfl, rfl⟩
  go_wp2
  go_ret
  exact ⟨rfl, rfl⟩
theorem l2Home_no (v : Int) (h : v < 0 ∨ 39 < v) (w : World) : Calls Tryz.prog 137 #[.int .i64 v] w fun e w' => e = .returned (.bool false) ∧ w' = w := by
  go_enter Tryz.func137, Tryz.ntmps137
  go_wp2_with fail
  refine (l1In_no v 0 39 h w).mono ?_
  rintro e w1 ⟨rfl, rfl⟩
  go_wp2
  go_ret
  exact ⟨rfl, rfl⟩

set_option maxHeartbeats 2000000 in
set_option maxRecDepth 4000 in
theorem l2Fault {S : Nat → Prop} {w : World} {b o : Nat} {s t : Int} {y : Value} {xs : List Int} (hd : HdAt w b o s t y) (hy : RdI S w y xs) :
    Calls Tryz.prog 235 #[.pointer (some ⟨b, o, none⟩)] w fun e w' => e = .returned (.int .i64 (headF s t xs)) ∧ w' = w := by
  have HY := hide hy
  have hyl : xs.length ≤ 9223372036854775807 := by obtain ⟨_, _, _, h, _⟩ := hy; exact h
  obtain ⟨ay, cy, rfl⟩ := hy.shape
  obtain ⟨n, hn⟩ : ∃ n, xs.length = n := ⟨_, rfl⟩
  have HN := hide hn
  rw [hn] at HY hyl hd
  have c0 := hd.seq
  have c1 := hd.start
  have c2 := hd.addrs
  clear hy hd hn
  obtain ⟨z, hz⟩ : ∃ z, headF s t xs = z := ⟨_, rfl⟩
  have HZ := hide hz
  rw [hz]
  clear hz
  by_cases h1 : 1 ≤ s ∧ s ≤ 65000
  · by_cases h2 : 0 ≤ t ∧ t ≤ 23
    · have hr : 1 ≤ s ∧ s ≤ 65000 ∧ 0 ≤ t ∧ t ≤ 23 := ⟨h1.1, h1.2, h2⟩
      have HRg := hide hr
      clear hr
      by_cases hb : 24 < n
      · have hz2 : z = 2 := HZ.out.symm.trans (headF_many HRg.out (by rw [HN.out]; exact hb))
        subst hz2
        go_enter Tryz.func235, Tryz.ntmps235
        go_wp2_with fail
        refine (l1In_yes s 1 65000 h1.1 h1.2 _).mono ?_
        rintro e w1 ⟨rfl, rfl⟩
        go_wp2_with fail
        refine (l1In_yes t 0 23 h2.1 h2.2 _).mono ?_
        rintro e w1 ⟨rfl, rfl⟩
        go_wp2
        go_ret
        exact ⟨rfl, rfl⟩
      · go_enter Tryz.func235, Tryz.ntmps235
        go_wp2_with fail
        refine (l1In_yes s 1 65000 h1.1 h1.2 _).mono ?_
        rintro e wx ⟨he, hwx⟩
        rw [he, hwx]
        clear he hwx
        go_wp2_with fail
        refine (l1In_yes t 0 23 h2.1 h2.2 _).mono ?_
        rintro e wx ⟨he, hwx⟩
        rw [he, hwx]
        clear he hwx
        go_wp2
        go_loopw [3] (fun i wr => ∃ k : Nat, k ≤ n ∧ i = .int .i64 k ∧ Hid (∀ j, j < k → 0 ≤ xs.getD j 0 ∧ xs.getD j 0 ≤ 39) ∧ wr = w) (fun i _ => n - (intOf i).toNat)
        case atStart => exact ⟨0, Nat.zero_le _, rfl, fun j hj => absurd hj (Nat.not_lt_zero _), rfl⟩
        case round =>
          obtain ⟨k, hk, rfl, HA, rfl⟩ := hrel
          by_cases hlt : k < n
          · obtain ⟨b2, off, rfl, g1⟩ := HY.out.at (k := k) (by rw [HN.out]; exact hlt)
            obtain ⟨x, hx⟩ : ∃ x, xs.getD k 0 = x := ⟨_, rfl⟩
            have HX := hide hx
            rw [hx] at g1
            clear hx
            by_cases hp : 0 ≤ x ∧ x ≤ 39
            · go_wp2_with fail
              refine (l2Home_yes x hp.1 hp.2 _).mono ?_
              rintro e w1 ⟨rfl, rfl⟩
              go_wp2
              go_roundw
              case rel => exact ⟨k + 1, by omega, by go_num, fun j hj => (by by_cases e : j = k; · subst e; rw [HX.out]; exact hp
                                                                             · exact HA.out j (by omega)), by simp⟩
              case measure => simp [intOf]; omega
            · have hz3 : z = 3 := HZ.out.symm.trans (headF_at HRg.out (by rw [HN.out]; exact hb) (i := k) (by rw [HN.out]; exact hlt) (by rw [HX.out]; exact hp))
              subst hz3
              go_wp2_with fail
              refine (l2Home_no x (by omega) _).mono ?_
              rintro e w1 ⟨rfl, rfl⟩
              go_wp2
              go_ret
              exact ⟨rfl, rfl⟩
          · have hz0 : z = 0 := HZ.out.symm.trans (headF_ok HRg.out (by rw [HN.out]; exact hb) (fun i hi => HA.out i (by rw [HN.out] at hi; omega)))
            subst hz0
            go_wp2
            go_ret
            exact ⟨rfl, rfl⟩
    · have hz3 : z = 3 := HZ.out.symm.trans (headF_range (fun h => h2 ⟨h.2.2.1, h.2.2.2⟩))
      subst hz3
      go_enter Tryz.func235, Tryz.ntmps235
      go_wp2_with fail
      refine (l1In_yes s 1 65000 h1.1 h1.2 _).mono ?_
      rintro e w1 ⟨rfl, rfl⟩
      go_wp2_with fail
      refine (l1In_no t 0 23 (by omega) _).mono ?_
      rintro e w1 ⟨rfl, rfl⟩
      go_wp2
      go_ret
      exact ⟨rfl, rfl⟩
  · have hz3 : z = 3 := HZ.out.symm.trans (headF_range (fun h => h1 ⟨h.1, h.2.1⟩))
    subst hz3
    go_enter Tryz.func235, Tryz.ntmps235
    go_wp2_with fail
    refine (l1In_no s 1 65000 (by omega) _).mono ?_
    rintro e w1 ⟨rfl, rfl⟩
    go_wp2
    go_ret
    exact ⟨rfl, rfl⟩

theorem HdAt_new (w : World) (s t : Int) (y : Value) (ty : TypeId) : HdAt (w.alloc (.cells #[.int .i64 s, .int .i64 t, y] ty)) w.heap.size 0 s t y := ⟨by simp [go_sem], by simp [go_sem], by simp [go_sem]⟩
theorem HdAt.later {w w' : World} {b o : Nat} {s t : Int} {y : Value} (h : HdAt w b o s t y) (hb : Below w.heap.size w w') : HdAt w' b o s t y := ⟨cell_later hb h.seq, cell_later hb h.start, cell_later hb h.addrs⟩

end Go.Proofs.YtlmaopljihbdkaaGreat
/- Chapter 2, the program's side: 'impl.HeaderFault', walked. -/
namespace Go.Proofs.YtlmaopljihbdkaaGreat
open Go.RowKit

theorem isHome_yes (v : Int) (h1 : 0 ≤ v) (h2 : v < 40) (w : World) : Calls Tryz.prog 140 #[.int .i64 v] w fun e w' => e = .returned (.bool true) ∧ w' = w := by
  have h3 : ¬ v < 0 := by omega
  go_enter Tryz.func140, Tryz.ntmps140
  go_wp2
  go_ret
  exact ⟨rfl, rfl⟩
theorem isHome_no (v : Int) (h : ¬ (0 ≤ v ∧ v < 40)) (w : World) : Calls Tryz.prog 140 #[.int .i64 v] w fun e w' => e = .returned (.bool false) ∧ w' = w := by
  by_cases h1 : v < 0
  · have h2 : ¬ 0 ≤ v := by omega
    clear h
    go_enter Tryz.func140, Tryz.ntmps140
    go_wp2
    go_ret
    exact ⟨rfl, rfl⟩
  · have h2 : 0 ≤ v := by omega
    have h3 : 40 ≤ v := by omega
    have h4 : ¬ v < 40 := by omega
    clear h
    go_enter Tryz.func140, Tryz.ntmps140
    go_wp2
    go_ret
    exact ⟨rfl, rfl⟩

set_option maxHeartbeats 2000000 in
set_option maxRecDepth 4000 in
theorem implHeaderFault {S : Nat → Prop} {w : World} {y : Value} {xs : List Int} (s t : Int) (hy : RdI S w y xs) :
    Calls Tryz.prog 229 #[.agg #[.int .i64 s, .int .i64 t, y]] w fun e w' => e = .returned (.int .i64 (headF s t xs)) ∧ Below w.heap.size w w' := by
  have HY := hide hy
  have hyl : xs.length ≤ 9223372036854775807 := by obtain ⟨_, _, _, h, _⟩ := hy; exact h
  obtain ⟨ay, cy, rfl⟩ := hy.shape
  obtain ⟨n, hn⟩ : ∃ n, xs.length = n := ⟨_, rfl⟩
  have HN := hide hn
  rw [hn] at HY hyl ⊢
  clear hy hn
  obtain ⟨z, hz⟩ : ∃ z, headF s t xs = z := ⟨_, rfl⟩
  have HZ := hide hz
  rw [hz]
  clear hz
  have A0 := hide (below_alloc w (.cells #[.int .i64 s, .int .i64 t, .slice ay n cy] 178))
  by_cases h1 : s < 1
  · have hz3 : z = 3 := HZ.out.symm.trans (headF_range (fun h => by omega))
    subst hz3
    go_enter Tryz.func229, Tryz.ntmps229
    go_wp2
    go_ret
    exact ⟨rfl, A0.out⟩
  by_cases h2 : 65000 < s
  · have hz3 : z = 3 := HZ.out.symm.trans (headF_range (fun h => by omega))
    subst hz3
    go_enter Tryz.func229, Tryz.ntmps229
    go_wp2
    go_ret
    exact ⟨rfl, A0.out⟩
  by_cases h3 : t < 0
  · have hz3 : z = 3 := HZ.out.symm.trans (headF_range (fun h => by omega))
    subst hz3
    go_enter Tryz.func229, Tryz.ntmps229
    go_wp2
    go_ret
    exact ⟨rfl, A0.out⟩
  by_cases h4 : 24 ≤ t
  · have hz3 : z = 3 := HZ.out.symm.trans (headF_range (fun h => by omega))
    subst hz3
    go_enter Tryz.func229, Tryz.ntmps229
    go_wp2
    go_ret
    exact ⟨rfl, A0.out⟩
  have hr : 1 ≤ s ∧ s ≤ 65000 ∧ 0 ≤ t ∧ t ≤ 23 := by omega
  have HRg := hide hr
  clear hr
  by_cases hb : 24 < n
  · have hz2 : z = 2 := HZ.out.symm.trans (headF_many HRg.out (by rw [HN.out]; exact hb))
    subst hz2
    go_enter Tryz.func229, Tryz.ntmps229
    go_wp2
    go_ret
    exact ⟨rfl, A0.out⟩
  go_enter Tryz.func229, Tryz.ntmps229
  go_wp2
  go_loopw [30] (fun i wr => ∃ k : Nat, k ≤ n ∧ i = .int .i64 k ∧ Hid (∀ j, j < k → 0 ≤ xs.getD j 0 ∧ xs.getD j 0 ≤ 39) ∧ wr = w.alloc (.cells #[.int .i64 s, .int .i64 t, .slice ay n cy] 178)) (fun i _ => n - (intOf i).toNat)
  case atStart => exact ⟨0, Nat.zero_le _, rfl, fun j hj => absurd hj (Nat.not_lt_zero _), rfl⟩
  case round =>
    obtain ⟨k, hk, rfl, HA, rfl⟩ := hrel
    by_cases hlt : k < n
    · obtain ⟨b2, off, rfl, p1⟩ := HY.out.at (k := k) (by rw [HN.out]; exact hlt)
      have g1 := cell_later A0.out p1
      obtain ⟨x, hx⟩ : ∃ x, xs.getD k 0 = x := ⟨_, rfl⟩
      have HX := hide hx
      rw [hx] at g1
      clear hx p1
      by_cases hp : 0 ≤ x ∧ x < 40
      · obtain ⟨hp1, hp2⟩ := hp
        go_wp2_with fail
        refine (isHome_yes x hp1 hp2 _).mono ?_
        rintro e w' ⟨rfl, rfl⟩
        go_wp2
        go_roundw
        case rel => exact ⟨k + 1, by omega, by go_num, fun j hj => (by by_cases e : j = k; · subst e; rw [HX.out]; omega
                                                                       · exact HA.out j (by omega)), by simp⟩
        case measure => simp [intOf]; omega
      · have hz3 : z = 3 := HZ.out.symm.trans (headF_at HRg.out (by rw [HN.out]; exact hb) (i := k) (by rw [HN.out]; exact hlt) (by rw [HX.out]; omega))
        subst hz3
        have HP := hide hp
        clear hp
        go_wp2_with fail
        refine (isHome_no x HP.out _).mono ?_
        rintro e w' ⟨rfl, rfl⟩
        go_wp2
        go_ret
        exact ⟨rfl, A0.out⟩
    · have hz0 : z = 0 := HZ.out.symm.trans (headF_ok HRg.out (by rw [HN.out]; exact hb) (fun i hi => HA.out i (by rw [HN.out] at hi; omega)))
      subst hz0
      go_wp2
      go_ret
      exact ⟨rfl, A0.out⟩
end Go.Proofs.YtlmaopljihbdkaaGreat
/- Puts into homes, the program's side: 'homePutsFault', walked. -/
namespace Go.Proofs.YtlmaopljihbdkaaGreat
open Go.RowKit

/-- The fault of puts that go into homes. -/
def hpF (most : Nat) (ps : List (Int × List Int)) : Int := if most < ps.length then 2 else firstP 40 ps

set_option maxHeartbeats 1000000 in
set_option maxRecDepth 4000 in
theorem homePutsFault {T : Nat → Prop} {w : World} {v : Value} {ps : List (Int × List Int)} (most : Nat) (hv : RdP T w v ps) :
    Calls Tryz.prog 96 #[v, .int .i64 (most : Int)] w fun e w' => e = .returned (.int .i64 (hpF most ps)) ∧ Below w.heap.size w w' := by
  obtain ⟨ao, c, rfl, hm'⟩ := hv.shape
  have HV := hide hv
  obtain ⟨m, hm⟩ : ∃ m, ps.length = m := ⟨_, rfl⟩
  have HM := hide hm
  rw [hm] at HV hm' ⊢
  clear hv hm
  by_cases h70 : most < m
  · have HZ := hide (show hpF most ps = 2 by unfold hpF; rw [if_pos (by rw [HM.out]; exact h70)])
    go_enter Tryz.func96, Tryz.ntmps96
    go_wp2
    go_ret
    exact ⟨ret_int HZ.out.symm, Below.refl _ _⟩
  · have HE := hide (show hpF most ps = firstP 40 ps by unfold hpF; rw [if_neg (by rw [HM.out]; exact h70)])
    go_enter Tryz.func96, Tryz.ntmps96
    go_wp2
    go_loopw [14] (fun i wr => ∃ j : Nat, j ≤ m ∧ i = .int .i64 j ∧ Hid (firstP 40 ps = firstP 40 (ps.drop j)) ∧ Hid (Below w.heap.size w wr)) (fun i _ => m - (intOf i).toNat)
    case atStart => exact ⟨0, Nat.zero_le _, rfl, by simp [Hid], Below.refl _ _⟩
    case round =>
      obtain ⟨j, hj, rfl, HG, HB2⟩ := hrel
      by_cases hlt2 : j < m
      · obtain ⟨b2, off2, V2, rfl, q1, q2, q3⟩ := HV.out.at (k := j) (by rw [HM.out]; exact hlt2)
        obtain ⟨ao3, c3, rfl⟩ := q3.shape
        have g1 := cell_later HB2.out q1
        have g2 := cell_later HB2.out q2
        have R2 := hide (q3.later HB2.out)
        obtain ⟨x, hx⟩ : ∃ x, (ps.getD j (0, [])).1 = x := ⟨_, rfl⟩
        obtain ⟨l, hl⟩ : ∃ l, (ps.getD j (0, [])).2.length = l := ⟨_, rfl⟩
        have HX := hide hx
        have HL := hide hl
        rw [hx] at g1
        rw [hl] at g2 R2
        clear q1 q2 q3 hx hl
        by_cases hat : 0 ≤ x ∧ x < 40
        · obtain ⟨ha1, ha2⟩ := hat
          have hn1 : ¬ x < 0 := by omega
          have hn2 : ¬ 40 ≤ x := by omega
          by_cases hw : wordsF (ps.getD j (0, [])).2 = 0
          · have HF2 := hide (HG.out.trans (firstP_ok (by rw [HM.out]; exact hlt2) (by rw [HX.out]; exact ⟨ha1, ha2⟩) hw))
            have HW := hide hw
            clear hw
            go_wp2_with fail
            refine (isHome_yes x ha1 ha2 _).mono ?_
            rintro e w' ⟨rfl, rfl⟩
            go_wp2_with fail
            refine (wordsFault (R2.out.later (below_alloc _ _))).mono ?_
            rintro e w' ⟨he, q, rfl⟩
            rw [HW.out] at he
            subst he
            go_wp2
            go_roundw
            case rel => exact ⟨j + 1, by omega, by go_num, HF2.out, below_on HB2.out (below_on (below_alloc _ _) (below_drewN _ q))⟩
            case measure => simp [intOf]; omega
          · have HF2 := hide (HE.out.trans (HG.out.trans (firstP_no (by rw [HM.out]; exact hlt2) (by rw [HX.out]; exact ⟨ha1, ha2⟩) hw)))
            obtain ⟨z, hz⟩ : ∃ z, wordsF (ps.getD j (0, [])).2 = z := ⟨_, rfl⟩
            have HW := hide hz
            rw [hz] at hw
            clear hz
            go_wp2_with fail
            refine (isHome_yes x ha1 ha2 _).mono ?_
            rintro e w' ⟨rfl, rfl⟩
            go_wp2_with fail
            refine (wordsFault (R2.out.later (below_alloc _ _))).mono ?_
            rintro e w' ⟨he, q, rfl⟩
            rw [HW.out] at he
            subst he
            go_wp2
            go_ret
            exact ⟨ret_int (by rw [HF2.out, HW.out]), below_on HB2.out (below_on (below_alloc _ _) (below_drewN _ q))⟩
        · have HZ := hide (HE.out.trans (HG.out.trans (firstP_at (n := 40) (by rw [HM.out]; exact hlt2) (by rw [HX.out]; exact hat))))
          have HA := hide hat
          clear hat
          go_wp2_with fail
          refine (isHome_no x HA.out _).mono ?_
          rintro e w' ⟨rfl, rfl⟩
          go_wp2
          go_ret
          exact ⟨ret_int HZ.out.symm, below_on HB2.out (below_alloc _ _)⟩
      · have HZ := hide (HE.out.trans (HG.out.trans (firstP_end (by rw [HM.out]; omega))))
        go_wp2
        go_ret
        exact ⟨ret_int HZ.out.symm, HB2.out⟩
end Go.Proofs.YtlmaopljihbdkaaGreat
/- Chapter 5: the fault of an object, of the program and of the model, walked. -/
namespace Go.Proofs.YtlmaopljihbdkaaGreat
open Go.RowKit

/-- The fault of an object. -/
def objF (a f : Int) (xs : List Int) : Int :=
  if 0 ≤ a ∧ a ≤ 39 ∧ 0 ≤ f ∧ f ≤ 63 then (if xs.length < 1 ∨ 16 < xs.length ∨ 64 < f + (xs.length : Int) then 2 else wordsF xs) else 3
theorem objF_range {a f : Int} {xs : List Int} (h : ¬ (0 ≤ a ∧ a ≤ 39 ∧ 0 ≤ f ∧ f ≤ 63)) : objF a f xs = 3 := by unfold objF; rw [if_neg h]
theorem objF_many {a f : Int} {xs : List Int} (h : 0 ≤ a ∧ a ≤ 39 ∧ 0 ≤ f ∧ f ≤ 63) (h2 : xs.length < 1 ∨ 16 < xs.length ∨ 64 < f + (xs.length : Int)) : objF a f xs = 2 := by unfold objF; rw [if_pos h, if_pos h2]
theorem objF_words {a f : Int} {xs : List Int} (h : 0 ≤ a ∧ a ≤ 39 ∧ 0 ≤ f ∧ f ≤ 63) (h2 : ¬ (xs.length < 1 ∨ 16 < xs.length ∨ 64 < f + (xs.length : Int))) : objF a f xs = wordsF xs := by unfold objF; rw [if_pos h, if_neg h2]
theorem objF_zero {a f : Int} {xs : List Int} (h : objF a f xs = 0) : (0 ≤ a ∧ a ≤ 39 ∧ 0 ≤ f ∧ f ≤ 63) ∧ ¬ (xs.length < 1 ∨ 16 < xs.length ∨ 64 < f + (xs.length : Int)) ∧ wordsF xs = 0 := by
  unfold objF at h
  split at h
  · rename_i h1
    split at h
    · exact absurd h (by decide)
    · rename_i h2
      exact ⟨h1, h2, h⟩
  · exact absurd h (by decide)

end Go.Proofs.YtlmaopljihbdkaaGreat
/- Chapter 9: entries that are built by append. Made by program (genen.py). -/
namespace Go.Proofs.YtlmaopljihbdkaaGreat
open Go.RowKit


/-- The cells of k entries. -/
def cellsEn (ts : List Oj) (k : Nat) (V : Nat → Value) : List Value :=
  (List.range (k * 3)).map fun t => if t % 3 = 0 then .int .i64 (ts.getD (t / 3) oj0).1 else if t % 3 = 1 then .int .i64 (ts.getD (t / 3) oj0).2.1 else V (t / 3)
theorem cellsEn_len (ts : List Oj) (k : Nat) (V : Nat → Value) : (cellsEn ts k V).length = k * 3 := by simp [cellsEn]
theorem cellsEn_flg (ts : List Oj) (k : Nat) (V : Nat → Value) (i : Nat) (h : i < k) : (cellsEn ts k V)[i * 3]? = some (.int .i64 (ts.getD i oj0).1) := by
  unfold cellsEn
  rw [List.getElem?_map, List.getElem?_range (by omega)]
  simp only [Option.map_some]
  rw [if_pos (by omega), show i * 3 / 3 = i by omega]
theorem cellsEn_num (ts : List Oj) (k : Nat) (V : Nat → Value) (i : Nat) (h : i < k) : (cellsEn ts k V)[i * 3 + 1]? = some (.int .i64 (ts.getD i oj0).2.1) := by
  unfold cellsEn
  rw [List.getElem?_map, List.getElem?_range (by omega)]
  simp only [Option.map_some]
  rw [if_neg (by omega), if_pos (by omega), show (i * 3 + 1) / 3 = i by omega]
theorem cellsEn_words (ts : List Oj) (k : Nat) (V : Nat → Value) (i : Nat) (h : i < k) : (cellsEn ts k V)[i * 3 + 2]? = some (V i) := by
  unfold cellsEn
  rw [List.getElem?_map, List.getElem?_range (by omega)]
  simp only [Option.map_some]
  rw [if_neg (by omega), if_neg (by omega), show (i * 3 + 2) / 3 = i by omega]
theorem cellsEn_next (ts : List Oj) (k : Nat) (V : Nat → Value) : cellsEn ts (k + 1) V = cellsEn ts k V ++ [.int .i64 (ts.getD k oj0).1, .int .i64 (ts.getD k oj0).2.1, V k] := by
  unfold cellsEn
  rw [show (k + 1) * 3 = k * 3 + 1 + 1 + 1 by omega, List.range_succ, List.range_succ, List.range_succ]
  simp only [List.map_append, List.append_assoc, List.map_cons, List.map_nil, List.singleton_append]
  congr 1
  rw [if_pos (by omega), if_neg (by omega), if_pos (by omega), if_neg (by omega), if_neg (by omega), show k * 3 / 3 = k by omega, show (k * 3 + 1) / 3 = k by omega, show (k * 3 + 1 + 1) / 3 = k by omega]
  rfl
theorem cellsEn_congr (ts : List Oj) (k : Nat) (V V' : Nat → Value) (h : ∀ i, i < k → V i = V' i) : cellsEn ts k V = cellsEn ts k V' := by
  unfold cellsEn
  refine List.map_congr_left fun t ht => ?_
  have := List.mem_range.1 ht
  rw [h (t / 3) (by omega)]
theorem cellsEn_ext (ts ts' : List Oj) (k : Nat) (V : Nat → Value) (h : ∀ i, i < k → ts.getD i oj0 = ts'.getD i oj0) : cellsEn ts k V = cellsEn ts' k V := by
  unfold cellsEn
  refine List.map_congr_left fun t ht => ?_
  have := List.mem_range.1 ht
  rw [h (t / 3) (by omega)]
/-- k entries have been built. -/
def BuiltEn (P : Nat → Prop) (w : World) (v : Value) (k : Nat) (ts : List Oj) : Prop :=
  ∃ V Bk, w.ownsRow 0 110 3 v k (cellsEn ts k V) ∧ (∀ r, v.ownBlock = some r → P r) ∧ Inner P w v.ownBlock k V Bk (fun i => (ts.getD i oj0).2.2)
theorem BuiltEn.nil (P : Nat → Prop) (w : World) (ts : List Oj) : BuiltEn P w (.slice none 0 0) 0 ts :=
  ⟨fun _ => .bool false, fun _ => 0, World.ownsRow_nil _ _ _ _, fun _ h => (by cases h), Inner.zero _ _ _ _ _ _⟩
theorem BuiltEn.empty (w : World) (P : Nat → Prop) (hP : P w.heap.size) (ts : List Oj) : BuiltEn P (w.alloc (.cells #[] 110)) (.slice (some ⟨w.heap.size, 0, none⟩) 0 0) 0 ts :=
  ⟨fun _ => .bool false, fun _ => 0, World.ownsRow_made w #[] 0 (Nat.zero_le _) (by unfold maxLen; omega) (by simp), fun r h => by injection h with h; subst h; exact hP, Inner.zero _ _ _ _ _ _⟩
theorem BuiltEn.later {P : Nat → Prop} {w w' : World} {v : Value} {k : Nat} {ts : List Oj} (h : BuiltEn P w v k ts) (hb : Below w.heap.size w w') : BuiltEn P w' v k ts := by
  obtain ⟨V, Bk, h1, h2, h3⟩ := h
  exact ⟨V, Bk, ownsRow_later h1 hb, h2, h3.later hb⟩
theorem BuiltEn.mono {P P' : Nat → Prop} {w : World} {v : Value} {k : Nat} {ts : List Oj} (h : BuiltEn P w v k ts) (hP : ∀ b, P b → b < w.heap.size → P' b) : BuiltEn P' w v k ts := by
  obtain ⟨V, Bk, h1, h2, h3⟩ := h
  exact ⟨V, Bk, h1, fun r hr => hP r (h2 r hr) (h1.lt r hr).2, h3.mono hP⟩
theorem BuiltEn.shape {P : Nat → Prop} {w : World} {v : Value} {k : Nat} {ts : List Oj} (h : BuiltEn P w v k ts) : ∃ ao c, v = .slice ao k c := by
  obtain ⟨V, Bk, h1, _⟩ := h
  rcases h1.2 with ⟨rfl, e⟩ | ⟨g, cap, cur, rfl, _⟩
  · exact ⟨none, 0, by rw [e]⟩
  · exact ⟨_, _, rfl⟩
theorem BuiltEn.step {P P' : Nat → Prop} {w w1 w2 w3 : World} {v z : Value} {k g cap : Nat} {V : Nat → Value} {Bk : Nat → Nat} {ts : List Oj} (hi : Inner P w v.ownBlock k V Bk (fun i => (ts.getD i oj0).2.2)) (hr : w.ownsRow 0 110 3 v k (cellsEn ts k V)) (hpr : ∀ r, v.ownBlock = some r → P r)
    (hP : ∀ b, P b → P' b) (hN : ∀ b, w.heap.size ≤ b → P' b) (hb1 : Below w.heap.size w w1) (hz : OwI w.heap.size w1 z (ts.getD k oj0).2.2) (hb2 : Below w1.heap.size w1 w2)
    (hown : w3.ownsRow 0 110 3 (.slice (some ⟨g, 0, none⟩) (k + 1) cap) (k + 1) (cellsEn ts k V ++ [.int .i64 (ts.getD k oj0).1, .int .i64 (ts.getD k oj0).2.1, z])) (hg : w2.grownBy w3 v.ownBlock) (hat : v.ownBlock = some g ∨ g = w2.heap.size) :
    BuiltEn P' w3 (.slice (some ⟨g, 0, none⟩) (k + 1) cap) (k + 1) ts := by
  obtain ⟨Bk', h⟩ := hi.step hP hN (fun r hr' => (hr.lt r hr').2) hb1 hz hb2 hg hat
  refine ⟨_, Bk', ?_, fun r hr' => ?_, h⟩
  · rw [cellsEn_next, cellsEn_congr ts k _ V (fun i hi => by rw [if_neg (by omega)]), if_pos rfl]
    exact hown
  · injection hr' with hr'
    subst hr'
    rcases hat with hat | hat
    · exact hP _ (hpr _ hat)
    · have h1 := hb1.size
      have h2 := hb2.size
      exact hN _ (by dsimp only; omega)
theorem BuiltEn.ow {P : Nat → Prop} {w : World} {v : Value} {k : Nat} {ts : List Oj} (h : BuiltEn P w v k ts) (hk : ts.length = k) (hm : k ≤ 9223372036854775807) : OwJ (fun b => P b ∧ b < w.heap.size) w v ts := by
  obtain ⟨V, Bk, h1, hpr, h2⟩ := h
  subst hk
  rcases h1.2 with ⟨rfl, e⟩ | ⟨g, cap, cur, rfl, hg, hh, hnc, _⟩
  · have : ts = [] := List.eq_nil_of_length_eq_zero e
    subst this
    exact OwJ_nil _ _
  · refine ⟨_, cap, g, 0, V, Bk, rfl, ⟨hm, hnc⟩, fun _ => ⟨rfl, ⟨hpr g rfl, (Array.getElem?_eq_some_iff.1 hh).1⟩, fun o => h1.frozenAt o⟩, fun i hi => ⟨?_, ?_, ?_, h2.rd i hi, fun hn => ?_⟩⟩
    · rw [Nat.zero_add, h1.cellAt (i * 3) (by omega)]
      exact cellsEn_flg _ _ _ _ hi
    · rw [Nat.zero_add, h1.cellAt (i * 3 + 1) (by omega)]
      exact cellsEn_num _ _ _ _ hi
    · rw [Nat.zero_add, h1.cellAt (i * 3 + 2) (by omega)]
      exact cellsEn_words _ _ _ _ hi
    · obtain ⟨k1, k2, k3, k4, k5⟩ := h2.own i hi hn
      exact ⟨⟨k1, k2⟩, fun e => k4 (by rw [e]; rfl), k3, k5⟩
theorem cellsEn_one {x y : Int} {ao : Option Addr} {n c : Nat} : ∀ u ∈ ([.int .i64 x, .int .i64 y, .slice ao n c] : List Value), u.oneCell' = true := by
  intro u hu
  simp at hu
  rcases hu with rfl | rfl | rfl <;> rfl
/-- The end of a function that stores a code and entries into its result's variable. -/
theorem ret_entries {w w3 : World} {P : Nat → Prop} {r : Nat} {z x : Value} {ts : List Oj} (hb : Below w.heap.size w w3) (hr : w.heap.size ≤ r) (ho : OwJ P w3 z ts) (hP : ∀ b, P b → r < b ∧ b < w3.heap.size) :
    Below w.heap.size w ((w3.setCell ⟨r, 0, none⟩ x).setCell ⟨r, 1, none⟩ z) ∧ OwJ (fun b => w.heap.size ≤ b ∧ b < ((w3.setCell ⟨r, 0, none⟩ x).setCell ⟨r, 1, none⟩ z).heap.size) ((w3.setCell ⟨r, 0, none⟩ x).setCell ⟨r, 1, none⟩ z) z ts := by
  have hw : Wr (fun y => y = r) w3 ((w3.setCell ⟨r, 0, none⟩ x).setCell ⟨r, 1, none⟩ z) := ((Wr.refl (fun y => y = r) _).setCell (p := ⟨r, 0, none⟩) rfl _).setCell (p := ⟨r, 1, none⟩) rfl _
  exact ⟨(hb.setCell (p := ⟨r, 0, none⟩) hr _).setCell (p := ⟨r, 1, none⟩) hr _, (ho.wr hw (fun b h1 e => by have := (hP b h1).1; omega)).mono fun b h1 => by have := hP b h1; simp; omega⟩
theorem Tryz.infoEn : (Tryz.prog.info? 110).map (fun i => (i.zero, i.size, i.bytes)) = some (some (.agg #[.int .i64 0, .int .i64 0, .slice none 0 0]), 3, 40) := by kernel_rfl
end Go.Proofs.YtlmaopljihbdkaaGreat
