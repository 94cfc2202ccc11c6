/- L4 Seen4 En4 Ra6a Ra6 in one text: what each says stands at its head below. -/
import Derived.Test.YtlmaopljihbdkaaGreatG19
import Derived.Test.YtlmaopljihbdkaaGreatG06
import Derived.Test.YtlmaopljihbdkaaGreatG18
import Derived.Test.YtlmaopljihbdkaaGreatG27
import Derived.Test.YtlmaopljihbdkaaGreatG25
import Derived.Test.YtlmaopljihbdkaaGreatG13
import Derived.Test.YtlmaopljihbdkaaGreatG08
import Derived.BigQuiet
import Derived.Test.YtlmaopljihbdkaaGreatG07
import Derived.Test.YtlmaopljihbdkaaGreatG10
namespace Go.Proofs.YtlmaopljihbdkaaGreat
open Go.RowKit
set_option maxHeartbeats 1000000 in
set_option maxRecDepth 4000 in
theorem l4Last {S : Nat → Prop} {w : World} {v : Value} {qs : List (Int × List Int)} (a : Int) (hv : RdP S w v qs) :
    Calls Tryz.prog 138 #[v, .int .i64 a] w fun e w' => w' = w ∧ ((e = .returned (.int .i64 (-1)) ∧ ∀ j, j < qs.length → (qs.getD j (0, [])).1 ≠ a) ∨ ∃ i : Nat, e = .returned (.int .i64 (i : Int)) ∧ i < qs.length ∧ (qs.getD i (0, [])).1 = a ∧ ∀ j, i < j → j < qs.length → (qs.getD j (0, [])).1 ≠ a) := by
  obtain ⟨ao, c, rfl, hm⟩ := hv.shape
  have HV := hide hv
  obtain ⟨n, hn⟩ : ∃ n, qs.length = n := ⟨_, rfl⟩
  have HN := hide hn
  rw [hn] at HV hm ⊢
  clear hv hn
  have hw0 : IntKind.i64.wrap ((n : Int) - 1) = (n : Int) - 1 := by simp [IntKind.wrap, IntKind.bits, IntKind.signed]; omega
  go_enter Tryz.func138, Tryz.ntmps138
  go_wp2
  go_loopw [5] (fun i wr => ∃ k : Nat, k ≤ n ∧ i = .int .i64 ((k : Int) - 1) ∧ Hid (∀ j, k ≤ j → j < n → (qs.getD j (0, [])).1 ≠ a) ∧ wr = w) (fun i _ => (intOf i + 1).toNat)
  case atStart => exact ⟨n, Nat.le_refl _, rfl, fun j h1 h2 => by omega, rfl⟩
  case round =>
    obtain ⟨k, hk, rfl, HA, rfl⟩ := hrel
    by_cases hk0 : k = 0
    · subst hk0
      have HR : Hid (∀ j, j < n → (qs.getD j (0, [])).1 ≠ a) := fun j hj => HA.out j (Nat.zero_le _) hj
      go_wp2
      go_ret
      exact ⟨rfl, Or.inl ⟨rfl, HR.out⟩⟩
    · obtain ⟨i, rfl⟩ : ∃ i, k = i + 1 := ⟨k - 1, by omega⟩
      have e1 : ((i + 1 : Nat) : Int) - 1 = (i : Int) := by omega
      rw [e1]
      obtain ⟨b, off, V, rfl, q1, _, _⟩ := HV.out.at (k := i) (by rw [HN.out]; omega)
      obtain ⟨x, hx⟩ : ∃ x, (qs.getD i (0, [])).1 = x := ⟨_, rfl⟩
      have HX := hide hx
      rw [hx] at q1
      have hi0 : (0 : Int) ≤ (i : Int) := Int.natCast_nonneg _
      have hi1 : (i : Int) < (n : Int) := by omega
      have hwi : IntKind.i64.wrap ((i : Int) - 1) = (i : Int) - 1 := by simp [IntKind.wrap, IntKind.bits, IntKind.signed]; omega
      clear hx e1
      by_cases hxa : x = a
      · subst hxa
        have HR : Hid (∀ j, i < j → j < n → (qs.getD j (0, [])).1 ≠ x) := fun j h1 h2 => HA.out j h1 h2
        go_wp2
        go_ret
        exact ⟨rfl, Or.inr ⟨i, rfl, by omega, HX.out, HR.out⟩⟩
      · have HA2 : Hid (∀ j, i ≤ j → j < n → (qs.getD j (0, [])).1 ≠ a) := by
          intro j h1 h2
          by_cases e : j = i
          · subst e; rw [HX.out]; exact hxa
          · exact HA.out j (by omega) h2
        go_wp2
        go_roundw
        case rel => exact ⟨i, by omega, by first | rfl | go_num, HA2.out, by simp⟩
        case measure => simp [intOf]; try omega
set_option maxHeartbeats 1000000 in
set_option maxRecDepth 4000 in
theorem l4Puts {T : Nat → Prop} {w : World} {v : Value} {ps : List (Int × List Int)} (hv : RdP T w v ps) :
    Calls Tryz.prog 90 #[v] w fun e w' => e = .returned (.int .i64 (hpF 60 ps)) ∧ ∃ q, w' = w.drewN q := by
  obtain ⟨ao, c, rfl, hm'⟩ := hv.shape
  have HV := hide hv
  obtain ⟨m, hm⟩ : ∃ m, ps.length = m := ⟨_, rfl⟩
  have HM := hide hm
  rw [hm] at HV hm' ⊢
  clear hv hm
  by_cases h70 : 60 < m
  · have HZ := hide (show hpF 60 ps = 2 by unfold hpF; rw [if_pos (by rw [HM.out]; exact h70)])
    go_enter Tryz.func90, Tryz.ntmps90
    go_wp2
    go_ret
    exact ⟨ret_int HZ.out.symm, 0, rfl⟩
  · have HE := hide (show hpF 60 ps = firstP 40 ps by unfold hpF; rw [if_neg (by rw [HM.out]; exact h70)])
    go_enter Tryz.func90, Tryz.ntmps90
    go_wp2
    go_loopw [3] (fun i wr => ∃ j : Nat, j ≤ m ∧ i = .int .i64 j ∧ Hid (firstP 40 ps = firstP 40 (ps.drop j)) ∧ Hid (∃ q, wr = w.drewN q)) (fun i _ => m - (intOf i).toNat)
    case atStart => exact ⟨0, Nat.zero_le _, rfl, by simp [Hid], ⟨0, rfl⟩⟩
    case round =>
      obtain ⟨j, hj, rfl, HG, HB2⟩ := hrel
      by_cases hlt2 : j < m
      · obtain ⟨b2, off2, V2, rfl, q1, q2, q3⟩ := HV.out.at (k := j) (by rw [HM.out]; exact hlt2)
        have g1 := (drewN_cell HB2.out _).trans q1
        have g2 := (drewN_cell HB2.out _).trans q2
        have R2 : Hid (RdI T wr V2 (ps.getD j (0, [])).2) := by obtain ⟨q, rfl⟩ := HB2; exact q3
        obtain ⟨x, hx⟩ : ∃ x, (ps.getD j (0, [])).1 = x := ⟨_, rfl⟩
        have HX := hide hx
        rw [hx] at g1
        clear q1 q2 q3 hx
        by_cases hat : 0 ≤ x ∧ x < 40
        · obtain ⟨ha1, ha2⟩ := hat
          by_cases hw : wordsF (ps.getD j (0, [])).2 = 0
          · have HF2 := hide (HG.out.trans (firstP_ok (by rw [HM.out]; exact hlt2) (by rw [HX.out]; exact ⟨ha1, ha2⟩) hw))
            have HW := hide hw
            clear hw
            go_wp2_with fail
            refine (l2Home_yes x ha1 (by omega) _).mono ?_
            rintro e w1 ⟨rfl, rfl⟩
            go_wp2_with fail
            refine (l1Words R2.out).mono ?_
            rintro e w' ⟨he, hq⟩
            rw [HW.out] at he
            subst he
            have HB3 := hide (drewN_on HB2.out hq)
            clear hq
            go_wp2
            go_roundw
            case rel => exact ⟨j + 1, by omega, by go_num, HF2.out, HB3.out⟩
            case measure => simp [intOf]; omega
          · have HF2 := hide (HE.out.trans (HG.out.trans (firstP_no (by rw [HM.out]; exact hlt2) (by rw [HX.out]; exact ⟨ha1, ha2⟩) hw)))
            obtain ⟨z, hz⟩ : ∃ z, wordsF (ps.getD j (0, [])).2 = z := ⟨_, rfl⟩
            have HW := hide hz
            rw [hz] at hw
            clear hz
            go_wp2_with fail
            refine (l2Home_yes x ha1 (by omega) _).mono ?_
            rintro e w1 ⟨rfl, rfl⟩
            go_wp2_with fail
            refine (l1Words R2.out).mono ?_
            rintro e w' ⟨he, hq⟩
            rw [HW.out] at he
            subst he
            have HB3 := hide (drewN_on HB2.out hq)
            clear hq
            go_wp2
            go_ret
            exact ⟨ret_int (by rw [HF2.out, HW.out]), HB3.out⟩
        · have HZ := hide (HE.out.trans (HG.out.trans (firstP_at (n := 40) (by rw [HM.out]; exact hlt2) (by rw [HX.out]; exact hat))))
          have HA := hide (show x < 0 ∨ 39 < x by omega)
          clear hat
          go_wp2_with fail
          refine (l2Home_no x HA.out _).mono ?_
          rintro e w1 ⟨rfl, rfl⟩
          go_wp2
          go_ret
          exact ⟨ret_int HZ.out.symm, HB2.out⟩
      · have HZ := hide (HE.out.trans (HG.out.trans (firstP_end (by rw [HM.out]; omega))))
        go_wp2
        go_ret
        exact ⟨ret_int HZ.out.symm, HB2.out⟩
end Go.Proofs.YtlmaopljihbdkaaGreat
namespace Go.Proofs.YtlmaopljihbdkaaGreat
open Go.RowKit
set_option maxHeartbeats 1000000 in
set_option maxRecDepth 4000 in
theorem l4Read {S T L : Nat → Prop} {w : World} {bd : Nat} {ao ao' : Option Addr} {c c' : Nat} {z : Value} {xss : List (List Int)} {ps lps : List (Int × List Int)} (a : Int) (hd0 : w.cell? ⟨bd, 0, none⟩ = some (.slice ao xss.length c)) (hd1 : w.cell? ⟨bd, 1, none⟩ = some (.slice ao' ps.length c')) (hu : RdII S w (.slice ao xss.length c) xss) (hv : RdP T w (.slice ao' ps.length c') ps) (hs : Small xss ps) (h66 : xss.length = 66) (hz : RdP L w z lps) (hzl : ∀ i, i < lps.length → (lps.getD i (0, [])).2.length ≤ 1048576) (ha1 : 0 ≤ a) (ha2 : a < 40) :
    Calls Tryz.prog 147 #[.pointer (some ⟨bd, 0, none⟩), z, .int .i64 a] w fun e w' => ∃ y, e = .returned y ∧ Below w.heap.size w w' ∧ OwI w.heap.size w' y (lps.foldl putM (homeM xss ps 40) a) := by
  obtain ⟨az, cz, rfl, _⟩ := hz.shape
  obtain ⟨_, _, _, hm63⟩ := hv.shape
  have HLa := hide (l4Last a hz)
  have HAt := hide (l1At_cells xss ps xss.length ps.length bd ao ao' c c' w (26 + a) rfl rfl hm63 hd0 hd1 hu hv (by omega) (by rw [h66]; omega))
  have HBl := hide (blkToD_len hs (at_ := 26 + a) ps.length (Nat.le_refl _) (by omega) (by rw [h66]; omega))
  have HNo := hide (fun (h : ∀ j, j < lps.length → (lps.getD j (0, [])).1 ≠ a) => (foldl_none (M := homeM xss ps 40) h).trans (by unfold homeM; rw [if_pos (by omega)] : homeM xss ps 40 a = blkToD xss ps (26 + a) ps.length))
  have HYes := hide (fun (i : Nat) (h1 : i < lps.length) (h2 : (lps.getD i (0, [])).1 = a) (h3 : ∀ j, i < j → j < lps.length → (lps.getD j (0, [])).1 ≠ a) => foldl_last (M := homeM xss ps 40) h1 h2 h3)
  have HZ := hide hz
  have HZl := hide hzl
  obtain ⟨rs, hrs⟩ : ∃ rs, lps.foldl putM (homeM xss ps 40) a = rs := ⟨_, rfl⟩
  rw [hrs] at HNo HYes ⊢
  generalize blkToD xss ps (26 + a) ps.length = bs at HAt HBl HNo
  obtain ⟨l, hl⟩ : ∃ l, lps.length = l := ⟨_, rfl⟩
  have HL := hide hl
  rw [hl] at HLa HZ HZl HNo HYes ⊢
  have hwa : IntKind.i64.wrap (26 + a) = 26 + a := by simp [IntKind.wrap, IntKind.bits, IntKind.signed]; omega
  clear hd0 hd1 hu hv hs h66 hz hzl hrs hl
  go_enter Tryz.func147, Tryz.ntmps147
  go_wp2_with fail
  refine HLa.out.mono ?_
  rintro e w' ⟨hw', hres⟩
  have hw2 := hw'.symm
  subst hw2
  clear hw'
  rcases hres with ⟨rfl, hno⟩ | ⟨i, rfl, hi, hia, hil⟩
  · have hrs := HNo.out hno
    subst hrs
    clear hno
    go_wp2_with fail
    refine HAt.out.mono ?_
    rintro e w1 ⟨z1, rfl, ⟨q, rfl⟩, hr1⟩
    have HCp := hide (l1Ints hr1 HBl.out)
    obtain ⟨a1, k1, rfl⟩ := hr1.shape
    clear hr1
    go_wp2_with fail
    refine HCp.out.mono ?_
    rintro e w2 ⟨z2, rfl, hb2, ho2⟩
    have HB2 := hide (below_on (below_drewN w q) hb2)
    have HO2 := hide ho2
    clear hb2 ho2
    go_wp2
    go_ret
    exact ⟨_, rfl, HB2.out, HO2.out⟩
  · have hrs := HYes.out i hi hia hil
    obtain ⟨b, off, V, rfl, _, q2, q3⟩ := HZ.out.at (k := i) (by rw [HL.out]; exact hi)
    rw [← hrs] at q3
    have HCp := hide (l1Ints q3 (by rw [hrs]; exact HZl.out i hi))
    obtain ⟨a3, c3, rfl⟩ := q3.shape
    have hi0 : (0 : Int) ≤ (i : Int) := Int.natCast_nonneg _
    have hi1 : (i : Int) < (l : Int) := by omega
    clear hrs q3 hia hil
    go_wp2_with fail
    refine HCp.out.mono ?_
    rintro e w2 ⟨z2, rfl, hb2, ho2⟩
    have HB2 := hide hb2
    have HO2 := hide ho2
    clear hb2 ho2
    go_wp2
    go_ret
    exact ⟨_, rfl, HB2.out, HO2.out⟩
end Go.Proofs.YtlmaopljihbdkaaGreat
namespace Go.Proofs.YtlmaopljihbdkaaGreat
open Go.RowKit
def cmnE : List Oj → List Oj → Nat
  | p :: ps, q :: qs => if p = q then cmnE ps qs + 1 else 0
  | _, _ => 0
theorem cmn_to : ∀ (k : Nat) (ps qs : List Oj), k ≤ ps.length → k ≤ qs.length → (∀ j, j < k → ps.getD j oj0 = qs.getD j oj0) → cmnE ps qs = k + cmnE (ps.drop k) (qs.drop k)
  | 0, ps, qs, _, _, _ => by simp
  | k + 1, [], _, h, _, _ => absurd h (by simp)
  | k + 1, _ :: _, [], _, h, _ => absurd h (by simp)
  | k + 1, p :: ps, q :: qs, h1, h2, h3 => by
    have h0 : p = q := by simpa using h3 0 (by omega)
    have := cmn_to k ps qs (by simpa using h1) (by simpa using h2) (fun j hj => by have := h3 (j + 1) (by omega); simpa using this)
    rw [cmnE, if_pos h0, this]
    simp
    omega
theorem cmn_endA {ps qs : List Oj} {k : Nat} (h : ps.length ≤ k) : cmnE (ps.drop k) (qs.drop k) = 0 := by rw [List.drop_eq_nil_of_le h]; rfl
theorem cmn_endB {ps qs : List Oj} {k : Nat} (h : qs.length ≤ k) : cmnE (ps.drop k) (qs.drop k) = 0 := by
  rw [List.drop_eq_nil_of_le h]
  cases ps.drop k <;> rfl
theorem cmn_endC {ps qs : List Oj} {k : Nat} (h1 : k < ps.length) (h2 : k < qs.length) (h : ps.getD k oj0 ≠ qs.getD k oj0) : cmnE (ps.drop k) (qs.drop k) = 0 := by
  rw [List.drop_eq_getElem_cons h1, List.drop_eq_getElem_cons h2, cmnE, if_neg]
  intro e
  exact h (by simpa [List.getD, h1, h2] using e)
theorem cmn_all : ∀ (ps qs : List Oj), (ps.length = qs.length ∧ cmnE ps qs = ps.length) ↔ ps = qs
  | [], [] => by simp [cmnE]
  | [], _ :: _ => by simp
  | _ :: _, [] => by simp
  | p :: ps, q :: qs => by
    have ih := cmn_all ps qs
    rw [cmnE]
    by_cases h : p = q
    · rw [if_pos h, h]
      simp only [List.length_cons, List.cons.injEq, true_and]
      rw [← ih]
      omega
    · rw [if_neg h]
      simp [h]
theorem entry_eq {a a' t t' : Int} {xs ys : List Int} : ((a, t, xs) : Oj) = (a', t', ys) ↔ a = a' ∧ t = t' ∧ xs = ys := by simp
set_option maxHeartbeats 2000000 in
set_option maxRecDepth 4000 in
theorem sameEntryI {S T : Nat → Prop} {w : World} {u v : Value} {xs ys : List Int} (a t a' t' : Int) (hu : RdI S w u xs) (hv : RdI T w v ys) :
    Calls Tryz.prog 155 #[.agg #[.int .i64 a, .int .i64 t, u], .agg #[.int .i64 a', .int .i64 t', v]] w fun e w' => e = .returned (.bool (decide (((a, t, xs) : Oj) = (a', t', ys)))) ∧ Below w.heap.size w w' := by
  obtain ⟨ao, c, rfl⟩ := hu.shape
  obtain ⟨ao', c', rfl⟩ := hv.shape
  obtain ⟨n, hn⟩ : ∃ n, xs.length = n := ⟨_, rfl⟩
  obtain ⟨n', hn'⟩ : ∃ n', ys.length = n' := ⟨_, rfl⟩
  have A0 := hide (below_on (below_alloc w (.cells #[.int .i64 a, .int .i64 t, .slice ao n c] 110)) (below_alloc _ (.cells #[.int .i64 a', .int .i64 t', .slice ao' n' c'] 110)))
  have HEq := hide (fun (w' : World) (hb : Below w.heap.size w w') => slicesEqualR (hu.later hb) (hv.later hb))
  rw [hn, hn'] at HEq
  rw [hn, hn']
  clear hu hv hn hn'
  obtain ⟨B, hB⟩ : ∃ B, decide (xs = ys) = B := ⟨_, rfl⟩
  rw [hB] at HEq
  by_cases hab : a = a'
  · subst hab
    by_cases htt : t = t'
    · subst htt
      have hb2 : decide (((a, t, xs) : Oj) = (a, t, ys)) = B := by rw [← hB]; simp
      rw [hb2]
      clear hB hb2
      go_enter Tryz.func155, Tryz.ntmps155
      go_wp2_with fail
      refine (HEq.out _ A0.out).mono ?_
      rintro e w1 ⟨rfl, q, rfl⟩
      have HB1 := hide (below_on A0.out (below_drewN _ q))
      go_wp2
      go_ret
      exact ⟨rfl, HB1.out⟩
    · have hb2 : decide (((a, t, xs) : Oj) = (a, t', ys)) = false := decide_eq_false (fun h => htt (entry_eq.1 h).2.1)
      rw [hb2]
      clear hB hb2
      go_enter Tryz.func155, Tryz.ntmps155
      go_wp2
      go_ret
      exact ⟨rfl, A0.out⟩
  · have hb2 : decide (((a, t, xs) : Oj) = (a', t', ys)) = false := decide_eq_false (fun h => hab (entry_eq.1 h).1)
    rw [hb2]
    clear hB hb2
    go_enter Tryz.func155, Tryz.ntmps155
    go_wp2
    go_ret
    exact ⟨rfl, A0.out⟩
set_option maxHeartbeats 2000000 in
set_option maxRecDepth 4000 in
theorem l9SameOne {S T : Nat → Prop} {w : World} {b off b' off' : Nat} {p q : Oj} (hp : RdFp S w b off p) (hq : RdFp T w b' off' q) :
    Calls Tryz.prog 206 #[.pointer (some ⟨b, off, none⟩), .pointer (some ⟨b', off', none⟩)] w fun e w' => e = .returned (.bool (decide (p = q))) ∧ ∃ m, w' = w.drewN m := by
  obtain ⟨u, g0, g1, g2, hu⟩ := hp
  obtain ⟨v, r0, r1, r2, hv⟩ := hq
  obtain ⟨a, t, xs⟩ := p
  obtain ⟨a', t', ys⟩ := q
  dsimp only at g0 g1 hu r0 r1 hv
  obtain ⟨ao, c, rfl⟩ := hu.shape
  obtain ⟨ao', c', rfl⟩ := hv.shape
  obtain ⟨n, hn⟩ : ∃ n, xs.length = n := ⟨_, rfl⟩
  obtain ⟨n', hn'⟩ : ∃ n', ys.length = n' := ⟨_, rfl⟩
  have HEq := hide (fun m => l2SameR (RdI.drewN hu m) (RdI.drewN hv m))
  rw [hn, hn'] at HEq
  rw [hn] at g2
  rw [hn'] at r2
  clear hu hv hn hn'
  obtain ⟨B, hB⟩ : ∃ B, decide (xs = ys) = B := ⟨_, rfl⟩
  rw [hB] at HEq
  by_cases hab : a = a'
  · subst hab
    by_cases htt : t = t'
    · subst htt
      have hb2 : decide (((a, t, xs) : Oj) = (a, t, ys)) = B := by rw [← hB]; simp
      rw [hb2]
      clear hB hb2
      go_enter Tryz.func206, Tryz.ntmps206
      go_wp2_with fail
      go_quiet ((go_at_call 95; exact Calls.quiet_of (HEq.out _)))
      go_wp2
      go_ret
      exact ⟨rfl, nq, rfl⟩
    · have hb2 : decide (((a, t, xs) : Oj) = (a, t', ys)) = false := decide_eq_false (fun h => htt (entry_eq.1 h).2.1)
      rw [hb2]
      have hd : (t == t') = false := by simp [htt]
      have hd' : decide (t = t') = false := by simp [htt]
      clear hB hb2
      go_enter Tryz.func206, Tryz.ntmps206
      go_wp2_with fail
      go_quiet (fail)
      go_wp2
      go_ret
      exact ⟨rfl, nq, rfl⟩
  · have hb2 : decide (((a, t, xs) : Oj) = (a', t', ys)) = false := decide_eq_false (fun h => hab (entry_eq.1 h).1)
    rw [hb2]
    have hd : (a == a') = false := by simp [hab]
    have hd' : decide (a = a') = false := by simp [hab]
    clear hB hb2
    go_enter Tryz.func206, Tryz.ntmps206
    go_wp2_with fail
    go_quiet (fail)
    go_wp2
    go_ret
    exact ⟨rfl, nq, rfl⟩
set_option maxHeartbeats 2000000 in
set_option maxRecDepth 4000 in
theorem specCommonOf {S T : Nat → Prop} {w : World} {u v : Value} {ps qs : List Oj} (hu : RdJ S w u ps) (hv : RdJ T w v qs) :
    Calls Tryz.prog 182 #[u, v] w fun e w' => e = .returned (.int .i64 (cmnE ps qs : Nat)) ∧ ∃ m, w' = w.drewN m := by
  obtain ⟨ao, c, rfl, hm⟩ := hu.shape
  obtain ⟨ao', c', rfl, hm'⟩ := hv.shape
  have HU := hide hu
  have HV := hide hv
  clear hu hv
  obtain ⟨n, hn⟩ : ∃ n, ps.length = n := ⟨_, rfl⟩
  obtain ⟨n', hn'⟩ : ∃ n', qs.length = n' := ⟨_, rfl⟩
  have HN := hide hn
  have HN' := hide hn'
  rw [hn] at HU hm ⊢
  rw [hn'] at HV hm' ⊢
  clear hn hn'
  obtain ⟨R, hR⟩ : ∃ R, cmnE ps qs = R := ⟨_, rfl⟩
  have HR := hide hR
  rw [hR]
  clear hR
  go_enter Tryz.func182, Tryz.ntmps182
  go_wp2
  go_loopw [5] (fun i wr => ∃ k : Nat, k ≤ n ∧ k ≤ n' ∧ i = .int .i64 k ∧ Hid (∀ j, j < k → ps.getD j oj0 = qs.getD j oj0) ∧ Hid (∃ m, wr = w.drewN m)) (fun i _ => n - (intOf i).toNat)
  case atStart => exact ⟨0, Nat.zero_le _, Nat.zero_le _, rfl, fun j hj => absurd hj (Nat.not_lt_zero _), 0, rfl⟩
  case round =>
    obtain ⟨k, hk, hk', rfl, HA, HQw⟩ := hrel
    have HTo := hide (cmn_to k ps qs (by rw [HN.out]; exact hk) (by rw [HN'.out]; exact hk') HA.out)
    by_cases hlt : k < n
    · by_cases hlt' : k < n'
      · obtain ⟨b, off, rfl, hfp⟩ := HU.out.file (k := k) (by rw [HN.out]; exact hlt)
        obtain ⟨b', off', rfl, hfq⟩ := HV.out.file (k := k) (by rw [HN'.out]; exact hlt')
        have HBw : Below w.heap.size w wr := by obtain ⟨m, rfl⟩ := HQw; exact below_drewN _ _
        have HC := hide (fun k => l9SameOne ((hfp.later HBw).later (below_drewN wr k)) ((hfq.later HBw).later (below_drewN wr k)))
        clear HBw
        have hk0 : (0 : Int) ≤ (k : Int) := by omega
        have hk1 : (k : Int) < (n : Int) := by omega
        have hk2 : (k : Int) < (n' : Int) := by omega
        clear hfp hfq
        by_cases heq : ps.getD k oj0 = qs.getD k oj0
        · have HA2 : Hid (∀ j, j < k + 1 → ps.getD j oj0 = qs.getD j oj0) := by
            intro j hj
            by_cases e : j = k
            · subst e; exact heq
            · exact HA.out j (by omega)
          rw [decide_eq_true heq] at HC
          clear heq
          go_wp2_with fail
          go_quiet ((go_at_call 206; exact Calls.quiet_of (HC.out _)))
          go_wp2
          go_roundw
          case rel => exact ⟨k + 1, by omega, by omega, by go_num, HA2.out, by obtain ⟨m, rfl⟩ := HQw; exact ⟨_, World.drewN_drewN ..⟩⟩
          case measure => simp [intOf]; omega
        · have HE : Hid (k = R) := by rw [Hid, ← HR.out, HTo.out, cmn_endC (by rw [HN.out]; exact hlt) (by rw [HN'.out]; exact hlt') heq]; rfl
          rw [decide_eq_false heq] at HC
          clear heq
          go_wp2_with fail
          go_quiet ((go_at_call 206; exact Calls.quiet_of (HC.out _)))
          go_wp2
          go_ret
          exact ⟨ret_intF (congrArg (fun (x : Nat) => (x : Int)) HE.out), by obtain ⟨m, rfl⟩ := HQw; exact ⟨_, World.drewN_drewN ..⟩⟩
      · have HE : Hid (k = R) := by rw [Hid, ← HR.out, HTo.out, cmn_endB (by rw [HN'.out]; omega)]; rfl
        have hk1 : (k : Int) < (n : Int) := by omega
        have hk2 : ¬ (k : Int) < (n' : Int) := by omega
        go_wp2_with fail
        go_quiet (fail)
        go_wp2
        go_ret
        exact ⟨ret_intF (congrArg (fun (x : Nat) => (x : Int)) HE.out), by obtain ⟨m, rfl⟩ := HQw; exact ⟨_, World.drewN_drewN ..⟩⟩
    · have HE : Hid (k = R) := by rw [Hid, ← HR.out, HTo.out, cmn_endA (by rw [HN.out]; omega)]; rfl
      have hk1 : ¬ (k : Int) < (n : Int) := by omega
      go_wp2_with fail
      go_quiet (fail)
      go_wp2
      go_ret
      exact ⟨ret_intF (congrArg (fun (x : Nat) => (x : Int)) HE.out), by obtain ⟨m, rfl⟩ := HQw; exact ⟨_, World.drewN_drewN ..⟩⟩
set_option maxHeartbeats 2000000 in
set_option maxRecDepth 4000 in
theorem specSameEntries {S T : Nat → Prop} {w : World} {u v : Value} {ps qs : List Oj} (hu : RdJ S w u ps) (hv : RdJ T w v qs) :
    Calls Tryz.prog 148 #[u, v] w fun e w' => e = .returned (.bool (decide (ps = qs))) ∧ ∃ m, w' = w.drewN m := by
  obtain ⟨ao, c, rfl, hm⟩ := hu.shape
  obtain ⟨ao', c', rfl, hm'⟩ := hv.shape
  have HU := hide hu
  have HV := hide hv
  clear hu hv
  obtain ⟨n, hn⟩ : ∃ n, ps.length = n := ⟨_, rfl⟩
  obtain ⟨n', hn'⟩ : ∃ n', qs.length = n' := ⟨_, rfl⟩
  have HN := hide hn
  have HN' := hide hn'
  rw [hn] at HU hm ⊢
  rw [hn'] at HV hm' ⊢
  clear hn hn'
  have HC := hide (specCommonOf HU.out HV.out)
  have HAll := hide (cmn_all ps qs)
  obtain ⟨B, hB⟩ : ∃ B, decide (ps = qs) = B := ⟨_, rfl⟩
  have HB := hide hB
  rw [hB]
  clear hB
  obtain ⟨R, hR⟩ : ∃ R, cmnE ps qs = R := ⟨_, rfl⟩
  rw [HN.out, HN'.out, hR] at HAll
  rw [hR] at HC
  clear hR
  by_cases hl : n = n'
  · subst hl
    by_cases hr : R = n
    · subst hr
      have hb : B = true := by rw [← HB.out]; exact decide_eq_true (HAll.out.1 ⟨rfl, rfl⟩)
      subst hb
      go_enter Tryz.func148, Tryz.ntmps148
      go_wp2_with fail
      refine HC.out.mono ?_
      rintro e w1 ⟨rfl, m, rfl⟩
      go_wp2
      go_ret
      exact ⟨rfl, m, rfl⟩
    · have hb : B = false := by rw [← HB.out]; exact decide_eq_false (fun e => hr (HAll.out.2 e).2)
      subst hb
      have hr' : ((R : Int) == (n : Int)) = false := by simp; omega
      go_enter Tryz.func148, Tryz.ntmps148
      go_wp2_with fail
      refine HC.out.mono ?_
      rintro e w1 ⟨rfl, m, rfl⟩
      go_wp2
      go_ret
      exact ⟨rfl, m, rfl⟩
  · have hb : B = false := by rw [← HB.out]; exact decide_eq_false (fun e => hl (HAll.out.2 e).1)
    subst hb
    have hl' : ¬ (n : Int) = (n' : Int) := by omega
    go_enter Tryz.func148, Tryz.ntmps148
    go_wp2
    go_ret
    exact ⟨rfl, 0, rfl⟩
set_option maxHeartbeats 2000000 in
set_option maxRecDepth 4000 in
theorem equalFuncE {S T : Nat → Prop} {w : World} {u v : Value} {ps qs : List Oj} (hu : RdJ S w u ps) (hv : RdJ T w v qs) :
    Calls Tryz.prog 154 #[u, v, .func (.func 155) #[] #[]] w fun e w' => e = .returned (.bool (decide (ps = qs))) ∧ Below w.heap.size w w' := by
  obtain ⟨ao, c, rfl, hm⟩ := hu.shape
  obtain ⟨ao', c', rfl, hm'⟩ := hv.shape
  have HU := hide hu
  have HV := hide hv
  clear hu hv
  obtain ⟨n, hn⟩ : ∃ n, ps.length = n := ⟨_, rfl⟩
  obtain ⟨n', hn'⟩ : ∃ n', qs.length = n' := ⟨_, rfl⟩
  have HN := hide hn
  have HN' := hide hn'
  rw [hn] at HU hm ⊢
  rw [hn'] at HV hm' ⊢
  clear hn hn'
  obtain ⟨B, hB⟩ : ∃ B, decide (ps = qs) = B := ⟨_, rfl⟩
  have HB := hide hB
  rw [hB]
  clear hB
  by_cases hl : n = n'
  · subst hl
    go_enter Tryz.func154, Tryz.ntmps154
    go_wp2
    go_loopw [17] (fun i wr => ∃ k : Nat, k ≤ n ∧ i = .int .i64 k ∧ Hid (∀ j, j < k → ps.getD j oj0 = qs.getD j oj0) ∧ Hid (Below w.heap.size w wr)) (fun i _ => n - (intOf i).toNat)
    case atStart => exact ⟨0, Nat.zero_le _, rfl, fun j hj => absurd hj (Nat.not_lt_zero _), Below.refl _ _⟩
    case round =>
      obtain ⟨k, hk, rfl, HA, HBw⟩ := hrel
      by_cases hlt : k < n
      · obtain ⟨b, off, rfl, V, p0, p1, p2, p3⟩ := HU.out.file (k := k) (by rw [HN.out]; exact hlt)
        obtain ⟨b', off', rfl, V', q0, q1, q2, q3⟩ := HV.out.file (k := k) (by rw [HN'.out]; exact hlt)
        obtain ⟨a1, c1, rfl⟩ := p3.shape
        obtain ⟨a2, c2, rfl⟩ := q3.shape
        have g0 := cell_later HBw.out p0
        have g1 := cell_later HBw.out p1
        have g2 := cell_later HBw.out p2
        have r0 := cell_later HBw.out q0
        have r1 := cell_later HBw.out q1
        have r2 := cell_later HBw.out q2
        have R1 := hide (p3.later HBw.out)
        have R2 := hide (q3.later HBw.out)
        have hbl := World.block_lt_of_cell? _ _ r0
        have hk0 : (0 : Int) ≤ (k : Int) := by omega
        obtain ⟨x, hx⟩ : ∃ x, ps.getD k oj0 = x := ⟨_, rfl⟩
        obtain ⟨y, hy⟩ : ∃ y, qs.getD k oj0 = y := ⟨_, rfl⟩
        have HX := hide hx
        have HY := hide hy
        rw [hx] at g0 g1 g2 R1
        rw [hy] at r0 r1 r2 R2
        clear p0 p1 p2 p3 q0 q1 q2 q3 hx hy
        obtain ⟨x1, x2, xs⟩ := x
        obtain ⟨y1, y2, ys⟩ := y
        dsimp only at g0 g1 g2 r0 r1 r2 R1 R2
        obtain ⟨l1, hl1⟩ : ∃ l1, xs.length = l1 := ⟨_, rfl⟩
        obtain ⟨l2, hl2⟩ : ∃ l2, ys.length = l2 := ⟨_, rfl⟩
        rw [hl1] at g2 R1
        rw [hl2] at r2 R2
        clear hl1 hl2
        have bA := hide (below_on (below_alloc wr (.cells #[.int .i64 x1, .int .i64 x2, .slice a1 l1 c1] 110)) (below_alloc _ (.cells #[.int .i64 y1, .int .i64 y2, .slice a2 l2 c2] 110)))
        have HC := hide (sameEntryI x1 x2 y1 y2 (R1.out.later bA.out) (R2.out.later bA.out))
        by_cases hxy : ((x1, x2, xs) : Oj) = (y1, y2, ys)
        · rw [decide_eq_true hxy] at HC
          have HA2 : Hid (∀ j, j < k + 1 → ps.getD j oj0 = qs.getD j oj0) := by
            intro j hj
            by_cases e : j = k
            · subst e; rw [HX.out, HY.out, hxy]
            · exact HA.out j (by omega)
          clear hxy
          go_wp2_with fail
          refine HC.out.mono ?_
          rintro e w1 ⟨rfl, hb1⟩
          have HB1 := hide (below_on HBw.out (below_on bA.out hb1))
          clear hb1
          go_wp2
          go_roundw
          case rel => exact ⟨k + 1, by omega, by go_num, HA2.out, HB1.out⟩
          case measure => simp [intOf]; omega
        · rw [decide_eq_false hxy] at HC
          have hb : B = false := by
            rw [← HB.out]
            exact decide_eq_false (fun e => hxy (HX.out.symm.trans ((by rw [e]) : ps.getD k oj0 = qs.getD k oj0) |>.trans HY.out))
          subst hb
          clear hxy
          go_wp2_with fail
          refine HC.out.mono ?_
          rintro e w1 ⟨rfl, hb1⟩
          have HB1 := hide (below_on HBw.out (below_on bA.out hb1))
          clear hb1
          go_wp2
          go_ret
          exact ⟨rfl, HB1.out⟩
      · have hb : B = true := by
          rw [← HB.out]
          refine decide_eq_true ((cmn_all ps qs).1 ⟨by rw [HN.out, HN'.out], ?_⟩)
          rw [cmn_to k ps qs (by rw [HN.out]; exact hk) (by rw [HN'.out]; exact hk) HA.out, cmn_endA (by rw [HN.out]; omega), HN.out]
          omega
        subst hb
        go_wp2
        go_ret
        exact ⟨rfl, HBw.out⟩
  · have hb : B = false := by
      rw [← HB.out]
      exact decide_eq_false (fun e => hl (by rw [← HN.out, ← HN'.out, e]))
    subst hb
    have hl' : ¬ (n : Int) = (n' : Int) := by omega
    go_enter Tryz.func154, Tryz.ntmps154
    go_wp2
    go_ret
    exact ⟨rfl, Below.refl _ _⟩
set_option maxHeartbeats 1000000 in
theorem implSameEntries {S T : Nat → Prop} {w : World} {u v : Value} {ps qs : List Oj} (hu : RdJ S w u ps) (hv : RdJ T w v qs) :
    Calls Tryz.prog 112 #[u, v] w fun e w' => e = .returned (.bool (decide (ps = qs))) ∧ Below w.heap.size w w' := by
  have H := hide (equalFuncE hu hv)
  generalize decide (ps = qs) = B at H ⊢
  clear hu hv
  go_enter Tryz.func112, Tryz.ntmps112
  go_wp2_with fail
  refine H.out.mono ?_
  rintro e w1 ⟨rfl, hb1⟩
  have HB1 := hide hb1
  clear hb1
  go_wp2
  go_ret
  exact ⟨rfl, HB1.out⟩
end Go.Proofs.YtlmaopljihbdkaaGreat
namespace Go.Proofs.YtlmaopljihbdkaaGreat
open Go.RowKit
def sameR (r s : Rf) : Bool := decide (r.tm = s.tm ∧ r.vt = s.vt ∧ r.si = s.si ∧ r.st = s.st ∧ r.sn = s.sn ∧ r.lg = s.lg)
end Go.Proofs.YtlmaopljihbdkaaGreat
namespace Go.Proofs.YtlmaopljihbdkaaGreat
open Go.RowKit
set_option maxHeartbeats 4000000 in
set_option maxRecDepth 4000 in
theorem implSameRafts {S T S' T' : Nat → Prop} {w : World} {yr zr ys zs : Value} (r s : Rf) (hyr : RdI S w yr r.sn) (hzr : RdJ T w zr r.lg) (hys : RdI S' w ys s.sn) (hzs : RdJ T' w zs s.lg) :
    Calls Tryz.prog 60 #[.agg #[.int .i64 r.tm, .int .i64 r.vt, .int .i64 r.si, .int .i64 r.st, yr, zr], .agg #[.int .i64 s.tm, .int .i64 s.vt, .int .i64 s.si, .int .i64 s.st, ys, zs]] w fun e w' => e = .returned (.bool (sameR r s)) ∧ Below w.heap.size w w' := by
  obtain ⟨ayr, cyr, rfl⟩ := hyr.shape
  obtain ⟨azr, czr, rfl, _⟩ := hzr.shape
  obtain ⟨ays, cys, rfl⟩ := hys.shape
  obtain ⟨azs, czs, rfl, _⟩ := hzs.shape
  have H1 := hide (fun (w' : World) (hb : Below w.heap.size w w') => slicesEqualR (hyr.later hb) (hys.later hb))
  have H2 := hide (fun (w' : World) (hb : Below w.heap.size w w') => implSameEntries (hzr.later hb) (hzs.later hb))
  have HZ : Hid (sameR r s = decide (r.tm = s.tm ∧ r.vt = s.vt ∧ r.si = s.si ∧ r.st = s.st ∧ r.sn = s.sn ∧ r.lg = s.lg)) := rfl
  obtain ⟨Z, hZ⟩ : ∃ Z, sameR r s = Z := ⟨_, rfl⟩
  rw [hZ] at HZ ⊢
  clear hZ
  generalize r.sn.length = lr at *
  generalize s.sn.length = ls at *
  generalize r.lg.length = mr at *
  generalize s.lg.length = ms at *
  obtain ⟨B5, hB5⟩ : ∃ B, decide (r.sn = s.sn) = B := ⟨_, rfl⟩
  obtain ⟨B6, hB6⟩ : ∃ B, decide (r.lg = s.lg) = B := ⟨_, rfl⟩
  rw [hB5] at H1
  rw [hB6] at H2
  have K5 := hide hB5
  have K6 := hide hB6
  clear hyr hzr hys hzs hB5 hB6
  generalize r.tm = a at *
  generalize s.tm = a' at *
  generalize r.vt = b at *
  generalize s.vt = b' at *
  generalize r.si = c at *
  generalize s.si = c' at *
  generalize r.st = d at *
  generalize s.st = d' at *
  have BA := hide (below_on (below_alloc w (.cells #[.int .i64 a, .int .i64 b, .int .i64 c, .int .i64 d, .slice ayr lr cyr, .slice azr mr czr] 33)) (below_alloc _ (.cells #[.int .i64 a', .int .i64 b', .int .i64 c', .int .i64 d', .slice ays ls cys, .slice azs ms czs] 33)))
  have VR := hide ((Var6_new w (.int .i64 a) (.int .i64 b) (.int .i64 c) (.int .i64 d) (.slice ayr lr cyr) (.slice azr mr czr) 33).later (below_alloc _ (.cells #[.int .i64 a', .int .i64 b', .int .i64 c', .int .i64 d', .slice ays ls cys, .slice azs ms czs] 33)))
  by_cases qa : a = a'
  · subst qa
    by_cases qb : b = b'
    · subst qb
      by_cases qc : c = c'
      · subst qc
        by_cases qd : d = d'
        · subst qd
          go_enter Tryz.func60, Tryz.ntmps60
          go_wp2_with fail
          refine (H1.out _ BA.out).mono ?_
          rintro e w1 ⟨rfl, q, rfl⟩
          cases B5
          · have HE : Hid (false = Z) := by rw [Hid, HZ.out]; exact (decide_eq_false (fun h => of_decide_eq_false K5.out h.2.2.2.2.1)).symm
            go_wp2
            go_ret
            exact ⟨by rw [← HE.out]; rfl, below_on BA.out (below_drewN _ _)⟩
          · go_wp2_with fail
            refine (H2.out _ (below_on BA.out (below_drewN _ _))).mono ?_
            rintro e w2 ⟨rfl, hb⟩
            have HE : Hid (B6 = Z) := by
              rw [Hid, HZ.out, ← K6.out]
              exact decide_eq_decide.2 ⟨fun h => ⟨by first | trivial | rfl, by first | trivial | rfl, by first | trivial | rfl, by first | trivial | rfl, of_decide_eq_true K5.out, h⟩, fun h => h.2.2.2.2.2⟩
            have BB := hide (below_on (below_on BA.out (below_drewN _ _)) hb)
            clear hb
            go_wp2
            go_ret
            exact ⟨by rw [← HE.out]; rfl, BB.out⟩
        · have qdb : (d == d') = false := by simpa using qd
          have qdc : decide (d = d') = false := by simpa using qd
          have HE : Hid (false = Z) := by rw [Hid, HZ.out]; exact (decide_eq_false (fun h => qd h.2.2.2.1)).symm
          clear qd
          go_enter Tryz.func60, Tryz.ntmps60
          go_wp2
          go_ret
          exact ⟨by rw [← HE.out]; rfl, BA.out⟩
      · have qcb : (c == c') = false := by simpa using qc
        have qcc : decide (c = c') = false := by simpa using qc
        have HE : Hid (false = Z) := by rw [Hid, HZ.out]; exact (decide_eq_false (fun h => qc h.2.2.1)).symm
        clear qc
        go_enter Tryz.func60, Tryz.ntmps60
        go_wp2
        go_ret
        exact ⟨by rw [← HE.out]; rfl, BA.out⟩
    · have qbb : (b == b') = false := by simpa using qb
      have qbc : decide (b = b') = false := by simpa using qb
      have HE : Hid (false = Z) := by rw [Hid, HZ.out]; exact (decide_eq_false (fun h => qb h.2.1)).symm
      clear qb
      go_enter Tryz.func60, Tryz.ntmps60
      go_wp2
      go_ret
      exact ⟨by rw [← HE.out]; rfl, BA.out⟩
  · have qab : (a == a') = false := by simpa using qa
    have qac : decide (a = a') = false := by simpa using qa
    have HE : Hid (false = Z) := by rw [Hid, HZ.out]; exact (decide_eq_false (fun h => qa h.1)).symm
    clear qa
    go_enter Tryz.func60, Tryz.ntmps60
    go_wp2
    go_ret
    exact ⟨by rw [← HE.out]; rfl, BA.out⟩
end Go.Proofs.YtlmaopljihbdkaaGreat
