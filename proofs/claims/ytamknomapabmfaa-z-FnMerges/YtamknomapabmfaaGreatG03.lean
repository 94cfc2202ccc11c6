/- Tear in one text: what each says stands at its head below. -/
import Derived.Test.YtamknomapabmfaaGreatG02
import Derived.Deep.AppendLies
/- What a block holds if just so much of what was put is there: 'spec.l1Half', 'spec.l1Tear', walked. -/
namespace Go.Proofs.YtamknomapabmfaaGreat
open Go.RowKit

theorem l1Min_any (a b : Int) (w : World) :
    Calls Tryz.prog 106 #[.int .i64 a, .int .i64 b] w fun e w' => e = .returned (.int .i64 (if a < b then a else b)) ∧ w' = w := by
  by_cases h : a < b
  · rw [if_pos h]
    go_enter Tryz.func106, Tryz.ntmps106
    go_wp2
    go_ret
    exact ⟨rfl, rfl⟩
  · rw [if_neg h]
    go_enter Tryz.func106, Tryz.ntmps106
    go_wp2
    go_ret
    exact ⟨rfl, rfl⟩

theorem half_first (n c : Nat) (ao : Option Addr) (w : World) (hn : n ≤ 1048576) :
    Calls Tryz.prog 92 #[.slice ao n (n + c), .bool false] w fun e w' => e = .returned (.slice ao (min n 32) (n + c)) ∧ w' = w := by
  by_cases h : n < 32
  · have hm : min n 32 = n := by omega
    rw [hm]
    have hi : ((n : Int) < 32) := by omega
    go_enter Tryz.func92, Tryz.ntmps92
    go_wp2_with fail
    refine (l1Min_any _ _ _).mono ?_
    rintro e w' ⟨he, rfl⟩
    rw [if_pos hi] at he
    subst he
    go_wp2
    go_ret
    exact ⟨rfl, rfl⟩
  · have hm : min n 32 = 32 := by omega
    rw [hm]
    have hi : ¬ ((n : Int) < 32) := by omega
    have hc : ((32 : Int) ≤ ((n + c : Nat) : Int)) := by omega
    go_enter Tryz.func92, Tryz.ntmps92
    go_wp2_with fail
    refine (l1Min_any _ _ _).mono ?_
    rintro e w' ⟨he, rfl⟩
    rw [if_neg (by omega)] at he
    subst he
    go_wp2
    go_ret
    exact ⟨rfl, rfl⟩

theorem RdI_nil (S : Nat → Prop) (w : World) (ao : Option Addr) (c : Nat) : RdI S w (.slice ao 0 c) [] := ⟨ao, c, by simp, by simp, fun h => absurd rfl h⟩

/-- 'l1Half', the first one. -/
theorem halfA {S : Nat → Prop} {w : World} {v : Value} {xs : List Int} (hv : RdI S w v xs) (hm : xs.length ≤ 1048576) :
    Calls Tryz.prog 92 #[v, .bool false] w fun e w' => ∃ z, e = .returned z ∧ w' = w ∧ RdI S w z (xs.take 32) := by
  obtain ⟨ao, c, rfl, h2, h3⟩ := hv
  refine (half_first _ c ao w hm).mono fun e w' ⟨he, hw⟩ => ⟨_, he, hw, ao, xs.length - (xs.take 32).length + c, ?_, by simp; omega, fun hne => ?_⟩
  · simp only [List.length_take]
    congr 1 <;> omega
  · obtain ⟨b, off, e1, e2, e3⟩ := h3 (by rintro rfl; exact hne rfl)
    refine ⟨b, off, e1, e2, fun i hi => ?_⟩
    rw [List.length_take] at hi
    rw [e3 i (by omega)]
    have h32 : i < 32 := by omega
    simp [List.getD, h32]

theorem half_second (n c b off : Nat) (w : World) (hn : n ≤ 1048576) (h : 32 < n) :
    Calls Tryz.prog 92 #[.slice (some ⟨b, off, none⟩) n (n + c), .bool true] w fun e w' => e = .returned (.slice (some ⟨b, off + 32, none⟩) (n - 32) (n + c - 32)) ∧ w' = w := by
  have hi : ¬ ((n : Int) < 32) := by omega
  go_enter Tryz.func92, Tryz.ntmps92
  go_wp2_with fail
  refine (l1Min_any _ _ _).mono ?_
  rintro e w' ⟨he, rfl⟩
  rw [if_neg (by omega)] at he
  subst he
  have hne : ¬ n + c = 32 := by omega
  go_wp2
  go_ret
  exact ⟨rfl, rfl⟩

theorem half_second_none (n c : Nat) (ao : Option Addr) (w : World) (h : n ≤ 32) :
    Calls Tryz.prog 92 #[.slice ao n (n + c), .bool true] w fun e w' => (∃ ao' c', e = .returned (.slice ao' 0 c')) ∧ w' = w := by
  by_cases h : n < 32
  · have hi : ((n : Int) < 32) := by omega
    go_enter Tryz.func92, Tryz.ntmps92
    go_wp2_with fail
    refine (l1Min_any _ _ _).mono ?_
    rintro e w' ⟨he, rfl⟩
    rw [if_pos hi] at he
    subst he
    go_wp2
    all_goals
      go_ret
      exact ⟨⟨_, _, rfl⟩, rfl⟩
  · have hn : n = 32 := by omega
    subst hn
    go_enter Tryz.func92, Tryz.ntmps92
    go_wp2_with fail
    refine (l1Min_any _ _ _).mono ?_
    rintro e w' ⟨he, rfl⟩
    rw [if_neg (by omega)] at he
    subst he
    go_wp2
    all_goals
      go_ret
      exact ⟨⟨_, _, rfl⟩, rfl⟩

/-- 'l1Half', the second one. -/
theorem halfB {S : Nat → Prop} {w : World} {v : Value} {xs : List Int} (hv : RdI S w v xs) (hm : xs.length ≤ 1048576) :
    Calls Tryz.prog 92 #[v, .bool true] w fun e w' => ∃ z, e = .returned z ∧ w' = w ∧ RdI S w z (xs.drop 32) := by
  obtain ⟨ao, c, rfl, h2, h3⟩ := hv
  by_cases h : 32 < xs.length
  · obtain ⟨b, off, rfl, e2, e3⟩ := h3 (by rintro rfl; simp at h)
    refine (half_second _ c b off w hm h).mono fun e w' ⟨he, hw⟩ => ⟨_, he, hw, _, c, ?_, by simp; omega, fun _ => ⟨b, off + 32, rfl, e2, fun i hi => ?_⟩⟩
    · simp only [List.length_drop]
      congr 1
      omega
    · simp at hi
      rw [Nat.add_assoc, e3 (32 + i) (by omega)]
      simp [List.getD]
  · refine (half_second_none _ c ao w (by omega)).mono fun e w' ⟨⟨ao', c', he⟩, hw⟩ => ⟨_, he, hw, ?_⟩
    rw [List.drop_eq_nil_of_le (by omega)]
    exact RdI_nil _ _ _ _

/-- What a block holds behind a tear. -/
def tearA (old next : List Int) (pick : Int) : List Int := if pick = 1 ∨ pick = 2 then next.take 32 else old.take 32
def tearB (old next : List Int) (pick : Int) : List Int := if pick = 1 ∨ pick = 3 then next.drop 32 else old.drop 32
/-- a, filled up with words 0 where b is not empty, and b behind it. -/
def joinT (a b : List Int) : List Int := if b = [] then a else a ++ List.replicate (32 - a.length) 0 ++ b
def tear (old next : List Int) (pick : Int) : List Int := joinT (tearA old next pick) (tearB old next pick)

theorem ownsRow_shape {w : World} {B e z n : Nat} {v : Value} {xs : List Value} (h : w.ownsRow B e z v n xs) : ∃ ao c, v = .slice ao n c := by
  rcases h.2 with ⟨rfl, e⟩ | ⟨g, cap, cur, rfl, _⟩
  · exact ⟨none, 0, by rw [e]⟩
  · exact ⟨_, _, rfl⟩

theorem snoc_zero (a : List Int) (j : Nat) : (a ++ List.replicate (j + 1) 0).map (Value.int .i64) = a.map (Value.int .i64) ++ (List.replicate j (.int .i64 0) ++ [.int .i64 0]) := by
  rw [List.replicate_succ']
  simp


/-- How long the slice in a slot is. -/
def sliceLen : Value → Nat
  | .slice _ n _ => n
  | _ => 0

theorem joinT_none (a : List Int) : joinT a [] = a := by unfold joinT; rw [if_pos rfl]
theorem joinT_some {a b : List Int} (h : b ≠ []) : joinT a b = a ++ List.replicate (32 - a.length) 0 ++ b := by unfold joinT; rw [if_neg h]

set_option maxHeartbeats 2000000 in
set_option maxRecDepth 4000 in
theorem l1Tear_0 {S T : Nat → Prop} {w : World} {u v : Value} {old next : List Int} (hu : RdI S w u old) (hv : RdI T w v next) (hlo : old.length ≤ 64) (_hln : next.length ≤ 64) :
    Calls Tryz.prog 84 #[u, v, .int .i64 0] w fun e w' => ∃ z, e = .returned z ∧ Below w.heap.size w w' ∧ OwI w.heap.size w' z (tear old next 0) := by
  have HU := hide hu
  have HV := hide hv
  obtain ⟨i0, hi, hz0, hz1, hz2⟩ := info_parts Tryz.infoInt
  clear hu hv
  go_enter Tryz.func84, Tryz.ntmps84
  go_wp2_with fail
  refine (halfA HU.out (by omega)).mono ?_
  rintro e w1 ⟨za, rfl, rfl, hza⟩
  have Rza := hide hza
  clear hza
  go_wp2_with fail
  refine (halfB HU.out (by omega)).mono ?_
  rintro e w1 ⟨zb, rfl, rfl, hzb⟩
  have Rzb := hide hzb
  clear hzb
  obtain ⟨A, hA⟩ : ∃ A, A = old.take 32 := ⟨_, rfl⟩
  obtain ⟨B, hB⟩ : ∃ B, B = old.drop 32 := ⟨_, rfl⟩
  have RA := Rza
  have RB := Rzb
  rw [← hA] at RA
  rw [← hB] at RB
  have hAl : A.length ≤ 32 := by rw [hA]; simp; omega
  have hBl : B.length ≤ 64 := by rw [hB]; simp; omega
  have HJ : Hid (tear old next 0 = joinT A B) := by rw [hA, hB]; simp [Hid, tear, tearA, tearB]
  clear hA hB
  obtain ⟨la, hla⟩ : ∃ la, A.length = la := ⟨_, rfl⟩
  obtain ⟨lb, hlb⟩ : ∃ lb, B.length = lb := ⟨_, rfl⟩
  obtain ⟨aob, cb, hsb, _⟩ := id RB.out
  subst hsb
  rw [hlb] at RB hBl ⊢
  rw [hla] at hAl
  have HLa := hide hla
  have HLb := hide hlb
  clear hla hlb
  go_wp2_with fail
  refine (l1IntsOwn RA.out (by rw [HLa.out]; omega)).mono ?_
  rintro e w2 ⟨u1, rfl, hb1, ho1⟩
  rw [HLa.out] at ho1
  obtain ⟨ao1, c1, rfl⟩ := ownsRow_shape ho1
  have HB1 := hide hb1
  have HO1 := hide ho1
  clear hb1 ho1
  go_wp2
  go_loopw [9] (fun v wr => ∃ (j : Nat) (ao : Option Addr) (c : Nat), la + j ≤ 32 ∧ (lb = 0 → j = 0) ∧ v = .slice ao (la + j) c ∧ Hid (wr.ownsRow w1.heap.size 2 1 (.slice ao (la + j) c) (la + j) ((A ++ List.replicate j 0).map (Value.int .i64))) ∧ Hid (Below w1.heap.size w1 wr)) (fun v _ => 32 - sliceLen v)
  case atStart => exact ⟨0, ao1, c1, by omega, fun _ => rfl, rfl, by have := HO1.out; simpa [Hid] using this, HB1.out⟩
  case round =>
    obtain ⟨j, ao, c, hj, hj0, rfl, HO, HB⟩ := hrel
    have HJ0 := hide hj0
    clear hj0 HO1 HB1
    have hz := HB.out.size
    by_cases hlb0 : lb = 0
    · have hjz := HJ0.out hlb0
      subst hjz
      have HE : Hid (tear old next 0 = A) := by rw [Hid, HJ.out, List.eq_nil_of_length_eq_zero (HLb.out.trans hlb0), joinT_none]
      subst hlb0
      go_wp2_with (at_builtin; refine wpList_append_any _ rfl _ _ 24 rfl w1.heap.size 2 i0 (.int .i64 0) 1 8 Tryz.underlying24 hi hz0 hz1 hz2 rfl (by decide) _ (la + 0) _ (by rfl) HO.out aob 0 (0 + cb) [] (by rfl) (by rfl) (fun h => absurd rfl h) (fun _ h => by cases h) (by unfold maxLen; omega) (by omega) hz ?_)
      intro v' w3 hown hgrow
      have HO3 := hide hown
      have HG3 := hide (HB.out.grown hgrow hz (fun r hr => (HO.out.lt r hr).1))
      clear hown hgrow
      go_wp2
      go_ret
      exact ⟨v', rfl, HG3.out, by rw [HE.out]; exact ow_of_owns (n := la) HLa.out (by simpa using HO3.out) (by rw [HLa.out]; omega)⟩
    · by_cases hlt : la + j < 32
      · go_wp2_with (at_builtin; refine wpList_append_lies _ rfl _ _ _ rfl w1.heap.size 2 i0 (.int .i64 0) 1 8 Tryz.underlying24 hi hz0 hz1 hz2 rfl (by omega) _ (la + j) _ (by rfl) (HO.out.alloc _) ⟨wr.heap.size, 0, none⟩ 1 1 [.int .i64 0] (by rfl) (by rfl) (World.news_of_block (cs := #[.int .i64 0]) (t := 2) (fr := (0, 0)) (heap_alloc_new wr _)) (by simp [Value.oneCell']) (by omega) (by unfold maxLen; omega) (by omega) (by simp; omega) (wr.heap.size + 1) (by simp) ?_)
        intro g cap w3 hown hgrow hat hlt3
        have HO3 : Hid (w3.ownsRow w1.heap.size 2 1 (.slice (some ⟨g, 0, none⟩) (la + (j + 1)) cap) (la + (j + 1)) ((A ++ List.replicate (j + 1) 0).map (Value.int .i64))) := by rw [Hid, snoc_zero]; exact hown
        have HG3 := hide ((below_on HB.out (below_alloc wr (.cells #[.int .i64 0] 2))).grown hgrow (by simp; omega) (fun r hr => (HO.out.lt r hr).1))
        clear hown hgrow hat hlt3
        go_wp2
        go_roundw
        case rel => exact ⟨j + 1, _, _, by omega, fun h => absurd h hlb0, rfl, HO3.out, HG3.out⟩
        case measure => simp [sliceLen]; omega
      · have hj2 : j = 32 - la := by omega
        have HE : Hid (tear old next 0 = A ++ List.replicate j 0 ++ B) := by rw [Hid, HJ.out, joinT_some (fun e => hlb0 (by rw [← HLb.out, e]; rfl)), HLa.out, hj2]
        have RB2 := RB.out.later HB.out
        obtain ⟨aob', cb', esb, hsrc⟩ := RB2.src
        rw [HLb.out] at esb hsrc
        injection esb with e1 e2 e3
        subst e1
        have HSr := hide hsrc
        clear hsrc RB2 hj2 e2 e3
        go_wp2_with (at_builtin; refine wpList_append_any _ rfl _ _ 24 rfl w1.heap.size 2 i0 (.int .i64 0) 1 8 Tryz.underlying24 hi hz0 hz1 hz2 rfl (by decide) _ (la + j) _ (by rfl) HO.out aob lb (lb + cb) (B.map (Value.int .i64)) (by rfl) (by simp [HLb.out]) HSr.out (ints_oneCell _ _) (by unfold maxLen; omega) (by omega) hz ?_)
        intro v' w3 hown hgrow
        have HO3 := hide hown
        have HG3 := hide (HB.out.grown hgrow hz (fun r hr => (HO.out.lt r hr).1))
        clear hown hgrow
        go_wp2
        go_ret
        exact ⟨v', rfl, HG3.out, by rw [HE.out]; exact ow_of_owns (n := la + j + lb) (by simp [HLa.out, HLb.out]; omega) (by simpa using HO3.out) (by simp [HLa.out, HLb.out]; omega)⟩

set_option maxHeartbeats 2000000 in
set_option maxRecDepth 4000 in
theorem l1Tear_1 {S T : Nat → Prop} {w : World} {u v : Value} {old next : List Int} (hu : RdI S w u old) (hv : RdI T w v next) (hlo : old.length ≤ 64) (hln : next.length ≤ 64) :
    Calls Tryz.prog 84 #[u, v, .int .i64 1] w fun e w' => ∃ z, e = .returned z ∧ Below w.heap.size w w' ∧ OwI w.heap.size w' z (tear old next 1) := by
  have HU := hide hu
  have HV := hide hv
  obtain ⟨i0, hi, hz0, hz1, hz2⟩ := info_parts Tryz.infoInt
  clear hu hv
  go_enter Tryz.func84, Tryz.ntmps84
  go_wp2_with fail
  refine (halfA HU.out (by omega)).mono ?_
  rintro e w1 ⟨za, rfl, rfl, hza⟩
  have Rza := hide hza
  clear hza
  go_wp2_with fail
  refine (halfB HU.out (by omega)).mono ?_
  rintro e w1 ⟨zb, rfl, rfl, hzb⟩
  have Rzb := hide hzb
  clear hzb
  go_wp2_with fail
  refine (halfA HV.out (by omega)).mono ?_
  rintro e w1 ⟨zc, rfl, rfl, hzc⟩
  have Rzc := hide hzc
  clear hzc
  go_wp2_with fail
  refine (halfB HV.out (by omega)).mono ?_
  rintro e w1 ⟨zd, rfl, rfl, hzd⟩
  have Rzd := hide hzd
  clear hzd
  obtain ⟨A, hA⟩ : ∃ A, A = next.take 32 := ⟨_, rfl⟩
  obtain ⟨B, hB⟩ : ∃ B, B = next.drop 32 := ⟨_, rfl⟩
  have RA := Rzc
  have RB := Rzd
  rw [← hA] at RA
  rw [← hB] at RB
  have hAl : A.length ≤ 32 := by rw [hA]; simp; omega
  have hBl : B.length ≤ 64 := by rw [hB]; simp; omega
  have HJ : Hid (tear old next 1 = joinT A B) := by rw [hA, hB]; simp [Hid, tear, tearA, tearB]
  clear hA hB
  obtain ⟨la, hla⟩ : ∃ la, A.length = la := ⟨_, rfl⟩
  obtain ⟨lb, hlb⟩ : ∃ lb, B.length = lb := ⟨_, rfl⟩
  obtain ⟨aob, cb, hsb, _⟩ := id RB.out
  subst hsb
  rw [hlb] at RB hBl ⊢
  rw [hla] at hAl
  have HLa := hide hla
  have HLb := hide hlb
  clear hla hlb
  go_wp2_with fail
  refine (l1IntsOwn RA.out (by rw [HLa.out]; omega)).mono ?_
  rintro e w2 ⟨u1, rfl, hb1, ho1⟩
  rw [HLa.out] at ho1
  obtain ⟨ao1, c1, rfl⟩ := ownsRow_shape ho1
  have HB1 := hide hb1
  have HO1 := hide ho1
  clear hb1 ho1
  go_wp2
  go_loopw [9] (fun v wr => ∃ (j : Nat) (ao : Option Addr) (c : Nat), la + j ≤ 32 ∧ (lb = 0 → j = 0) ∧ v = .slice ao (la + j) c ∧ Hid (wr.ownsRow w1.heap.size 2 1 (.slice ao (la + j) c) (la + j) ((A ++ List.replicate j 0).map (Value.int .i64))) ∧ Hid (Below w1.heap.size w1 wr)) (fun v _ => 32 - sliceLen v)
  case atStart => exact ⟨0, ao1, c1, by omega, fun _ => rfl, rfl, by have := HO1.out; simpa [Hid] using this, HB1.out⟩
  case round =>
    obtain ⟨j, ao, c, hj, hj0, rfl, HO, HB⟩ := hrel
    have HJ0 := hide hj0
    clear hj0 HO1 HB1
    have hz := HB.out.size
    by_cases hlb0 : lb = 0
    · have hjz := HJ0.out hlb0
      subst hjz
      have HE : Hid (tear old next 1 = A) := by rw [Hid, HJ.out, List.eq_nil_of_length_eq_zero (HLb.out.trans hlb0), joinT_none]
      subst hlb0
      go_wp2_with (at_builtin; refine wpList_append_any _ rfl _ _ 24 rfl w1.heap.size 2 i0 (.int .i64 0) 1 8 Tryz.underlying24 hi hz0 hz1 hz2 rfl (by decide) _ (la + 0) _ (by rfl) HO.out aob 0 (0 + cb) [] (by rfl) (by rfl) (fun h => absurd rfl h) (fun _ h => by cases h) (by unfold maxLen; omega) (by omega) hz ?_)
      intro v' w3 hown hgrow
      have HO3 := hide hown
      have HG3 := hide (HB.out.grown hgrow hz (fun r hr => (HO.out.lt r hr).1))
      clear hown hgrow
      go_wp2
      go_ret
      exact ⟨v', rfl, HG3.out, by rw [HE.out]; exact ow_of_owns (n := la) HLa.out (by simpa using HO3.out) (by rw [HLa.out]; omega)⟩
    · by_cases hlt : la + j < 32
      · go_wp2_with (at_builtin; refine wpList_append_lies _ rfl _ _ _ rfl w1.heap.size 2 i0 (.int .i64 0) 1 8 Tryz.underlying24 hi hz0 hz1 hz2 rfl (by omega) _ (la + j) _ (by rfl) (HO.out.alloc _) ⟨wr.heap.size, 0, none⟩ 1 1 [.int .i64 0] (by rfl) (by rfl) (World.news_of_block (cs := #[.int .i64 0]) (t := 2) (fr := (0, 0)) (heap_alloc_new wr _)) (by simp [Value.oneCell']) (by omega) (by unfold maxLen; omega) (by omega) (by simp; omega) (wr.heap.size + 1) (by simp) ?_)
        intro g cap w3 hown hgrow hat hlt3
        have HO3 : Hid (w3.ownsRow w1.heap.size 2 1 (.slice (some ⟨g, 0, none⟩) (la + (j + 1)) cap) (la + (j + 1)) ((A ++ List.replicate (j + 1) 0).map (Value.int .i64))) := by rw [Hid, snoc_zero]; exact hown
        have HG3 := hide ((below_on HB.out (below_alloc wr (.cells #[.int .i64 0] 2))).grown hgrow (by simp; omega) (fun r hr => (HO.out.lt r hr).1))
        clear hown hgrow hat hlt3
        go_wp2
        go_roundw
        case rel => exact ⟨j + 1, _, _, by omega, fun h => absurd h hlb0, rfl, HO3.out, HG3.out⟩
        case measure => simp [sliceLen]; omega
      · have hj2 : j = 32 - la := by omega
        have HE : Hid (tear old next 1 = A ++ List.replicate j 0 ++ B) := by rw [Hid, HJ.out, joinT_some (fun e => hlb0 (by rw [← HLb.out, e]; rfl)), HLa.out, hj2]
        have RB2 := RB.out.later HB.out
        obtain ⟨aob', cb', esb, hsrc⟩ := RB2.src
        rw [HLb.out] at esb hsrc
        injection esb with e1 e2 e3
        subst e1
        have HSr := hide hsrc
        clear hsrc RB2 hj2 e2 e3
        go_wp2_with (at_builtin; refine wpList_append_any _ rfl _ _ 24 rfl w1.heap.size 2 i0 (.int .i64 0) 1 8 Tryz.underlying24 hi hz0 hz1 hz2 rfl (by decide) _ (la + j) _ (by rfl) HO.out aob lb (lb + cb) (B.map (Value.int .i64)) (by rfl) (by simp [HLb.out]) HSr.out (ints_oneCell _ _) (by unfold maxLen; omega) (by omega) hz ?_)
        intro v' w3 hown hgrow
        have HO3 := hide hown
        have HG3 := hide (HB.out.grown hgrow hz (fun r hr => (HO.out.lt r hr).1))
        clear hown hgrow
        go_wp2
        go_ret
        exact ⟨v', rfl, HG3.out, by rw [HE.out]; exact ow_of_owns (n := la + j + lb) (by simp [HLa.out, HLb.out]; omega) (by simpa using HO3.out) (by simp [HLa.out, HLb.out]; omega)⟩

set_option maxHeartbeats 2000000 in
set_option maxRecDepth 4000 in
theorem l1Tear_2 {S T : Nat → Prop} {w : World} {u v : Value} {old next : List Int} (hu : RdI S w u old) (hv : RdI T w v next) (hlo : old.length ≤ 64) (hln : next.length ≤ 64) :
    Calls Tryz.prog 84 #[u, v, .int .i64 2] w fun e w' => ∃ z, e = .returned z ∧ Below w.heap.size w w' ∧ OwI w.heap.size w' z (tear old next 2) := by
  have HU := hide hu
  have HV := hide hv
  obtain ⟨i0, hi, hz0, hz1, hz2⟩ := info_parts Tryz.infoInt
  clear hu hv
  go_enter Tryz.func84, Tryz.ntmps84
  go_wp2_with fail
  refine (halfA HU.out (by omega)).mono ?_
  rintro e w1 ⟨za, rfl, rfl, hza⟩
  have Rza := hide hza
  clear hza
  go_wp2_with fail
  refine (halfB HU.out (by omega)).mono ?_
  rintro e w1 ⟨zb, rfl, rfl, hzb⟩
  have Rzb := hide hzb
  clear hzb
  go_wp2_with fail
  refine (halfA HV.out (by omega)).mono ?_
  rintro e w1 ⟨zc, rfl, rfl, hzc⟩
  have Rzc := hide hzc
  clear hzc
  obtain ⟨A, hA⟩ : ∃ A, A = next.take 32 := ⟨_, rfl⟩
  obtain ⟨B, hB⟩ : ∃ B, B = old.drop 32 := ⟨_, rfl⟩
  have RA := Rzc
  have RB := Rzb
  rw [← hA] at RA
  rw [← hB] at RB
  have hAl : A.length ≤ 32 := by rw [hA]; simp; omega
  have hBl : B.length ≤ 64 := by rw [hB]; simp; omega
  have HJ : Hid (tear old next 2 = joinT A B) := by rw [hA, hB]; simp [Hid, tear, tearA, tearB]
  clear hA hB
  obtain ⟨la, hla⟩ : ∃ la, A.length = la := ⟨_, rfl⟩
  obtain ⟨lb, hlb⟩ : ∃ lb, B.length = lb := ⟨_, rfl⟩
  obtain ⟨aob, cb, hsb, _⟩ := id RB.out
  subst hsb
  rw [hlb] at RB hBl ⊢
  rw [hla] at hAl
  have HLa := hide hla
  have HLb := hide hlb
  clear hla hlb
  go_wp2_with fail
  refine (l1IntsOwn RA.out (by rw [HLa.out]; omega)).mono ?_
  rintro e w2 ⟨u1, rfl, hb1, ho1⟩
  rw [HLa.out] at ho1
  obtain ⟨ao1, c1, rfl⟩ := ownsRow_shape ho1
  have HB1 := hide hb1
  have HO1 := hide ho1
  clear hb1 ho1
  go_wp2
  go_loopw [9] (fun v wr => ∃ (j : Nat) (ao : Option Addr) (c : Nat), la + j ≤ 32 ∧ (lb = 0 → j = 0) ∧ v = .slice ao (la + j) c ∧ Hid (wr.ownsRow w1.heap.size 2 1 (.slice ao (la + j) c) (la + j) ((A ++ List.replicate j 0).map (Value.int .i64))) ∧ Hid (Below w1.heap.size w1 wr)) (fun v _ => 32 - sliceLen v)
  case atStart => exact ⟨0, ao1, c1, by omega, fun _ => rfl, rfl, by have := HO1.out; simpa [Hid] using this, HB1.out⟩
  case round =>
    obtain ⟨j, ao, c, hj, hj0, rfl, HO, HB⟩ := hrel
    have HJ0 := hide hj0
    clear hj0 HO1 HB1
    have hz := HB.out.size
    by_cases hlb0 : lb = 0
    · have hjz := HJ0.out hlb0
      subst hjz
      have HE : Hid (tear old next 2 = A) := by rw [Hid, HJ.out, List.eq_nil_of_length_eq_zero (HLb.out.trans hlb0), joinT_none]
      subst hlb0
      go_wp2_with (at_builtin; refine wpList_append_any _ rfl _ _ 24 rfl w1.heap.size 2 i0 (.int .i64 0) 1 8 Tryz.underlying24 hi hz0 hz1 hz2 rfl (by decide) _ (la + 0) _ (by rfl) HO.out aob 0 (0 + cb) [] (by rfl) (by rfl) (fun h => absurd rfl h) (fun _ h => by cases h) (by unfold maxLen; omega) (by omega) hz ?_)
      intro v' w3 hown hgrow
      have HO3 := hide hown
      have HG3 := hide (HB.out.grown hgrow hz (fun r hr => (HO.out.lt r hr).1))
      clear hown hgrow
      go_wp2
      go_ret
      exact ⟨v', rfl, HG3.out, by rw [HE.out]; exact ow_of_owns (n := la) HLa.out (by simpa using HO3.out) (by rw [HLa.out]; omega)⟩
    · by_cases hlt : la + j < 32
      · go_wp2_with (at_builtin; refine wpList_append_lies _ rfl _ _ _ rfl w1.heap.size 2 i0 (.int .i64 0) 1 8 Tryz.underlying24 hi hz0 hz1 hz2 rfl (by omega) _ (la + j) _ (by rfl) (HO.out.alloc _) ⟨wr.heap.size, 0, none⟩ 1 1 [.int .i64 0] (by rfl) (by rfl) (World.news_of_block (cs := #[.int .i64 0]) (t := 2) (fr := (0, 0)) (heap_alloc_new wr _)) (by simp [Value.oneCell']) (by omega) (by unfold maxLen; omega) (by omega) (by simp; omega) (wr.heap.size + 1) (by simp) ?_)
        intro g cap w3 hown hgrow hat hlt3
        have HO3 : Hid (w3.ownsRow w1.heap.size 2 1 (.slice (some ⟨g, 0, none⟩) (la + (j + 1)) cap) (la + (j + 1)) ((A ++ List.replicate (j + 1) 0).map (Value.int .i64))) := by rw [Hid, snoc_zero]; exact hown
        have HG3 := hide ((below_on HB.out (below_alloc wr (.cells #[.int .i64 0] 2))).grown hgrow (by simp; omega) (fun r hr => (HO.out.lt r hr).1))
        clear hown hgrow hat hlt3
        go_wp2
        go_roundw
        case rel => exact ⟨j + 1, _, _, by omega, fun h => absurd h hlb0, rfl, HO3.out, HG3.out⟩
        case measure => simp [sliceLen]; omega
      · have hj2 : j = 32 - la := by omega
        have HE : Hid (tear old next 2 = A ++ List.replicate j 0 ++ B) := by rw [Hid, HJ.out, joinT_some (fun e => hlb0 (by rw [← HLb.out, e]; rfl)), HLa.out, hj2]
        have RB2 := RB.out.later HB.out
        obtain ⟨aob', cb', esb, hsrc⟩ := RB2.src
        rw [HLb.out] at esb hsrc
        injection esb with e1 e2 e3
        subst e1
        have HSr := hide hsrc
        clear hsrc RB2 hj2 e2 e3
        go_wp2_with (at_builtin; refine wpList_append_any _ rfl _ _ 24 rfl w1.heap.size 2 i0 (.int .i64 0) 1 8 Tryz.underlying24 hi hz0 hz1 hz2 rfl (by decide) _ (la + j) _ (by rfl) HO.out aob lb (lb + cb) (B.map (Value.int .i64)) (by rfl) (by simp [HLb.out]) HSr.out (ints_oneCell _ _) (by unfold maxLen; omega) (by omega) hz ?_)
        intro v' w3 hown hgrow
        have HO3 := hide hown
        have HG3 := hide (HB.out.grown hgrow hz (fun r hr => (HO.out.lt r hr).1))
        clear hown hgrow
        go_wp2
        go_ret
        exact ⟨v', rfl, HG3.out, by rw [HE.out]; exact ow_of_owns (n := la + j + lb) (by simp [HLa.out, HLb.out]; omega) (by simpa using HO3.out) (by simp [HLa.out, HLb.out]; omega)⟩

set_option maxHeartbeats 2000000 in
set_option maxRecDepth 4000 in
theorem l1Tear_3 {S T : Nat → Prop} {w : World} {u v : Value} {old next : List Int} (hu : RdI S w u old) (hv : RdI T w v next) (hlo : old.length ≤ 64) (hln : next.length ≤ 64) :
    Calls Tryz.prog 84 #[u, v, .int .i64 3] w fun e w' => ∃ z, e = .returned z ∧ Below w.heap.size w w' ∧ OwI w.heap.size w' z (tear old next 3) := by
  have HU := hide hu
  have HV := hide hv
  obtain ⟨i0, hi, hz0, hz1, hz2⟩ := info_parts Tryz.infoInt
  clear hu hv
  go_enter Tryz.func84, Tryz.ntmps84
  go_wp2_with fail
  refine (halfA HU.out (by omega)).mono ?_
  rintro e w1 ⟨za, rfl, rfl, hza⟩
  have Rza := hide hza
  clear hza
  go_wp2_with fail
  refine (halfB HU.out (by omega)).mono ?_
  rintro e w1 ⟨zb, rfl, rfl, hzb⟩
  have Rzb := hide hzb
  clear hzb
  go_wp2_with fail
  refine (halfB HV.out (by omega)).mono ?_
  rintro e w1 ⟨zd, rfl, rfl, hzd⟩
  have Rzd := hide hzd
  clear hzd
  obtain ⟨A, hA⟩ : ∃ A, A = old.take 32 := ⟨_, rfl⟩
  obtain ⟨B, hB⟩ : ∃ B, B = next.drop 32 := ⟨_, rfl⟩
  have RA := Rza
  have RB := Rzd
  rw [← hA] at RA
  rw [← hB] at RB
  have hAl : A.length ≤ 32 := by rw [hA]; simp; omega
  have hBl : B.length ≤ 64 := by rw [hB]; simp; omega
  have HJ : Hid (tear old next 3 = joinT A B) := by rw [hA, hB]; simp [Hid, tear, tearA, tearB]
  clear hA hB
  obtain ⟨la, hla⟩ : ∃ la, A.length = la := ⟨_, rfl⟩
  obtain ⟨lb, hlb⟩ : ∃ lb, B.length = lb := ⟨_, rfl⟩
  obtain ⟨aob, cb, hsb, _⟩ := id RB.out
  subst hsb
  rw [hlb] at RB hBl ⊢
  rw [hla] at hAl
  have HLa := hide hla
  have HLb := hide hlb
  clear hla hlb
  go_wp2_with fail
  refine (l1IntsOwn RA.out (by rw [HLa.out]; omega)).mono ?_
  rintro e w2 ⟨u1, rfl, hb1, ho1⟩
  rw [HLa.out] at ho1
  obtain ⟨ao1, c1, rfl⟩ := ownsRow_shape ho1
  have HB1 := hide hb1
  have HO1 := hide ho1
  clear hb1 ho1
  go_wp2
  go_loopw [9] (fun v wr => ∃ (j : Nat) (ao : Option Addr) (c : Nat), la + j ≤ 32 ∧ (lb = 0 → j = 0) ∧ v = .slice ao (la + j) c ∧ Hid (wr.ownsRow w1.heap.size 2 1 (.slice ao (la + j) c) (la + j) ((A ++ List.replicate j 0).map (Value.int .i64))) ∧ Hid (Below w1.heap.size w1 wr)) (fun v _ => 32 - sliceLen v)
  case atStart => exact ⟨0, ao1, c1, by omega, fun _ => rfl, rfl, by have := HO1.out; simpa [Hid] using this, HB1.out⟩
  case round =>
    obtain ⟨j, ao, c, hj, hj0, rfl, HO, HB⟩ := hrel
    have HJ0 := hide hj0
    clear hj0 HO1 HB1
    have hz := HB.out.size
    by_cases hlb0 : lb = 0
    · have hjz := HJ0.out hlb0
      subst hjz
      have HE : Hid (tear old next 3 = A) := by rw [Hid, HJ.out, List.eq_nil_of_length_eq_zero (HLb.out.trans hlb0), joinT_none]
      subst hlb0
      go_wp2_with (at_builtin; refine wpList_append_any _ rfl _ _ 24 rfl w1.heap.size 2 i0 (.int .i64 0) 1 8 Tryz.underlying24 hi hz0 hz1 hz2 rfl (by decide) _ (la + 0) _ (by rfl) HO.out aob 0 (0 + cb) [] (by rfl) (by rfl) (fun h => absurd rfl h) (fun _ h => by cases h) (by unfold maxLen; omega) (by omega) hz ?_)
      intro v' w3 hown hgrow
      have HO3 := hide hown
      have HG3 := hide (HB.out.grown hgrow hz (fun r hr => (HO.out.lt r hr).1))
      clear hown hgrow
      go_wp2
      go_ret
      exact ⟨v', rfl, HG3.out, by rw [HE.out]; exact ow_of_owns (n := la) HLa.out (by simpa using HO3.out) (by rw [HLa.out]; omega)⟩
    · by_cases hlt : la + j < 32
      · go_wp2_with (at_builtin; refine wpList_append_lies _ rfl _ _ _ rfl w1.heap.size 2 i0 (.int .i64 0) 1 8 Tryz.underlying24 hi hz0 hz1 hz2 rfl (by omega) _ (la + j) _ (by rfl) (HO.out.alloc _) ⟨wr.heap.size, 0, none⟩ 1 1 [.int .i64 0] (by rfl) (by rfl) (World.news_of_block (cs := #[.int .i64 0]) (t := 2) (fr := (0, 0)) (heap_alloc_new wr _)) (by simp [Value.oneCell']) (by omega) (by unfold maxLen; omega) (by omega) (by simp; omega) (wr.heap.size + 1) (by simp) ?_)
        intro g cap w3 hown hgrow hat hlt3
        have HO3 : Hid (w3.ownsRow w1.heap.size 2 1 (.slice (some ⟨g, 0, none⟩) (la + (j + 1)) cap) (la + (j + 1)) ((A ++ List.replicate (j + 1) 0).map (Value.int .i64))) := by rw [Hid, snoc_zero]; exact hown
        have HG3 := hide ((below_on HB.out (below_alloc wr (.cells #[.int .i64 0] 2))).grown hgrow (by simp; omega) (fun r hr => (HO.out.lt r hr).1))
        clear hown hgrow hat hlt3
        go_wp2
        go_roundw
        case rel => exact ⟨j + 1, _, _, by omega, fun h => absurd h hlb0, rfl, HO3.out, HG3.out⟩
        case measure => simp [sliceLen]; omega
      · have hj2 : j = 32 - la := by omega
        have HE : Hid (tear old next 3 = A ++ List.replicate j 0 ++ B) := by rw [Hid, HJ.out, joinT_some (fun e => hlb0 (by rw [← HLb.out, e]; rfl)), HLa.out, hj2]
        have RB2 := RB.out.later HB.out
        obtain ⟨aob', cb', esb, hsrc⟩ := RB2.src
        rw [HLb.out] at esb hsrc
        injection esb with e1 e2 e3
        subst e1
        have HSr := hide hsrc
        clear hsrc RB2 hj2 e2 e3
        go_wp2_with (at_builtin; refine wpList_append_any _ rfl _ _ 24 rfl w1.heap.size 2 i0 (.int .i64 0) 1 8 Tryz.underlying24 hi hz0 hz1 hz2 rfl (by decide) _ (la + j) _ (by rfl) HO.out aob lb (lb + cb) (B.map (Value.int .i64)) (by rfl) (by simp [HLb.out]) HSr.out (ints_oneCell _ _) (by unfold maxLen; omega) (by omega) hz ?_)
        intro v' w3 hown hgrow
        have HO3 := hide hown
        have HG3 := hide (HB.out.grown hgrow hz (fun r hr => (HO.out.lt r hr).1))
        clear hown hgrow
        go_wp2
        go_ret
        exact ⟨v', rfl, HG3.out, by rw [HE.out]; exact ow_of_owns (n := la + j + lb) (by simp [HLa.out, HLb.out]; omega) (by simpa using HO3.out) (by simp [HLa.out, HLb.out]; omega)⟩
/-- 'l1Tear' at every pick. -/
theorem l1Tear {S T : Nat → Prop} {w : World} {u v : Value} {old next : List Int} {p : Int} (hu : RdI S w u old) (hv : RdI T w v next) (hlo : old.length ≤ 64) (hln : next.length ≤ 64) (h0 : 0 ≤ p) (h3 : p ≤ 3) :
    Calls Tryz.prog 84 #[u, v, .int .i64 p] w fun e w' => ∃ z, e = .returned z ∧ Below w.heap.size w w' ∧ OwI w.heap.size w' z (tear old next p) := by
  have h : p = 0 ∨ p = 1 ∨ p = 2 ∨ p = 3 := by omega
  rcases h with rfl | rfl | rfl | rfl
  · exact l1Tear_0 hu hv hlo hln
  · exact l1Tear_1 hu hv hlo hln
  · exact l1Tear_2 hu hv hlo hln
  · exact l1Tear_3 hu hv hlo hln

theorem tear_all {old next : List Int} (h : next.length ≤ 64) : tear old next 1 = next := by
  unfold tear tearA tearB
  rw [if_pos (Or.inl rfl), if_pos (Or.inl rfl)]
  by_cases hd : next.drop 32 = []
  · rw [hd, joinT_none]
    exact List.take_of_length_le (by have := congrArg List.length hd; simp at this; omega)
  · rw [joinT_some hd]
    have hl : 32 < next.length := by
      apply Nat.lt_of_not_le
      intro hle
      exact hd (List.drop_eq_nil_of_le hle)
    have e : (next.take 32).length = 32 := by simp; omega
    rw [e]
    simp

theorem tear_len {old next : List Int} {p : Int} (h1 : old.length ≤ 64) (h2 : next.length ≤ 64) : (tear old next p).length ≤ 64 := by
  have hA : (tearA old next p).length ≤ 32 := by unfold tearA; split <;> simp <;> omega
  have hB : (tearB old next p).length ≤ 32 := by unfold tearB; split <;> simp <;> omega
  unfold tear joinT
  split
  · omega
  · simp; omega
theorem RdI.at {S : Nat → Prop} {w : World} {ao : Option Addr} {n c : Nat} {xs : List Int} (h : RdI S w (.slice ao n c) xs) {k : Nat} (hk : k < xs.length) : ∃ b off, ao = some ⟨b, off, none⟩ ∧ w.cell? ⟨b, off + k, none⟩ = some (.int .i64 (xs.getD k 0)) := by
  obtain ⟨ao', c', e1, e2, e3⟩ := h
  obtain ⟨b, off, f1, f2, f3⟩ := e3 (by rintro rfl; simp at hk)
  injection e1 with e1 _ _
  exact ⟨b, off, by rw [e1, f1], f3 k hk⟩
end Go.Proofs.YtamknomapabmfaaGreat
