/- Fault Tear Draw2 Eq Sz Small in one text: what each says stands at its head below. -/
import Derived.Test.YtncgpfapepminaaGreatDoorG01
import Derived.Test.YtncgpfapepminaaGreatDoorG02
import Derived.Deep.AppendLies
/- What is wrong with words and with a disk: 'wordsFault', 'DiskFault' of the program and of the model answer one and the same number. -/
namespace Go.Proofs.YtncgpfapepminaaGreatDoor
open Go.RowKit

/-- The fault of n words. -/
def wF (X : Nat → Int) (n : Nat) : Int := if 64 < n then 2 else if (∀ i, i < n → 0 ≤ X i ∧ X i ≤ 65535) then 0 else 3
theorem wF_many {X : Nat → Int} {n : Nat} (h : 64 < n) : wF X n = 2 := by unfold wF; rw [if_pos h]
theorem wF_ok {X : Nat → Int} {n : Nat} (h : n ≤ 64) (h' : ∀ i, i < n → 0 ≤ X i ∧ X i ≤ 65535) : wF X n = 0 := by unfold wF; rw [if_neg (by omega), if_pos h']
theorem wF_range {X : Nat → Int} {n : Nat} (h : n ≤ 64) {i : Nat} (hi : i < n) (h' : X i < 0 ∨ 65535 < X i) : wF X n = 3 := by
  unfold wF; rw [if_neg (by omega), if_neg (fun k => by have := k i hi; omega)]
def wordsF (xs : List Int) : Int := wF (fun i => xs.getD i 0) xs.length

theorem l1In_yes (v lo hi : Int) (h1 : lo ≤ v) (h2 : v ≤ hi) (w : World) :
    Calls Tryz.prog 30 #[.int .i64 v, .int .i64 lo, .int .i64 hi] w fun e w' => e = .returned (.bool true) ∧ w' = w := by
  go_enter Tryz.func30, Tryz.ntmps30
  go_wp2
  go_ret
  exact ⟨rfl, rfl⟩

theorem l1In_no (v lo hi : Int) (h : v < lo ∨ hi < v) (w : World) :
    Calls Tryz.prog 30 #[.int .i64 v, .int .i64 lo, .int .i64 hi] w fun e w' => e = .returned (.bool false) ∧ w' = w := by
  by_cases h1 : v < lo
  · go_enter Tryz.func30, Tryz.ntmps30
    go_wp2
    go_ret
    exact ⟨by simp, rfl⟩
  · have h2 : hi < v := by omega
    clear h
    go_enter Tryz.func30, Tryz.ntmps30
    go_wp2
    go_ret
    exact ⟨by simp [h2], rfl⟩

theorem wordsFault_cells (X : Nat → Int) (n b off c : Nat) (w : World) (hm : n ≤ 9223372036854775807)
    (hx : ∀ i, i < n → w.cell? ⟨b, off + i, none⟩ = some (.int .i64 (X i))) :
    Calls Tryz.prog 59 #[.slice (some ⟨b, off, none⟩) n c] w fun e w' => e = .returned (.int .i64 (wF X n)) ∧ ∃ q, w' = w.drewN q := by
  have HX := hide hx
  clear hx
  by_cases hn : 64 < n
  · have HZ := hide (wF_many (X := X) hn)
    go_enter Tryz.func59, Tryz.ntmps59
    go_wp2
    go_ret
    exact ⟨ret_int HZ.out.symm, 0, rfl⟩
  · go_enter Tryz.func59, Tryz.ntmps59
    go_wp2
    go_loopw [10] (fun i wr => ∃ k : Nat, k ≤ n ∧ i = .int .i64 k ∧ Hid (∀ j, j < k → 0 ≤ X j ∧ X j ≤ 65535) ∧ wr = w) (fun i _ => n - (intOf i).toNat)
    case atStart => exact ⟨0, Nat.zero_le _, rfl, fun j hj => absurd hj (Nat.not_lt_zero _), rfl⟩
    case round =>
      obtain ⟨k, hk, rfl, HA, rfl⟩ := hrel
      by_cases hlt : k < n
      · have g1 := HX.out k hlt
        by_cases h1 : X k < 0
        · have HZ := hide (wF_range (X := X) (by omega) hlt (Or.inl h1))
          go_wp2
          go_ret
          exact ⟨ret_int HZ.out.symm, 0, rfl⟩
        · by_cases h2 : 65535 < X k
          · have HZ := hide (wF_range (X := X) (by omega) hlt (Or.inr h2))
            go_wp2
            go_ret
            exact ⟨ret_int HZ.out.symm, 0, rfl⟩
          · go_wp2
            go_roundw
            case rel => exact ⟨k + 1, by omega, by go_num, fun j hj => (by by_cases e : j = k; · subst e; omega
                                                                           · exact HA.out j (by omega)), by simp⟩
            case measure => simp [intOf]; omega
      · have HZ := hide (wF_ok (X := X) (n := n) (by omega) (fun i hi => HA.out i (by omega)))
        go_wp2
        go_ret
        exact ⟨ret_int HZ.out.symm, 0, rfl⟩

theorem wordsFault_none (ao : Option Addr) (c : Nat) (w : World) :
    Calls Tryz.prog 59 #[.slice ao 0 c] w fun e w' => e = .returned (.int .i64 0) ∧ ∃ q, w' = w.drewN q := by
  go_enter Tryz.func59, Tryz.ntmps59
  go_wp2
  go_loopw [10] (fun i wr => i = .int .i64 0 ∧ wr = w) (fun _ _ => 0)
  case atStart => exact ⟨rfl, rfl⟩
  case round =>
    obtain ⟨rfl, rfl⟩ := hrel
    go_wp2
    go_ret
    exact ⟨rfl, 0, rfl⟩

/-- 'impl.wordsFault' of a reading. -/
theorem wordsFault {S : Nat → Prop} {w : World} {v : Value} {xs : List Int} (hv : RdI S w v xs) :
    Calls Tryz.prog 59 #[v] w fun e w' => e = .returned (.int .i64 (wordsF xs)) ∧ ∃ q, w' = w.drewN q := by
  obtain ⟨ao, c, rfl, hm, h⟩ := hv
  by_cases hne : xs = []
  · subst hne
    have e0 : wordsF [] = 0 := wF_ok (by simp) (by simp)
    rw [e0]
    exact wordsFault_none _ _ _
  · obtain ⟨b, off, rfl, _, hc⟩ := h hne
    exact wordsFault_cells _ _ _ _ _ _ hm hc

theorem l1Words_cells (X : Nat → Int) (n b off c : Nat) (w : World) (hm : n ≤ 9223372036854775807)
    (hx : ∀ i, i < n → w.cell? ⟨b, off + i, none⟩ = some (.int .i64 (X i))) :
    Calls Tryz.prog 56 #[.slice (some ⟨b, off, none⟩) n c] w fun e w' => e = .returned (.int .i64 (wF X n)) ∧ ∃ q, w' = w.drewN q := by
  have HX := hide hx
  clear hx
  by_cases hn : 64 < n
  · have HZ := hide (wF_many (X := X) hn)
    go_enter Tryz.func56, Tryz.ntmps56
    go_wp2
    go_ret
    exact ⟨ret_int HZ.out.symm, 0, rfl⟩
  · go_enter Tryz.func56, Tryz.ntmps56
    go_wp2
    go_loopw [3] (fun i wr => ∃ k : Nat, k ≤ n ∧ i = .int .i64 k ∧ Hid (∀ j, j < k → 0 ≤ X j ∧ X j ≤ 65535) ∧ wr = w) (fun i _ => n - (intOf i).toNat)
    case atStart => exact ⟨0, Nat.zero_le _, rfl, fun j hj => absurd hj (Nat.not_lt_zero _), rfl⟩
    case round =>
      obtain ⟨k, hk, rfl, HA, rfl⟩ := hrel
      by_cases hlt : k < n
      · have g1 := HX.out k hlt
        by_cases h1 : X k < 0 ∨ 65535 < X k
        · have HZ := hide (wF_range (X := X) (by omega) hlt h1)
          have H1 := hide h1
          clear h1
          go_wp2_with fail
          refine (l1In_no _ _ _ H1.out _).mono ?_
          rintro e w' ⟨rfl, rfl⟩
          go_wp2
          go_ret
          exact ⟨ret_int HZ.out.symm, 0, rfl⟩
        · have h2 : 0 ≤ X k := by omega
          have h3 : X k ≤ 65535 := by omega
          clear h1
          go_wp2_with fail
          refine (l1In_yes _ _ _ h2 h3 _).mono ?_
          rintro e w' ⟨rfl, rfl⟩
          go_wp2
          go_roundw
          case rel => exact ⟨k + 1, by omega, by go_num, fun j hj => (by by_cases e : j = k; · subst e; omega
                                                                         · exact HA.out j (by omega)), by simp⟩
          case measure => simp [intOf]; omega
      · have HZ := hide (wF_ok (X := X) (n := n) (by omega) (fun i hi => HA.out i (by omega)))
        go_wp2
        go_ret
        exact ⟨ret_int HZ.out.symm, 0, rfl⟩

theorem l1Words_none (ao : Option Addr) (c : Nat) (w : World) :
    Calls Tryz.prog 56 #[.slice ao 0 c] w fun e w' => e = .returned (.int .i64 0) ∧ ∃ q, w' = w.drewN q := by
  go_enter Tryz.func56, Tryz.ntmps56
  go_wp2
  go_loopw [3] (fun i wr => i = .int .i64 0 ∧ wr = w) (fun _ _ => 0)
  case atStart => exact ⟨rfl, rfl⟩
  case round =>
    obtain ⟨rfl, rfl⟩ := hrel
    go_wp2
    go_ret
    exact ⟨rfl, 0, rfl⟩

/-- 'spec.l1Words' of a reading. -/
theorem l1Words {S : Nat → Prop} {w : World} {v : Value} {xs : List Int} (hv : RdI S w v xs) :
    Calls Tryz.prog 56 #[v] w fun e w' => e = .returned (.int .i64 (wordsF xs)) ∧ ∃ q, w' = w.drewN q := by
  obtain ⟨ao, c, rfl, hm, h⟩ := hv
  by_cases hne : xs = []
  · subst hne
    have e0 : wordsF [] = 0 := wF_ok (by simp) (by simp)
    rw [e0]
    exact l1Words_none _ _ _
  · obtain ⟨b, off, rfl, _, hc⟩ := h hne
    exact l1Words_cells _ _ _ _ _ _ hm hc

/-- The first fault among rows. -/
def firstF : List (List Int) → Int
  | [] => 0
  | xs :: r => if wordsF xs = 0 then firstF r else wordsF xs
/-- The first fault among puts, on a disk of n blocks. -/
def firstP (n : Nat) : List (Int × List Int) → Int
  | [] => 0
  | p :: r => if 0 ≤ p.1 ∧ p.1 < (n : Int) then (if wordsF p.2 = 0 then firstP n r else wordsF p.2) else 3
def diskF (xss : List (List Int)) (ps : List (Int × List Int)) : Int :=
  if 70 < xss.length ∨ 200 < ps.length then 2 else if firstF xss = 0 then firstP xss.length ps else firstF xss

theorem firstF_ok {xss : List (List Int)} {k : Nat} (h : k < xss.length) (h0 : wordsF (xss.getD k []) = 0) : firstF (xss.drop k) = firstF (xss.drop (k + 1)) := by
  rw [List.drop_eq_getElem_cons h]
  simp only [firstF]
  rw [if_pos (by simpa [List.getD, h] using h0)]
theorem firstF_no {xss : List (List Int)} {k : Nat} (h : k < xss.length) (h0 : wordsF (xss.getD k []) ≠ 0) : firstF (xss.drop k) = wordsF (xss.getD k []) := by
  rw [List.drop_eq_getElem_cons h]
  simp only [firstF]
  rw [if_neg (by simpa [List.getD, h] using h0)]
  simp [List.getD, h]
theorem firstF_end {xss : List (List Int)} {k : Nat} (h : xss.length ≤ k) : firstF (xss.drop k) = 0 := by rw [List.drop_eq_nil_of_le h]; rfl
theorem firstP_ok {n : Nat} {ps : List (Int × List Int)} {k : Nat} (h : k < ps.length) (ha : 0 ≤ (ps.getD k (0, [])).1 ∧ (ps.getD k (0, [])).1 < (n : Int)) (h0 : wordsF (ps.getD k (0, [])).2 = 0) : firstP n (ps.drop k) = firstP n (ps.drop (k + 1)) := by
  rw [List.drop_eq_getElem_cons h]
  simp only [firstP]
  simp only [List.getD, List.getElem?_eq_getElem h, Option.getD_some] at ha h0
  rw [if_pos ha, if_pos h0]
theorem firstP_no {n : Nat} {ps : List (Int × List Int)} {k : Nat} (h : k < ps.length) (ha : 0 ≤ (ps.getD k (0, [])).1 ∧ (ps.getD k (0, [])).1 < (n : Int)) (h0 : wordsF (ps.getD k (0, [])).2 ≠ 0) : firstP n (ps.drop k) = wordsF (ps.getD k (0, [])).2 := by
  rw [List.drop_eq_getElem_cons h]
  simp only [firstP]
  simp only [List.getD, List.getElem?_eq_getElem h, Option.getD_some] at ha h0 ⊢
  rw [if_pos ha, if_neg h0]
theorem firstP_at {n : Nat} {ps : List (Int × List Int)} {k : Nat} (h : k < ps.length) (ha : ¬ (0 ≤ (ps.getD k (0, [])).1 ∧ (ps.getD k (0, [])).1 < (n : Int))) : firstP n (ps.drop k) = 3 := by
  rw [List.drop_eq_getElem_cons h]
  simp only [firstP]
  simp only [List.getD, List.getElem?_eq_getElem h, Option.getD_some] at ha
  rw [if_neg ha]
theorem firstP_end {n : Nat} {ps : List (Int × List Int)} {k : Nat} (h : ps.length ≤ k) : firstP n (ps.drop k) = 0 := by rw [List.drop_eq_nil_of_le h]; rfl
theorem diskF_many {xss : List (List Int)} {ps : List (Int × List Int)} (h : 70 < xss.length ∨ 200 < ps.length) : diskF xss ps = 2 := by unfold diskF; rw [if_pos h]
theorem diskF_rows {xss : List (List Int)} {ps : List (Int × List Int)} (h : ¬ (70 < xss.length ∨ 200 < ps.length)) (h0 : firstF xss ≠ 0) : diskF xss ps = firstF xss := by unfold diskF; rw [if_neg h, if_neg h0]
theorem diskF_puts {xss : List (List Int)} {ps : List (Int × List Int)} (h : ¬ (70 < xss.length ∨ 200 < ps.length)) (h0 : firstF xss = 0) : diskF xss ps = firstP xss.length ps := by unfold diskF; rw [if_neg h, if_pos h0]
end Go.Proofs.YtncgpfapepminaaGreatDoor
/- What a block holds if just so much of what was put is there: 'spec.l1Half', 'spec.l1Tear', walked. -/
namespace Go.Proofs.YtncgpfapepminaaGreatDoor
open Go.RowKit
theorem RdI_nil (S : Nat → Prop) (w : World) (ao : Option Addr) (c : Nat) : RdI S w (.slice ao 0 c) [] := ⟨ao, c, by simp, by simp, fun h => absurd rfl h⟩

/-- What a block holds behind a tear. -/
def tearA (old next : List Int) (pick : Int) : List Int := if pick = 1 ∨ pick = 2 then next.take 32 else old.take 32
def tearB (old next : List Int) (pick : Int) : List Int := if pick = 1 ∨ pick = 3 then next.drop 32 else old.drop 32
/-- a, filled up with words 0 where b is not empty, and b behind it. -/
def joinT (a b : List Int) : List Int := if b = [] then a else a ++ List.replicate (32 - a.length) 0 ++ b
def tear (old next : List Int) (pick : Int) : List Int := joinT (tearA old next pick) (tearB old next pick)

theorem ownsRow_shape {w : World} {B e z n : Nat} {v : Value} {xs : List Value} (h : w.ownsRow B e z v n xs) : ∃ ao c, v = .slice ao n c := by
  rcases h.2 with ⟨rfl, e⟩ | ⟨g, cap, cur, rfl, _⟩
  · exact ⟨none, 0, by rw [e]⟩
  · exact ⟨_, _, rfl⟩

theorem snoc_zero (a : List Int) (j : Nat) : (a ++ List.replicate (j + 1) 0).map (Value.int .i64) = a.map (Value.int .i64) ++ (List.replicate j (.int .i64 0) ++ [.int .i64 0]) := by
  rw [List.replicate_succ']
  simp


/-- How long the slice in a slot is. -/
def sliceLen : Value → Nat
  | .slice _ n _ => n
  | _ => 0

theorem joinT_none (a : List Int) : joinT a [] = a := by unfold joinT; rw [if_pos rfl]
theorem joinT_some {a b : List Int} (h : b ≠ []) : joinT a b = a ++ List.replicate (32 - a.length) 0 ++ b := by unfold joinT; rw [if_neg h]

theorem tear_all {old next : List Int} (h : next.length ≤ 64) : tear old next 1 = next := by
  unfold tear tearA tearB
  rw [if_pos (Or.inl rfl), if_pos (Or.inl rfl)]
  by_cases hd : next.drop 32 = []
  · rw [hd, joinT_none]
    exact List.take_of_length_le (by have := congrArg List.length hd; simp at this; omega)
  · rw [joinT_some hd]
    have hl : 32 < next.length := by
      apply Nat.lt_of_not_le
      intro hle
      exact hd (List.drop_eq_nil_of_le hle)
    have e : (next.take 32).length = 32 := by simp; omega
    rw [e]
    simp

theorem tear_len {old next : List Int} {p : Int} (h1 : old.length ≤ 64) (h2 : next.length ≤ 64) : (tear old next p).length ≤ 64 := by
  have hA : (tearA old next p).length ≤ 32 := by unfold tearA; split <;> simp <;> omega
  have hB : (tearB old next p).length ≤ 32 := by unfold tearB; split <;> simp <;> omega
  unfold tear joinT
  split
  · omega
  · simp; omega
theorem RdI.at {S : Nat → Prop} {w : World} {ao : Option Addr} {n c : Nat} {xs : List Int} (h : RdI S w (.slice ao n c) xs) {k : Nat} (hk : k < xs.length) : ∃ b off, ao = some ⟨b, off, none⟩ ∧ w.cell? ⟨b, off + k, none⟩ = some (.int .i64 (xs.getD k 0)) := by
  obtain ⟨ao', c', e1, e2, e3⟩ := h
  obtain ⟨b, off, f1, f2, f3⟩ := e3 (by rintro rfl; simp at hk)
  injection e1 with e1 _ _
  exact ⟨b, off, by rw [e1, f1], f3 k hk⟩
end Go.Proofs.YtncgpfapepminaaGreatDoor
/- The model's draws of lists: 'spec.l1Pick', 'spec.l1Source', 'spec.l1DrawWords', walked. -/
namespace Go.Proofs.YtncgpfapepminaaGreatDoor
open Go.RowKit

theorem Wr.onBelow {S : Nat → Prop} {a w w' : World} (h : Wr S a w) (k : Below a.heap.size w w') : Wr S a w' :=
  ⟨k.os.trans h.os, k.tape.trans h.tape, k.output.trans h.output, Nat.le_trans h.size k.size, fun i hi hs => (k.block i hi).trans (h.block i hi hs), fun b o hb => (k.frozen (p := ⟨b, o, none⟩) hb).trans (h.frz b o hb)⟩

theorem Drawn.on {M N s : Nat} {v : Value} {bs : List Nat} {t t' t'' : Nat} {a b c : World} (h : Drawn M s v bs t t' a b) (k : Drawn N s v bs t' t'' b c) : Drawn (M + N) s v bs t t'' a c :=
  ⟨k.1, h.2.1.trans k.2.1, by have := h.2.2; have := k.2.2; omega⟩
theorem Drawn.refl {s : Nat} {v : Value} {bs : List Nat} {t : Nat} {w : World} (h : Src s v bs w t) : Drawn 0 s v bs t t w w := ⟨h, Wr.refl _ _, Nat.le_refl _⟩
theorem Drawn.later {N s : Nat} {v : Value} {bs : List Nat} {t t' : Nat} {a b c : World} (h : Drawn N s v bs t t' a b) (hb : Below b.heap.size b c) : Drawn N s v bs t t' a c :=
  ⟨h.1.later hb, h.2.1.on hb, h.2.2⟩
theorem Drawn.mono {M N s : Nat} {v : Value} {bs : List Nat} {t t' : Nat} {a b : World} (h : Drawn M s v bs t t' a b) (hN : M ≤ N) : Drawn N s v bs t t' a b := ⟨h.1, h.2.1, by have := h.2.2; omega⟩

theorem l1Source {w : World} {v : Value} {bs : List Nat} (hv : RdB w.heap.size w v bs) :
    Calls Tryz.prog 15 #[v] w fun e w' => e = .returned (.pointer (some ⟨w.heap.size, 0, none⟩)) ∧ Below w.heap.size w w' ∧ w'.heap.size = w.heap.size + 1 ∧ Src w.heap.size v bs w' 0 := by
  have HV := hide hv
  obtain ⟨ao, c, rfl, h2, h3⟩ := hv
  go_enter Tryz.func15, Tryz.ntmps15
  go_wp2
  go_ret
  refine ⟨rfl, below_alloc _ _, by simp, by simp [go_sem], by simp [go_sem], fun o => by simp [go_sem], ?_⟩
  obtain ⟨ao', c', e1, e2, e3⟩ := HV.out
  refine ⟨ao', c', e1, e2, fun hne => ?_⟩
  obtain ⟨b, off, f1, f2, f3⟩ := e3 hne
  exact ⟨b, off, f1, f2, fun i hi => ⟨cell_later (below_alloc _ _) (f3 i hi).1, (f3 i hi).2⟩⟩

set_option maxHeartbeats 1000000 in
/-- 'l1Pick': one of the list. -/
theorem l1Pick {s : Nat} {v u : Value} {bs : List Nat} {w : World} {t : Nat} {xs : List Int} (hS : Src s v bs w t) (ht : t ≤ 1073741824) (hu : RdI (· ≠ s) w u xs) (hx0 : xs ≠ []) (hxl : xs.length ≤ 1048576) :
    Calls Tryz.prog 18 #[.pointer (some ⟨s, 0, none⟩), u] w fun e w' => ∃ i, i < xs.length ∧ e = .returned (.int .i64 (xs.getD i 0)) ∧ ∃ t', Drawn 1 s v bs t t' w w' := by
  have HS := hide hS
  obtain ⟨ao, c, rfl, h2, h3⟩ := hu
  obtain ⟨b, off, rfl, hb, hc⟩ := h3 hx0
  have HC := hide hc
  obtain ⟨k, hk⟩ : ∃ k, xs.length = k := ⟨_, rfl⟩
  have HK := hide hk
  have hk0 : 0 < k := by rw [← hk]; exact List.length_pos_iff.2 hx0
  rw [hk] at hxl ⊢
  clear hS h2 h3 hc hk hx0
  go_enter Tryz.func18, Tryz.ntmps18
  go_wp2_with fail
  refine (l1Next (k : Int) HS.out ht (by omega) (by omega)).mono ?_
  rintro e w1 ⟨r, rfl, hr0, hr1, t', hd⟩
  have hr2 : r < (k : Int) := hr1 (by omega)
  obtain ⟨i, rfl⟩ : ∃ i : Nat, r = (i : Int) := ⟨r.toNat, (Int.toNat_of_nonneg hr0).symm⟩
  have hi : i < k := by omega
  have g1 := cell_wr hd.2.1 (HC.out i (by rw [HK.out]; exact hi)) hb
  obtain ⟨x, hx⟩ : ∃ x, xs.getD i 0 = x := ⟨_, rfl⟩
  have HX := hide hx
  rw [hx] at g1
  have HD := hide hd
  clear hr1 hd hx
  go_wp2
  go_ret
  exact ⟨i, hi, ret_int HX.out.symm, t', HD.out⟩
theorem RdI_new (s : Nat) (w : World) (xs : List Int) (t : TypeId) (hs : s < w.heap.size) (hl : xs.length ≤ 1048576) : RdI (· ≠ s) (w.alloc (.cells (xs.map (Value.int .i64)).toArray t)) (.slice (some ⟨w.heap.size, 0, none⟩) xs.length xs.length) xs := by
  refine ⟨_, 0, by simp, by omega, fun _ => ⟨w.heap.size, 0, rfl, by omega, fun i hi => ?_⟩⟩
  simp [go_sem]
  rw [List.getElem?_eq_getElem hi]
  rfl

theorem Drawn.onBelow {N s : Nat} {v : Value} {bs : List Nat} {t0 t t' : Nat} {a b c : World} (h0 : Src s v bs a t0) (h : Drawn N s v bs t t' a b) (hb : Below a.heap.size b c) : Drawn N s v bs t t' a c := by
  have hl := h0.lt
  have hw := h.2.1.onBelow hb
  exact ⟨⟨(hb.cell (p := ⟨s, 0, none⟩) hl).trans h.1.code, (hb.cell (p := ⟨s, 1, none⟩) hl).trans h.1.at_, fun o => (hb.frozen (p := ⟨s, o, none⟩) hl).trans (h.1.free o), h0.rd.wr hw⟩, hw, h.2.2⟩

theorem ownsRow_wr {w w' : World} {B e z s : Nat} {v : Value} {n : Nat} {xs : List Value} (h : w.ownsRow B e z v n xs) (hw : Wr (· = s) w w') (hs : v.ownBlock ≠ some s) : w'.ownsRow B e z v n xs := by
  obtain ⟨h1, h2⟩ := h
  refine ⟨h1, ?_⟩
  rcases h2 with h2 | ⟨g, cap, cur, hv, hg, hh, r⟩
  · exact Or.inl h2
  · exact Or.inr ⟨g, cap, cur, hv, hg, by rw [hw.block g (Array.getElem?_eq_some_iff.1 hh).1 (fun e => hs (by rw [hv, e]; rfl))]; exact hh, r⟩
theorem ownBlock_ne {w : World} {B e z s : Nat} {v : Value} {n : Nat} {xs : List Value} (h : w.ownsRow B e z v n xs) (hs : s < B) : v.ownBlock ≠ some s := fun e => by have := (h.lt _ e).1; omega

theorem made_ints (w : World) (n : Nat) (hn : n ≤ 1048576) (t : TypeId) : OwI w.heap.size (w.alloc (.cells (madeCells #[.int .i64 0] n) t)) (.slice (some ⟨w.heap.size, 0, none⟩) n n) (List.replicate n 0) := by
  refine ⟨w.heap.size, ⟨_, 0, by simp, by simp; omega, fun _ => ⟨w.heap.size, 0, rfl, rfl, fun i hi => ?_⟩⟩, fun _ => ⟨Nat.le_refl _, by simp, fun o => by simp [go_sem]⟩⟩
  have hi' : i < n := by simpa using hi
  have := (World.rowIs_made w (.int .i64 0) n t).cell hi'
  simpa [List.getD, hi'] using this

end Go.Proofs.YtncgpfapepminaaGreatDoor
/- The walks of the laws' comparing functions: two readings of one datum are equal. -/
namespace Go.Proofs.YtncgpfapepminaaGreatDoor
open Go.RowKit
end Go.Proofs.YtncgpfapepminaaGreatDoor
/- The walks of the laws' functions that reckon sizes. -/
namespace Go.Proofs.YtncgpfapepminaaGreatDoor
open Go.RowKit

/-- What is left of 'left' behind s; -1 where it does not suffice. -/
def szv (left s : Int) : Int := if s ≤ left then left - s else -1
theorem szv_yes {left s : Int} (h : s ≤ left) : szv left s = left - s := by unfold szv; rw [if_pos h]
theorem szv_no {left s : Int} (h : left < s) : szv left s = -1 := by unfold szv; rw [if_neg (by omega)]

/-- How many words the first i puts hold. -/
def totW (ps : List (Int × List Int)) (i : Nat) : Nat := ((ps.take i).map fun p => p.2.length).sum
theorem totW_zero (ps : List (Int × List Int)) : totW ps 0 = 0 := by simp [totW]
theorem totW_succ (ps : List (Int × List Int)) (i : Nat) (h : i < ps.length) : totW ps (i + 1) = totW ps i + (ps.getD i (0, [])).2.length := by
  unfold totW
  rw [List.take_succ_eq_append_getElem h]
  simp only [List.map_append, List.sum_append, List.map_cons, List.map_nil, List.sum_cons, List.sum_nil]
  simp [List.getD, h]
theorem totW_le (ps : List (Int × List Int)) : ∀ (i j : Nat), i ≤ j → totW ps i ≤ totW ps j := by
  intro i j h
  unfold totW
  have : ps.take j = ps.take i ++ (ps.drop i).take (j - i) := by
    rw [← List.take_add]; congr 1; omega
  rw [this]; simp
theorem totP_eq (ps : List (Int × List Int)) : ∀ j, j ≤ ps.length → totP ps j = totW ps j + j := by
  intro j
  induction j with
  | zero => intro _; simp [totP, totW]
  | succ j ih => intro h; rw [totP_succ ps j h, totW_succ ps j h, ih (by omega)]; omega

/-- How much a disk holds. -/
def szD (xss : List (List Int)) (ps : List (Int × List Int)) : Int := (xss.length : Int) + (tot xss xss.length : Int) + ((ps.length : Int) + (totW ps ps.length : Int))

end Go.Proofs.YtncgpfapepminaaGreatDoor
/- What is small enough to be copied; a disk that lies in blocks of its own. -/
namespace Go.Proofs.YtncgpfapepminaaGreatDoor
open Go.RowKit

theorem len_le_tot (xss : List (List Int)) (i : Nat) (h : i < xss.length) : (xss.getD i []).length ≤ tot xss xss.length := by
  have h1 := tot_succ xss i h
  have h2 := tot_le xss (i + 1) xss.length h
  omega
theorem len_le_totW (ps : List (Int × List Int)) (i : Nat) (h : i < ps.length) : (ps.getD i (0, [])).2.length ≤ totW ps ps.length := by
  have h1 := totW_succ ps i h
  have h2 := totW_le ps (i + 1) ps.length h
  omega

/-- What is small enough to be copied. -/
structure Small (xss : List (List Int)) (ps : List (Int × List Int)) : Prop where
  rows : xss.length ≤ 1048576
  row : ∀ i, i < xss.length → (xss.getD i []).length ≤ 1048576
  puts : ps.length ≤ 1048576
  put : ∀ i, i < ps.length → (ps.getD i (0, [])).2.length ≤ 1048576
  all : tot xss xss.length + totW ps ps.length ≤ 1048576

theorem Small.of {xss : List (List Int)} {ps : List (Int × List Int)} (h : szD xss ps ≤ 1048576) : Small xss ps := by
  unfold szD at h
  exact ⟨by omega, fun i hi => by have := len_le_tot xss i hi; omega, by omega, fun i hi => by have := len_le_totW ps i hi; omega, by omega⟩

theorem OwD.rdII {B : Nat} {w : World} {u v : Value} {xss : List (List Int)} {ps : List (Int × List Int)} (h : OwD B w u v xss ps) : RdII (fun b => B ≤ b ∧ b < w.heap.size) w u xss := by
  obtain ⟨S, T, h1, h2, h3, h4, h5⟩ := h
  exact (h4.mono h1).rd
theorem OwD.rdP {B : Nat} {w : World} {u v : Value} {xss : List (List Int)} {ps : List (Int × List Int)} (h : OwD B w u v xss ps) : RdP (fun b => B ≤ b ∧ b < w.heap.size) w v ps := by
  obtain ⟨S, T, h1, h2, h3, h4, h5⟩ := h
  exact (h5.mono h2).rd
theorem OwD.shape {B : Nat} {w : World} {u v : Value} {xss : List (List Int)} {ps : List (Int × List Int)} (h : OwD B w u v xss ps) : ∃ ao c ao' c', u = .slice ao xss.length c ∧ v = .slice ao' ps.length c' := by
  obtain ⟨S, T, h1, h2, h3, h4, h5⟩ := h
  obtain ⟨ao, c, rfl⟩ := h4.shape
  obtain ⟨ao', c', rfl⟩ := h5.shape
  exact ⟨_, _, _, _, rfl, rfl⟩
end Go.Proofs.YtncgpfapepminaaGreatDoor
