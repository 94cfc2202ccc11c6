/- Tear Mp1 in one text: what each says stands at its head below. -/
import Derived.Test.YtiommfabhchgdaaG05
import Derived.Test.YtiommfabhchgdaaG09
import Derived.Deep.AppendLies
import Derived.Test.YtiommfabhchgdaaG08
import Derived.BigQuiet
/- What a block holds if just so much of what was put is there: 'spec.l1Half', 'spec.l1Tear', walked. -/
namespace Go.Proofs.Ytiommfabhchgdaa
open Go.RowKit

theorem l1Min_any (a b : Int) (w : World) :
    Calls Try.prog 46 #[.int .i64 a, .int .i64 b] w fun e w' => e = .returned (.int .i64 (if a < b then a else b)) ∧ w' = w := by
  by_cases h : a < b
  · rw [if_pos h]
    go_enter Try.func46, Try.ntmps46
    go_wp2
    go_ret
    exact ⟨rfl, rfl⟩
  · rw [if_neg h]
    go_enter Try.func46, Try.ntmps46
    go_wp2
    go_ret
    exact ⟨rfl, rfl⟩

theorem RdI_nil (S : Nat → Prop) (w : World) (ao : Option Addr) (c : Nat) : RdI S w (.slice ao 0 c) [] := ⟨ao, c, by simp, by simp, fun h => absurd rfl h⟩

/-- What a block holds behind a tear. -/
def tearA (old next : List Int) (pick : Int) : List Int := if pick = 1 ∨ pick = 2 then next.take 32 else old.take 32
def tearB (old next : List Int) (pick : Int) : List Int := if pick = 1 ∨ pick = 3 then next.drop 32 else old.drop 32
/-- a, filled up with words 0 where b is not empty, and b behind it. -/
def joinT (a b : List Int) : List Int := if b = [] then a else a ++ List.replicate (32 - a.length) 0 ++ b
def tear (old next : List Int) (pick : Int) : List Int := joinT (tearA old next pick) (tearB old next pick)

theorem ownsRow_shape {w : World} {B e z n : Nat} {v : Value} {xs : List Value} (h : w.ownsRow B e z v n xs) : ∃ ao c, v = .slice ao n c := by
  rcases h.2 with ⟨rfl, e⟩ | ⟨g, cap, cur, rfl, _⟩
  · exact ⟨none, 0, by rw [e]⟩
  · exact ⟨_, _, rfl⟩

theorem snoc_zero (a : List Int) (j : Nat) : (a ++ List.replicate (j + 1) 0).map (Value.int .i64) = a.map (Value.int .i64) ++ (List.replicate j (.int .i64 0) ++ [.int .i64 0]) := by
  rw [List.replicate_succ']
  simp


/-- How long the slice in a slot is. -/
def sliceLen : Value → Nat
  | .slice _ n _ => n
  | _ => 0

theorem joinT_none (a : List Int) : joinT a [] = a := by unfold joinT; rw [if_pos rfl]
theorem joinT_some {a b : List Int} (h : b ≠ []) : joinT a b = a ++ List.replicate (32 - a.length) 0 ++ b := by unfold joinT; rw [if_neg h]

theorem tear_all {old next : List Int} (h : next.length ≤ 64) : tear old next 1 = next := by
  unfold tear tearA tearB
  rw [if_pos (Or.inl rfl), if_pos (Or.inl rfl)]
  by_cases hd : next.drop 32 = []
  · rw [hd, joinT_none]
    exact List.take_of_length_le (by have := congrArg List.length hd; simp at this; omega)
  · rw [joinT_some hd]
    have hl : 32 < next.length := by
      apply Nat.lt_of_not_le
      intro hle
      exact hd (List.drop_eq_nil_of_le hle)
    have e : (next.take 32).length = 32 := by simp; omega
    rw [e]
    simp

theorem tear_len {old next : List Int} {p : Int} (h1 : old.length ≤ 64) (h2 : next.length ≤ 64) : (tear old next p).length ≤ 64 := by
  have hA : (tearA old next p).length ≤ 32 := by unfold tearA; split <;> simp <;> omega
  have hB : (tearB old next p).length ≤ 32 := by unfold tearB; split <;> simp <;> omega
  unfold tear joinT
  split
  · omega
  · simp; omega
theorem RdI.at {S : Nat → Prop} {w : World} {ao : Option Addr} {n c : Nat} {xs : List Int} (h : RdI S w (.slice ao n c) xs) {k : Nat} (hk : k < xs.length) : ∃ b off, ao = some ⟨b, off, none⟩ ∧ w.cell? ⟨b, off + k, none⟩ = some (.int .i64 (xs.getD k 0)) := by
  obtain ⟨ao', c', e1, e2, e3⟩ := h
  obtain ⟨b, off, f1, f2, f3⟩ := e3 (by rintro rfl; simp at hk)
  injection e1 with e1 _ _
  exact ⟨b, off, by rw [e1, f1], f3 k hk⟩
end Go.Proofs.Ytiommfabhchgdaa
/- Chapter 7: the fault of a map, both sides walked. -/
namespace Go.Proofs.Ytiommfabhchgdaa
open Go.RowKit

/-- What is asked of the i-th number. -/
def mpS (xs : List Int) (i : Nat) : Int :=
  if ¬ (3 ≤ xs.getD i 0 ∧ xs.getD i 0 ≤ 22) then 3 else if 0 < i ∧ xs.getD i 0 ≤ xs.getD (i - 1) 0 then 1 else 0
/-- .. of n numbers, from the k-th on: the first code. -/
def mpFrom (xs : List Int) : Nat → Nat → Int
  | 0, _ => 0
  | n + 1, k => if mpS xs k = 0 then mpFrom xs n (k + 1) else mpS xs k
/-- The fault of a map. -/
def mapF (xs : List Int) : Int := mpFrom xs xs.length 0
theorem mpFrom_ok {xs : List Int} {m j : Nat} (hj : j < m) (h : mpS xs j = 0) : mpFrom xs (m - j) j = mpFrom xs (m - (j + 1)) (j + 1) := by
  rw [show m - j = (m - (j + 1)) + 1 by omega, mpFrom, if_pos h]
theorem mpFrom_no {xs : List Int} {m j : Nat} (hj : j < m) (h : mpS xs j ≠ 0) : mpFrom xs (m - j) j = mpS xs j := by
  rw [show m - j = (m - (j + 1)) + 1 by omega, mpFrom, if_neg h]
theorem mpFrom_end {xs : List Int} {m j : Nat} (hj : ¬ j < m) : mpFrom xs (m - j) j = 0 := by
  rw [show m - j = 0 by omega, mpFrom]
theorem mpFrom_all {xs : List Int} : ∀ (n k : Nat), mpFrom xs n k = 0 ↔ ∀ i, k ≤ i → i < k + n → mpS xs i = 0
  | 0, k => ⟨fun _ i h1 h2 => by omega, fun _ => rfl⟩
  | n + 1, k => by
    rw [mpFrom]
    by_cases hs : mpS xs k = 0
    · rw [if_pos hs, mpFrom_all n (k + 1)]
      constructor
      · intro h i h1 h2
        by_cases e : i = k
        · rw [e]; exact hs
        · exact h i (by omega) (by omega)
      · intro h i h1 h2
        exact h i (by omega) (by omega)
    · rw [if_neg hs]
      exact ⟨fun h => absurd h hs, fun h => h k (Nat.le_refl _) (by omega)⟩
/-- What a map without a fault is. -/
def IsMap (xs : List Int) : Prop := (∀ x, x ∈ xs → 3 ≤ x ∧ x ≤ 22) ∧ xs.Pairwise (· < ·)
theorem mpS_iff {xs : List Int} {i : Nat} : mpS xs i = 0 ↔ (3 ≤ xs.getD i 0 ∧ xs.getD i 0 ≤ 22) ∧ ¬ (0 < i ∧ xs.getD i 0 ≤ xs.getD (i - 1) 0) := by
  unfold mpS
  by_cases h1 : 3 ≤ xs.getD i 0 ∧ xs.getD i 0 ≤ 22
  · rw [if_neg (fun h => h h1)]
    by_cases h2 : 0 < i ∧ xs.getD i 0 ≤ xs.getD (i - 1) 0
    · rw [if_pos h2]; exact ⟨fun h => absurd h (by decide), fun h => absurd h2 h.2⟩
    · rw [if_neg h2]; exact ⟨fun _ => ⟨h1, h2⟩, fun _ => rfl⟩
  · rw [if_pos h1]; exact ⟨fun h => absurd h (by decide), fun h => absurd h.1 h1⟩
theorem up_of_next {xs : List Int} (h : ∀ i, i + 1 < xs.length → xs.getD i 0 < xs.getD (i + 1) 0) : ∀ (i j : Nat), i < j → j < xs.length → xs.getD i 0 < xs.getD j 0 := by
  intro i j
  induction j with
  | zero => intro h; omega
  | succ j ih =>
    intro h1 h2
    have h3 := h j h2
    by_cases e : i = j
    · rw [e]; exact h3
    · have := ih (by omega) (by omega); omega
theorem mapF_iff {xs : List Int} : mapF xs = 0 ↔ IsMap xs := by
  unfold mapF IsMap
  rw [mpFrom_all]
  constructor
  · intro h
    have hs : ∀ i, i < xs.length → (3 ≤ xs.getD i 0 ∧ xs.getD i 0 ≤ 22) ∧ ¬ (0 < i ∧ xs.getD i 0 ≤ xs.getD (i - 1) 0) := fun i hi => mpS_iff.1 (h i (Nat.zero_le _) (by omega))
    refine ⟨fun x hx => ?_, ?_⟩
    · obtain ⟨i, hi, rfl⟩ := List.mem_iff_getElem.1 hx
      have := (hs i hi).1
      simpa [List.getD, hi] using this
    · rw [List.pairwise_iff_getElem]
      intro i j hi hj hij
      have := up_of_next (xs := xs) (fun i hi => by have := (hs (i + 1) hi).2; rw [show i + 1 - 1 = i by omega] at this; omega) i j hij hj
      simpa [List.getD, hi, hj] using this
  · rintro ⟨h1, h2⟩ i _ hi
    rw [Nat.zero_add] at hi
    rw [mpS_iff]
    refine ⟨?_, fun ⟨h0, h⟩ => ?_⟩
    · have := h1 xs[i] (List.getElem_mem hi)
      simpa [List.getD, hi] using this
    · rw [List.pairwise_iff_getElem] at h2
      have := h2 (i - 1) i (by omega) hi (by omega)
      have h3 : i - 1 < xs.length := by omega
      simp [List.getD, hi, h3] at h
      omega
theorem RdI.max {S : Nat → Prop} {w : World} {v : Value} {xs : List Int} (h : RdI S w v xs) : xs.length ≤ 9223372036854775807 := by obtain ⟨_, _, _, h, _⟩ := h; exact h

set_option maxHeartbeats 1000000 in
set_option maxRecDepth 4000 in
theorem implMapFault {S : Nat → Prop} {w : World} {v : Value} {xs : List Int} (hv : RdI S w v xs) :
    Calls Try.prog 92 #[v] w fun e w' => e = .returned (.int .i64 (mapF xs)) ∧ ∃ q, w' = w.drewN q := by
  obtain ⟨ao, c, rfl⟩ := hv.shape
  have hm := hv.max
  have HV := hide hv
  obtain ⟨m, hmm⟩ : ∃ m, xs.length = m := ⟨_, rfl⟩
  have HM := hide hmm
  rw [hmm] at HV hm ⊢
  clear hv hmm
  have HE := hide (show mapF xs = mpFrom xs m 0 by unfold mapF; rw [HM.out])
  go_enter Try.func92, Try.ntmps92
  go_wp2
  go_loopw [7] (fun i wr => ∃ j q : Nat, j ≤ m ∧ i = .int .i64 j ∧ Hid (mapF xs = mpFrom xs (m - j) j) ∧ wr = w.drewN q) (fun i _ => m - (intOf i).toNat)
  case atStart => exact ⟨0, 0, Nat.zero_le _, rfl, HE.out, rfl⟩
  case round =>
    obtain ⟨k, q, hk, rfl, HG, rfl⟩ := hrel
    by_cases hlt : k < m
    · obtain ⟨b, off, rfl, q1⟩ := HV.out.at (k := k) (by rw [HM.out]; exact hlt)
      obtain ⟨x, hx⟩ : ∃ x, xs.getD k 0 = x := ⟨_, rfl⟩
      rw [hx] at q1
      have HX := hide hx
      clear hx
      have hk0' : (0 : Int) ≤ (k : Int) := by omega
      have hkm' : (k : Int) < (m : Int) := by omega
      by_cases hat : 3 ≤ x ∧ x ≤ 22
      · have HAt := hide hat
        obtain ⟨ha1, ha2⟩ := hat
        have hb1 : ¬ x < 3 := by omega
        have hb2 : ¬ 22 < x := by omega
        by_cases hk0 : k = 0
        · subst hk0
          have q1z : w.cell? ⟨b, off, none⟩ = some (.int .i64 x) := by simpa using q1
          clear q1
          have HF2 := hide (HG.out.trans (mpFrom_ok hlt (by unfold mpS; rw [HX.out, if_neg (fun h => h HAt.out), if_neg (by omega)])))
          go_wp2
          go_roundw
          case rel => exact ⟨0 + 1, q, by omega, by go_num, HF2.out, by first | rfl | trivial⟩
          case measure => simp [intOf]; omega
        · obtain ⟨j, hjk⟩ : ∃ j, k = j + 1 := ⟨k - 1, by omega⟩
          obtain ⟨b', off', e', q1'⟩ := HV.out.at (k := j) (by rw [HM.out]; omega)
          injection e' with e'
          injection e' with e1 e2
          subst e1 e2
          obtain ⟨z, hz⟩ : ∃ z, xs.getD j 0 = z := ⟨_, rfl⟩
          rw [hz] at q1'
          have HZ := hide hz
          clear hz
          have hw1 : IntKind.i64.wrap ((k : Int) - 1) = (j : Int) := by simp [IntKind.wrap, IntKind.bits, IntKind.signed]; omega
          have hkp : 0 < k := by omega
          have hj0 : (0 : Int) < (k : Int) := by omega
          have hjp : (0 : Int) ≤ (j : Int) := by omega
          have hjn : (j : Int) < (m : Int) := by omega
          have HJK := hide hjk
          clear hk0 hjk
          by_cases hxz : x ≤ z
          · have HF2 := hide (HG.out.trans ((mpFrom_no hlt (by unfold mpS; rw [HX.out, if_neg (fun h => h HAt.out), show k - 1 = j by have := HJK.out; omega, HZ.out, if_pos ⟨by omega, hxz⟩]; decide)).trans (show mpS xs k = 1 by unfold mpS; rw [HX.out, if_neg (fun h => h HAt.out), show k - 1 = j by have := HJK.out; omega, HZ.out, if_pos ⟨by omega, hxz⟩])))
            go_wp2
            go_ret
            exact ⟨ret_int HF2.out.symm, q, rfl⟩
          · have HF2 := hide (HG.out.trans (mpFrom_ok hlt (by unfold mpS; rw [HX.out, if_neg (fun h => h HAt.out), show k - 1 = j by have := HJK.out; omega, HZ.out, if_neg (fun h => hxz h.2)])))
            go_wp2
            go_roundw
            case rel => exact ⟨k + 1, q, by omega, by go_num, HF2.out, by first | rfl | trivial⟩
            case measure => simp [intOf]; omega
      · have HF2 : Hid (mapF xs = 3) := by
          have h : mpS xs k = 3 := by unfold mpS; rw [HX.out, if_pos hat]
          exact HG.out.trans ((mpFrom_no hlt (by rw [h]; decide)).trans h)
        have hor : x < 3 ∨ 22 < x := by omega
        clear hat
        by_cases h3 : x < 3
        · go_wp2
          go_ret
          exact ⟨ret_int HF2.out.symm, q, rfl⟩
        · have h22 : 22 < x := by omega
          clear hor
          go_wp2
          go_ret
          exact ⟨ret_int HF2.out.symm, q, rfl⟩
    · have HZ := hide (HG.out.trans (mpFrom_end hlt))
      go_wp2
      go_ret
      exact ⟨ret_int HZ.out.symm, q, rfl⟩

end Go.Proofs.Ytiommfabhchgdaa
