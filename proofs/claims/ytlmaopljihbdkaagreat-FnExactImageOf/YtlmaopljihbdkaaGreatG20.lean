/- Tear Mp1 Cont Mp2 in one text: what each says stands at its head below. -/
import Derived.Test.YtlmaopljihbdkaaGreatG05
import Derived.Test.YtlmaopljihbdkaaGreatG07
import Derived.Deep.AppendLies
import Derived.BigQuiet
import Derived.Test.YtlmaopljihbdkaaGreatG11
/- What a block holds if just so much of what was put is there: 'spec.l1Half', 'spec.l1Tear', walked. -/
namespace Go.Proofs.YtlmaopljihbdkaaGreat
open Go.RowKit

theorem l1Min_any (a b : Int) (w : World) :
    Calls Tryz.prog 118 #[.int .i64 a, .int .i64 b] w fun e w' => e = .returned (.int .i64 (if a < b then a else b)) ∧ w' = w := by
  by_cases h : a < b
  · rw [if_pos h]
    go_enter Tryz.func118, Tryz.ntmps118
    go_wp2
    go_ret
    exact ⟨rfl, rfl⟩
  · rw [if_neg h]
    go_enter Tryz.func118, Tryz.ntmps118
    go_wp2
    go_ret
    exact ⟨rfl, rfl⟩

theorem RdI_nil (S : Nat → Prop) (w : World) (ao : Option Addr) (c : Nat) : RdI S w (.slice ao 0 c) [] := ⟨ao, c, by simp, by simp, fun h => absurd rfl h⟩

/-- What a block holds behind a tear. -/
def tearA (old next : List Int) (pick : Int) : List Int := if pick = 1 ∨ pick = 2 then next.take 32 else old.take 32
def tearB (old next : List Int) (pick : Int) : List Int := if pick = 1 ∨ pick = 3 then next.drop 32 else old.drop 32
/-- a, filled up with words 0 where b is not empty, and b behind it. -/
def joinT (a b : List Int) : List Int := if b = [] then a else a ++ List.replicate (32 - a.length) 0 ++ b
def tear (old next : List Int) (pick : Int) : List Int := joinT (tearA old next pick) (tearB old next pick)

theorem ownsRow_shape {w : World} {B e z n : Nat} {v : Value} {xs : List Value} (h : w.ownsRow B e z v n xs) : ∃ ao c, v = .slice ao n c := by
  rcases h.2 with ⟨rfl, e⟩ | ⟨g, cap, cur, rfl, _⟩
  · exact ⟨none, 0, by rw [e]⟩
  · exact ⟨_, _, rfl⟩

theorem snoc_zero (a : List Int) (j : Nat) : (a ++ List.replicate (j + 1) 0).map (Value.int .i64) = a.map (Value.int .i64) ++ (List.replicate j (.int .i64 0) ++ [.int .i64 0]) := by
  rw [List.replicate_succ']
  simp


/-- How long the slice in a slot is. -/
def sliceLen : Value → Nat
  | .slice _ n _ => n
  | _ => 0

theorem joinT_none (a : List Int) : joinT a [] = a := by unfold joinT; rw [if_pos rfl]
theorem joinT_some {a b : List Int} (h : b ≠ []) : joinT a b = a ++ List.replicate (32 - a.length) 0 ++ b := by unfold joinT; rw [if_neg h]

theorem tear_all {old next : List Int} (h : next.length ≤ 64) : tear old next 1 = next := by
  unfold tear tearA tearB
  rw [if_pos (Or.inl rfl), if_pos (Or.inl rfl)]
  by_cases hd : next.drop 32 = []
  · rw [hd, joinT_none]
    exact List.take_of_length_le (by have := congrArg List.length hd; simp at this; omega)
  · rw [joinT_some hd]
    have hl : 32 < next.length := by
      apply Nat.lt_of_not_le
      intro hle
      exact hd (List.drop_eq_nil_of_le hle)
    have e : (next.take 32).length = 32 := by simp; omega
    rw [e]
    simp

theorem tear_len {old next : List Int} {p : Int} (h1 : old.length ≤ 64) (h2 : next.length ≤ 64) : (tear old next p).length ≤ 64 := by
  have hA : (tearA old next p).length ≤ 32 := by unfold tearA; split <;> simp <;> omega
  have hB : (tearB old next p).length ≤ 32 := by unfold tearB; split <;> simp <;> omega
  unfold tear joinT
  split
  · omega
  · simp; omega
theorem RdI.at {S : Nat → Prop} {w : World} {ao : Option Addr} {n c : Nat} {xs : List Int} (h : RdI S w (.slice ao n c) xs) {k : Nat} (hk : k < xs.length) : ∃ b off, ao = some ⟨b, off, none⟩ ∧ w.cell? ⟨b, off + k, none⟩ = some (.int .i64 (xs.getD k 0)) := by
  obtain ⟨ao', c', e1, e2, e3⟩ := h
  obtain ⟨b, off, f1, f2, f3⟩ := e3 (by rintro rfl; simp at hk)
  injection e1 with e1 _ _
  exact ⟨b, off, by rw [e1, f1], f3 k hk⟩
end Go.Proofs.YtlmaopljihbdkaaGreat
/- Chapter 7: the fault of a map, both sides walked. -/
namespace Go.Proofs.YtlmaopljihbdkaaGreat
open Go.RowKit

/-- What is asked of the i-th number. -/
def mpS (xs : List Int) (i : Nat) : Int :=
  if ¬ (3 ≤ xs.getD i 0 ∧ xs.getD i 0 ≤ 22) then 3 else if 0 < i ∧ xs.getD i 0 ≤ xs.getD (i - 1) 0 then 1 else 0
/-- .. of n numbers, from the k-th on: the first code. -/
def mpFrom (xs : List Int) : Nat → Nat → Int
  | 0, _ => 0
  | n + 1, k => if mpS xs k = 0 then mpFrom xs n (k + 1) else mpS xs k
/-- The fault of a map. -/
def mapF (xs : List Int) : Int := mpFrom xs xs.length 0
theorem mpFrom_ok {xs : List Int} {m j : Nat} (hj : j < m) (h : mpS xs j = 0) : mpFrom xs (m - j) j = mpFrom xs (m - (j + 1)) (j + 1) := by
  rw [show m - j = (m - (j + 1)) + 1 by omega, mpFrom, if_pos h]
theorem mpFrom_no {xs : List Int} {m j : Nat} (hj : j < m) (h : mpS xs j ≠ 0) : mpFrom xs (m - j) j = mpS xs j := by
  rw [show m - j = (m - (j + 1)) + 1 by omega, mpFrom, if_neg h]
theorem mpFrom_end {xs : List Int} {m j : Nat} (hj : ¬ j < m) : mpFrom xs (m - j) j = 0 := by
  rw [show m - j = 0 by omega, mpFrom]
theorem mpFrom_all {xs : List Int} : ∀ (n k : Nat), mpFrom xs n k = 0 ↔ ∀ i, k ≤ i → i < k + n → mpS xs i = 0
  | 0, k => ⟨fun _ i h1 h2 => by omega, fun _ => rfl⟩
  | n + 1, k => by
    rw [mpFrom]
    by_cases hs : mpS xs k = 0
    · rw [if_pos hs, mpFrom_all n (k + 1)]
      constructor
      · intro h i h1 h2
        by_cases e : i = k
        · rw [e]; exact hs
        · exact h i (by omega) (by omega)
      · intro h i h1 h2
        exact h i (by omega) (by omega)
    · rw [if_neg hs]
      exact ⟨fun h => absurd h hs, fun h => h k (Nat.le_refl _) (by omega)⟩
/-- What a map without a fault is. -/
def IsMap (xs : List Int) : Prop := (∀ x, x ∈ xs → 3 ≤ x ∧ x ≤ 22) ∧ xs.Pairwise (· < ·)
theorem mpS_iff {xs : List Int} {i : Nat} : mpS xs i = 0 ↔ (3 ≤ xs.getD i 0 ∧ xs.getD i 0 ≤ 22) ∧ ¬ (0 < i ∧ xs.getD i 0 ≤ xs.getD (i - 1) 0) := by
  unfold mpS
  by_cases h1 : 3 ≤ xs.getD i 0 ∧ xs.getD i 0 ≤ 22
  · rw [if_neg (fun h => h h1)]
    by_cases h2 : 0 < i ∧ xs.getD i 0 ≤ xs.getD (i - 1) 0
    · rw [if_pos h2]; exact ⟨fun h => absurd h (by decide), fun h => absurd h2 h.2⟩
    · rw [if_neg h2]; exact ⟨fun _ => ⟨h1, h2⟩, fun _ => rfl⟩
  · rw [if_pos h1]; exact ⟨fun h => absurd h (by decide), fun h => absurd h.1 h1⟩
theorem up_of_next {xs : List Int} (h : ∀ i, i + 1 < xs.length → xs.getD i 0 < xs.getD (i + 1) 0) : ∀ (i j : Nat), i < j → j < xs.length → xs.getD i 0 < xs.getD j 0 := by
  intro i j
  induction j with
  | zero => intro h; omega
  | succ j ih =>
    intro h1 h2
    have h3 := h j h2
    by_cases e : i = j
    · rw [e]; exact h3
    · have := ih (by omega) (by omega); omega
theorem mapF_iff {xs : List Int} : mapF xs = 0 ↔ IsMap xs := by
  unfold mapF IsMap
  rw [mpFrom_all]
  constructor
  · intro h
    have hs : ∀ i, i < xs.length → (3 ≤ xs.getD i 0 ∧ xs.getD i 0 ≤ 22) ∧ ¬ (0 < i ∧ xs.getD i 0 ≤ xs.getD (i - 1) 0) := fun i hi => mpS_iff.1 (h i (Nat.zero_le _) (by omega))
    refine ⟨fun x hx => ?_, ?_⟩
    · obtain ⟨i, hi, rfl⟩ := List.mem_iff_getElem.1 hx
      have := (hs i hi).1
      simpa [List.getD, hi] using this
    · rw [List.pairwise_iff_getElem]
      intro i j hi hj hij
      have := up_of_next (xs := xs) (fun i hi => by have := (hs (i + 1) hi).2; rw [show i + 1 - 1 = i by omega] at this; omega) i j hij hj
      simpa [List.getD, hi, hj] using this
  · rintro ⟨h1, h2⟩ i _ hi
    rw [Nat.zero_add] at hi
    rw [mpS_iff]
    refine ⟨?_, fun ⟨h0, h⟩ => ?_⟩
    · have := h1 xs[i] (List.getElem_mem hi)
      simpa [List.getD, hi] using this
    · rw [List.pairwise_iff_getElem] at h2
      have := h2 (i - 1) i (by omega) hi (by omega)
      have h3 : i - 1 < xs.length := by omega
      simp [List.getD, hi, h3] at h
      omega
theorem RdI.max {S : Nat → Prop} {w : World} {v : Value} {xs : List Int} (h : RdI S w v xs) : xs.length ≤ 9223372036854775807 := by obtain ⟨_, _, _, h, _⟩ := h; exact h

set_option maxHeartbeats 1000000 in
set_option maxRecDepth 4000 in
theorem implMapFault {S : Nat → Prop} {w : World} {v : Value} {xs : List Int} (hv : RdI S w v xs) :
    Calls Tryz.prog 172 #[v] w fun e w' => e = .returned (.int .i64 (mapF xs)) ∧ ∃ q, w' = w.drewN q := by
  obtain ⟨ao, c, rfl⟩ := hv.shape
  have hm := hv.max
  have HV := hide hv
  obtain ⟨m, hmm⟩ : ∃ m, xs.length = m := ⟨_, rfl⟩
  have HM := hide hmm
  rw [hmm] at HV hm ⊢
  clear hv hmm
  have HE := hide (show mapF xs = mpFrom xs m 0 by unfold mapF; rw [HM.out])
  go_enter Tryz.func172, Tryz.ntmps172
  go_wp2
  go_loopw [7] (fun i wr => ∃ j q : Nat, j ≤ m ∧ i = .int .i64 j ∧ Hid (mapF xs = mpFrom xs (m - j) j) ∧ wr = w.drewN q) (fun i _ => m - (intOf i).toNat)
  case atStart => exact ⟨0, 0, Nat.zero_le _, rfl, HE.out, rfl⟩
  case round =>
    obtain ⟨k, q, hk, rfl, HG, rfl⟩ := hrel
    by_cases hlt : k < m
    · obtain ⟨b, off, rfl, q1⟩ := HV.out.at (k := k) (by rw [HM.out]; exact hlt)
      obtain ⟨x, hx⟩ : ∃ x, xs.getD k 0 = x := ⟨_, rfl⟩
      rw [hx] at q1
      have HX := hide hx
      clear hx
      have hk0' : (0 : Int) ≤ (k : Int) := by omega
      have hkm' : (k : Int) < (m : Int) := by omega
      by_cases hat : 3 ≤ x ∧ x ≤ 22
      · have HAt := hide hat
        obtain ⟨ha1, ha2⟩ := hat
        have hb1 : ¬ x < 3 := by omega
        have hb2 : ¬ 22 < x := by omega
        by_cases hk0 : k = 0
        · subst hk0
          have q1z : w.cell? ⟨b, off, none⟩ = some (.int .i64 x) := by simpa using q1
          clear q1
          have HF2 := hide (HG.out.trans (mpFrom_ok hlt (by unfold mpS; rw [HX.out, if_neg (fun h => h HAt.out), if_neg (by omega)])))
          go_wp2
          go_roundw
          case rel => exact ⟨0 + 1, q, by omega, by go_num, HF2.out, by first | rfl | trivial⟩
          case measure => simp [intOf]; omega
        · obtain ⟨j, hjk⟩ : ∃ j, k = j + 1 := ⟨k - 1, by omega⟩
          obtain ⟨b', off', e', q1'⟩ := HV.out.at (k := j) (by rw [HM.out]; omega)
          injection e' with e'
          injection e' with e1 e2
          subst e1 e2
          obtain ⟨z, hz⟩ : ∃ z, xs.getD j 0 = z := ⟨_, rfl⟩
          rw [hz] at q1'
          have HZ := hide hz
          clear hz
          have hw1 : IntKind.i64.wrap ((k : Int) - 1) = (j : Int) := by simp [IntKind.wrap, IntKind.bits, IntKind.signed]; omega
          have hkp : 0 < k := by omega
          have hj0 : (0 : Int) < (k : Int) := by omega
          have hjp : (0 : Int) ≤ (j : Int) := by omega
          have hjn : (j : Int) < (m : Int) := by omega
          have HJK := hide hjk
          clear hk0 hjk
          by_cases hxz : x ≤ z
          · have HF2 := hide (HG.out.trans ((mpFrom_no hlt (by unfold mpS; rw [HX.out, if_neg (fun h => h HAt.out), show k - 1 = j by have := HJK.out; omega, HZ.out, if_pos ⟨by omega, hxz⟩]; decide)).trans (show mpS xs k = 1 by unfold mpS; rw [HX.out, if_neg (fun h => h HAt.out), show k - 1 = j by have := HJK.out; omega, HZ.out, if_pos ⟨by omega, hxz⟩])))
            go_wp2
            go_ret
            exact ⟨ret_int HF2.out.symm, q, rfl⟩
          · have HF2 := hide (HG.out.trans (mpFrom_ok hlt (by unfold mpS; rw [HX.out, if_neg (fun h => h HAt.out), show k - 1 = j by have := HJK.out; omega, HZ.out, if_neg (fun h => hxz h.2)])))
            go_wp2
            go_roundw
            case rel => exact ⟨k + 1, q, by omega, by go_num, HF2.out, by first | rfl | trivial⟩
            case measure => simp [intOf]; omega
      · have HF2 : Hid (mapF xs = 3) := by
          have h : mpS xs k = 3 := by unfold mpS; rw [HX.out, if_pos hat]
          exact HG.out.trans ((mpFrom_no hlt (by rw [h]; decide)).trans h)
        have hor : x < 3 ∨ 22 < x := by omega
        clear hat
        by_cases h3 : x < 3
        · go_wp2
          go_ret
          exact ⟨ret_int HF2.out.symm, q, rfl⟩
        · have h22 : 22 < x := by omega
          clear hor
          go_wp2
          go_ret
          exact ⟨ret_int HF2.out.symm, q, rfl⟩
    · have HZ := hide (HG.out.trans (mpFrom_end hlt))
      go_wp2
      go_ret
      exact ⟨ret_int HZ.out.symm, q, rfl⟩

end Go.Proofs.YtlmaopljihbdkaaGreat
/- slices.Index, slices.Contains over numbers, walked. -/
namespace Go.Proofs.YtlmaopljihbdkaaGreat
open Go.RowKit

set_option maxHeartbeats 1000000 in
set_option maxRecDepth 4000 in
theorem indexI {S : Nat → Prop} {w : World} {u : Value} {xs : List Int} (x : Int) (hu : RdI S w u xs) :
    Calls Tryz.prog 214 #[u, .int .i64 x] w fun e w' => w' = w ∧ ((e = .returned (.int .i64 (-1)) ∧ x ∉ xs) ∨ ∃ i : Nat, e = .returned (.int .i64 (i : Int)) ∧ x ∈ xs) := by
  have hml : xs.length ≤ 9223372036854775807 := by obtain ⟨_, _, _, h, _⟩ := hu; exact h
  obtain ⟨au, cu, rfl⟩ := hu.shape
  have HU := hide hu
  obtain ⟨n, hn⟩ : ∃ n, xs.length = n := ⟨_, rfl⟩
  have HN := hide hn
  rw [hn] at HU hml ⊢
  clear hu hn
  go_enter Tryz.func214, Tryz.ntmps214
  go_wp2
  go_loopw [8] (fun i wr => ∃ k : Nat, k ≤ n ∧ i = .int .i64 (k : Int) ∧ Hid (∀ j, j < k → xs.getD j 0 ≠ x) ∧ wr = w) (fun i _ => n - (RowKit.intOf i).toNat)
  case atStart => exact ⟨0, Nat.zero_le _, rfl, fun j hj => absurd hj (Nat.not_lt_zero _), rfl⟩
  case round =>
    obtain ⟨k, hk, rfl, HA, rfl⟩ := hrel
    by_cases hlt : k < n
    · obtain ⟨b, off, rfl, q1⟩ := HU.out.at (k := k) (by rw [HN.out]; exact hlt)
      obtain ⟨y, hy⟩ : ∃ y, xs.getD k 0 = y := ⟨_, rfl⟩
      rw [hy] at q1
      have HY := hide hy
      have hk0 : (0 : Int) ≤ (k : Int) := by omega
      have hk1 : (k : Int) < (n : Int) := by omega
      clear hy
      by_cases hxy : x = y
      · subst hxy
        have HIn : Hid (x ∈ xs) := by
          rw [Hid, ← HY.out]
          simp [List.getD, show k < xs.length by rw [HN.out]; exact hlt]
        go_wp2
        go_ret
        exact ⟨rfl, Or.inr ⟨k, rfl, HIn.out⟩⟩
      · have HA' : Hid (∀ j, j < k + 1 → xs.getD j 0 ≠ x) := fun j hj => by
          by_cases e : j = k
          · subst e; rw [HY.out]; exact fun e => hxy e.symm
          · exact HA.out j (by omega)
        have hxb : (x == y) = false := by simpa using hxy
        go_wp2
        go_roundw
        case rel => exact ⟨k + 1, hlt, by go_num, HA'.out, by first | rfl | trivial⟩
        case measure => simp [RowKit.intOf]; omega
    · have hkn : k = n := by omega
      subst hkn
      have HNo : Hid (x ∉ xs) := fun h => by
        obtain ⟨j, hj⟩ := List.mem_iff_getElem?.1 h
        have hl := (List.getElem?_eq_some_iff.1 hj).1
        exact HA.out j (by rw [HN.out] at hl; exact hl) (by simp [List.getD, hj])
      go_wp2
      go_ret
      exact ⟨rfl, Or.inl ⟨rfl, HNo.out⟩⟩
theorem containsI {S : Nat → Prop} {w : World} {u : Value} {xs : List Int} (x : Int) (hu : RdI S w u xs) :
    Calls Tryz.prog 198 #[u, .int .i64 x] w fun e w' => w' = w ∧ e = .returned (.bool (decide (x ∈ xs))) := by
  have HI := hide (indexI x hu)
  obtain ⟨au, cu, rfl⟩ := hu.shape
  clear hu
  go_enter Tryz.func198, Tryz.ntmps198
  go_wp2_with fail
  refine HI.out.mono ?_
  rintro e w' ⟨hw, h⟩
  have hw := hw.symm
  subst hw
  rcases h with ⟨rfl, h⟩ | ⟨i, rfl, h⟩
  · go_wp2
    go_ret
    exact ⟨rfl, by simp [h]⟩
  · have h0 : (0 : Int) ≤ (i : Int) := by omega
    go_wp2
    go_ret
    exact ⟨rfl, by simp [h]⟩
end Go.Proofs.YtlmaopljihbdkaaGreat
/- Chapter 7: which blocks are taken is a closure; the blocks that it tells, rising. -/
namespace Go.Proofs.YtlmaopljihbdkaaGreat
open Go.RowKit

/-- The blocks that a map can have. -/
def allB : List Int := [3, 4, 5, 6, 7, 8, 9, 10, 11, 12, 13, 14, 15, 16, 17, 18, 19, 20, 21, 22]
def blkTo (p : Int → Bool) (i : Nat) : List Int := (allB.take i).filter p
def blk (p : Int → Bool) : List Int := allB.filter p
theorem blkTo_all (p : Int → Bool) : blkTo p 20 = blk p := by unfold blkTo blk; rw [List.take_of_length_le (by decide)]
theorem allB_at : ∀ i : Nat, i < 20 → allB[i]? = some (3 + (i : Int)) := by decide
theorem blkTo_succ (p : Int → Bool) {i : Nat} (h : i < 20) : blkTo p (i + 1) = blkTo p i ++ if p (3 + (i : Int)) then [3 + (i : Int)] else [] := by
  unfold blkTo
  rw [List.take_add_one, allB_at i h, List.filter_append]
  by_cases hp : p (3 + (i : Int)) = true
  · simp [hp]
  · simp [hp]
theorem blkTo_len (p : Int → Bool) (i : Nat) : (blkTo p i).length ≤ i := by
  unfold blkTo
  refine Nat.le_trans (List.length_filter_le _ _) ?_
  rw [List.length_take]; omega
/-- A function value that answers p of a block. -/
def Fp (w : World) (f : Value) (p : Int → Bool) : Prop :=
  ∃ (N : Nat) (caps : Array Value), f = .func (.func N) #[] caps ∧ (∀ args w', Sem.run Tryz.prog (callFunc N args) w' = .ok (.enter N args) w') ∧ ∀ w', Below w.heap.size w w' → ∀ x : Int, 3 ≤ x → x ≤ 22 → Calls Tryz.prog N (#[.int .i64 x] ++ caps) w' fun e w'' => e = .returned (.bool (p x)) ∧ Below w'.heap.size w' w''
theorem Fp.later {w w' : World} {f : Value} {p : Int → Bool} (h : Fp w f p) (hb : Below w.heap.size w w') : Fp w' f p := by
  obtain ⟨N, caps, e, hn, h⟩ := h
  exact ⟨N, caps, e, hn, fun w'' h' => h w'' (below_on hb h')⟩

set_option maxHeartbeats 1000000 in
set_option maxRecDepth 4000 in
theorem blocksOf {w : World} {f : Value} {p : Int → Bool} (hf : Fp w f p) :
    Calls Tryz.prog 194 #[f] w fun e w' => ∃ z, e = .returned z ∧ Below w.heap.size w w' ∧ w'.ownsRow w.heap.size 2 1 z (blk p).length ((blk p).map (Value.int .i64)) := by
  obtain ⟨N, caps, rfl, hcf, hc⟩ := hf
  have HC := hide hc
  clear hc
  obtain ⟨i0, hi, hz0, hz1, hz2⟩ := info_parts Tryz.infoInt
  go_enter Tryz.func194, Tryz.ntmps194
  go_wp2
  go_loopw [3, 5] (fun v i wr => ∃ (k j : Nat), k ≤ 20 ∧ i = .int .i64 k ∧ Hid ((blkTo p k).length = j) ∧ Hid (wr.ownsRow w.heap.size 2 1 v j ((blkTo p k).map (Value.int .i64))) ∧ Hid (Below w.heap.size w wr)) (fun _ i _ => 20 - (RowKit.intOf i).toNat)
  case atStart => exact ⟨0, 0, by omega, rfl, rfl, ⟨rfl, .inl ⟨rfl, rfl⟩⟩, Below.refl _ _⟩
  case round =>
    obtain ⟨k, j, hk, rfl, HJ, HRow, HB⟩ := hrel
    by_cases hlt : k < 20
    · have hlti : (k : Int) < 20 := by omega
      have HSn := hide (blkTo_succ p hlt)
      have hjk : j ≤ 20 := by have := blkTo_len p k; rw [HJ.out] at this; omega
      have HRd := hide (HC.out _ HB.out (3 + (k : Int)) (by omega) (by omega))
      obtain ⟨P, hP⟩ : ∃ P, blkTo p k = P := ⟨_, rfl⟩
      rw [hP] at HJ HRow HSn
      obtain ⟨B, hB⟩ : ∃ B, p (3 + (k : Int)) = B := ⟨_, rfl⟩
      rw [hB] at HRd HSn
      clear hP hB
      cases B with
      | true =>
        rw [if_pos rfl] at HSn
        go_wp2_with fail
        refine HRd.out.mono ?_
        rintro e w1 ⟨rfl, hb⟩
        have HB1 := hide (below_on HB.out hb)
        have HRow1 := hide (ownsRow_later HRow.out hb)
        have hzz := HB1.out.size
        clear hb
        go_wp2_with (at_builtin; refine wpList_append_lies _ rfl _ _ _ rfl w.heap.size 2 i0 (.int .i64 0) 1 8 Tryz.underlying22 hi hz0 hz1 hz2 rfl (by omega) _ j _ (by rfl) (HRow1.out.alloc (.cells #[.int .i64 (3 + (k : Int))] 2)) ⟨w1.heap.size, 0, none⟩ 1 1 [.int .i64 (3 + (k : Int))] (by rfl) (by rfl) (World.news_of_block (cs := #[.int .i64 (3 + (k : Int))]) (t := 2) (fr := (0, 0)) (heap_alloc_new w1 _)) (by simp [Value.oneCell']) (by omega) (by unfold maxLen; omega) (by omega) (by simp; omega) (w1.heap.size + 1) (by simp) ?_; intro g cap w4 hown3 hgrow hat hlt3)
        have HRow4 : Hid (w4.ownsRow w.heap.size 2 1 (.slice (some ⟨g, 0, none⟩) (j + 1) cap) (j + 1) ((blkTo p (k + 1)).map (Value.int .i64))) := by
          rw [Hid, HSn.out]
          simpa using hown3
        have HB4 := hide ((below_on HB1.out (below_alloc w1 (.cells #[.int .i64 (3 + (k : Int))] 2))).grown hgrow (by simp; omega) (fun r hr => (HRow1.out.lt r hr).1))
        have HJ4 : Hid ((blkTo p (k + 1)).length = j + 1) := by rw [Hid, HSn.out, List.length_append, HJ.out]; rfl
        clear hown3 hgrow hat hlt3
        go_wp2
        go_roundw
        case rel => exact ⟨k + 1, j + 1, by omega, by go_num, HJ4.out, HRow4.out, HB4.out⟩
        case measure => simp [RowKit.intOf]; omega
      | false =>
        rw [if_neg (by simp), List.append_nil] at HSn
        go_wp2_with fail
        refine HRd.out.mono ?_
        rintro e w1 ⟨rfl, hb⟩
        have HB1 := hide (below_on HB.out hb)
        have HRow1 : Hid (w1.ownsRow w.heap.size 2 1 u3 j ((blkTo p (k + 1)).map (Value.int .i64))) := by
          rw [Hid, HSn.out]
          exact ownsRow_later HRow.out hb
        have HJ4 : Hid ((blkTo p (k + 1)).length = j) := by rw [Hid, HSn.out, HJ.out]
        clear hb
        go_wp2
        go_roundw
        case rel => exact ⟨k + 1, j, by omega, by go_num, HJ4.out, HRow1.out, HB1.out⟩
        case measure => simp [RowKit.intOf]; omega
    · have hk20 : k = 20 := by omega
      subst hk20
      have HF : Hid (wr.ownsRow w.heap.size 2 1 u3 (blk p).length ((blk p).map (Value.int .i64))) := by
        rw [Hid, ← blkTo_all, HJ.out]
        exact HRow.out
      go_wp2
      go_ret
      exact ⟨_, rfl, HB.out, HF.out⟩

theorem owns_shapeM {w : World} {B e s : Nat} {v : Value} {n : Nat} {xs : List Value} (h : w.ownsRow B e s v n xs) : ∃ ao c, v = .slice ao n c := by
  rcases h.2 with ⟨rfl, rfl⟩ | ⟨g, cap, cur, rfl, _⟩
  · exact ⟨_, _, rfl⟩
  · exact ⟨_, _, rfl⟩
theorem enter_of {f : FuncId} {fn : Func} (hf : Tryz.prog.funcs[f]? = some fn) (hn : (fn.name == "runtime.NumGoroutine") = false) (hb : fn.body.isNone = false) (args : Array Value) (w : World) : Sem.run Tryz.prog (callFunc f args) w = .ok (.enter f args) w := by
  have h1 : fn.name ≠ "runtime.NumGoroutine" := by simpa using hn
  have h2 : fn.body ≠ none := by intro h; rw [h] at hb; cases hb
  simp [callFunc, hf, h1, h2]
/-- 'takenIn$1': whether a block is in the list. -/
theorem takenIn1 {S : Nat → Prop} {w : World} {u : Value} {xs : List Int} {b : Nat} (x : Int) (hc : w.cell? ⟨b, 0, none⟩ = some u) (hu : RdI S w u xs) :
    Calls Tryz.prog 197 #[.int .i64 x, .pointer (some ⟨b, 0, none⟩)] w fun e w' => w' = w ∧ e = .returned (.bool (decide (x ∈ xs))) := by
  obtain ⟨ao, c, rfl⟩ := hu.shape
  have HU := hide hu
  clear hu
  go_enter Tryz.func197, Tryz.ntmps197
  go_wp2_with fail
  refine (containsI x HU.out).mono ?_
  rintro e w' ⟨hw, rfl⟩
  have hw := hw.symm
  subst hw
  go_wp2
  go_ret
  exact ⟨rfl, rfl⟩
/-- What 'takenIn' leaves: a function value with its list in a cell. -/
def TkIn (w : World) (f : Value) (xs : List Int) : Prop := ∃ (b : Nat) (u : Value) (S : Nat → Prop), f = .func (.func 197) #[] #[.pointer (some ⟨b, 0, none⟩)] ∧ w.cell? ⟨b, 0, none⟩ = some u ∧ RdI S w u xs
theorem TkIn.later {w w' : World} {f : Value} {xs : List Int} (h : TkIn w f xs) (hb : Below w.heap.size w w') : TkIn w' f xs := by
  obtain ⟨b, u, S, e, h1, h2⟩ := h
  exact ⟨b, u, S, e, cell_later hb h1, h2.later hb⟩
theorem TkIn.fp {w : World} {f : Value} {xs : List Int} (h : TkIn w f xs) : Fp w f (fun x => decide (x ∈ xs)) := by
  obtain ⟨b, u, S, e, h1, h2⟩ := h
  refine ⟨_, _, e, fun args w' => ?_, fun w' hb x _ _ => ?_⟩
  · exact enter_of Tryz.func197 (by kernel_rfl) (by kernel_rfl) args w'
  · exact (takenIn1 x (cell_later hb h1) (h2.later hb)).mono fun e w'' ⟨hw, he⟩ => ⟨he, hw ▸ Below.refl _ _⟩
theorem takenIn {S : Nat → Prop} {w : World} {u : Value} {xs : List Int} (hu : RdI S w u xs) :
    Calls Tryz.prog 174 #[u] w fun e w' => ∃ f, e = .returned f ∧ Below w.heap.size w w' ∧ TkIn w' f xs := by
  obtain ⟨ao, c, rfl⟩ := hu.shape
  have HU := hide hu
  clear hu
  have hmf : ∀ (fn : Fn) (first cap : Array Value) (w : World), (Instr.makeFunc fn first cap).run Tryz.prog w = .ok (.func fn first cap) w := fun _ _ _ _ => rfl
  go_enter Tryz.func174, Tryz.ntmps174
  go_wp2
  go_ret
  exact ⟨_, rfl, below_alloc _ _, _, _, _, rfl, by simp [go_sem], HU.out.later (below_alloc _ _)⟩
end Go.Proofs.YtlmaopljihbdkaaGreat
