/- Mp5 Mp6a in one text: what each says stands at its head below. -/
import Derived.Test.YtiommfabhchgdaaG31
/- Chapter 7: 'l7Pack' of the model; 'PackMap' of both sides, walked. -/
namespace Go.Proofs.Ytiommfabhchgdaa
open Go.RowKit
/-- What a map's closure tells is the map. -/
theorem pair_ext : ∀ {xs ys : List Int}, xs.Pairwise (· < ·) → ys.Pairwise (· < ·) → (∀ a, a ∈ xs ↔ a ∈ ys) → xs = ys
  | [], [], _, _, _ => rfl
  | [], y :: ys, _, _, h => absurd ((h y).2 (by simp)) (by simp)
  | x :: xs, [], _, _, h => absurd ((h x).1 (by simp)) (by simp)
  | x :: xs, y :: ys, h1, h2, h => by
    rw [List.pairwise_cons] at h1 h2
    have e : x = y := by
      have a1 := (h x).1 (by simp)
      have a2 := (h y).2 (by simp)
      rw [List.mem_cons] at a1 a2
      rcases a1 with a1 | a1
      · exact a1
      · rcases a2 with a2 | a2
        · exact a2.symm
        · have := h1.1 _ a2; have := h2.1 _ a1; omega
    subst e
    have : xs = ys := pair_ext h1.2 h2.2 fun a => by
      constructor
      · intro ha
        have := (h a).1 (by simp [ha])
        rw [List.mem_cons] at this
        rcases this with rfl | hh
        · have := h1.1 _ ha; omega
        · exact hh
      · intro ha
        have := (h a).2 (by simp [ha])
        rw [List.mem_cons] at this
        rcases this with rfl | hh
        · have := h2.1 _ ha; omega
        · exact hh
    rw [this]
theorem allB_up : allB.Pairwise (· < ·) := by decide
theorem mem_allB {x : Int} : x ∈ allB ↔ 3 ≤ x ∧ x ≤ 22 := by
  simp only [allB, List.mem_cons, List.not_mem_nil, or_false]
  omega
theorem blk_up (p : Int → Bool) : (blk p).Pairwise (· < ·) := allB_up.filter _
theorem mem_blk {p : Int → Bool} {x : Int} : x ∈ blk p ↔ (3 ≤ x ∧ x ≤ 22) ∧ p x = true := by unfold blk; rw [List.mem_filter, mem_allB]
theorem blk_map (p : Int → Bool) : IsMap (blk p) := ⟨fun _ hx => (mem_blk.1 hx).1, blk_up p⟩
theorem blk_of {xs : List Int} (h : IsMap xs) : blk (fun x => decide (x ∈ xs)) = xs :=
  pair_ext (blk_up _) h.2 fun a => by rw [mem_blk]; simp only [decide_eq_true_eq]; exact ⟨fun h => h.2, fun ha => ⟨h.1 a ha, ha⟩⟩

/-- What 'PackMap' answers. -/
def pmR (xs : List Int) : List Int := if mapF xs = 0 then pkL xs else []

end Go.Proofs.Ytiommfabhchgdaa
/- Chapter 7: the words of a map and its blocks, reckoned. -/
namespace Go.Proofs.Ytiommfabhchgdaa
open Go.RowKit

def orW (a : Int) (k : Nat) : Int := bits .or .i64 a (2 ^ k)
def wordOf (m : Nat) : Int := ((List.range 10).filter (fun k => m.testBit k)).foldl orW 0
theorem wordOf_all : ∀ m : Nat, m < 1024 → wordOf m = (m : Int) := by decide +kernel
theorem and_one {v : Int} (h0 : 0 ≤ v) (h1 : v < 2 ^ 62) : bits .and .i64 v 1 = v % 2 := by
  obtain ⟨n, rfl⟩ : ∃ n : Nat, v = (n : Int) := ⟨v.toNat, by omega⟩
  have hn : n < 2 ^ 62 := by omega
  show IntKind.i64.wrap (BitVec.ofInt 64 (n : Int) &&& BitVec.ofInt 64 1).toNat = _
  have e : (BitVec.ofInt 64 (n : Int) &&& BitVec.ofInt 64 1).toNat = n % 2 := by
    rw [BitVec.toNat_and]
    simp
  rw [e]
  simp [IntKind.wrap, IntKind.bits, IntKind.signed]
  omega
/-- Whether a block's bit is set. -/
def bitW (v : Int) (k : Nat) : Bool := bits .and .i64 (v / 2 ^ k) 1 == 1
def bitB (v0 v1 : Int) (x : Int) : Bool := if x < 13 then bitW v0 (x - 3).toNat else bitW v1 (x - 13).toNat
theorem bitW_test {n k : Nat} (hn : n ≤ 65535) (hk : k < 10) : bitW (n : Int) k = (n % 1024).testBit k := by
  have h1 : ((n : Int) / 2 ^ k) = ((n / 2 ^ k : Nat) : Int) := by norm_cast
  have h2 : n / 2 ^ k ≤ n := Nat.div_le_self _ _
  unfold bitW
  rw [h1, show (1024 : Nat) = 2 ^ 10 from rfl, Nat.testBit_mod_two_pow, decide_eq_true hk, Bool.true_and, Nat.testBit_eq_decide_div_mod_eq]
  generalize n / 2 ^ k = q at h2 ⊢
  rw [and_one (Int.natCast_nonneg q) (by omega)]
  have : ((q : Int) % 2 = 1) ↔ q % 2 = 1 := by omega
  rw [Bool.eq_iff_iff]
  simp only [beq_iff_eq, decide_eq_true_eq]
  exact this
theorem fold_low (p : Int → Bool) : ∀ (ks : List Nat) (a b : Int), (∀ k ∈ ks, k < 10) → ((ks.map (fun k : Nat => 3 + (k : Int))).filter p).foldl pkStep (a, b) = ((ks.filter (fun k : Nat => p (3 + (k : Int)))).foldl orW a, b)
  | [], a, b, _ => rfl
  | k :: ks, a, b, h => by
    have hk := h k (by simp)
    rw [List.map_cons, List.filter_cons, List.filter_cons]
    by_cases hp : p (3 + (k : Int)) = true
    · rw [if_pos hp, if_pos hp, List.foldl_cons, List.foldl_cons, pkStep, if_pos (by omega), show (3 + (k : Int) - 3).toNat = k by omega]
      exact fold_low p ks _ _ fun j hj => h j (by simp [hj])
    · rw [if_neg hp, if_neg hp]
      exact fold_low p ks _ _ fun j hj => h j (by simp [hj])
theorem fold_high (p : Int → Bool) : ∀ (ks : List Nat) (a b : Int), ((ks.map (fun k : Nat => 13 + (k : Int))).filter p).foldl pkStep (a, b) = (a, (ks.filter (fun k : Nat => p (13 + (k : Int)))).foldl orW b)
  | [], a, b => rfl
  | k :: ks, a, b => by
    rw [List.map_cons, List.filter_cons, List.filter_cons]
    by_cases hp : p (13 + (k : Int)) = true
    · rw [if_pos hp, if_pos hp, List.foldl_cons, List.foldl_cons, pkStep, if_neg (by omega), show (13 + (k : Int) - 13).toNat = k by omega]
      exact fold_high p ks _ _
    · rw [if_neg hp, if_neg hp]
      exact fold_high p ks _ _
theorem allB_parts : allB = (List.range 10).map (fun k : Nat => 3 + (k : Int)) ++ (List.range 10).map (fun k : Nat => 13 + (k : Int)) := by decide
theorem pk_blk (p : Int → Bool) : pk (blk p) = (((List.range 10).filter (fun k : Nat => p (3 + (k : Int)))).foldl orW 0, ((List.range 10).filter (fun k : Nat => p (13 + (k : Int)))).foldl orW 0) := by
  unfold pk blk
  rw [allB_parts, List.filter_append, List.foldl_append, fold_low _ _ _ _ (by decide), fold_high]
theorem pk_bits {v0 v1 : Int} (h0 : 0 ≤ v0 ∧ v0 ≤ 65535) (h1 : 0 ≤ v1 ∧ v1 ≤ 65535) : pk (blk (bitB v0 v1)) = (v0 % 1024, v1 % 1024) := by
  obtain ⟨n, rfl⟩ : ∃ n : Nat, v0 = (n : Int) := ⟨v0.toNat, by omega⟩
  obtain ⟨m, rfl⟩ : ∃ n : Nat, v1 = (n : Int) := ⟨v1.toNat, by omega⟩
  rw [pk_blk]
  have e0 : (List.range 10).filter (fun k : Nat => bitB (n : Int) (m : Int) (3 + (k : Int))) = (List.range 10).filter (fun k => (n % 1024).testBit k) := by
    refine List.filter_congr fun k hk => ?_
    have hk' : k < 10 := List.mem_range.1 hk
    rw [bitB, if_pos (by omega), show (3 + (k : Int) - 3).toNat = k by omega]
    exact bitW_test (by omega) hk'
  have e1 : (List.range 10).filter (fun k : Nat => bitB (n : Int) (m : Int) (13 + (k : Int))) = (List.range 10).filter (fun k => (m % 1024).testBit k) := by
    refine List.filter_congr fun k hk => ?_
    have hk' : k < 10 := List.mem_range.1 hk
    rw [bitB, if_neg (by omega), show (13 + (k : Int) - 13).toNat = k by omega]
    exact bitW_test (by omega) hk'
  rw [e0, e1]
  have f0 := wordOf_all (n % 1024) (Nat.mod_lt _ (by decide))
  have f1 := wordOf_all (m % 1024) (Nat.mod_lt _ (by decide))
  unfold wordOf at f0 f1
  rw [f0, f1, show ((n % 1024 : Nat) : Int) = (n : Int) % 1024 by omega, show ((m % 1024 : Nat) : Int) = (m : Int) % 1024 by omega]
/-- The words are those of a map just where no bit lies beyond. -/
theorem pkL_bits {v0 v1 : Int} (h0 : 0 ≤ v0 ∧ v0 ≤ 65535) (h1 : 0 ≤ v1 ∧ v1 ≤ 65535) : pkL (blk (bitB v0 v1)) = [v0, v1] ↔ v0 ≤ 1023 ∧ v1 ≤ 1023 := by
  unfold pkL
  rw [pk_bits h0 h1]
  simp only [List.cons.injEq, and_true]
  omega

/-- The code of 'UnpackMap'. -/
def umC (ws : List Int) : Int := if wordsF ws ≠ 0 then wordsF ws else if ws.length = 0 then 0 else if ws.length = 2 ∧ ws.getD 0 0 ≤ 1023 ∧ ws.getD 1 0 ≤ 1023 then 0 else 5
/-- .. and its list. -/
def umR (ws : List Int) : List Int := if umC ws = 0 ∧ ws.length = 2 then blk (bitB (ws.getD 0 0) (ws.getD 1 0)) else []
theorem umR_len (ws : List Int) : (umR ws).length ≤ 1048576 := by
  unfold umR
  split
  · have := blk_len (bitB (ws.getD 0 0) (ws.getD 1 0)); omega
  · simp
theorem words_in {ws : List Int} (h : wordsF ws = 0) : ∀ i, i < ws.length → 0 ≤ ws.getD i 0 ∧ ws.getD i 0 ≤ 65535 := by
  unfold wordsF wF at h
  by_cases h1 : 64 < ws.length
  · rw [if_pos h1] at h; exact absurd h (by decide)
  · rw [if_neg h1] at h
    by_cases h2 : ∀ i, i < ws.length → 0 ≤ ws.getD i 0 ∧ ws.getD i 0 ≤ 65535
    · exact h2
    · rw [if_neg h2] at h; exact absurd h (by decide)
end Go.Proofs.Ytiommfabhchgdaa
