/- 'impl.wordsIn', walked. -/
import Derived.Test.YtojcjipelgjglaaCells2
import Derived.Test.YtojcjipelgjglaaBuilt4
namespace Go.Proofs.Ytojcjipelgjglaa
open Go.RowKit

/-- The cell at place i, if D says that there is a word. -/
def cellD (D : Nat → Option Nat) (i : Nat) : Value := match D i with
  | none => zc
  | some x => .complex .f64 (fl x) (fl (i + 1))
def listD (D : Nat → Option Nat) : List Value := (List.range 64).map (cellD D)
/-- The words of the first k cells: filled up with 0 where a cell is none. -/
def wordsD (D : Nat → Option Nat) : Nat → List Int
  | 0 => []
  | k + 1 => match D k with
    | none => wordsD D k
    | some x => wordsD D k ++ List.replicate (k - (wordsD D k).length) 0 ++ [(x : Int)]

theorem wordsD_le (D : Nat → Option Nat) : ∀ k, (wordsD D k).length ≤ k := by
  intro k
  induction k with
  | zero => simp [wordsD]
  | succ k ih =>
    unfold wordsD
    split
    · omega
    · simp; omega

theorem listD_len (D : Nat → Option Nat) : (listD D).length = 64 := by simp [listD]

/-- One half of the cells. -/
def halfD (D : Nat → Option Nat) (a : Nat) : List Value := (List.range 32).map fun j => cellD D (32 * a + j)
theorem halfD_len (D : Nat → Option Nat) (a : Nat) : (halfD D a).length = 32 := by simp [halfD]
theorem cellD_one (D : Nat → Option Nat) (i : Nat) : (cellD D i).oneCell' = true := by
  unfold cellD zc
  split <;> rfl
theorem halfD_one (D : Nat → Option Nat) (a : Nat) : ∀ v ∈ halfD D a, v.oneCell' = true := by
  intro v hv
  simp only [halfD, List.mem_map] at hv
  obtain ⟨i, _, rfl⟩ := hv
  exact cellD_one D _
theorem listD_half (D : Nat → Option Nat) (a : Nat) (h : a < 2) : List.take 32 (List.drop (a * 32) (listD D)) = halfD D a := by
  refine List.ext_getElem? fun i => ?_
  simp only [List.getElem?_take, List.getElem?_drop, listD, halfD, List.getElem?_map]
  by_cases hi : i < 32
  · simp [hi, show a * 32 + i < 64 by omega, Nat.mul_comm]
  · simp [hi]
theorem index_half (D : Nat → Option Nat) (a : Nat) (w : World) (h : a < 2) : (Instr.index 126 (.agg (listD D).toArray) (.int .i64 a)).run Try.prog w = .ok (.agg (halfD D a).toArray) w := by
  obtain ⟨i1, h1, h2⟩ : ∃ i, Try.prog.info? 124 = some i ∧ i.size = 32 := by
    have := Try.sizeHalf
    cases hq : Try.prog.info? 124 with
    | none => rw [hq] at this; cases this
    | some i => rw [hq] at this; exact ⟨i, rfl, by simpa using this⟩
  simp [Instr.index, asIntOf, run_underlying Try.underlying126, sizeOf, typeInfo, h1, h2, part, isAgg, run_underlying Try.underlying124]
  rw [if_pos (by omega), listD_half D a h]
theorem index_cell (D : Nat → Option Nat) (a k : Nat) (w : World) (h : k < 32) : (Instr.index 124 (.agg (halfD D a).toArray) (.int .i64 k)).run Try.prog w = .ok (cellD D (32 * a + k)) w := by
  obtain ⟨i1, h1, h2⟩ : ∃ i, Try.prog.info? 122 = some i ∧ i.size = 1 := by
    have : (Try.prog.info? 122).map (·.size) = some 1 := by kernel_rfl
    cases hq : Try.prog.info? 122 with
    | none => rw [hq] at this; cases this
    | some i => rw [hq] at this; exact ⟨i, rfl, by simpa using this⟩
  have h3 : (halfD D a)[k]? = some (cellD D (32 * a + k)) := by simp [halfD, h]
  simp [Instr.index, asIntOf, run_underlying Try.underlying124, sizeOf, typeInfo, h1, h2, part, isAgg, run_underlying Try.underlying122, h3]
  omega
theorem ownsRow_setCells {w : World} {B e s b : Nat} {v : Value} {n : Nat} {xs : List Value} (h : w.ownsRow B e s v n xs) (hr : v.ownBlock ≠ some b) : ∀ (o : Nat) (vs : List Value), (w.setCells b o vs).ownsRow B e s v n xs := by
  intro o vs
  induction vs generalizing o w with
  | nil => exact h
  | cons x r ih => exact ih (ownsRow_set h hr) (o + 1)

set_option maxHeartbeats 2000000 in
set_option maxRecDepth 4000 in
theorem wordsIn {D : Nat → Option Nat} (hD : ∀ i x, D i = some x → x ≤ 65535) (w : World) :
    Calls Try.prog 90 #[.agg (listD D).toArray] w fun e w' => ∃ v, e = .returned v ∧ Below w.heap.size w w' ∧ OwI w.heap.size w' v (wordsD D 64) := by
  have HD := hide hD
  clear hD
  obtain ⟨C, hC⟩ : ∃ C, listD D = C := ⟨_, rfl⟩
  have HC := hide hC
  rw [hC]
  clear hC
  go_enter Try.func90, Try.ntmps90
  have hsz := hide (show (Try.prog.info? 126).map (·.size) = some C.length by rw [← HC.out, listD_len]; exact Try.sizeCells)
  go_wp2_with (refine wpList_load_mid rfl 126 _ rfl w.heap.size 0 (by rfl) C _ (range_new w C 126) Try.underlying126 rfl hsz.out ?_)
  go_loopw [3, 9] (fun v i wr => ∃ a : Nat, a ≤ 2 ∧ i = .int .i64 a ∧ Hid (wr.ownsRow (w.heap.size + 1) 2 1 v (wordsD D (32 * a)).length ((wordsD D (32 * a)).map (Value.int .i64))) ∧ Hid (Below (w.heap.size + 1) (w.alloc (.cells C.toArray 126)) wr)) (fun _ i _ => 2 - (intOf i).toNat)
  case atStart => exact ⟨0, by omega, rfl, World.ownsRow_nil _ _ _ _, Below.refl _ _⟩
  case round =>
    obtain ⟨a, ha, rfl, HO, HB⟩ := hrel
    by_cases hlt : a < 2
    · obtain ⟨H, hH⟩ : ∃ H, halfD D a = H := ⟨_, rfl⟩
      have HH := hide hH
      have hidx : ∀ w, (Instr.index 126 (.agg C.toArray) (.int .i64 a)).run Try.prog w = .ok (.agg H.toArray) w := fun w => by rw [← HC.out, ← hH]; exact index_half D a w hlt
      have hHl : H.toArray.size = 32 := by rw [List.size_toArray, ← hH, halfD_len]
      have hs2 := hide (show (Try.prog.info? 124).map (·.size) = some H.toArray.size by rw [hHl]; exact Try.sizeHalf)
      have hth := hide (show (wr.alloc (.cells (List.replicate 32 zc).toArray 124)).there wr.heap.size 0 H.toArray.size by rw [hHl]; exact there_new wr (List.replicate 32 zc) _ 32 rfl)
      have hone := hide (show H.toArray.all (·.oneCell') = true by rw [← hH]; exact all_oneCell_toArray (halfD_one D a))
      have hrg := hide (World.rangeAt_setCells_same (wr.alloc (.cells (List.replicate 32 zc).toArray 124)) wr.heap.size 0 H (by simpa using hth.out))
      have HO0 := hide (ownsRow_setCells (HO.out.alloc (.cells (List.replicate 32 zc).toArray 124)) (b := wr.heap.size) (fun e => by have := (HO.out.lt _ e).2; omega) 0 H)
      have hz := HB.out.size
      simp only [World.size_alloc] at hz
      have HB0 := hide (Below.setCells (b := wr.heap.size) (HB.out.trans ((below_alloc wr (.cells (List.replicate 32 zc).toArray 124)).mono (by omega))) (by omega) 0 H)
      clear hH hHl
      go_wp2_with (first | (refine wpList_store_mid rfl 124 _ _ rfl wr.heap.size 0 H.toArray (by rfl) (by rfl) hth.out hs2.out hone.out ?_) | (refine wpList_load_mid rfl 124 _ rfl wr.heap.size 0 (by rfl) H _ hrg.out Try.underlying124 rfl (by simpa using hs2.out) ?_))
      go_loopw [3, 13] (fun v i wr => ∃ k : Nat, k ≤ 32 ∧ i = .int .i64 k ∧ Hid (wr.ownsRow (w.heap.size + 1) 2 1 v (wordsD D (32 * a + k)).length ((wordsD D (32 * a + k)).map (Value.int .i64))) ∧ Hid (Below (w.heap.size + 1) (w.alloc (.cells C.toArray 126)) wr)) (fun _ i _ => 32 - (intOf i).toNat)
      case atStart => exact ⟨0, by omega, rfl, HO0.out, HB0.out⟩
      case round =>
        rename_i wq _ _ _ _ _ _ _ _
        obtain ⟨k, hk, rfl, HO2, HB2⟩ := hrel
        have hz2 := HB2.out.size
        simp only [World.size_alloc] at hz2
        by_cases hlt2 : k < 32
        · have hidx2 : ∀ w, (Instr.index 124 (.agg H.toArray) (.int .i64 k)).run Try.prog w = .ok (cellD D (32 * a + k)) w := fun w => by rw [← HH.out]; exact index_cell D a k w hlt2
          have hle := wordsD_le D (32 * a + k)
          obtain ⟨ao2, c2, rfl⟩ := ownsRow_shape HO2.out
          obtain ⟨n, hn⟩ : ∃ n, (wordsD D (32 * a + k)).length = n := ⟨_, rfl⟩
          have HNl := hide hn
          rw [hn] at HO2 hle ⊢
          clear hn
          cases hDk : D (32 * a + k) with
          | none =>
            have e1 : wordsD D (32 * a + (k + 1)) = wordsD D (32 * a + k) := by rw [← Nat.add_assoc]; simp [wordsD, hDk]
            have e2 : cellD D (32 * a + k) = .complex .f64 0 0 := by simp [cellD, hDk, zc]
            rw [e2] at hidx2
            have HO3 : Hid (wr.ownsRow (w.heap.size + 1) 2 1 (.slice ao2 n c2) (wordsD D (32 * a + (k + 1))).length ((wordsD D (32 * a + (k + 1))).map (Value.int .i64))) := by rw [e1, HNl.out]; exact HO2.out
            clear e1 e2 hDk
            go_wp2_with fail
            refine (putCell_zero ao2 n c2 _).mono ?_
            rintro e w3 ⟨rfl, rfl⟩
            go_wp2
            go_roundw
            case rel => exact ⟨k + 1, hlt2, by go_num, HO3.out, HB2.out⟩
            case measure => simp [intOf]; omega
          | some x =>
            have e1 : wordsD D (32 * a + (k + 1)) = wordsD D (32 * a + k) ++ List.replicate (32 * a + k - n) 0 ++ [(x : Int)] := by rw [← Nat.add_assoc]; simp [wordsD, hDk, HNl.out]
            have e2 : cellD D (32 * a + k) = .complex .f64 (fl x) (fl (32 * a + k + 1)) := by simp [cellD, hDk]
            have hx := HD.out _ _ hDk
            rw [e2] at hidx2
            have HC3 := hide fun ho hB => putCell_word (B := w.heap.size + 1) (w := wr) (v := .slice ao2 n c2) (n := n) (i := 32 * a + k) (x := x) (xs := wordsD D (32 * a + k)) ho hB (by omega) (by omega) hx
            have HE1 := hide e1
            have e3 : 32 * a + k + 1 = (wordsD D (32 * a + (k + 1))).length := by rw [e1]; simp [HNl.out]; omega
            have HE3 := hide e3
            generalize fl x = fx at hidx2 HC3
            generalize fl (32 * a + k + 1) = fi at hidx2 HC3
            clear e1 e2 e3 hDk
            go_wp2_with fail
            refine (HC3.out HO2.out (by omega)).mono ?_
            rintro e w3 ⟨v3, rfl, ho3, hb3⟩
            have HO3 : Hid (w3.ownsRow (w.heap.size + 1) 2 1 v3 (wordsD D (32 * a + (k + 1))).length ((wordsD D (32 * a + (k + 1))).map (Value.int .i64))) := by rw [← HE3.out, HE1.out]; exact ho3
            have HB3 := hide (HB2.out.trans hb3)
            clear ho3 hb3
            go_wp2
            go_roundw
            case rel => exact ⟨k + 1, hlt2, by go_num, HO3.out, HB3.out⟩
            case measure => simp [intOf]; omega
        · have hk2 : k = 32 := by omega
          subst hk2
          go_wp2
          go_roundw
          case rel => exact ⟨a + 1, hlt, by go_num, by rw [show 32 * (a + 1) = 32 * a + 32 by omega]; exact HO2.out, HB2.out⟩
          case measure => simp [intOf]; omega
    · have ha2 : a = 2 := by omega
      subst ha2
      go_wp2
      go_ret
      refine ⟨_, rfl, (below_alloc _ _).trans (HB.out.mono (by simp)), ?_⟩
      exact (ow_of_owns rfl HO.out (by have := wordsD_le D (32 * 2); omega)).mono (by simp)
end Go.Proofs.Ytojcjipelgjglaa
