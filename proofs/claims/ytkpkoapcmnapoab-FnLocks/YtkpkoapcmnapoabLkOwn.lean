/- Chapter 6, the program's side: '(heldLocks).owners', walked: all that the map has, rising. -/
import Derived.Test.YtkpkoapcmnapoabLkSeq
import Derived.Test.YtkpkoapcmnapoabShelf2
import Derived.Shelf.SlSortCmp.WholeK
import Derived.Shelf.SlSortCmp.NoneTotal
namespace Go.Proofs.Ytkpkoapcmnapoab
open Go.RowKit Go.Maps Go.Shelf Go.Sort

theorem isNaN6 (x : Int) (w : World) : Calls Try.prog 46 #[.int .i64 x] w fun e w' => e = .returned (.bool false) ∧ w' = w := by
  go_enter Try.func46, Try.ntmps46
  go_wp2
  go_ret
  exact ⟨rfl, rfl⟩
theorem compare6 (x y : Int) (w : World) : Calls Try.prog 38 #[.int .i64 x, .int .i64 y] w fun e w' => e = .returned (.int .i64 (Lib.compareInt x y)) ∧ w' = w := by
  by_cases h1 : x < y
  · have hz : Hid (Lib.compareInt x y = -1) := by unfold Hid Lib.compareInt; rw [if_pos h1]
    go_enter Try.func38, Try.ntmps38
    go_wp2_with fail
    refine (isNaN6 x w).mono ?_
    rintro e w' ⟨rfl, rfl⟩
    go_wp2_with fail
    refine (isNaN6 y _).mono ?_
    rintro e w' ⟨rfl, rfl⟩
    go_wp2
    go_ret
    exact ⟨ret_int hz.out.symm, rfl⟩
  · by_cases h2 : y < x
    · have hz : Hid (Lib.compareInt x y = 1) := by unfold Hid Lib.compareInt; rw [if_neg h1, if_pos h2]
      go_enter Try.func38, Try.ntmps38
      go_wp2_with fail
      refine (isNaN6 x w).mono ?_
      rintro e w' ⟨rfl, rfl⟩
      go_wp2_with fail
      refine (isNaN6 y _).mono ?_
      rintro e w' ⟨rfl, rfl⟩
      go_wp2
      go_ret
      exact ⟨ret_int hz.out.symm, rfl⟩
    · have hz : Hid (Lib.compareInt x y = 0) := by unfold Hid Lib.compareInt; rw [if_neg h1, if_neg h2]
      go_enter Try.func38, Try.ntmps38
      go_wp2_with fail
      refine (isNaN6 x w).mono ?_
      rintro e w' ⟨rfl, rfl⟩
      go_wp2_with fail
      refine (isNaN6 y _).mono ?_
      rintro e w' ⟨rfl, rfl⟩
      go_wp2
      go_ret
      exact ⟨ret_int hz.out.symm, rfl⟩
/-- An owner's two cells. -/
def encV (x : Wn) : List Value := [.int .i64 x.1, .int .i64 x.2]
theorem byAt (x y : Wn) (W : World) : Calls Try.prog 37 #[.agg #[.int .i64 x.1, .int .i64 x.2], .agg #[.int .i64 y.1, .int .i64 y.2]] W fun e w' => e = .returned (.int .i64 (Lib.compareInt x.1 y.1)) ∧ ∃ q os', w' = grow (W.drewN q) os' := by
  have HC := hide (fun W' => compare6 x.1 y.1 W')
  generalize Lib.compareInt x.1 y.1 = r at HC ⊢
  go_enter Try.func37, Try.ntmps37
  go_wp2_with fail
  refine (HC.out _).mono ?_
  rintro e w' ⟨rfl, rfl⟩
  go_wp2
  go_ret
  exact ⟨rfl, 0, _, by rw [alloc_eq_grow, alloc_eq_grow, grow_grow]; rfl⟩
theorem ltAt (x y : Wn) : ltOf (fun x y : Wn => Lib.compareInt x.1 y.1) x y = decide (x.1 < y.1) := by
  unfold ltOf Lib.compareInt
  by_cases h1 : x.1 < y.1
  · simp [h1]
  · by_cases h2 : y.1 < x.1 <;> simp [h1, h2]
theorem swoAt : SWO (ltOf fun x y : Wn => Lib.compareInt x.1 y.1) where
  irrefl x := by rw [ltAt]; simp
  trans x y z h1 h2 := by rw [ltAt] at *; simp at *; omega
  ntrans x y z h1 h2 := by rw [ltAt] at *; simp at *; omega

theorem cellsW_at : ∀ (xs : List Wn) (i : Nat), i < xs.length → (cellsW xs)[i * 2]? = some (.int .i64 (xs.getD i wn0).1) ∧ (cellsW xs)[i * 2 + 1]? = some (.int .i64 (xs.getD i wn0).2)
  | [], i, h => absurd h (Nat.not_lt_zero _)
  | x :: xs, 0, _ => by simp [cellsW]
  | x :: xs, i + 1, h => by
    have ih := cellsW_at xs i (by simpa using h)
    have e : cellsW (x :: xs) = .int .i64 x.1 :: .int .i64 x.2 :: cellsW xs := by simp [cellsW]
    rw [e, show (i + 1) * 2 = i * 2 + 1 + 1 by omega]
    simp only [List.getElem?_cons_succ, List.getD_cons_succ]
    exact ih
theorem flat_cells (xs : List Wn) : (flatK encV 2 xs.toArray).toList = cellsW xs := by
  apply List.ext_getElem?
  intro j
  by_cases hj : j < xs.length * 2
  · have h1 : j / 2 < xs.length := by omega
    have h2 := cellsW_at xs (j / 2) h1
    have e1 : (flatK encV 2 xs.toArray).toList[j]? = some ((encV (xs.getD (j / 2) wn0))[j % 2]!) := by
      rw [Array.getElem?_toList, Array.getElem?_eq_getElem (by simpa using hj)]
      have := get_flatK encV 2 xs.toArray j (by simpa using hj)
      rw [getElem!_pos _ j (by simpa using hj)] at this
      rw [this]
      simp [List.getD, h1]
    rw [e1]
    rcases Nat.mod_two_eq_zero_or_one j with e | e
    · rw [e, show j = j / 2 * 2 by omega, h2.1]
      simp [encV]
    · rw [e]
      have e3 : j = j / 2 * 2 + 1 := by omega
      rw [e3, h2.2]
      have e4 : (j / 2 * 2 + 1) / 2 = j / 2 := by omega
      rw [e4]
      simp [encV]
  · rw [List.getElem?_eq_none (by simp; omega), List.getElem?_eq_none (by rw [cellsW_len]; omega)]
theorem holdsW {w : World} {g : Nat} {cur : Array Value} {e : TypeId} {xs : List Wn} (hb : w.heap[g]? = some (.cells cur e (0, 0))) (ht : cur.toList.take (xs.length * 2) = cellsW xs) : HoldsK encV 2 w g 0 xs.toArray := by
  intro j hj
  have hj' : j < xs.length * 2 := by simpa using hj
  refine ⟨?_, by simp [World.frozen?, hb]⟩
  have h1 : (cur.toList.take (xs.length * 2))[j]? = (flatK encV 2 xs.toArray).toList[j]? := by rw [ht, flat_cells]
  rw [List.getElem?_take_of_lt hj', Array.getElem?_toList, Array.getElem?_toList, Array.getElem?_eq_getElem hj] at h1
  rw [getElem!_pos _ j hj]
  simp [World.cell?, hb, h1]
theorem heap_sortedW {w : World} {g n : Nat} {os : Array Obj} {cur : Array Value} {e : TypeId} {fr : Nat × Nat} (F : Array Value) (hb : w.heap[g]? = some (.cells cur e fr)) :
    (grow (putRow id (Sort.ahead w n) g 0 F) os).heap[g]? = some (.cells (putCells id 0 F cur) e fr) := by
  have hg : g < w.heap.size := (Array.getElem?_eq_some_iff.1 hb).1
  rw [heap_grow_old _ _ (by simpa using hg)]
  simp [putRow, mapBlock, Sort.ahead, Array.getElem?_modify, hb, onCells]
theorem grown_sortedW {w : World} {g n : Nat} {os : Array Obj} (F : Array Value) : w.grownBy (grow (putRow id (Sort.ahead w n) g 0 F) os) (some g) := by
  refine ⟨rfl, rfl, rfl, by simp, fun k hk hne => ?_⟩
  rw [heap_grow_old _ _ (by simpa using hk)]
  have : g ≠ k := fun e => hne (by rw [e])
  simp [putRow, mapBlock, Sort.ahead, Array.getElem?_modify, this]
theorem rowW_sorted {w : World} {base g cap n : Nat} {e : TypeId} {os : Array Obj} {cur : Array Value} {xs ys : List Wn} (hl : ys.length = xs.length) (hbase : base ≤ g) (hb : w.heap[g]? = some (.cells cur e (0, 0))) (h1 : xs.length ≤ cap) (h2 : cap ≤ maxLen) (h3 : cur.size = cap * 2) :
    (sortWorldK encV 2 w g 0 n ys.toArray os).ownsRow base e 2 (.slice (some ⟨g, 0, none⟩) xs.length cap) xs.length (cellsW ys) := by
  refine ⟨by rw [cellsW_len, hl], .inr ⟨g, cap, _, rfl, hbase, heap_sortedW _ hb, h1, h2, by simp [putCells, h3], ?_⟩⟩
  rw [← flat_cells ys, ← hl]
  apply List.ext_getElem?
  intro j
  by_cases hj : j < ys.length * 2
  · rw [List.getElem?_take_of_lt hj, Array.getElem?_toList, Array.getElem?_toList, Array.getElem?_eq_getElem (show j < (flatK encV 2 ys.toArray).size by simpa using hj)]
    have hc : j < cur.size := by omega
    simp [putCells, hc, hj]
  · rw [List.getElem?_take_eq_none (by omega), List.getElem?_eq_none (by simp; omega)]
theorem owO_of_row {B : Nat} {w : World} {v : Value} {n : Nat} {xs : List Wn} (h : w.ownsRow B 40 2 v n (cellsW xs)) (hn : xs.length = n) (hm : n ≤ 1048576) : OwO B w v xs := by
  subst hn
  rcases h.2 with ⟨rfl, h0⟩ | ⟨g, cap, cur, rfl, hb, hg, k1, k2, k3, k4⟩
  · have : xs = [] := List.length_eq_zero_iff.1 h0
    subst this
    exact OwO_nil _ _
  · have hcell : ∀ j u, (cellsW xs)[j]? = some u → w.cell? ⟨g, 0 + j, none⟩ = some u := fun j u hu => by
      rw [← k4] at hu
      have hj : j < xs.length * 2 := by
        by_cases hj : j < xs.length * 2
        · exact hj
        · rw [List.getElem?_take_eq_none (by omega)] at hu; cases hu
      rw [List.getElem?_take_of_lt hj, Array.getElem?_toList] at hu
      simp [World.cell?, hg, hu]
    refine ⟨g, ⟨_, cap - xs.length, by rw [Nat.add_sub_cancel' k1], by omega, fun _ => ⟨g, 0, rfl, rfl, fun i hi => ?_⟩⟩, fun _ => ⟨hb, (Array.getElem?_eq_some_iff.1 hg).1, fun o => by simp [World.frozen?, hg]⟩⟩
    obtain ⟨e1, e2⟩ := cellsW_at xs i hi
    exact ⟨hcell _ _ e1, hcell _ _ e2⟩
theorem sorted_unique {L acc : List Wn} {d' : Array Wn} (hp : PermIn 0 acc.toArray.size acc.toArray d') (hs : SortedIn (ltOf fun x y : Wn => Lib.compareInt x.1 y.1) 0 acc.toArray.size d') (hL : L.Pairwise (fun x y => x.1 < y.1)) (hm : acc.Perm L) : d'.toList = L := by
  obtain ⟨h1, _, h3⟩ := hp
  have hd : d'.toList.Perm acc := by
    have e1 : d'.extract 0 acc.toArray.size = d' := by rw [← h1]; simp
    have e2 : acc.toArray.extract 0 acc.toArray.size = acc.toArray := by simp
    rw [e1, e2] at h3
    exact h3
  have hdL := hd.trans hm
  refine List.Perm.eq_of_pairwise (le := fun x y : Wn => x.1 ≤ y.1) (fun a b ha hb h1 h2 => ?_) ?_ (hL.imp (fun h => by omega)) hdL
  · have ha' := hdL.mem_iff.1 ha
    obtain ⟨i, hi, rfl⟩ := List.mem_iff_getElem.1 ha'
    obtain ⟨j, hj, rfl⟩ := List.mem_iff_getElem.1 hb
    have hp := List.pairwise_iff_getElem.1 hL
    by_cases hij : i < j
    · have := hp i j hi hj hij; omega
    · by_cases hji : j < i
      · have := hp j i hj hi hji; omega
      · have : i = j := by omega
        subst this; rfl
  · rw [List.pairwise_iff_getElem]
    intro i j hi hj hij
    have hsz : d'.size = acc.toArray.size := h1
    have := hs i j (Nat.zero_le _) hij (by rw [← hsz]; simpa using hj)
    rw [ltAt] at this
    rw [getElem!_pos _ j (by simpa using hj), getElem!_pos _ i (by simpa using hi)] at this
    simp at this
    simpa using this
end Go.Proofs.Ytkpkoapcmnapoab
