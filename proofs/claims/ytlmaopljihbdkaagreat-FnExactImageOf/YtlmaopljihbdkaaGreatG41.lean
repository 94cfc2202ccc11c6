/- Ps1 in one text: what each says stands at its head below. -/
import Derived.Test.YtlmaopljihbdkaaGreatG40
import Derived.Test.YtlmaopljihbdkaaGreatG30
import Derived.Shelf.SlSortCmp.KitK
/- Chapter 11: puts in a row of their own, sorted by their places. Made by program (genps1.py). -/
namespace Go.Proofs.YtlmaopljihbdkaaGreat
open Go.RowKit Go.Maps Go.Shelf Go.Sort

theorem isNaN11 (x : Int) (w : World) : Calls Tryz.prog 80 #[.int .i64 x] w fun e w' => e = .returned (.bool false) ∧ w' = w := by
  go_enter Tryz.func80, Tryz.ntmps80
  go_wp2
  go_ret
  exact ⟨rfl, rfl⟩
theorem compare11 (x y : Int) (w : World) : Calls Tryz.prog 37 #[.int .i64 x, .int .i64 y] w fun e w' => e = .returned (.int .i64 (Lib.compareInt x y)) ∧ w' = w := by
  by_cases h1 : x < y
  · have hz : Hid (Lib.compareInt x y = -1) := by unfold Hid Lib.compareInt; rw [if_pos h1]
    go_enter Tryz.func37, Tryz.ntmps37
    go_wp2_with fail
    refine (isNaN11 x w).mono ?_
    rintro e w' ⟨rfl, rfl⟩
    go_wp2_with fail
    refine (isNaN11 y _).mono ?_
    rintro e w' ⟨rfl, rfl⟩
    go_wp2
    go_ret
    exact ⟨ret_intF hz.out.symm, rfl⟩
  · by_cases h2 : y < x
    · have hz : Hid (Lib.compareInt x y = 1) := by unfold Hid Lib.compareInt; rw [if_neg h1, if_pos h2]
      go_enter Tryz.func37, Tryz.ntmps37
      go_wp2_with fail
      refine (isNaN11 x w).mono ?_
      rintro e w' ⟨rfl, rfl⟩
      go_wp2_with fail
      refine (isNaN11 y _).mono ?_
      rintro e w' ⟨rfl, rfl⟩
      go_wp2
      go_ret
      exact ⟨ret_intF hz.out.symm, rfl⟩
    · have hz : Hid (Lib.compareInt x y = 0) := by unfold Hid Lib.compareInt; rw [if_neg h1, if_neg h2]
      go_enter Tryz.func37, Tryz.ntmps37
      go_wp2_with fail
      refine (isNaN11 x w).mono ?_
      rintro e w' ⟨rfl, rfl⟩
      go_wp2_with fail
      refine (isNaN11 y _).mono ?_
      rintro e w' ⟨rfl, rfl⟩
      go_wp2
      go_ret
      exact ⟨ret_intF hz.out.symm, rfl⟩
/-- A put as it lies: place, the slice of its words, these, and the memory's block that has them. -/
abbrev Pq := Int × (Option Addr × Nat × Nat) × List Int × Nat
def slQ (q : Pq) : Value := .slice q.2.1.1 q.2.1.2.1 q.2.1.2.2
def encQ (q : Pq) : List Value := [.int .i64 q.1, slQ q]
def ptq (q : Pq) : Int × List Int := (q.1, q.2.2.1)
theorem byBlock (x y : Pq) (W : World) : Calls Tryz.prog 36 #[.agg #[.int .i64 x.1, slQ x], .agg #[.int .i64 y.1, slQ y]] W fun e w' => e = .returned (.int .i64 (Lib.compareInt x.1 y.1)) ∧ ∃ q os', w' = grow (W.drewN q) os' := by
  have HC := hide (fun W' => compare11 x.1 y.1 W')
  generalize Lib.compareInt x.1 y.1 = r at HC ⊢
  unfold slQ
  go_enter Tryz.func36, Tryz.ntmps36
  go_wp2_with fail
  refine (HC.out _).mono ?_
  rintro e w' ⟨rfl, rfl⟩
  go_wp2
  go_ret
  exact ⟨rfl, 0, _, by rw [alloc_eq_grow, alloc_eq_grow, grow_grow]; rfl⟩
theorem ltPq (x y : Pq) : ltOf (fun x y : Pq => Lib.compareInt x.1 y.1) x y = decide (x.1 < y.1) := by
  unfold ltOf Lib.compareInt
  by_cases h1 : x.1 < y.1
  · simp [h1]
  · by_cases h2 : y.1 < x.1 <;> simp [h1, h2]
theorem swoPq : SWO (ltOf fun x y : Pq => Lib.compareInt x.1 y.1) where
  irrefl x := by rw [ltPq]; simp
  trans x y z h1 h2 := by rw [ltPq] at *; simp at *; omega
  ntrans x y z h1 h2 := by rw [ltPq] at *; simp at *; omega


def cellsPq : List Pq → List Value
  | [] => []
  | q :: r => .int .i64 q.1 :: slQ q :: cellsPq r
theorem cellsPq_len : ∀ qs : List Pq, (cellsPq qs).length = qs.length * 2
  | [] => rfl
  | q :: r => by simp [cellsPq, cellsPq_len r]; omega
theorem cellsPq_snoc : ∀ (qs : List Pq) (q : Pq), cellsPq (qs ++ [q]) = cellsPq qs ++ [.int .i64 q.1, slQ q]
  | [], q => rfl
  | p :: r, q => by simp [cellsPq, cellsPq_snoc r q]
theorem cellsPq_at : ∀ (qs : List Pq) (i : Nat) (q : Pq), qs[i]? = some q → (cellsPq qs)[i * 2]? = some (.int .i64 q.1) ∧ (cellsPq qs)[i * 2 + 1]? = some (slQ q)
  | [], i, q, h => by simp at h
  | p :: r, 0, q, h => by simp at h; subst h; exact ⟨rfl, rfl⟩
  | p :: r, i + 1, q, h => by
    have h' : r[i]? = some q := by simpa using h
    obtain ⟨a, b⟩ := cellsPq_at r i q h'
    rw [show (i + 1) * 2 = i * 2 + 1 + 1 by omega]
    exact ⟨by simpa [cellsPq] using a, by simpa [cellsPq] using b⟩
theorem flat_cellsPq (xs : List Pq) : (flatK encQ 2 xs.toArray).toList = cellsPq xs := by
  apply List.ext_getElem?
  intro j
  by_cases hj : j < xs.length * 2
  · have h1 : j / 2 < xs.length := by omega
    obtain ⟨q, hq⟩ : ∃ q, xs[j / 2]? = some q := ⟨_, List.getElem?_eq_getElem h1⟩
    obtain ⟨e0, e1⟩ := cellsPq_at xs (j / 2) q hq
    have hx : xs[j / 2] = q := by rw [List.getElem?_eq_getElem h1] at hq; exact Option.some.inj hq
    have e : (flatK encQ 2 xs.toArray).toList[j]? = some ((encQ q)[j % 2]!) := by
      rw [Array.getElem?_toList, Array.getElem?_eq_getElem (by simpa using hj)]
      have := get_flatK encQ 2 xs.toArray j (by simpa using hj)
      rw [getElem!_pos _ j (by simpa using hj)] at this
      rw [this]
      simp [h1, hx]
    rw [e]
    have hm : j % 2 = 0 ∨ j % 2 = 1 := by omega
    rcases hm with m | m
    · rw [m]; rw [show j = j / 2 * 2 by omega, e0]; simp [encQ]
    · rw [m]
      have e3 : (cellsPq xs)[j]? = some (slQ q) := by rw [← e1]; congr 1; omega
      rw [e3]; simp [encQ]
  · rw [List.getElem?_eq_none (by simp; omega), List.getElem?_eq_none (by rw [cellsPq_len]; omega)]
theorem holdsQ {w : World} {g : Nat} {cur : Array Value} {e : TypeId} {xs : List Pq} (hb : w.heap[g]? = some (.cells cur e (0, 0))) (ht : cur.toList.take (xs.length * 2) = cellsPq xs) : HoldsK encQ 2 w g 0 xs.toArray := by
  intro j hj
  have hj' : j < xs.length * 2 := by simpa using hj
  refine ⟨?_, by simp [World.frozen?, hb]⟩
  have h1 : (cur.toList.take (xs.length * 2))[j]? = (flatK encQ 2 xs.toArray).toList[j]? := by rw [ht, flat_cellsPq]
  rw [List.getElem?_take_of_lt hj', Array.getElem?_toList, Array.getElem?_toList, Array.getElem?_eq_getElem hj] at h1
  rw [getElem!_pos _ j hj]
  simp [World.cell?, hb, h1]
theorem heap_sortedQ {w : World} {g n : Nat} {os : Array Obj} {cur : Array Value} {e : TypeId} {fr : Nat × Nat} (F : Array Value) (hb : w.heap[g]? = some (.cells cur e fr)) :
    (grow (putRow id (Sort.ahead w n) g 0 F) os).heap[g]? = some (.cells (putCells id 0 F cur) e fr) := by
  have hg : g < w.heap.size := (Array.getElem?_eq_some_iff.1 hb).1
  rw [heap_grow_old _ _ (by simpa using hg)]
  simp [putRow, mapBlock, Sort.ahead, Array.getElem?_modify, hb, onCells]
theorem grown_sortedQ {w : World} {g n : Nat} {os : Array Obj} (F : Array Value) : w.grownBy (grow (putRow id (Sort.ahead w n) g 0 F) os) (some g) := by
  refine ⟨rfl, rfl, rfl, by simp, fun k hk hne => ?_⟩
  rw [heap_grow_old _ _ (by simpa using hk)]
  have : g ≠ k := fun e => hne (by rw [e])
  simp [putRow, mapBlock, Sort.ahead, Array.getElem?_modify, this]
theorem rowQ_sorted {w : World} {base g cap n : Nat} {e : TypeId} {os : Array Obj} {cur : Array Value} {xs ys : List Pq} (hl : ys.length = xs.length) (hbase : base ≤ g) (hb : w.heap[g]? = some (.cells cur e (0, 0))) (h1 : xs.length ≤ cap) (h2 : cap ≤ maxLen) (h3 : cur.size = cap * 2) :
    (sortWorldK encQ 2 w g 0 n ys.toArray os).ownsRow base e 2 (.slice (some ⟨g, 0, none⟩) xs.length cap) xs.length (cellsPq ys) := by
  refine ⟨by rw [cellsPq_len, hl], .inr ⟨g, cap, _, rfl, hbase, heap_sortedQ _ hb, h1, h2, by simp [putCells, h3], ?_⟩⟩
  rw [← flat_cellsPq ys, ← hl]
  apply List.ext_getElem?
  intro j
  by_cases hj : j < ys.length * 2
  · rw [List.getElem?_take_of_lt hj, Array.getElem?_toList, Array.getElem?_toList, Array.getElem?_eq_getElem (show j < (flatK encQ 2 ys.toArray).size by simpa using hj)]
    have hc : j < cur.size := by omega
    simp [putCells, hc, hj]
  · rw [List.getElem?_take_eq_none (by omega), List.getElem?_eq_none (by simp; omega)]
theorem RdI.grownQ {S : Nat → Prop} {w w' : World} {v : Value} {xs : List Int} {row : Option Nat} (h : RdI S w v xs) (hS : xs ≠ [] → ∀ b, S b → some b ≠ row) (hg : w.grownBy w' row) : RdI S w' v xs := by
  obtain ⟨ao, c, e1, e2, e3⟩ := h
  refine ⟨ao, c, e1, e2, fun hne => ?_⟩
  obtain ⟨b, off, f1, f2, f3⟩ := e3 hne
  exact ⟨b, off, f1, f2, fun j hj => (World.cell?_of_block (hg.block b (World.block_lt_of_cell? _ _ (f3 j hj)) (fun e => hS hne b f2 e))).trans (f3 j hj)⟩
/-- What is known of each put, whatever its place. -/
def PqOk (P : Nat → Prop) (w : World) (row : Option Nat) (qs : List Pq) : Prop :=
  (∀ q, q ∈ qs → RdI (· = q.2.2.2) w (slQ q) q.2.2.1 ∧ (q.2.2.1 ≠ [] → P q.2.2.2 ∧ q.2.2.2 < w.heap.size ∧ (∀ o, w.frozen? ⟨q.2.2.2, o, none⟩ = false) ∧ row ≠ some q.2.2.2)) ∧
    qs.Pairwise (fun q q' => q.2.2.1 ≠ [] → q'.2.2.1 ≠ [] → q.2.2.2 ≠ q'.2.2.2)
theorem PqOk.perm {P : Nat → Prop} {w : World} {row : Option Nat} {qs rs : List Pq} (h : PqOk P w row qs) (hp : rs.Perm qs) : PqOk P w row rs :=
  ⟨fun q hq => h.1 q (hp.mem_iff.1 hq), (hp.pairwise_iff (fun hh a b => (hh b a).symm)).2 h.2⟩
theorem PqOk.grown {P : Nat → Prop} {w w' : World} {g : Nat} {qs : List Pq} (h : PqOk P w (some g) qs) (hg : w.grownBy w' (some g)) : PqOk P w' (some g) qs := by
  refine ⟨fun q hq => ?_, h.2⟩
  obtain ⟨h1, h2⟩ := h.1 q hq
  refine ⟨h1.grownQ (fun hne b hb e => (h2 hne).2.2.2 (by rw [← hb]; exact e.symm)) hg, fun hne => ?_⟩
  obtain ⟨k1, k2, k3, k4⟩ := h2 hne
  exact ⟨k1, Nat.lt_of_lt_of_le k2 hg.size, fun o => (hg.frozen_far ⟨q.2.2.2, o, none⟩ k2 (fun e => k4 e.symm)).trans (k3 o), k4⟩
theorem cellsP_nxt (ps : List (Int × List Int)) (k : Nat) (V : Nat → Value) : cellsP ps (k + 1) V = cellsP ps k V ++ [.int .i64 (ps.getD k (0, [])).1, V k] := by
  rw [← cellsP_succ ps k V (V k)]
  congr 1
  funext i
  by_cases e : i = k
  · subst e; rw [if_pos rfl]
  · rw [if_neg e]

/-- Puts that were built by append, each with its slice and block. -/
theorem pq_of_built {P : Nat → Prop} {w : World} {v : Value} {gs : List (Int × List Int)} (h : BuiltP P w v gs.length gs) : ∃ qs : List Pq, w.ownsRow 0 74 2 v gs.length (cellsPq qs) ∧ qs.map ptq = gs ∧ PqOk P w v.ownBlock qs := by
  obtain ⟨V, Bk, h1, _, h3⟩ := h
  let sl : Value → Option Addr × Nat × Nat := fun u => match u with | .slice a n c => (a, n, c) | _ => (none, 0, 0)
  let f : Nat → Pq := fun i => ((gs.getD i (0, [])).1, sl (V i), (gs.getD i (0, [])).2, Bk i)
  have hV : ∀ i, i < gs.length → slQ (f i) = V i := fun i hi => by
    obtain ⟨a, c, e⟩ := (h3.rd i hi).shape
    simp only [f, slQ, sl, e]
  have hc : ∀ k, k ≤ gs.length → cellsPq ((List.range k).map f) = cellsP gs k V := by
    intro k
    induction k with
    | zero => intro _; rfl
    | succ k ih =>
      intro hk
      rw [List.range_succ, List.map_append, List.map_cons, List.map_nil, cellsPq_snoc, ih (by omega), cellsP_nxt, hV k (by omega)]
  refine ⟨(List.range gs.length).map f, by rw [hc _ (Nat.le_refl _)]; exact h1, ?_, fun q hq => ?_, ?_⟩
  · apply List.ext_getElem?
    intro i
    by_cases hi : i < gs.length
    · simp [hi, f, ptq, List.getD]
    · simp [hi]
  · obtain ⟨i, hi, rfl⟩ := List.mem_map.1 hq
    have hi' := List.mem_range.1 hi
    rw [hV i hi']
    exact ⟨h3.rd i hi', fun hne => by obtain ⟨k1, k2, k3, k4, _⟩ := h3.own i hi' hne; exact ⟨k1, k2, k3, k4⟩⟩
  · rw [List.pairwise_map]
    refine List.Pairwise.imp_of_mem ?_ List.pairwise_lt_range
    intro i j hi hj hij hne hne' e
    have := (h3.own j (List.mem_range.1 hj) hne').2.2.2.2 i (List.mem_range.1 hi) hne e
    omega
/-- And back. -/
theorem built_of_pq {P : Nat → Prop} {w : World} {g n cap : Nat} {qs : List Pq} (hr : w.ownsRow 0 74 2 (.slice (some ⟨g, 0, none⟩) n cap) n (cellsPq qs)) (hn : qs.length = n) (hP : P g) (h : PqOk P w (some g) qs) :
    BuiltP P w (.slice (some ⟨g, 0, none⟩) n cap) n (qs.map ptq) := by
  subst hn
  have gd : ∀ i (hi : i < qs.length), (qs.map ptq).getD i (0, []) = ptq qs[i] := fun i hi => by simp [List.getD, hi]
  have hq : ∀ i (hi : i < qs.length), qs[i]? = some qs[i] := fun i hi => List.getElem?_eq_getElem hi
  have hc : ∀ k, k ≤ qs.length → cellsPq (qs.take k) = cellsP (qs.map ptq) k (fun i => ((qs[i]?).map slQ).getD (.bool false)) := by
    intro k
    induction k with
    | zero => intro _; rfl
    | succ k ih =>
      intro hk
      rw [List.take_succ_eq_append_getElem (by omega), cellsPq_snoc, ih (by omega), cellsP_nxt, gd k (by omega), hq k (by omega)]
      rfl
  have hc := hc qs.length (Nat.le_refl _)
  rw [List.take_length] at hc
  refine ⟨fun i => ((qs[i]?).map slQ).getD (.bool false), fun i => ((qs[i]?).map (fun q => q.2.2.2)).getD 0, by rw [← hc]; exact hr, fun r hr' => by injection hr' with e; rw [← e]; exact hP, fun i hi => ?_, fun i hi hne => ?_⟩
  · obtain ⟨h1, _⟩ := h.1 _ (List.getElem_mem hi)
    rw [gd i hi, hq i hi]
    exact h1
  · obtain ⟨_, h2⟩ := h.1 _ (List.getElem_mem hi)
    rw [gd i hi] at hne
    obtain ⟨k1, k2, k3, k4⟩ := h2 hne
    rw [hq i hi]
    refine ⟨k1, k2, k3, k4, fun j hj hj' ej => ?_⟩
    rw [gd j hj] at hj'
    rw [hq j hj] at ej
    simp only [Option.map_some, Option.getD_some] at ej
    have hpw := List.pairwise_iff_getElem.1 h.2
    by_cases h3 : i < j
    · exact absurd ej.symm (hpw i j hi hj h3 hne hj')
    · by_cases h4 : j < i
      · exact absurd ej (hpw j i hj hi h4 hj' hne)
      · omega
theorem sorted_puts {R : List (Int × List Int)} {qs : List Pq} {d' : Array Pq} (hp : PermIn 0 qs.toArray.size qs.toArray d') (hs : SortedIn (ltOf fun x y : Pq => Lib.compareInt x.1 y.1) 0 qs.toArray.size d') (hR : R.Pairwise (fun x y => x.1 < y.1)) (hm : (qs.map ptq).Perm R) : d'.toList.map ptq = R ∧ d'.toList.Perm qs := by
  obtain ⟨h1, _, h3⟩ := hp
  have hd : d'.toList.Perm qs := by
    have e1 : d'.extract 0 qs.toArray.size = d' := by rw [← h1]; simp
    have e2 : qs.toArray.extract 0 qs.toArray.size = qs.toArray := by simp
    rw [e1, e2] at h3
    exact h3
  refine ⟨?_, hd⟩
  have hdL : (d'.toList.map ptq).Perm R := (hd.map ptq).trans hm
  refine List.Perm.eq_of_pairwise (le := fun x y : Int × List Int => x.1 ≤ y.1) (fun a b ha hb h1 h2 => ?_) ?_ (hR.imp (fun h => by omega)) hdL
  · have ha' := hdL.mem_iff.1 ha
    obtain ⟨i, hi, rfl⟩ := List.mem_iff_getElem.1 ha'
    obtain ⟨j, hj, rfl⟩ := List.mem_iff_getElem.1 hb
    have hp := List.pairwise_iff_getElem.1 hR
    by_cases hij : i < j
    · have := hp i j hi hj hij; omega
    · by_cases hji : j < i
      · have := hp j i hj hi hji; omega
      · have : i = j := by omega
        subst this; rfl
  · rw [List.pairwise_map, List.pairwise_iff_getElem]
    intro i j hi hj hij
    have hsz : d'.size = qs.toArray.size := h1
    have := hs i j (Nat.zero_le _) hij (by rw [← hsz]; simpa using hj)
    rw [ltPq] at this
    rw [getElem!_pos _ j (by simpa using hj), getElem!_pos _ i (by simpa using hi)] at this
    simp at this
    simpa [ptq] using this
end Go.Proofs.YtlmaopljihbdkaaGreat
