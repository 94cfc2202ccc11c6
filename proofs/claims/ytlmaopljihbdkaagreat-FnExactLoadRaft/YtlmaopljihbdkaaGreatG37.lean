/- Ps1 Sn2 Df2 ApplyN in one text: what each says stands at its head below. -/
import Derived.Test.YtlmaopljihbdkaaGreatG32
import Derived.Test.YtlmaopljihbdkaaGreatG21
import Derived.Shelf.SlSortCmp.KitK
import Derived.Test.YtlmaopljihbdkaaGreatG29
import Derived.Test.YtlmaopljihbdkaaGreatG34
import Derived.Test.YtlmaopljihbdkaaGreatG31
/- Chapter 11: puts in a row of their own, sorted by their places. Made by program (genps1.py). -/
namespace Go.Proofs.YtlmaopljihbdkaaGreat
open Go.RowKit Go.Maps Go.Shelf Go.Sort

theorem isNaN11 (x : Int) (w : World) : Calls Tryz.prog 80 #[.int .i64 x] w fun e w' => e = .returned (.bool false) ∧ w' = w := by
  go_enter Tryz.func80, Tryz.ntmps80
  go_wp2
  go_ret
  exact ⟨rfl, rfl⟩
theorem compare11 (x y : Int) (w : World) : Calls Tryz.prog 37 #[.int .i64 x, .int .i64 y] w fun e w' => e = .returned (.int .i64 (Lib.compareInt x y)) ∧ w' = w := by
  by_cases h1 : x < y
  · have hz : Hid (Lib.compareInt x y = -1) := by unfold Hid Lib.compareInt; rw [if_pos h1]
    go_enter Tryz.func37, Tryz.ntmps37
    go_wp2_with fail
    refine (isNaN11 x w).mono ?_
    rintro e w' ⟨rfl, rfl⟩
    go_wp2_with fail
    refine (isNaN11 y _).mono ?_
    rintro e w' ⟨rfl, rfl⟩
    go_wp2
    go_ret
    exact ⟨ret_intF hz.out.symm, rfl⟩
  · by_cases h2 : y < x
    · have hz : Hid (Lib.compareInt x y = 1) := by unfold Hid Lib.compareInt; rw [if_neg h1, if_pos h2]
      go_enter Tryz.func37, Tryz.ntmps37
      go_wp2_with fail
      refine (isNaN11 x w).mono ?_
      rintro e w' ⟨rfl, rfl⟩
      go_wp2_with fail
      refine (isNaN11 y _).mono ?_
      rintro e w' ⟨rfl, rfl⟩
      go_wp2
      go_ret
      exact ⟨ret_intF hz.out.symm, rfl⟩
    · have hz : Hid (Lib.compareInt x y = 0) := by unfold Hid Lib.compareInt; rw [if_neg h1, if_neg h2]
      go_enter Tryz.func37, Tryz.ntmps37
      go_wp2_with fail
      refine (isNaN11 x w).mono ?_
      rintro e w' ⟨rfl, rfl⟩
      go_wp2_with fail
      refine (isNaN11 y _).mono ?_
      rintro e w' ⟨rfl, rfl⟩
      go_wp2
      go_ret
      exact ⟨ret_intF hz.out.symm, rfl⟩
/-- A put as it lies: place, the slice of its words, these, and the memory's block that has them. -/
abbrev Pq := Int × (Option Addr × Nat × Nat) × List Int × Nat
def slQ (q : Pq) : Value := .slice q.2.1.1 q.2.1.2.1 q.2.1.2.2
def encQ (q : Pq) : List Value := [.int .i64 q.1, slQ q]
def ptq (q : Pq) : Int × List Int := (q.1, q.2.2.1)
theorem byBlock (x y : Pq) (W : World) : Calls Tryz.prog 36 #[.agg #[.int .i64 x.1, slQ x], .agg #[.int .i64 y.1, slQ y]] W fun e w' => e = .returned (.int .i64 (Lib.compareInt x.1 y.1)) ∧ ∃ q os', w' = grow (W.drewN q) os' := by
  have HC := hide (fun W' => compare11 x.1 y.1 W')
  generalize Lib.compareInt x.1 y.1 = r at HC ⊢
  unfold slQ
  go_enter Tryz.func36, Tryz.ntmps36
  go_wp2_with fail
  refine (HC.out _).mono ?_
  rintro e w' ⟨rfl, rfl⟩
  go_wp2
  go_ret
  exact ⟨rfl, 0, _, by rw [alloc_eq_grow, alloc_eq_grow, grow_grow]; rfl⟩
theorem ltPq (x y : Pq) : ltOf (fun x y : Pq => Lib.compareInt x.1 y.1) x y = decide (x.1 < y.1) := by
  unfold ltOf Lib.compareInt
  by_cases h1 : x.1 < y.1
  · simp [h1]
  · by_cases h2 : y.1 < x.1 <;> simp [h1, h2]
theorem swoPq : SWO (ltOf fun x y : Pq => Lib.compareInt x.1 y.1) where
  irrefl x := by rw [ltPq]; simp
  trans x y z h1 h2 := by rw [ltPq] at *; simp at *; omega
  ntrans x y z h1 h2 := by rw [ltPq] at *; simp at *; omega


def cellsPq : List Pq → List Value
  | [] => []
  | q :: r => .int .i64 q.1 :: slQ q :: cellsPq r
theorem cellsPq_len : ∀ qs : List Pq, (cellsPq qs).length = qs.length * 2
  | [] => rfl
  | q :: r => by simp [cellsPq, cellsPq_len r]; omega
theorem cellsPq_snoc : ∀ (qs : List Pq) (q : Pq), cellsPq (qs ++ [q]) = cellsPq qs ++ [.int .i64 q.1, slQ q]
  | [], q => rfl
  | p :: r, q => by simp [cellsPq, cellsPq_snoc r q]
theorem cellsPq_at : ∀ (qs : List Pq) (i : Nat) (q : Pq), qs[i]? = some q → (cellsPq qs)[i * 2]? = some (.int .i64 q.1) ∧ (cellsPq qs)[i * 2 + 1]? = some (slQ q)
  | [], i, q, h => by simp at h
  | p :: r, 0, q, h => by simp at h; subst h; exact ⟨rfl, rfl⟩
  | p :: r, i + 1, q, h => by
    have h' : r[i]? = some q := by simpa using h
    obtain ⟨a, b⟩ := cellsPq_at r i q h'
    rw [show (i + 1) * 2 = i * 2 + 1 + 1 by omega]
    exact ⟨by simpa [cellsPq] using a, by simpa [cellsPq] using b⟩
theorem flat_cellsPq (xs : List Pq) : (flatK encQ 2 xs.toArray).toList = cellsPq xs := by
  apply List.ext_getElem?
  intro j
  by_cases hj : j < xs.length * 2
  · have h1 : j / 2 < xs.length := by omega
    obtain ⟨q, hq⟩ : ∃ q, xs[j / 2]? = some q := ⟨_, List.getElem?_eq_getElem h1⟩
    obtain ⟨e0, e1⟩ := cellsPq_at xs (j / 2) q hq
    have hx : xs[j / 2] = q := by rw [List.getElem?_eq_getElem h1] at hq; exact Option.some.inj hq
    have e : (flatK encQ 2 xs.toArray).toList[j]? = some ((encQ q)[j % 2]!) := by
      rw [Array.getElem?_toList, Array.getElem?_eq_getElem (by simpa using hj)]
      have := get_flatK encQ 2 xs.toArray j (by simpa using hj)
      rw [getElem!_pos _ j (by simpa using hj)] at this
      rw [this]
      simp [h1, hx]
    rw [e]
    have hm : j % 2 = 0 ∨ j % 2 = 1 := by omega
    rcases hm with m | m
    · rw [m]; rw [show j = j / 2 * 2 by omega, e0]; simp [encQ]
    · rw [m]
      have e3 : (cellsPq xs)[j]? = some (slQ q) := by rw [← e1]; congr 1; omega
      rw [e3]; simp [encQ]
  · rw [List.getElem?_eq_none (by simp; omega), List.getElem?_eq_none (by rw [cellsPq_len]; omega)]
theorem holdsQ {w : World} {g : Nat} {cur : Array Value} {e : TypeId} {xs : List Pq} (hb : w.heap[g]? = some (.cells cur e (0, 0))) (ht : cur.toList.take (xs.length * 2) = cellsPq xs) : HoldsK encQ 2 w g 0 xs.toArray := by
  intro j hj
  have hj' : j < xs.length * 2 := by simpa using hj
  refine ⟨?_, by simp [World.frozen?, hb]⟩
  have h1 : (cur.toList.take (xs.length * 2))[j]? = (flatK encQ 2 xs.toArray).toList[j]? := by rw [ht, flat_cellsPq]
  rw [List.getElem?_take_of_lt hj', Array.getElem?_toList, Array.getElem?_toList, Array.getElem?_eq_getElem hj] at h1
  rw [getElem!_pos _ j hj]
  simp [World.cell?, hb, h1]
theorem heap_sortedQ {w : World} {g n : Nat} {os : Array Obj} {cur : Array Value} {e : TypeId} {fr : Nat × Nat} (F : Array Value) (hb : w.heap[g]? = some (.cells cur e fr)) :
    (grow (putRow id (Sort.ahead w n) g 0 F) os).heap[g]? = some (.cells (putCells id 0 F cur) e fr) := by
  have hg : g < w.heap.size := (Array.getElem?_eq_some_iff.1 hb).1
  rw [heap_grow_old _ _ (by simpa using hg)]
  simp [putRow, mapBlock, Sort.ahead, Array.getElem?_modify, hb, onCells]
theorem grown_sortedQ {w : World} {g n : Nat} {os : Array Obj} (F : Array Value) : w.grownBy (grow (putRow id (Sort.ahead w n) g 0 F) os) (some g) := by
  refine ⟨rfl, rfl, rfl, by simp, fun k hk hne => ?_⟩
  rw [heap_grow_old _ _ (by simpa using hk)]
  have : g ≠ k := fun e => hne (by rw [e])
  simp [putRow, mapBlock, Sort.ahead, Array.getElem?_modify, this]
theorem rowQ_sorted {w : World} {base g cap n : Nat} {e : TypeId} {os : Array Obj} {cur : Array Value} {xs ys : List Pq} (hl : ys.length = xs.length) (hbase : base ≤ g) (hb : w.heap[g]? = some (.cells cur e (0, 0))) (h1 : xs.length ≤ cap) (h2 : cap ≤ maxLen) (h3 : cur.size = cap * 2) :
    (sortWorldK encQ 2 w g 0 n ys.toArray os).ownsRow base e 2 (.slice (some ⟨g, 0, none⟩) xs.length cap) xs.length (cellsPq ys) := by
  refine ⟨by rw [cellsPq_len, hl], .inr ⟨g, cap, _, rfl, hbase, heap_sortedQ _ hb, h1, h2, by simp [putCells, h3], ?_⟩⟩
  rw [← flat_cellsPq ys, ← hl]
  apply List.ext_getElem?
  intro j
  by_cases hj : j < ys.length * 2
  · rw [List.getElem?_take_of_lt hj, Array.getElem?_toList, Array.getElem?_toList, Array.getElem?_eq_getElem (show j < (flatK encQ 2 ys.toArray).size by simpa using hj)]
    have hc : j < cur.size := by omega
    simp [putCells, hc, hj]
  · rw [List.getElem?_take_eq_none (by omega), List.getElem?_eq_none (by simp; omega)]
theorem RdI.grownQ {S : Nat → Prop} {w w' : World} {v : Value} {xs : List Int} {row : Option Nat} (h : RdI S w v xs) (hS : xs ≠ [] → ∀ b, S b → some b ≠ row) (hg : w.grownBy w' row) : RdI S w' v xs := by
  obtain ⟨ao, c, e1, e2, e3⟩ := h
  refine ⟨ao, c, e1, e2, fun hne => ?_⟩
  obtain ⟨b, off, f1, f2, f3⟩ := e3 hne
  exact ⟨b, off, f1, f2, fun j hj => (World.cell?_of_block (hg.block b (World.block_lt_of_cell? _ _ (f3 j hj)) (fun e => hS hne b f2 e))).trans (f3 j hj)⟩
/-- What is known of each put, whatever its place. -/
def PqOk (P : Nat → Prop) (w : World) (row : Option Nat) (qs : List Pq) : Prop :=
  (∀ q, q ∈ qs → RdI (· = q.2.2.2) w (slQ q) q.2.2.1 ∧ (q.2.2.1 ≠ [] → P q.2.2.2 ∧ q.2.2.2 < w.heap.size ∧ (∀ o, w.frozen? ⟨q.2.2.2, o, none⟩ = false) ∧ row ≠ some q.2.2.2)) ∧
    qs.Pairwise (fun q q' => q.2.2.1 ≠ [] → q'.2.2.1 ≠ [] → q.2.2.2 ≠ q'.2.2.2)
theorem PqOk.perm {P : Nat → Prop} {w : World} {row : Option Nat} {qs rs : List Pq} (h : PqOk P w row qs) (hp : rs.Perm qs) : PqOk P w row rs :=
  ⟨fun q hq => h.1 q (hp.mem_iff.1 hq), (hp.pairwise_iff (fun hh a b => (hh b a).symm)).2 h.2⟩
theorem PqOk.grown {P : Nat → Prop} {w w' : World} {g : Nat} {qs : List Pq} (h : PqOk P w (some g) qs) (hg : w.grownBy w' (some g)) : PqOk P w' (some g) qs := by
  refine ⟨fun q hq => ?_, h.2⟩
  obtain ⟨h1, h2⟩ := h.1 q hq
  refine ⟨h1.grownQ (fun hne b hb e => (h2 hne).2.2.2 (by rw [← hb]; exact e.symm)) hg, fun hne => ?_⟩
  obtain ⟨k1, k2, k3, k4⟩ := h2 hne
  exact ⟨k1, Nat.lt_of_lt_of_le k2 hg.size, fun o => (hg.frozen_far ⟨q.2.2.2, o, none⟩ k2 (fun e => k4 e.symm)).trans (k3 o), k4⟩
theorem cellsP_nxt (ps : List (Int × List Int)) (k : Nat) (V : Nat → Value) : cellsP ps (k + 1) V = cellsP ps k V ++ [.int .i64 (ps.getD k (0, [])).1, V k] := by
  rw [← cellsP_succ ps k V (V k)]
  congr 1
  funext i
  by_cases e : i = k
  · subst e; rw [if_pos rfl]
  · rw [if_neg e]

/-- Puts that were built by append, each with its slice and block. -/
theorem pq_of_built {P : Nat → Prop} {w : World} {v : Value} {gs : List (Int × List Int)} (h : BuiltP P w v gs.length gs) : ∃ qs : List Pq, w.ownsRow 0 74 2 v gs.length (cellsPq qs) ∧ qs.map ptq = gs ∧ PqOk P w v.ownBlock qs := by
  obtain ⟨V, Bk, h1, _, h3⟩ := h
  let sl : Value → Option Addr × Nat × Nat := fun u => match u with | .slice a n c => (a, n, c) | _ => (none, 0, 0)
  let f : Nat → Pq := fun i => ((gs.getD i (0, [])).1, sl (V i), (gs.getD i (0, [])).2, Bk i)
  have hV : ∀ i, i < gs.length → slQ (f i) = V i := fun i hi => by
    obtain ⟨a, c, e⟩ := (h3.rd i hi).shape
    simp only [f, slQ, sl, e]
  have hc : ∀ k, k ≤ gs.length → cellsPq ((List.range k).map f) = cellsP gs k V := by
    intro k
    induction k with
    | zero => intro _; rfl
    | succ k ih =>
      intro hk
      rw [List.range_succ, List.map_append, List.map_cons, List.map_nil, cellsPq_snoc, ih (by omega), cellsP_nxt, hV k (by omega)]
  refine ⟨(List.range gs.length).map f, by rw [hc _ (Nat.le_refl _)]; exact h1, ?_, fun q hq => ?_, ?_⟩
  · apply List.ext_getElem?
    intro i
    by_cases hi : i < gs.length
    · simp [hi, f, ptq, List.getD]
    · simp [hi]
  · obtain ⟨i, hi, rfl⟩ := List.mem_map.1 hq
    have hi' := List.mem_range.1 hi
    rw [hV i hi']
    exact ⟨h3.rd i hi', fun hne => by obtain ⟨k1, k2, k3, k4, _⟩ := h3.own i hi' hne; exact ⟨k1, k2, k3, k4⟩⟩
  · rw [List.pairwise_map]
    refine List.Pairwise.imp_of_mem ?_ List.pairwise_lt_range
    intro i j hi hj hij hne hne' e
    have := (h3.own j (List.mem_range.1 hj) hne').2.2.2.2 i (List.mem_range.1 hi) hne e
    omega
/-- And back. -/
theorem built_of_pq {P : Nat → Prop} {w : World} {g n cap : Nat} {qs : List Pq} (hr : w.ownsRow 0 74 2 (.slice (some ⟨g, 0, none⟩) n cap) n (cellsPq qs)) (hn : qs.length = n) (hP : P g) (h : PqOk P w (some g) qs) :
    BuiltP P w (.slice (some ⟨g, 0, none⟩) n cap) n (qs.map ptq) := by
  subst hn
  have gd : ∀ i (hi : i < qs.length), (qs.map ptq).getD i (0, []) = ptq qs[i] := fun i hi => by simp [List.getD, hi]
  have hq : ∀ i (hi : i < qs.length), qs[i]? = some qs[i] := fun i hi => List.getElem?_eq_getElem hi
  have hc : ∀ k, k ≤ qs.length → cellsPq (qs.take k) = cellsP (qs.map ptq) k (fun i => ((qs[i]?).map slQ).getD (.bool false)) := by
    intro k
    induction k with
    | zero => intro _; rfl
    | succ k ih =>
      intro hk
      rw [List.take_succ_eq_append_getElem (by omega), cellsPq_snoc, ih (by omega), cellsP_nxt, gd k (by omega), hq k (by omega)]
      rfl
  have hc := hc qs.length (Nat.le_refl _)
  rw [List.take_length] at hc
  refine ⟨fun i => ((qs[i]?).map slQ).getD (.bool false), fun i => ((qs[i]?).map (fun q => q.2.2.2)).getD 0, by rw [← hc]; exact hr, fun r hr' => by injection hr' with e; rw [← e]; exact hP, fun i hi => ?_, fun i hi hne => ?_⟩
  · obtain ⟨h1, _⟩ := h.1 _ (List.getElem_mem hi)
    rw [gd i hi, hq i hi]
    exact h1
  · obtain ⟨_, h2⟩ := h.1 _ (List.getElem_mem hi)
    rw [gd i hi] at hne
    obtain ⟨k1, k2, k3, k4⟩ := h2 hne
    rw [hq i hi]
    refine ⟨k1, k2, k3, k4, fun j hj hj' ej => ?_⟩
    rw [gd j hj] at hj'
    rw [hq j hj] at ej
    simp only [Option.map_some, Option.getD_some] at ej
    have hpw := List.pairwise_iff_getElem.1 h.2
    by_cases h3 : i < j
    · exact absurd ej.symm (hpw i j hi hj h3 hne hj')
    · by_cases h4 : j < i
      · exact absurd ej (hpw j i hj hi h4 hj' hne)
      · omega
theorem sorted_puts {R : List (Int × List Int)} {qs : List Pq} {d' : Array Pq} (hp : PermIn 0 qs.toArray.size qs.toArray d') (hs : SortedIn (ltOf fun x y : Pq => Lib.compareInt x.1 y.1) 0 qs.toArray.size d') (hR : R.Pairwise (fun x y => x.1 < y.1)) (hm : (qs.map ptq).Perm R) : d'.toList.map ptq = R ∧ d'.toList.Perm qs := by
  obtain ⟨h1, _, h3⟩ := hp
  have hd : d'.toList.Perm qs := by
    have e1 : d'.extract 0 qs.toArray.size = d' := by rw [← h1]; simp
    have e2 : qs.toArray.extract 0 qs.toArray.size = qs.toArray := by simp
    rw [e1, e2] at h3
    exact h3
  refine ⟨?_, hd⟩
  have hdL : (d'.toList.map ptq).Perm R := (hd.map ptq).trans hm
  refine List.Perm.eq_of_pairwise (le := fun x y : Int × List Int => x.1 ≤ y.1) (fun a b ha hb h1 h2 => ?_) ?_ (hR.imp (fun h => by omega)) hdL
  · have ha' := hdL.mem_iff.1 ha
    obtain ⟨i, hi, rfl⟩ := List.mem_iff_getElem.1 ha'
    obtain ⟨j, hj, rfl⟩ := List.mem_iff_getElem.1 hb
    have hp := List.pairwise_iff_getElem.1 hR
    by_cases hij : i < j
    · have := hp i j hi hj hij; omega
    · by_cases hji : j < i
      · have := hp j i hj hi hji; omega
      · have : i = j := by omega
        subst this; rfl
  · rw [List.pairwise_map, List.pairwise_iff_getElem]
    intro i j hi hj hij
    have hsz : d'.size = qs.toArray.size := h1
    have := hs i j (Nat.zero_le _) hij (by rw [← hsz]; simpa using hj)
    rw [ltPq] at this
    rw [getElem!_pos _ j (by simpa using hj), getElem!_pos _ i (by simpa using hi)] at this
    simp at this
    simpa [ptq] using this
end Go.Proofs.YtlmaopljihbdkaaGreat
/- Chapter 11: 'impl.SnapPuts', walked. Made by program (gensn2.py, out of Im2). -/
namespace Go.Proofs.YtlmaopljihbdkaaGreat
open Go.RowKit Go.Shelf
theorem snP_words (r : Rf) (i : Nat) : ((snP r).getD i (0, [])).2.length ≤ 8 := by
  rcases Nat.lt_or_ge i (sbL r).length with h | h
  · rw [snP_at h]
    simp only [List.length_take]
    omega
  · have : (snP r).getD i (0, []) = (0, []) := by simp [List.getD, snP_len, h]
    rw [this]
    simp
theorem totP_le11 {ps : List (Int × List Int)} {c : Nat} (h : ∀ i, (ps.getD i (0, [])).2.length ≤ c) : ∀ i, i ≤ ps.length → totP ps i ≤ i * (c + 1)
  | 0, _ => by simp [totP]
  | i + 1, hi => by
    have := totP_le11 h i (by omega)
    have h2 := h i
    rw [totP_succ _ _ (by omega), Nat.add_mul]
    omega
theorem snR_tot (r : Rf) : totP (snR r) (snR r).length ≤ 1048576 := by
  unfold snR
  split
  · rename_i h
    have h1 := totP_le11 (snP_words r) _ (Nat.le_refl _)
    have h2 := (sbL_some (rf_words h)).1
    rw [snP_len] at h1 ⊢
    omega
  · simp [totP]
theorem snR_bad {r : Rf} (h : rfF r ≠ 0) : snR r = [] := by unfold snR; rw [if_neg h]
theorem snR_ok {r : Rf} (h : rfF r = 0) : snR r = snP r := by unfold snR; rw [if_pos h]
theorem ret_putsS {w w3 : World} {P : Nat → Prop} {r : Nat} {z x : Value} {ps : List (Int × List Int)} (hb : Below w.heap.size w w3) (hr : w.heap.size ≤ r) (ho : OwP P w3 z ps) (hP : ∀ b, P b → r < b ∧ b < w3.heap.size) :
    Below w.heap.size w ((w3.setCell ⟨r, 0, none⟩ x).setCell ⟨r, 1, none⟩ z) ∧ OwP (fun b => w.heap.size ≤ b ∧ b < ((w3.setCell ⟨r, 0, none⟩ x).setCell ⟨r, 1, none⟩ z).heap.size) ((w3.setCell ⟨r, 0, none⟩ x).setCell ⟨r, 1, none⟩ z) z ps := by
  have hw : Wr (fun q => q = r) w3 ((w3.setCell ⟨r, 0, none⟩ x).setCell ⟨r, 1, none⟩ z) := ((Wr.refl (fun q => q = r) _).setCell (p := ⟨r, 0, none⟩) rfl _).setCell (p := ⟨r, 1, none⟩) rfl _
  exact ⟨(hb.setCell (p := ⟨r, 0, none⟩) hr _).setCell (p := ⟨r, 1, none⟩) hr _, (ho.wr hw (fun b h e => by have := hP b h; omega)).mono fun b h => ⟨by have := hP b h; omega, Nat.lt_of_lt_of_le (hP b h).2 hw.size⟩⟩

set_option maxHeartbeats 2000000 in
set_option maxRecDepth 4000 in
theorem snapBlocksI (a b c d : Int) (ay : Option Addr) (l cy : Nat) (az : Option Addr) (m cz : Nat) (w : World) :
    Calls Tryz.prog 86 #[.agg #[.int .i64 a, .int .i64 b, .int .i64 c, .int .i64 d, .slice ay l cy, .slice az m cz]] w fun e w' => e = .returned (.func (.func 133) #[] #[.pointer (some ⟨w.heap.size, 0, none⟩)]) ∧ w' = w.alloc (.cells #[.int .i64 a, .int .i64 b, .int .i64 c, .int .i64 d, .slice ay l cy, .slice az m cz] 33) := by
  go_enter Tryz.func86, Tryz.ntmps86
  go_wp2
  go_ret
  exact ⟨rfl, rfl⟩
theorem snapCollect {S T : Nat → Prop} {w : World} {ay az : Option Addr} {cy cz : Nat} (r : Rf) (hy : RdI S w (.slice ay r.sn.length cy) r.sn) (hz : RdJ T w (.slice az r.lg.length cz) r.lg) (hl : r.sn.length ≤ 40) (hcy : capE (.slice ay r.sn.length cy)) :
    Calls Tryz.prog 81 #[.func (.func 133) #[] #[.pointer (some ⟨w.heap.size, 0, none⟩)]] (w.alloc (.cells #[.int .i64 r.tm, .int .i64 r.vt, .int .i64 r.si, .int .i64 r.st, .slice ay r.sn.length cy, .slice az r.lg.length cz] 33)) fun e w' =>
      ∃ u, e = .returned u ∧ Below (w.alloc (.cells #[.int .i64 r.tm, .int .i64 r.vt, .int .i64 r.si, .int .i64 r.st, .slice ay r.sn.length cy, .slice az r.lg.length cz] 33)).heap.size (w.alloc (.cells #[.int .i64 r.tm, .int .i64 r.vt, .int .i64 r.si, .int .i64 r.st, .slice ay r.sn.length cy, .slice az r.lg.length cz] 33)) w' ∧ OwP (fun b => w.heap.size + 1 ≤ b ∧ b < w'.heap.size) w' u (snP r) := by
  have hbA := below_alloc w (.cells #[.int .i64 r.tm, .int .i64 r.vt, .int .i64 r.si, .int .i64 r.st, .slice ay r.sn.length cy, .slice az r.lg.length cz] 33)
  have hl5 := (sbL_some hl).1
  refine (collectP (enters_of Tryz.func133 (by kernel_rfl) rfl) (fun m => snapSeq r (by simp [go_sem]) (by simp [go_sem]) (by simp [go_sem]) (by simp [go_sem]) (by simp [go_sem]) (by simp [go_sem]) (hy.inw.later hbA) (hz.later hbA) hl hcy (fun b hb => by simp; omega) m) (fun b hb => by simp; omega) (by rw [snP_len]; omega)).mono ?_
  rintro e w' ⟨u, rfl, hb, hbl⟩
  exact ⟨u, rfl, hbl, (hb.ow rfl (by rw [snP_len]; omega)).mono fun b h => ⟨by have := h.1; simp at this; omega, h.2⟩⟩

end Go.Proofs.YtlmaopljihbdkaaGreat
/- Chapter 11: 'impl.DiffPuts', walked. -/
namespace Go.Proofs.YtlmaopljihbdkaaGreat
open Go.RowKit Go.Maps Go.Shelf
attribute [local go_sem] Oper.semAt_some

theorem vF_zero {vs : List (Int × List Int)} (h : vF vs = 0) : hpF 60 vs = 0 := by
  unfold vF at h
  by_cases h0 : hpF 60 vs = 0
  · exact h0
  · rw [if_neg h0] at h; exact absurd h h0

/-- What the loop of 'DiffPuts' keeps: the puts so far in the variable at Bv, the answer's variable at r0 as it was laid. -/
def DfI (w : World) (r0 Bv : Nat) (P : Nat → Prop) (qs : List (Int × List Int)) (D : Nat → Prop) (k : Nat) (W : World) : Prop :=
  k ≤ 12 ∧ ∃ u, (∀ b, D b ↔ b = Bv ∨ b = r0 ∨ u.ownBlock = some b) ∧ Boxed W Bv 27 u ∧ BuiltP P W u k qs ∧ Below w.heap.size w W ∧ W.cell? ⟨r0, 0, none⟩ = some (.int .i64 0) ∧ W.cell? ⟨r0, 1, none⟩ = some (.slice none 0 0) ∧ ∀ o, W.frozen? ⟨r0, o, none⟩ = false
theorem DfI.later {w A B : World} {r0 Bv k : Nat} {P D : Nat → Prop} {qs : List (Int × List Int)} (h : DfI w r0 Bv P qs D k A) (hb : Below A.heap.size A B) : DfI w r0 Bv P qs D k B := by
  obtain ⟨h0, u, h1, h2, h3, h4, h5, h6, h7⟩ := h
  exact ⟨h0, u, h1, (hb.block _ h2.lt).trans h2, h3.later hb, below_on h4 hb, cell_later hb h5, cell_later hb h6, fun o => ((bcell hb).2 _ _ (World.block_lt_of_cell? _ _ h5)).trans (h7 o)⟩
theorem DfI.noloop {w A : World} {r0 Bv k l : Nat} {q q' : Obj} {P D : Nat → Prop} {qs : List (Int × List Int)} (h : DfI w r0 Bv P qs D k A) (hl : A.heap[l]? = some q) (hq : isMark q = true) (hq' : isMark q' = true) (h3 : w.heap.size ≤ l) : DfI w r0 Bv P qs D k (A.putObj l q') := by
  obtain ⟨k0, u, k1, k2, k3, k4, k5, k6, k7⟩ := h
  have hn : ¬ r0 = l := fun e => by subst e; exact cell_no_loop k5 hl hq
  exact ⟨k0, u, k1, boxed_noloop k2 hl hq hq', k3.noloop hl hq hq', k4.trans ((wr_mark hl hq hq').below k4.size (fun b e => by omega)), cell_wr (wr_mark hl hq hq') k5 hn, cell_wr (wr_mark hl hq hq') k6 hn, fun o => ((wr_mark hl hq hq').frz _ _ (World.block_lt_of_cell? _ _ k5)).trans (k7 o)⟩
theorem DfI.bound {w A : World} {r0 Bv k : Nat} {P D : Nat → Prop} {qs : List (Int × List Int)} (h : DfI w r0 Bv P qs D k A) : ∀ b, D b → b < A.heap.size ∧ (b = Bv ∨ b = r0 ∨ P b) := by
  obtain ⟨k0, u, k1, k2, k3, k4, k5, _⟩ := h
  intro b hb
  rcases (k1 b).1 hb with rfl | rfl | e
  · exact ⟨k2.lt, .inl rfl⟩
  · exact ⟨World.block_lt_of_cell? _ _ k5, .inr (.inl rfl)⟩
  · obtain ⟨V, Bk, r1, r2, r3⟩ := k3
    exact ⟨(r1.lt b e).2, .inr (.inr (r2 b e))⟩

end Go.Proofs.YtlmaopljihbdkaaGreat
/- Views as maps: one put laid into a rising list. -/
namespace Go.Proofs.YtlmaopljihbdkaaGreat

def dnB (p : Int × List Int) (L : List (Int × List Int)) : Nat → Bool
  | 0 => decide (p.2 = [])
  | k + 1 => dnB p L k || decide (p.1 ≤ (L.getD k (0, [])).1)
def insP (p : Int × List Int) (L : List (Int × List Int)) : Nat → List (Int × List Int)
  | 0 => []
  | k + 1 => (insP p L k ++ if dnB p L k = false ∧ p.1 ≤ (L.getD k (0, [])).1 then [p] else []) ++ if (L.getD k (0, [])).1 = p.1 then [] else [L.getD k (0, [])]
def insF (p : Int × List Int) (L : List (Int × List Int)) : List (Int × List Int) := insP p L L.length ++ if dnB p L L.length = false then [p] else []

theorem dnB_iff (p : Int × List Int) (L : List (Int × List Int)) : ∀ k, dnB p L k = true ↔ p.2 = [] ∨ ∃ j, j < k ∧ p.1 ≤ (L.getD j (0, [])).1
  | 0 => by simp [dnB]
  | k + 1 => by
    rw [dnB, Bool.or_eq_true, dnB_iff p L k, decide_eq_true_eq]
    constructor
    · rintro ((h | ⟨j, h1, h2⟩) | h)
      · exact Or.inl h
      · exact Or.inr ⟨j, by omega, h2⟩
      · exact Or.inr ⟨k, by omega, h⟩
    · rintro (h | ⟨j, h1, h2⟩)
      · exact Or.inl (Or.inl h)
      · by_cases e : j = k
        · subst e; exact Or.inr h2
        · exact Or.inl (Or.inr ⟨j, by omega, h2⟩)
theorem insP_all {p : Int × List Int} {L : List (Int × List Int)} (hL : L.Pairwise fun a b => a.1 < b.1) : ∀ k, k ≤ L.length →
    ((insP p L k).Pairwise fun a b => a.1 < b.1) ∧ ∀ x, x ∈ insP p L k ↔ ((∃ j, j < k ∧ x = L.getD j (0, []) ∧ x.1 ≠ p.1) ∨ (x = p ∧ p.2 ≠ [] ∧ dnB p L k = true)) := by
  have hlt : ∀ i j, i < j → j < L.length → (L.getD i (0, [])).1 < (L.getD j (0, [])).1 := fun i j hij hj => by
    have := List.pairwise_iff_getElem.1 hL i j (by omega) hj hij
    simpa [List.getD, hj, show i < L.length by omega] using this
  intro k
  induction k with
  | zero =>
    intro _
    refine ⟨List.Pairwise.nil, fun x => ⟨fun h => by simp [insP] at h, fun h => ?_⟩⟩
    rcases h with ⟨j, h, _⟩ | ⟨_, h1, h2⟩
    · omega
    · rw [dnB, decide_eq_true_eq] at h2
      exact absurd h2 h1
  | succ k ih =>
    intro hk
    obtain ⟨h1, h2⟩ := ih (by omega)
    obtain ⟨q, hq⟩ : ∃ q, L.getD k (0, []) = q := ⟨_, rfl⟩
    have hdn := dnB_iff p L k
    have hmid : ((insP p L k ++ if dnB p L k = false ∧ p.1 ≤ q.1 then [p] else []).Pairwise fun a b => a.1 < b.1) ∧
        ∀ x, x ∈ (insP p L k ++ if dnB p L k = false ∧ p.1 ≤ q.1 then [p] else []) ↔ ((∃ j, j < k ∧ x = L.getD j (0, []) ∧ x.1 ≠ p.1) ∨ (x = p ∧ p.2 ≠ [] ∧ dnB p L (k + 1) = true)) := by
      by_cases hc : dnB p L k = false ∧ p.1 ≤ q.1
      · rw [if_pos hc]
        have hno : ¬ (p.2 = [] ∨ ∃ j, j < k ∧ p.1 ≤ (L.getD j (0, [])).1) := fun h => by rw [hdn.2 h] at hc; exact absurd hc.1 (by decide)
        refine ⟨List.pairwise_append.2 ⟨h1, by simp, fun a ha b hb => ?_⟩, fun x => ?_⟩
        · simp at hb
          subst hb
          rcases (h2 a).1 ha with ⟨j, hj, rfl, _⟩ | ⟨_, _, h⟩
          · by_cases e : (L.getD j (0, [])).1 < b.1
            · exact e
            · exact absurd (Or.inr ⟨j, hj, by omega⟩) hno
          · rw [hc.1] at h; exact absurd h (by decide)
        · rw [List.mem_append, h2 x, hc.1]
          have hd1 : dnB p L (k + 1) = true := by rw [dnB, hq]; simp [hc.2]
          rw [hd1]
          constructor
          · rintro ((h | ⟨_, _, h⟩) | h)
            · exact Or.inl h
            · exact absurd h (by decide)
            · exact Or.inr ⟨by simpa using h, fun e => hno (Or.inl e), rfl⟩
          · rintro (h | ⟨h, _⟩)
            · exact Or.inl (Or.inl h)
            · exact Or.inr (by simpa using h)
      · rw [if_neg hc, List.append_nil]
        refine ⟨h1, fun x => ?_⟩
        rw [h2 x]
        have hd1 : dnB p L (k + 1) = dnB p L k := by
          rw [dnB, hq]
          cases hb : dnB p L k
          · have : ¬ p.1 ≤ q.1 := fun h => hc ⟨hb, h⟩
            simp [this]
          · rfl
        rw [hd1]
    obtain ⟨m1, m2⟩ := hmid
    rw [insP, hq]
    by_cases he : q.1 = p.1
    · rw [if_pos he, List.append_nil]
      refine ⟨m1, fun x => ?_⟩
      rw [m2 x]
      constructor
      · rintro (⟨j, a, b⟩ | h)
        · exact Or.inl ⟨j, by omega, b⟩
        · exact Or.inr h
      · rintro (⟨j, a, b, c⟩ | h)
        · by_cases e : j = k
          · subst e; rw [b, hq] at c; exact absurd he c
          · exact Or.inl ⟨j, by omega, b, c⟩
        · exact Or.inr h
    · rw [if_neg he]
      refine ⟨List.pairwise_append.2 ⟨m1, by simp, fun a ha b hb => ?_⟩, fun x => ?_⟩
      · simp at hb
        subst hb
        rcases (m2 a).1 ha with ⟨j, hj, rfl, _⟩ | ⟨rfl, hpn, hd⟩
        · have := hlt j k hj (by omega); rw [hq] at this; exact this
        · rcases (dnB_iff a L (k + 1)).1 hd with h | ⟨j, hj, hle⟩
          · exact absurd h hpn
          · by_cases e : j = k
            · subst e; rw [hq] at hle; omega
            · have := hlt j k (by omega) (by omega); rw [hq] at this; omega
      · rw [List.mem_append, m2 x]
        constructor
        · rintro ((⟨j, a, b⟩ | h) | h)
          · exact Or.inl ⟨j, by omega, b⟩
          · exact Or.inr h
          · have hx : x = q := by simpa using h
            exact Or.inl ⟨k, by omega, by rw [hq]; exact hx, by rw [hx]; exact he⟩
        · rintro (⟨j, a, b, c⟩ | h)
          · by_cases e : j = k
            · subst e; rw [hq] at b; exact Or.inr (by simp [b])
            · exact Or.inl (Or.inl ⟨j, by omega, b, c⟩)
          · exact Or.inl (Or.inr h)
/-- A put that is laid into a view. -/
theorem insF_view (M : Int → List Int) (p : Int × List Int) (h0 : 0 ≤ p.1) (h1 : p.1 < 40) : insF p (viewTo M 40) = viewTo (putM M p) 40 := by
  obtain ⟨L, hL⟩ : ∃ L, viewTo M 40 = L := ⟨_, rfl⟩
  have hp : L.Pairwise fun a b => a.1 < b.1 := by rw [← hL]; exact view_lt _ _
  have hm : ∀ x, x ∈ L ↔ 0 ≤ x.1 ∧ x.1 < 40 ∧ x.2 ≠ [] ∧ x.2 = M x.1 := fun x => by rw [← hL]; exact view_mem _ _ _
  obtain ⟨k1, k2⟩ := insP_all (p := p) hp L.length (Nat.le_refl _)
  have hgm : ∀ x, (∃ j, j < L.length ∧ x = L.getD j (0, []) ∧ x.1 ≠ p.1) ↔ x ∈ L ∧ x.1 ≠ p.1 := fun x => by
    constructor
    · rintro ⟨j, hj, rfl, hn⟩
      exact ⟨by simp [List.getD, hj], hn⟩
    · rintro ⟨hx, hn⟩
      obtain ⟨j, hj, rfl⟩ := List.getElem_of_mem hx
      exact ⟨j, hj, by simp [List.getD, hj], hn⟩
  rw [hL]
  refine rising_eq ?_ (view_lt _ _) fun x => ?_
  · unfold insF
    by_cases hd : dnB p L L.length = false
    · rw [if_pos hd]
      refine List.pairwise_append.2 ⟨k1, by simp, fun a ha b hb => ?_⟩
      simp at hb
      subst hb
      rcases (k2 a).1 ha with ⟨j, hj, rfl, _⟩ | ⟨_, _, h⟩
      · by_cases e : (L.getD j (0, [])).1 < b.1
        · exact e
        · have : dnB b L L.length = true := (dnB_iff b L _).2 (Or.inr ⟨j, hj, by omega⟩)
          rw [hd] at this
          exact absurd this (by decide)
      · rw [hd] at h; exact absurd h (by decide)
    · rw [if_neg hd, List.append_nil]; exact k1
  · have hfin : x ∈ insF p L ↔ (x ∈ L ∧ x.1 ≠ p.1) ∨ (x = p ∧ p.2 ≠ []) := by
      unfold insF
      rw [List.mem_append, k2 x, hgm x]
      cases hd : dnB p L L.length
      · have hpn : p.2 ≠ [] := fun h => by rw [(dnB_iff p L _).2 (Or.inl h)] at hd; exact absurd hd (by decide)
        constructor
        · rintro ((h | ⟨_, _, h⟩) | h)
          · exact Or.inl h
          · exact absurd h (by decide)
          · exact Or.inr ⟨by simpa using h, hpn⟩
        · rintro (h | ⟨h, _⟩)
          · exact Or.inl (Or.inl h)
          · exact Or.inr (by simpa using h)
      · constructor
        · rintro ((h | ⟨h, hn, _⟩) | h)
          · exact Or.inl h
          · exact Or.inr ⟨h, hn⟩
          · simp at h
        · rintro (h | ⟨h, hn⟩)
          · exact Or.inl (Or.inl h)
          · exact Or.inl (Or.inr ⟨h, hn, rfl⟩)
    rw [hfin, view_mem, hm x]
    unfold putM
    by_cases e : x.1 = p.1
    · rw [if_pos e]
      constructor
      · rintro (⟨_, h⟩ | ⟨rfl, hn⟩)
        · exact absurd e h
        · exact ⟨h0, h1, hn, rfl⟩
      · rintro ⟨_, _, a, b⟩
        exact Or.inr ⟨Prod.ext e b, by rw [← b]; exact a⟩
    · rw [if_neg e]
      constructor
      · rintro (⟨⟨a, b, c, d⟩, _⟩ | ⟨rfl, _⟩)
        · exact ⟨a, b, c, d⟩
        · exact absurd rfl e
      · rintro ⟨a, b, c, d⟩
        exact Or.inl ⟨⟨a, b, c, d⟩, e⟩
end Go.Proofs.YtlmaopljihbdkaaGreat
