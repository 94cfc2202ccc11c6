/- Fs1 Fs2 Fs3 Fs4 Fr1 in one text: what each says stands at its head below. -/
import Derived.Test.YtlmaopljihbdkaaGreatG33
import Derived.Test.YtlmaopljihbdkaaGreatG43
import Derived.Shelf.SlSortCmp.WholeK
import Derived.Shelf.SlSortCmp.NoneTotal
import Derived.Test.YtlmaopljihbdkaaGreatG18
/- Chapter 8: files in a row of their own, sorted by name. Made by program (genfs1.py). -/
namespace Go.Proofs.YtlmaopljihbdkaaGreat
open Go.RowKit Go.Maps Go.Shelf Go.Sort

theorem isNaN8 (x : Int) (w : World) : Calls Tryz.prog 80 #[.int .i64 x] w fun e w' => e = .returned (.bool false) ∧ w' = w := by
  go_enter Tryz.func80, Tryz.ntmps80
  go_wp2
  go_ret
  exact ⟨rfl, rfl⟩
theorem compare8 (x y : Int) (w : World) : Calls Tryz.prog 37 #[.int .i64 x, .int .i64 y] w fun e w' => e = .returned (.int .i64 (Lib.compareInt x y)) ∧ w' = w := by
  by_cases h1 : x < y
  · have hz : Hid (Lib.compareInt x y = -1) := by unfold Hid Lib.compareInt; rw [if_pos h1]
    go_enter Tryz.func37, Tryz.ntmps37
    go_wp2_with fail
    refine (isNaN8 x w).mono ?_
    rintro e w' ⟨rfl, rfl⟩
    go_wp2_with fail
    refine (isNaN8 y _).mono ?_
    rintro e w' ⟨rfl, rfl⟩
    go_wp2
    go_ret
    exact ⟨ret_intF hz.out.symm, rfl⟩
  · by_cases h2 : y < x
    · have hz : Hid (Lib.compareInt x y = 1) := by unfold Hid Lib.compareInt; rw [if_neg h1, if_pos h2]
      go_enter Tryz.func37, Tryz.ntmps37
      go_wp2_with fail
      refine (isNaN8 x w).mono ?_
      rintro e w' ⟨rfl, rfl⟩
      go_wp2_with fail
      refine (isNaN8 y _).mono ?_
      rintro e w' ⟨rfl, rfl⟩
      go_wp2
      go_ret
      exact ⟨ret_intF hz.out.symm, rfl⟩
    · have hz : Hid (Lib.compareInt x y = 0) := by unfold Hid Lib.compareInt; rw [if_neg h1, if_neg h2]
      go_enter Tryz.func37, Tryz.ntmps37
      go_wp2_with fail
      refine (isNaN8 x w).mono ?_
      rintro e w' ⟨rfl, rfl⟩
      go_wp2_with fail
      refine (isNaN8 y _).mono ?_
      rintro e w' ⟨rfl, rfl⟩
      go_wp2
      go_ret
      exact ⟨ret_intF hz.out.symm, rfl⟩
/-- A file as it lies: name, size, the slice of its blocks, these, and the memory's block that has them. -/
abbrev Fq := Int × Int × (Option Addr × Nat × Nat) × List Int × Nat
def slV (q : Fq) : Value := .slice q.2.2.1.1 q.2.2.1.2.1 q.2.2.1.2.2
def encF (q : Fq) : List Value := [.int .i64 q.1, .int .i64 q.2.1, slV q]
def ojq (q : Fq) : Oj := (q.1, q.2.1, q.2.2.2.1)
theorem ltFq (x y : Fq) : ltOf (fun x y : Fq => Lib.compareInt x.1 y.1) x y = decide (x.1 < y.1) := by
  unfold ltOf Lib.compareInt
  by_cases h1 : x.1 < y.1
  · simp [h1]
  · by_cases h2 : y.1 < x.1 <;> simp [h1, h2]
theorem swoFq : SWO (ltOf fun x y : Fq => Lib.compareInt x.1 y.1) where
  irrefl x := by rw [ltFq]; simp
  trans x y z h1 h2 := by rw [ltFq] at *; simp at *; omega
  ntrans x y z h1 h2 := by rw [ltFq] at *; simp at *; omega

def cellsE : List Fq → List Value
  | [] => []
  | q :: r => .int .i64 q.1 :: .int .i64 q.2.1 :: slV q :: cellsE r
theorem cellsE_len : ∀ qs : List Fq, (cellsE qs).length = qs.length * 3
  | [] => rfl
  | q :: r => by simp [cellsE, cellsE_len r]; omega
theorem cellsE_snoc : ∀ (qs : List Fq) (q : Fq), cellsE (qs ++ [q]) = cellsE qs ++ [.int .i64 q.1, .int .i64 q.2.1, slV q]
  | [], q => rfl
  | p :: r, q => by simp [cellsE, cellsE_snoc r q]
theorem cellsE_at : ∀ (qs : List Fq) (i : Nat) (q : Fq), qs[i]? = some q → (cellsE qs)[i * 3]? = some (.int .i64 q.1) ∧ (cellsE qs)[i * 3 + 1]? = some (.int .i64 q.2.1) ∧ (cellsE qs)[i * 3 + 2]? = some (slV q)
  | [], i, q, h => by simp at h
  | p :: r, 0, q, h => by simp at h; subst h; exact ⟨rfl, rfl, rfl⟩
  | p :: r, i + 1, q, h => by
    have h' : r[i]? = some q := by simpa using h
    obtain ⟨a, b, c⟩ := cellsE_at r i q h'
    rw [show (i + 1) * 3 = i * 3 + 1 + 1 + 1 by omega]
    exact ⟨by simpa [cellsE] using a, by simpa [cellsE] using b, by simpa [cellsE] using c⟩
theorem flat_cellsF (xs : List Fq) : (flatK encF 3 xs.toArray).toList = cellsE xs := by
  apply List.ext_getElem?
  intro j
  by_cases hj : j < xs.length * 3
  · have h1 : j / 3 < xs.length := by omega
    obtain ⟨q, hq⟩ : ∃ q, xs[j / 3]? = some q := ⟨_, List.getElem?_eq_getElem h1⟩
    obtain ⟨e0, e1, e2⟩ := cellsE_at xs (j / 3) q hq
    have hx : xs[j / 3] = q := by rw [List.getElem?_eq_getElem h1] at hq; exact Option.some.inj hq
    have e : (flatK encF 3 xs.toArray).toList[j]? = some ((encF q)[j % 3]!) := by
      rw [Array.getElem?_toList, Array.getElem?_eq_getElem (by simpa using hj)]
      have := get_flatK encF 3 xs.toArray j (by simpa using hj)
      rw [getElem!_pos _ j (by simpa using hj)] at this
      rw [this]
      simp [h1, hx]
    rw [e]
    have hm : j % 3 = 0 ∨ j % 3 = 1 ∨ j % 3 = 2 := by omega
    rcases hm with m | m | m
    · rw [m]; rw [show j = j / 3 * 3 by omega, e0]; simp [encF]
    · rw [m]
      have e3 : (cellsE xs)[j]? = some (.int .i64 q.2.1) := by rw [← e1]; congr 1; omega
      rw [e3]; simp [encF]
    · rw [m]
      have e3 : (cellsE xs)[j]? = some (slV q) := by rw [← e2]; congr 1; omega
      rw [e3]; simp [encF]
  · rw [List.getElem?_eq_none (by simp; omega), List.getElem?_eq_none (by rw [cellsE_len]; omega)]
theorem holdsF {w : World} {g : Nat} {cur : Array Value} {e : TypeId} {xs : List Fq} (hb : w.heap[g]? = some (.cells cur e (0, 0))) (ht : cur.toList.take (xs.length * 3) = cellsE xs) : HoldsK encF 3 w g 0 xs.toArray := by
  intro j hj
  have hj' : j < xs.length * 3 := by simpa using hj
  refine ⟨?_, by simp [World.frozen?, hb]⟩
  have h1 : (cur.toList.take (xs.length * 3))[j]? = (flatK encF 3 xs.toArray).toList[j]? := by rw [ht, flat_cellsF]
  rw [List.getElem?_take_of_lt hj', Array.getElem?_toList, Array.getElem?_toList, Array.getElem?_eq_getElem hj] at h1
  rw [getElem!_pos _ j hj]
  simp [World.cell?, hb, h1]
theorem heap_sortedF {w : World} {g n : Nat} {os : Array Obj} {cur : Array Value} {e : TypeId} {fr : Nat × Nat} (F : Array Value) (hb : w.heap[g]? = some (.cells cur e fr)) :
    (grow (putRow id (Sort.ahead w n) g 0 F) os).heap[g]? = some (.cells (putCells id 0 F cur) e fr) := by
  have hg : g < w.heap.size := (Array.getElem?_eq_some_iff.1 hb).1
  rw [heap_grow_old _ _ (by simpa using hg)]
  simp [putRow, mapBlock, Sort.ahead, Array.getElem?_modify, hb, onCells]
theorem grown_sortedF {w : World} {g n : Nat} {os : Array Obj} (F : Array Value) : w.grownBy (grow (putRow id (Sort.ahead w n) g 0 F) os) (some g) := by
  refine ⟨rfl, rfl, rfl, by simp, fun k hk hne => ?_⟩
  rw [heap_grow_old _ _ (by simpa using hk)]
  have : g ≠ k := fun e => hne (by rw [e])
  simp [putRow, mapBlock, Sort.ahead, Array.getElem?_modify, this]
theorem rowF_sorted {w : World} {base g cap n : Nat} {e : TypeId} {os : Array Obj} {cur : Array Value} {xs ys : List Fq} (hl : ys.length = xs.length) (hbase : base ≤ g) (hb : w.heap[g]? = some (.cells cur e (0, 0))) (h1 : xs.length ≤ cap) (h2 : cap ≤ maxLen) (h3 : cur.size = cap * 3) :
    (sortWorldK encF 3 w g 0 n ys.toArray os).ownsRow base e 3 (.slice (some ⟨g, 0, none⟩) xs.length cap) xs.length (cellsE ys) := by
  refine ⟨by rw [cellsE_len, hl], .inr ⟨g, cap, _, rfl, hbase, heap_sortedF _ hb, h1, h2, by simp [putCells, h3], ?_⟩⟩
  rw [← flat_cellsF ys, ← hl]
  apply List.ext_getElem?
  intro j
  by_cases hj : j < ys.length * 3
  · rw [List.getElem?_take_of_lt hj, Array.getElem?_toList, Array.getElem?_toList, Array.getElem?_eq_getElem (show j < (flatK encF 3 ys.toArray).size by simpa using hj)]
    have hc : j < cur.size := by omega
    simp [putCells, hc, hj]
  · rw [List.getElem?_take_eq_none (by omega), List.getElem?_eq_none (by simp; omega)]
theorem RdI.grownF {S : Nat → Prop} {w w' : World} {v : Value} {xs : List Int} {row : Option Nat} (h : RdI S w v xs) (hS : xs ≠ [] → ∀ b, S b → some b ≠ row) (hg : w.grownBy w' row) : RdI S w' v xs := by
  obtain ⟨ao, c, e1, e2, e3⟩ := h
  refine ⟨ao, c, e1, e2, fun hne => ?_⟩
  obtain ⟨b, off, f1, f2, f3⟩ := e3 hne
  exact ⟨b, off, f1, f2, fun j hj => (World.cell?_of_block (hg.block b (World.block_lt_of_cell? _ _ (f3 j hj)) (fun e => hS hne b f2 e))).trans (f3 j hj)⟩
/-- What is known of each file, whatever its place. -/
def FqOk (P : Nat → Prop) (w : World) (row : Option Nat) (qs : List Fq) : Prop :=
  (∀ q, q ∈ qs → RdI (· = q.2.2.2.2) w (slV q) q.2.2.2.1 ∧ (q.2.2.2.1 ≠ [] → P q.2.2.2.2 ∧ q.2.2.2.2 < w.heap.size ∧ (∀ o, w.frozen? ⟨q.2.2.2.2, o, none⟩ = false) ∧ row ≠ some q.2.2.2.2)) ∧
    qs.Pairwise (fun q q' => q.2.2.2.1 ≠ [] → q'.2.2.2.1 ≠ [] → q.2.2.2.2 ≠ q'.2.2.2.2)
theorem FqOk.perm {P : Nat → Prop} {w : World} {row : Option Nat} {qs rs : List Fq} (h : FqOk P w row qs) (hp : rs.Perm qs) : FqOk P w row rs :=
  ⟨fun q hq => h.1 q (hp.mem_iff.1 hq), (hp.pairwise_iff (fun hh a b => (hh b a).symm)).2 h.2⟩
theorem FqOk.grown {P : Nat → Prop} {w w' : World} {g : Nat} {qs : List Fq} (h : FqOk P w (some g) qs) (hg : w.grownBy w' (some g)) : FqOk P w' (some g) qs := by
  refine ⟨fun q hq => ?_, h.2⟩
  obtain ⟨h1, h2⟩ := h.1 q hq
  refine ⟨h1.grownF (fun hne b hb e => (h2 hne).2.2.2 (by rw [← hb]; exact e.symm)) hg, fun hne => ?_⟩
  obtain ⟨k1, k2, k3, k4⟩ := h2 hne
  exact ⟨k1, Nat.lt_of_lt_of_le k2 hg.size, fun o => (hg.frozen_far ⟨q.2.2.2.2, o, none⟩ k2 (fun e => k4 e.symm)).trans (k3 o), k4⟩
theorem ow_of_fq {P : Nat → Prop} {w : World} {g n cap : Nat} {qs : List Fq} (hr : w.ownsRow 0 114 3 (.slice (some ⟨g, 0, none⟩) n cap) n (cellsE qs)) (hn : qs.length = n) (hP : P g) (hm : n ≤ 1048576) (h : FqOk P w (some g) qs) :
    OwJ (fun b => P b ∧ b < w.heap.size) w (.slice (some ⟨g, 0, none⟩) n cap) (qs.map ojq) := by
  subst hn
  have hlen : (qs.map ojq).length = qs.length := by simp
  rcases hr.2 with ⟨e, _⟩ | ⟨g', cap', cur, e, hg, hh, _⟩
  · cases e
  injection e with e1 e2 e3
  injection e1 with e1
  injection e1 with e1 _ _
  subst e1
  have gd : ∀ i (hi : i < qs.length), (qs.map ojq).getD i oj0 = ojq qs[i] := fun i hi => by simp [List.getD, hi]
  refine ⟨_, cap, g, 0, fun i => ((qs[i]?).map slV).getD (.bool false), fun i => ((qs[i]?).map (fun q => q.2.2.2.2)).getD 0, by rw [hlen], by rw [hlen]; omega, fun _ => ⟨rfl, ⟨hP, (Array.getElem?_eq_some_iff.1 hh).1⟩, fun o => hr.frozenAt o⟩, fun i hi => ?_⟩
  rw [hlen] at hi
  have hq : qs[i]? = some qs[i] := List.getElem?_eq_getElem hi
  obtain ⟨a, b, c⟩ := cellsE_at qs i _ hq
  rw [gd i hi]
  obtain ⟨h1, h2⟩ := h.1 _ (List.getElem_mem hi)
  refine ⟨?_, ?_, ?_, ?_, fun hne => ?_⟩
  · rw [Nat.zero_add, hr.cellAt (i * 3) (by omega)]; exact a
  · rw [Nat.zero_add, hr.cellAt (i * 3 + 1) (by omega)]; exact b
  · rw [Nat.zero_add, hr.cellAt (i * 3 + 2) (by omega), c]; simp [hq]
  · simp only [hq, Option.map_some, Option.getD_some]; exact h1
  · simp only [hq, Option.map_some, Option.getD_some]
    obtain ⟨k1, k2, k3, k4⟩ := h2 hne
    refine ⟨⟨k1, k2⟩, fun e => k4 (by rw [e]), k3, fun j hj hj' ej => ?_⟩
    rw [hlen] at hj
    have hqj : qs[j]? = some qs[j] := List.getElem?_eq_getElem hj
    rw [gd j hj] at hj'
    simp only [hqj, Option.map_some, Option.getD_some] at ej
    have hpw := List.pairwise_iff_getElem.1 h.2
    by_cases h3 : i < j
    · exact absurd ej.symm (hpw i j hi hj h3 hne hj')
    · by_cases h4 : j < i
      · exact absurd ej (hpw j i hj hi h4 hj' hne)
      · omega
/-- Files that were built by append, each with its slice and block. -/
theorem fq_of_built {P : Nat → Prop} {w : World} {v : Value} {gs : List Oj} (h : BuiltFi P w v gs.length gs) : ∃ qs : List Fq, w.ownsRow 0 114 3 v gs.length (cellsE qs) ∧ qs.map ojq = gs ∧ FqOk P w v.ownBlock qs := by
  obtain ⟨V, Bk, h1, _, h3⟩ := h
  let sl : Value → Option Addr × Nat × Nat := fun u => match u with | .slice a n c => (a, n, c) | _ => (none, 0, 0)
  let f : Nat → Fq := fun i => ((gs.getD i oj0).1, (gs.getD i oj0).2.1, sl (V i), (gs.getD i oj0).2.2, Bk i)
  have hV : ∀ i, i < gs.length → slV (f i) = V i := fun i hi => by
    obtain ⟨a, c, e⟩ := (h3.rd i hi).shape
    simp only [f, slV, sl, e]
  have hc : ∀ k, k ≤ gs.length → cellsE ((List.range k).map f) = cellsFi gs k V := by
    intro k
    induction k with
    | zero => intro _; rfl
    | succ k ih =>
      intro hk
      rw [List.range_succ, List.map_append, List.map_cons, List.map_nil, cellsE_snoc, ih (by omega), cellsFi_next, hV k (by omega)]
  refine ⟨(List.range gs.length).map f, by rw [hc _ (Nat.le_refl _)]; exact h1, ?_, fun q hq => ?_, ?_⟩
  · apply List.ext_getElem?
    intro i
    by_cases hi : i < gs.length
    · simp [hi, f, ojq, List.getD]
    · simp [hi]
  · obtain ⟨i, hi, rfl⟩ := List.mem_map.1 hq
    have hi' := List.mem_range.1 hi
    rw [hV i hi']
    exact ⟨h3.rd i hi', fun hne => by obtain ⟨k1, k2, k3, k4, _⟩ := h3.own i hi' hne; exact ⟨k1, k2, k3, k4⟩⟩
  · rw [List.pairwise_map]
    refine List.Pairwise.imp_of_mem ?_ List.pairwise_lt_range
    intro i j hi hj hij hne hne' e
    have := (h3.own j (List.mem_range.1 hj) hne').2.2.2.2 i (List.mem_range.1 hi) hne e
    omega
theorem sorted_uniqueF {L acc : List Fq} {d' : Array Fq} (hp : PermIn 0 acc.toArray.size acc.toArray d') (hs : SortedIn (ltOf fun x y : Fq => Lib.compareInt x.1 y.1) 0 acc.toArray.size d') (hL : L.Pairwise (fun x y => x.1 < y.1)) (hm : acc.Perm L) : d'.toList = L := by
  obtain ⟨h1, _, h3⟩ := hp
  have hd : d'.toList.Perm acc := by
    have e1 : d'.extract 0 acc.toArray.size = d' := by rw [← h1]; simp
    have e2 : acc.toArray.extract 0 acc.toArray.size = acc.toArray := by simp
    rw [e1, e2] at h3
    exact h3
  have hdL := hd.trans hm
  refine List.Perm.eq_of_pairwise (le := fun x y : Fq => x.1 ≤ y.1) (fun a b ha hb h1 h2 => ?_) ?_ (hL.imp (fun h => by omega)) hdL
  · have ha' := hdL.mem_iff.1 ha
    obtain ⟨i, hi, rfl⟩ := List.mem_iff_getElem.1 ha'
    obtain ⟨j, hj, rfl⟩ := List.mem_iff_getElem.1 hb
    have hp := List.pairwise_iff_getElem.1 hL
    by_cases hij : i < j
    · have := hp i j hi hj hij; omega
    · by_cases hji : j < i
      · have := hp j i hj hi hji; omega
      · have : i = j := by omega
        subst this; rfl
  · rw [List.pairwise_iff_getElem]
    intro i j hi hj hij
    have hsz : d'.size = acc.toArray.size := h1
    have := hs i j (Nat.zero_le _) hij (by rw [← hsz]; simpa using hj)
    rw [ltFq] at this
    rw [getElem!_pos _ j (by simpa using hj), getElem!_pos _ i (by simpa using hi)] at this
    simp at this
    simpa using this
end Go.Proofs.YtlmaopljihbdkaaGreat
/- Chapter 8: a file put among others; the program's side, walked. -/
namespace Go.Proofs.YtlmaopljihbdkaaGreat
open Go.RowKit Go.Maps Go.Shelf Go.Sort

/-- The files with p in the place of that of its name, or there. -/
def putF (fs : List Oj) (p : Oj) : List Oj := fs.filter (fun q => decide (q.1 < p.1)) ++ p :: fs.filter (fun q => decide (p.1 < q.1))
theorem notN_split (a : Int) : ∀ {fs : List Oj}, fs.Pairwise (fun p q => p.1 < q.1) → fs.filter (notN a) = fs.filter (fun q => decide (q.1 < a)) ++ fs.filter (fun q => decide (a < q.1))
  | [], _ => rfl
  | p :: r, h => by
    obtain ⟨h1, h2⟩ := List.pairwise_cons.1 h
    have ih := notN_split a h2
    by_cases hlt : p.1 < a
    · have e1 : notN a p = true := by unfold notN; simp; omega
      rw [List.filter_cons_of_pos e1, List.filter_cons_of_pos (by simpa using hlt), List.filter_cons_of_neg (by simp; omega), ih, List.cons_append]
    · have hno : r.filter (fun q => decide (q.1 < a)) = [] := by
        rw [List.filter_eq_nil_iff]
        intro q hq
        have := h1 q hq
        simp; omega
      rw [hno, List.nil_append] at ih
      by_cases he : p.1 = a
      · rw [List.filter_cons_of_neg (by unfold notN; simp [he]), List.filter_cons_of_neg (by simp; omega), List.filter_cons_of_neg (by simp; omega), hno, ih]; rfl
      · rw [List.filter_cons_of_pos (by unfold notN; simp [he]), List.filter_cons_of_neg (by simp; omega), List.filter_cons_of_pos (by simp; omega), hno, ih]; rfl
theorem put_perm {fs : List Oj} (p : Oj) (h : fs.Pairwise (fun p q => p.1 < q.1)) : (fs.filter (notN p.1) ++ [p]).Perm (putF fs p) := by
  rw [notN_split p.1 h]
  unfold putF
  rw [List.append_assoc]
  exact List.Perm.append_left _ (List.perm_append_comm.trans (by simp))
theorem put_up {fs : List Oj} (p : Oj) (h : fs.Pairwise (fun p q => p.1 < q.1)) : (putF fs p).Pairwise (fun p q => p.1 < q.1) := by
  unfold putF
  rw [List.pairwise_append]
  refine ⟨h.filter _, List.pairwise_cons.2 ⟨fun q hq => ?_, h.filter _⟩, fun q hq r hr => ?_⟩
  · have := (List.mem_filter.1 hq).2; simpa using this
  · have h1 := (List.mem_filter.1 hq).2
    simp at h1
    rcases List.mem_cons.1 hr with rfl | hr
    · exact h1
    · have h2 := (List.mem_filter.1 hr).2
      simp at h2; omega
theorem put_len {fs : List Oj} (p : Oj) (h : fs.Pairwise (fun p q => p.1 < q.1)) : (putF fs p).length ≤ fs.length + 1 := by
  rw [← (put_perm p h).length_eq, List.length_append]
  have := List.length_filter_le (notN p.1) fs
  simp; omega
theorem BuiltFi.snoc {P : Nat → Prop} {w : World} {v : Value} {ps : List Oj} (h : BuiltFi P w v ps.length ps) (p : Oj) : BuiltFi P w v ps.length (ps ++ [p]) := by
  obtain ⟨V, Bk, h1, hpr, h2, h3⟩ := h
  have e : ∀ i, i < ps.length → (ps ++ [p]).getD i oj0 = ps.getD i oj0 := fun i hi => by simp [List.getD, List.getElem?_append_left hi]
  refine ⟨V, Bk, ?_, hpr, fun i hi => by rw [e i hi]; exact h2 i hi, fun i hi hn => ?_⟩
  · rw [cellsFi_ext (ps ++ [p]) ps ps.length V e]; exact h1
  · rw [e i hi] at hn
    obtain ⟨k1, k2, k3, k4, k5⟩ := h3 i hi hn
    exact ⟨k1, k2, k3, k4, fun j hj hj' ej => k5 j hj (by rw [e j hj] at hj'; exact hj') ej⟩
theorem enters_fi {f : FuncId} {fn : Func} (hf : Tryz.prog.funcs[f]? = some fn) (hn : (fn.name == "runtime.NumGoroutine") = false) (hb : fn.body.isNone = false) (args : Array Value) (w : World) : Sem.run Tryz.prog (callFunc f args) w = .ok (.enter f args) w := by
  have h1 : fn.name ≠ "runtime.NumGoroutine" := by simpa using hn
  have h2 : fn.body ≠ none := by intro h; rw [h] at hb; cases hb
  simp [callFunc, hf, h1, h2]
theorem map_ojq_up {qs : List Fq} {gs : List Oj} (h : qs.map ojq = gs) : qs.length = gs.length := by rw [← h]; simp

theorem sorted_files {R : List Oj} {qs : List Fq} {d' : Array Fq} (hp : PermIn 0 qs.toArray.size qs.toArray d') (hs : SortedIn (ltOf fun x y : Fq => Lib.compareInt x.1 y.1) 0 qs.toArray.size d') (hR : R.Pairwise (fun x y => x.1 < y.1)) (hm : (qs.map ojq).Perm R) : d'.toList.map ojq = R ∧ d'.toList.Perm qs := by
  obtain ⟨h1, _, h3⟩ := hp
  have hd : d'.toList.Perm qs := by
    have e1 : d'.extract 0 qs.toArray.size = d' := by rw [← h1]; simp
    have e2 : qs.toArray.extract 0 qs.toArray.size = qs.toArray := by simp
    rw [e1, e2] at h3
    exact h3
  refine ⟨?_, hd⟩
  have hdL : (d'.toList.map ojq).Perm R := (hd.map ojq).trans hm
  refine List.Perm.eq_of_pairwise (le := fun x y : Oj => x.1 ≤ y.1) (fun a b ha hb h1 h2 => ?_) ?_ (hR.imp (fun h => by omega)) hdL
  · have ha' := hdL.mem_iff.1 ha
    obtain ⟨i, hi, rfl⟩ := List.mem_iff_getElem.1 ha'
    obtain ⟨j, hj, rfl⟩ := List.mem_iff_getElem.1 hb
    have hp := List.pairwise_iff_getElem.1 hR
    by_cases hij : i < j
    · have := hp i j hi hj hij; omega
    · by_cases hji : j < i
      · have := hp j i hj hi hji; omega
      · have : i = j := by omega
        subst this; rfl
  · rw [List.pairwise_map, List.pairwise_iff_getElem]
    intro i j hi hj hij
    have hsz : d'.size = qs.toArray.size := h1
    have := hs i j (Nat.zero_le _) hij (by rw [← hsz]; simpa using hj)
    rw [ltFq] at this
    rw [getElem!_pos _ j (by simpa using hj), getElem!_pos _ i (by simpa using hi)] at this
    simp at this
    simpa [ojq] using this

end Go.Proofs.YtlmaopljihbdkaaGreat
/- Chapter 8: a file put among others; the model's side, walked. Made by program (genfs3.py). -/
namespace Go.Proofs.YtlmaopljihbdkaaGreat
open Go.RowKit

/-- Where a file of the name a goes: c files ahead of it, e (0 or 1) whose place it takes. -/
structure CutF (fs : List Oj) (a : Int) (c e : Nat) : Prop where
  le : c + e ≤ fs.length
  e1 : e ≤ 1
  lo : ∀ i, i < c → (fs.getD i oj0).1 < a
  eq : e = 1 → (fs.getD c oj0).1 = a
  gt : ∀ i, c + e ≤ i → i < fs.length → a < (fs.getD i oj0).1
theorem cut_has : ∀ {fs : List Oj} (a : Int), fs.Pairwise (fun p q => p.1 < q.1) → ∃ c e, CutF fs a c e ∧ fs.filter (fun q => decide (q.1 < a)) = fs.take c ∧ fs.filter (fun q => decide (a < q.1)) = fs.drop (c + e)
  | [], a, _ => ⟨0, 0, ⟨by simp, by omega, fun i hi => by omega, fun h => by omega, fun i _ hi => by simp at hi⟩, rfl, rfl⟩
  | p :: r, a, h => by
    obtain ⟨h1, h2⟩ := List.pairwise_cons.1 h
    by_cases hlt : p.1 < a
    · obtain ⟨c, e, hc, f1, f2⟩ := cut_has a h2
      refine ⟨c + 1, e, ⟨by have := hc.le; simp; omega, hc.e1, fun i hi => ?_, fun he => by simpa using hc.eq he, fun i hi hl => ?_⟩, ?_, ?_⟩
      · cases i with
        | zero => simpa using hlt
        | succ i => simpa using hc.lo i (by omega)
      · cases i with
        | zero => omega
        | succ i => simpa using hc.gt i (by omega) (by simpa using hl)
      · rw [List.filter_cons_of_pos (by simpa using hlt), f1]; rfl
      · rw [List.filter_cons_of_neg (by simp; omega), f2, show c + 1 + e = c + e + 1 by omega]; rfl
    · have hno : r.filter (fun q => decide (q.1 < a)) = [] := by
        rw [List.filter_eq_nil_iff]
        intro q hq
        have := h1 q hq
        simp; omega
      have hall : r.filter (fun q => decide (a < q.1)) = r := by
        rw [List.filter_eq_self]
        intro q hq
        have := h1 q hq
        simp; omega
      have hr : ∀ i, i < r.length → a < (r.getD i oj0).1 := fun i hi => by
        have := h1 r[i] (List.getElem_mem hi)
        simp only [List.getD, List.getElem?_eq_getElem hi, Option.getD_some]
        omega
      by_cases he : p.1 = a
      · refine ⟨0, 1, ⟨by simp, by omega, fun i hi => by omega, fun _ => by simpa using he, fun i hi hl => ?_⟩, ?_, ?_⟩
        · cases i with
          | zero => omega
          | succ i => simpa using hr i (by simpa using hl)
        · rw [List.filter_cons_of_neg (by simp; omega), hno]; rfl
        · rw [List.filter_cons_of_neg (by simp; omega), hall]; rfl
      · refine ⟨0, 0, ⟨by simp, by omega, fun i hi => by omega, fun h => by omega, fun i hi hl => ?_⟩, ?_, ?_⟩
        · cases i with
          | zero => simp; omega
          | succ i => simpa using hr i (by simpa using hl)
        · rw [List.filter_cons_of_neg (by simp; omega), hno]; rfl
        · rw [List.filter_cons_of_pos (by simp; omega), hall]; rfl
theorem put_at {fs : List Oj} {p : Oj} {c e : Nat} (hc : CutF fs p.1 c e) (f1 : fs.filter (fun q => decide (q.1 < p.1)) = fs.take c) (f2 : fs.filter (fun q => decide (p.1 < q.1)) = fs.drop (c + e)) :
    (putF fs p).length + e = fs.length + 1 ∧ (∀ i, i < c → (putF fs p).getD i oj0 = fs.getD i oj0) ∧ (putF fs p).getD c oj0 = p ∧ ∀ i, c + e ≤ i → i < fs.length → (putF fs p).getD (i + 1 - e) oj0 = fs.getD i oj0 := by
  have hle := hc.le
  have hl : (fs.take c).length = c := by simp; omega
  unfold putF
  rw [f1, f2]
  refine ⟨by simp; omega, fun i hi => ?_, ?_, fun i h1 h2 => ?_⟩
  · simp only [List.getD]
    rw [List.getElem?_append_left (by omega), List.getElem?_take_of_lt hi]
  · simp only [List.getD]
    rw [List.getElem?_append_right (by omega), hl]; simp
  · simp only [List.getD]
    have he := hc.e1
    rw [List.getElem?_append_right (by omega), hl, show i + 1 - e - c = (i - e - c) + 1 by omega, List.getElem?_cons_succ, List.getElem?_drop]
    congr 2; omega
theorem ShFi.drew {w wr : World} {v : Value} {j : Nat} {gs : List Oj} (h : ShFi w wr v j gs) (q : Nat) : ShFi w (wr.drewN q) v j gs := by
  obtain ⟨V, h1, h2, h3⟩ := h
  exact ⟨V, h1, h2, below_on h3 (below_drewN _ q)⟩
theorem put_lens {fs : List Oj} {p : Oj} {m : Nat} (h : ∀ i, i < fs.length → (fs.getD i oj0).2.2.length ≤ m) (hp : p.2.2.length ≤ m) : ∀ i, i < (putF fs p).length → ((putF fs p).getD i oj0).2.2.length ≤ m := by
  intro i hi
  simp only [List.getD, List.getElem?_eq_getElem hi, Option.getD_some]
  have hm : (putF fs p)[i] ∈ putF fs p := List.getElem_mem hi
  generalize (putF fs p)[i] = q at hm
  unfold putF at hm
  have key : ∀ q, q ∈ fs → q.2.2.length ≤ m := fun q hq => by
    obtain ⟨j, hj, rfl⟩ := List.mem_iff_getElem.1 hq
    have := h j hj
    simpa only [List.getD, List.getElem?_eq_getElem hj, Option.getD_some] using this
  rcases List.mem_append.1 hm with hq | hq
  · exact key q (List.mem_filter.1 hq).1
  · rcases List.mem_cons.1 hq with rfl | hq
    · exact hp
    · exact key q (List.mem_filter.1 hq).1

end Go.Proofs.YtlmaopljihbdkaaGreat
/- Chapter 8: 'PutFile' of both sides, walked. -/
namespace Go.Proofs.YtlmaopljihbdkaaGreat
open Go.RowKit

def ptC (fs : List Oj) (p : Oj) : Int := if filF fs = 0 then filF (putF fs p) else filF fs
def ptR (fs : List Oj) (p : Oj) : List Oj := if ptC fs p = 0 then putF fs p else []
theorem ptC_fil {fs : List Oj} {p : Oj} (h : ptC fs p = 0) : filF fs = 0 ∧ filF (putF fs p) = 0 := by
  unfold ptC at h
  by_cases h0 : filF fs = 0
  · rw [if_pos h0] at h; exact ⟨h0, h⟩
  · rw [if_neg h0] at h; exact absurd h h0
theorem ptR_tot (fs : List Oj) (p : Oj) : totJ (ptR fs p) (ptR fs p).length ≤ 1048576 := by
  unfold ptR
  by_cases h : ptC fs p = 0
  · rw [if_pos h]
    have h2 := (ptC_fil h).2
    exact tot_sub h2 (fun p hp => hp) (by have := (filF_iff.1 h2).len; omega)
  · rw [if_neg h]; simp [totJ]
theorem IvJ.up {lo hi lo' : Nat} {w : World} {v : Value} {ps : List Oj} (h : IvJ lo hi w v ps) (h1 : lo' ≤ lo) (h2 : hi ≤ w.heap.size) : IvJ lo' w.heap.size w v ps := by
  obtain ⟨S, k0, k1, k2⟩ := h
  exact ⟨S, Nat.le_refl _, fun b hb => ⟨Nat.le_trans h1 (k1 b hb).1, Nat.lt_of_lt_of_le (k1 b hb).2 h2⟩, k2⟩
theorem shut_files {w w3 : World} {r : Nat} (x : Value) (hb : Below w.heap.size w w3) (hr : w.heap.size ≤ r) :
    Below w.heap.size w ((w3.setCell ⟨r, 0, none⟩ x).setCell ⟨r, 1, none⟩ (.slice none 0 0)) ∧ OwJ (fun b => w.heap.size ≤ b ∧ b < ((w3.setCell ⟨r, 0, none⟩ x).setCell ⟨r, 1, none⟩ (.slice none 0 0)).heap.size) ((w3.setCell ⟨r, 0, none⟩ x).setCell ⟨r, 1, none⟩ (.slice none 0 0)) (.slice none 0 0) [] :=
  ret_files (P := fun _ => False) hb hr (OwJ_nil _ _) (fun _ h => h.elim)

end Go.Proofs.YtlmaopljihbdkaaGreat
/- Chapter 8: 'RenameFile' of the program, walked. -/
namespace Go.Proofs.YtlmaopljihbdkaaGreat
open Go.RowKit

theorem blksF_sub (q : Oj → Bool) : ∀ (fs : List Oj), (blksF (fs.filter q)).Sublist (blksF fs)
  | [] => List.Sublist.refl _
  | p :: r => by
    have ih := blksF_sub q r
    by_cases h : q p = true
    · rw [List.filter_cons_of_pos h]
      exact List.Sublist.append (List.Sublist.refl _) ih
    · rw [List.filter_cons_of_neg h]
      exact ih.trans (List.sublist_append_right _ _)
theorem filF_sub {fs : List Oj} (q : Oj → Bool) (h : filF fs = 0) : filF (fs.filter q) = 0 := by
  have hi := filF_iff.1 h
  refine filF_iff.2 ⟨Nat.le_trans (List.length_filter_le _ _) hi.len, fun p hp => hi.one p (List.mem_filter.1 hp).1, hi.up.filter _, (blksF_sub q fs).nodup hi.nd⟩
/-- The file of a name. -/
def flF (fs : List Oj) (a : Int) : Oj := (fs.filter (fun p => p.1 == a)).getD 0 oj0
theorem flF_at {fs : List Oj} {a : Int} {k : Nat} (h0 : filF fs = 0) (h : AtF fs a k) : flF fs a = fs.getD k oj0 := by unfold flF; rw [filter_at (filF_iff.1 h0).up h]; rfl
def rnC (fs : List Oj) (a t : Int) : Int := if faC fs a = 0 then (if 1 ≤ t ∧ t ≤ 99 then 0 else 3) else faC fs a
def rnR (fs : List Oj) (a t : Int) : List Oj := if rnC fs a t = 0 then putF (fs.filter (notN a)) (t, (flF fs a).2.1, (flF fs a).2.2) else []
theorem rnC_fa {fs : List Oj} {a t : Int} (h : rnC fs a t = 0) : faC fs a = 0 := by
  unfold rnC at h
  by_cases h0 : faC fs a = 0
  · exact h0
  · rw [if_neg h0] at h; exact h
theorem rnR_tot (fs : List Oj) (a t : Int) : totJ (rnR fs a t) (rnR fs a t).length ≤ 1048576 := by
  unfold rnR
  by_cases h : rnC fs a t = 0
  · rw [if_pos h]
    have h1 := rnC_fa h
    have h0 := faC_fil h1
    obtain ⟨k, hk⟩ := faC_has h1
    have hf := flF_at h0 hk
    have hl := one_len h0 hk.1
    have hs := filF_sub (notN a) h0
    have hpl := put_len (t, (flF fs a).2.1, (flF fs a).2.2) (filF_iff.1 hs).up
    have h4 := (filF_iff.1 hs).len
    have := tot_small (gs := putF (fs.filter (notN a)) (t, (flF fs a).2.1, (flF fs a).2.2)) (fun p hp => by
      unfold putF at hp
      rcases List.mem_append.1 hp with hq | hq
      · exact oneF_len ((filF_iff.1 hs).one p (List.mem_filter.1 hq).1)
      · rcases List.mem_cons.1 hq with rfl | hq
        · show (flF fs a).2.2.length ≤ 5; rw [hf]; exact hl
        · exact oneF_len ((filF_iff.1 hs).one p (List.mem_filter.1 hq).1))
    omega
  · rw [if_neg h]; simp [totJ]

end Go.Proofs.YtlmaopljihbdkaaGreat
