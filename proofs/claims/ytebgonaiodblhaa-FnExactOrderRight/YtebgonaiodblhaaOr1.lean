/- Chapter 15: what was done, parted by who did it: the mathematics, and the memory in which it is built. -/
import Derived.Test.YtebgonaiodblhaaDn
import Derived.Test.YtebgonaiodblhaaBuilt
import Derived.Test.YtebgonaiodblhaaSeen
namespace Go.Proofs.Ytebgonaiodblhaa
open Go.RowKit Go.Maps

/-- The cells of one, of a list of them. -/
def dnL (q : Dn) : List Value := [.int .i64 q.1, .int .i64 q.2.1, .int .i64 q.2.2.1, .int .i64 q.2.2.2]
def cellsDn (l : List Dn) : List Value := l.flatMap dnL
theorem cellsDn_next (l : List Dn) (d : Dn) : cellsDn (l ++ [d]) = cellsDn l ++ dnL d := by simp [cellsDn]
theorem cellsDn_at : ∀ (l : List Dn) (i t : Nat), i < l.length → t < 4 → (cellsDn l)[i * 4 + t]? = (dnL (l.getD i dn0))[t]?
  | [], _, _, h, _ => absurd h (Nat.not_lt_zero _)
  | a :: l, 0, t, _, ht => by
    show (dnL a ++ cellsDn l)[0 * 4 + t]? = _
    rw [Nat.zero_mul, Nat.zero_add, List.getElem?_append_left (by simpa [dnL] using ht)]
    rfl
  | a :: l, i + 1, t, h, ht => by
    show (dnL a ++ cellsDn l)[(i + 1) * 4 + t]? = _
    have el : (dnL a).length = 4 := rfl
    rw [List.getElem?_append_right (by omega)]
    have e : (i + 1) * 4 + t - (dnL a).length = i * 4 + t := by omega
    rw [e, cellsDn_at l i t (by simpa using h) ht]
    rfl

/-- How many of the first k are of thread t. -/
def cntD (xs : List Dn) (t : Int) : Nat → Nat
  | 0 => 0
  | k + 1 => if (xs.getD k dn0).1 = t then cntD xs t k + 1 else cntD xs t k
theorem cntD_le (xs : List Dn) (t : Int) : ∀ k, cntD xs t k ≤ k
  | 0 => Nat.le_refl _
  | k + 1 => by
    have := cntD_le xs t k
    unfold cntD
    split <;> omega
/-- Each of the first k is in its order. -/
def orF (xs : List Dn) : Nat → Bool
  | 0 => true
  | k + 1 => orF xs k && decide ((xs.getD k dn0).2.1 = (cntD xs (xs.getD k dn0).1 k : Int))
theorem orF_down (xs : List Dn) {k : Nat} (h : orF xs k = false) : ∀ n, k ≤ n → orF xs n = false
  | 0, hn => by have : k = 0 := by omega
                subst this; exact h
  | n + 1, hn => by
    by_cases e : k = n + 1
    · subst e; exact h
    · unfold orF
      rw [orF_down xs h n (by omega)]
      rfl

/-- The place of t in a list (its length, where it is not there). -/
def idxT (t : Int) : List Int → Nat
  | [] => 0
  | a :: l => if a = t then 0 else idxT t l + 1
theorem idxT_in {t : Int} : ∀ {l : List Int}, t ∈ l → idxT t l < l.length ∧ l.getD (idxT t l) 0 = t
  | a :: l, h => by
    unfold idxT
    by_cases e : a = t
    · rw [if_pos e]; exact ⟨Nat.succ_pos _, e⟩
    · rw [if_neg e]
      have hm : t ∈ l := by
        rcases List.mem_cons.1 h with h | h
        · exact absurd h.symm e
        · exact h
      obtain ⟨h1, h2⟩ := idxT_in hm
      exact ⟨Nat.succ_lt_succ h1, h2⟩
theorem idxT_no {t : Int} : ∀ {l : List Int}, t ∉ l → idxT t l = l.length
  | [], _ => rfl
  | a :: l, h => by
    unfold idxT
    rw [if_neg (fun e => h (by rw [e]; exact List.mem_cons_self)), idxT_no (fun hm => h (List.mem_cons_of_mem _ hm))]
    rfl
theorem idxT_app {t : Int} : ∀ {l r : List Int}, t ∈ l → idxT t (l ++ r) = idxT t l
  | a :: l, r, h => by
    show idxT t (a :: (l ++ r)) = _
    unfold idxT
    by_cases e : a = t
    · rw [if_pos e, if_pos e]
    · rw [if_neg e, if_neg e]
      have hm : t ∈ l := by
        rcases List.mem_cons.1 h with h | h
        · exact absurd h.symm e
        · exact h
      rw [idxT_app hm]
theorem idxT_new {t : Int} : ∀ {l : List Int}, t ∉ l → idxT t (l ++ [t]) = l.length
  | [], _ => by simp [idxT]
  | a :: l, h => by
    show idxT t (a :: (l ++ [t])) = _
    unfold idxT
    rw [if_neg (fun e => h (by rw [e]; exact List.mem_cons_self)), idxT_new (fun hm => h (List.mem_cons_of_mem _ hm))]
    rfl

/-- The threads of the first k, in the order in which they come. -/
def tsF (xs : List Dn) : Nat → List Int
  | 0 => []
  | k + 1 => if (xs.getD k dn0).1 ∈ tsF xs k then tsF xs k else tsF xs k ++ [(xs.getD k dn0).1]
def addD (X : List (List Dn)) (p : Nat) (d : Dn) : List (List Dn) := X.set p (X.getD p [] ++ [d])
/-- What each of them did, in order. -/
def hsF (xs : List Dn) : Nat → List (List Dn)
  | 0 => []
  | k + 1 => addD (if (xs.getD k dn0).1 ∈ tsF xs k then hsF xs k else hsF xs k ++ [[]]) (idxT (xs.getD k dn0).1 (tsF xs k)) (xs.getD k dn0)
theorem hsF_old {xs : List Dn} {k : Nat} (h : (xs.getD k dn0).1 ∈ tsF xs k) : tsF xs (k + 1) = tsF xs k ∧ hsF xs (k + 1) = addD (hsF xs k) (idxT (xs.getD k dn0).1 (tsF xs k)) (xs.getD k dn0) := by
  constructor
  · show (if _ then _ else _) = _; rw [if_pos h]
  · show addD (if _ then _ else _) _ _ = _
    rw [if_pos h]
theorem hsF_new {xs : List Dn} {k : Nat} (h : (xs.getD k dn0).1 ∉ tsF xs k) : tsF xs (k + 1) = tsF xs k ++ [(xs.getD k dn0).1] ∧ hsF xs (k + 1) = addD (hsF xs k ++ [[]]) (tsF xs k).length (xs.getD k dn0) := by
  constructor
  · show (if _ then _ else _) = _; rw [if_neg h]
  · show addD (if _ then _ else _) _ _ = _
    rw [if_neg h, idxT_no h]
theorem set_getD_same {α : Type} (X : List α) (p : Nat) (a d : α) (h : p < X.length) : (X.set p a).getD p d = a := by simp [List.getD, h]
theorem set_getD_other {α : Type} (X : List α) (p j : Nat) (a d : α) (h : j ≠ p) : (X.set p a).getD j d = X.getD j d := by
  simp only [List.getD]
  rw [List.getElem?_set_ne (fun e => h e.symm)]
theorem app_getD {α : Type} (X : List α) (a d : α) (j : Nat) (h : j < X.length) : (X ++ [a]).getD j d = X.getD j d := by
  simp [List.getD, List.getElem?_append_left h]
theorem app_getD_last {α : Type} (X : List α) (a d : α) : (X ++ [a]).getD X.length d = a := by simp [List.getD]
theorem hs_len (xs : List Dn) : ∀ k, (hsF xs k).length = (tsF xs k).length
  | 0 => rfl
  | k + 1 => by
    have ih := hs_len xs k
    by_cases h : (xs.getD k dn0).1 ∈ tsF xs k
    · rw [(hsF_old h).1, (hsF_old h).2, addD, List.length_set, ih]
    · rw [(hsF_new h).1, (hsF_new h).2, addD, List.length_set, List.length_append, List.length_append, ih]
      rfl
theorem ts_len (xs : List Dn) : ∀ k, (tsF xs k).length ≤ k
  | 0 => Nat.le_refl _
  | k + 1 => by
    have := ts_len xs k
    unfold tsF
    split
    · omega
    · simp; omega
/-- What is known behind k of them. -/
structure HsK (xs : List Dn) (k : Nat) : Prop where
  uniq : ∀ j, j < (tsF xs k).length → idxT ((tsF xs k).getD j 0) (tsF xs k) = j
  cnt : ∀ j, j < (tsF xs k).length → ((hsF xs k).getD j []).length = cntD xs ((tsF xs k).getD j 0) k
  no : ∀ t, t ∉ tsF xs k → cntD xs t k = 0
theorem getD_mem0 {l : List Int} {j : Nat} (h : j < l.length) : l.getD j 0 ∈ l := by
  have e : l.getD j 0 = l[j] := by simp [List.getD, h]
  rw [e]; exact List.getElem_mem h
theorem hsK (xs : List Dn) : ∀ k, HsK xs k
  | 0 => ⟨fun _ h => absurd h (Nat.not_lt_zero _), fun _ h => absurd h (Nat.not_lt_zero _), fun _ _ => rfl⟩
  | k + 1 => by
    obtain ⟨h1, h2, h3⟩ := hsK xs k
    have hl := hs_len xs k
    by_cases h : (xs.getD k dn0).1 ∈ tsF xs k
    · obtain ⟨e1, e2⟩ := hsF_old h
      obtain ⟨i1, i2⟩ := idxT_in h
      refine ⟨by rw [e1]; exact h1, fun j hj => ?_, fun t ht => ?_⟩
      · rw [e1] at hj ⊢
        rw [e2, addD]
        unfold cntD
        by_cases e : j = idxT (xs.getD k dn0).1 (tsF xs k)
        · subst e
          rw [set_getD_same _ _ _ _ (by omega), List.length_append, h2 _ i1, i2, if_pos rfl]
          rfl
        · rw [set_getD_other _ _ _ _ _ e, if_neg (fun q => e (by rw [q]; exact (h1 j hj).symm)), h2 j hj]
      · rw [e1] at ht
        unfold cntD
        rw [if_neg (fun q => ht (by rw [← q]; exact h)), h3 t ht]
    · obtain ⟨e1, e2⟩ := hsF_new h
      refine ⟨fun j hj => ?_, fun j hj => ?_, fun t ht => ?_⟩
      · rw [e1] at hj ⊢
        by_cases e : j = (tsF xs k).length
        · subst e; rw [app_getD_last, idxT_new h]
        · have hj' : j < (tsF xs k).length := by simp at hj; omega
          rw [app_getD _ _ _ _ hj', idxT_app (getD_mem0 hj'), h1 j hj']
      · rw [e1] at hj ⊢
        rw [e2, addD]
        unfold cntD
        by_cases e : j = (tsF xs k).length
        · subst e
          rw [set_getD_same _ _ _ _ (by rw [List.length_append, hl]; exact Nat.lt_succ_self _), app_getD_last, ← hl, app_getD_last, if_pos rfl, h3 _ h]
          rfl
        · have hj' : j < (tsF xs k).length := by simp at hj; omega
          rw [set_getD_other _ _ _ _ _ e, app_getD _ _ _ _ hj', app_getD _ _ _ _ (by omega), if_neg (fun q => h (by rw [q]; exact getD_mem0 hj')), h2 j hj']
      · rw [e1] at ht
        unfold cntD
        rw [if_neg (fun q => ht (by rw [← q]; simp)), h3 t (fun q => ht (List.mem_append_left _ q))]

/-- Each history is in its order. -/
def goodX (X : List (List Dn)) : Prop := ∀ j, j < X.length → ∀ i, i < (X.getD j []).length → ((X.getD j []).getD i dn0).2.1 = (i : Int)
theorem good_add {X : List (List Dn)} {p : Nat} {d : Dn} (hp : p < X.length) : goodX (addD X p d) ↔ goodX X ∧ d.2.1 = ((X.getD p []).length : Int) := by
  constructor
  · intro h
    refine ⟨fun j hj i hi => ?_, ?_⟩
    · by_cases e : j = p
      · subst e
        have := h j (by rw [addD, List.length_set]; exact hj) i (by rw [addD, set_getD_same _ _ _ _ hp, List.length_append]; exact Nat.lt_of_lt_of_le hi (Nat.le_add_right _ _))
        rw [addD, set_getD_same _ _ _ _ hp, app_getD _ _ _ _ hi] at this
        exact this
      · have := h j (by rw [addD, List.length_set]; exact hj) i (by rw [addD, set_getD_other _ _ _ _ _ e]; exact hi)
        rw [addD, set_getD_other _ _ _ _ _ e] at this
        exact this
    · have := h p (by rw [addD, List.length_set]; exact hp) (X.getD p []).length (by rw [addD, set_getD_same _ _ _ _ hp, List.length_append]; exact Nat.lt_succ_self _)
      rw [addD, set_getD_same _ _ _ _ hp, app_getD_last] at this
      exact this
  · rintro ⟨h, h2⟩ j hj i hi
    rw [addD, List.length_set] at hj
    by_cases e : j = p
    · subst e
      rw [addD, set_getD_same _ _ _ _ hp] at hi ⊢
      by_cases e2 : i = (X.getD j []).length
      · subst e2; rw [app_getD_last]; exact h2
      · have hi' : i < (X.getD j []).length := by rw [List.length_append] at hi; exact Nat.lt_of_le_of_ne (Nat.le_of_lt_succ hi) e2
        rw [app_getD _ _ _ _ hi']; exact h j hj i hi'
    · rw [addD, set_getD_other _ _ _ _ _ e] at hi ⊢
      exact h j hj i hi
theorem good_nil {X : List (List Dn)} : goodX (X ++ [[]]) ↔ goodX X := by
  constructor
  · intro h j hj i hi
    have := h j (by simp; omega) i (by rw [app_getD _ _ _ _ hj]; exact hi)
    rw [app_getD _ _ _ _ hj] at this
    exact this
  · intro h j hj i hi
    by_cases e : j = X.length
    · subst e; rw [app_getD_last] at hi; exact absurd hi (Nat.not_lt_zero _)
    · have hj' : j < X.length := by simp at hj; omega
      rw [app_getD _ _ _ _ hj'] at hi ⊢
      exact h j hj' i hi
theorem or_good (xs : List Dn) : ∀ k, orF xs k = true ↔ goodX (hsF xs k)
  | 0 => ⟨fun _ j hj => absurd hj (Nat.not_lt_zero _), fun _ => rfl⟩
  | k + 1 => by
    have ih := or_good xs k
    obtain ⟨_, h2, h3⟩ := hsK xs k
    have hl := hs_len xs k
    unfold orF
    rw [Bool.and_eq_true, decide_eq_true_iff, ih]
    by_cases h : (xs.getD k dn0).1 ∈ tsF xs k
    · obtain ⟨i1, i2⟩ := idxT_in h
      rw [(hsF_old h).2, good_add (by omega), h2 _ i1, i2]
    · rw [(hsF_new h).2, good_add (by rw [List.length_append, hl]; exact Nat.lt_succ_self _), good_nil, ← hl, app_getD_last, h3 _ h]
      rfl

/-- The memory: a row of rows, each in a block of its own. -/
structure HsI (M : Nat) (w : World) (v : Value) (X : List (List Dn)) (V : Nat → Value) : Prop where
  row : w.ownsRow M 25 1 v X.length ((List.range X.length).map V)
  inn : ∀ j, j < X.length → w.ownsRow M 41 4 (V j) (X.getD j []).length (cellsDn (X.getD j []))
  far : ∀ j, j < X.length → ∀ b, (V j).ownBlock = some b → v.ownBlock ≠ some b ∧ ∀ i, i < X.length → (V i).ownBlock = some b → i = j
theorem ne_row {o row : Option Nat} (h : ∀ r, row = some r → o ≠ some r) : o = none ∨ o ≠ row := by
  cases row with
  | none => cases o with
    | none => exact Or.inl rfl
    | some r => exact Or.inr (by simp)
  | some r => exact Or.inr (h r rfl)
theorem HsI.zero (M : Nat) (w : World) (V : Nat → Value) : HsI M w (.slice none 0 0) [] V :=
  ⟨World.ownsRow_nil _ _ _ _, fun _ h => absurd h (Nat.not_lt_zero _), fun _ h => absurd h (Nat.not_lt_zero _)⟩
theorem HsI.kept {M : Nat} {w w' : World} {v : Value} {X : List (List Dn)} {V : Nat → Value} {row : Option Nat} (h : HsI M w v X V) (hg : w.grownBy w' row)
    (h1 : ∀ r, row = some r → v.ownBlock ≠ some r) (h2 : ∀ r, row = some r → ∀ j, j < X.length → (V j).ownBlock ≠ some r) : HsI M w' v X V :=
  ⟨h.row.kept hg (ne_row h1), fun j hj => (h.inn j hj).kept hg (ne_row fun r hr => h2 r hr j hj), h.far⟩
theorem HsI.later {M : Nat} {w w' : World} {v : Value} {X : List (List Dn)} {V : Nat → Value} (h : HsI M w v X V) (hb : Below w.heap.size w w') : HsI M w' v X V :=
  h.kept (grown_below (row := none) hb) (fun _ e => by cases e) (fun _ e => by cases e)
theorem HsI.low {M B : Nat} {w w' : World} {v : Value} {X : List (List Dn)} {V : Nat → Value} (h : HsI M w v X V) (hg : w.grownBy w' (some B)) (hB : B < M) : HsI M w' v X V :=
  h.kept hg (fun r e q => by injection e with e; have := (h.row.lt r q).1; omega) (fun r e j hj q => by injection e with e; have := ((h.inn j hj).lt r q).1; omega)
theorem HsI.push {M g cap p : Nat} {w w' : World} {v : Value} {X : List (List Dn)} {V : Nat → Value} (hp : p = X.length) (h : HsI M w v X V)
    (hown : w'.ownsRow M 25 1 (.slice (some ⟨g, 0, none⟩) (p + 1) cap) (p + 1) ((List.range p).map V ++ [.slice none 0 0])) (hg : w.grownBy w' v.ownBlock) (hat : v.ownBlock = some g ∨ g = w.heap.size) :
    HsI M w' (.slice (some ⟨g, 0, none⟩) (p + 1) cap) (X ++ [[]]) (fun i => if i = p then .slice none 0 0 else V i) := by
  subst hp
  have el : (X ++ [[]]).length = X.length + 1 := by simp
  refine ⟨by rw [el, range_map_succ]; exact hown, fun j hj => ?_, fun j hj b hb => ?_⟩
  · rw [el] at hj
    by_cases e : j = X.length
    · subst e
      rw [app_getD_last, if_pos rfl]
      exact World.ownsRow_nil _ _ _ _
    · rw [app_getD _ _ _ _ (by omega), if_neg e]
      exact (h.inn j (by omega)).kept hg (ne_row fun r hr q => (h.far j (by omega) r q).1 hr)
  · rw [el] at hj
    by_cases e : j = X.length
    · rw [if_pos e] at hb; cases hb
    · rw [if_neg e] at hb
      have hlt := ((h.inn j (by omega)).lt b hb).2
      refine ⟨fun q => ?_, fun i hi hib => ?_⟩
      · have q' : g = b := by injection q
        rcases hat with hat | hat
        · exact (h.far j (by omega) b hb).1 (by rw [hat, q'])
        · omega
      · rw [el] at hi
        by_cases e2 : i = X.length
        · rw [if_pos e2] at hib; cases hib
        · rw [if_neg e2] at hib
          exact (h.far j (by omega) b hb).2 i (by omega) hib
theorem map_set_range (n j : Nat) (V : Nat → Value) (z : Value) : ((List.range n).map V).set j z = (List.range n).map (fun i => if i = j then z else V i) := by
  refine List.ext_getElem? fun i => ?_
  by_cases hi : i < n
  · by_cases e : j = i
    · subst e; simp [hi]
    · rw [List.getElem?_set_ne e]
      simp [hi, if_neg (fun q : i = j => e q.symm)]
  · rw [List.getElem?_eq_none (by simp; omega), List.getElem?_eq_none (by simp; omega)]
theorem HsI.add {M R c j g cap p lj : Nat} {w w1 : World} {X : List (List Dn)} {V : Nat → Value} {d : Dn} (hp : p = X.length) (hl : (X.getD j []).length = lj) (h : HsI M w (.slice (some ⟨R, 0, none⟩) p c) X V) (hj : j < X.length)
    (hown : w1.ownsRow M 41 4 (.slice (some ⟨g, 0, none⟩) (lj + 1) cap) (lj + 1) (cellsDn (X.getD j []) ++ dnL d)) (hg : w.grownBy w1 (V j).ownBlock) (hat : (V j).ownBlock = some g ∨ g = w.heap.size) :
    HsI M (w1.setCell ⟨R, j, none⟩ (.slice (some ⟨g, 0, none⟩) (lj + 1) cap)) (.slice (some ⟨R, 0, none⟩) p c) (addD X j d) (fun i => if i = j then .slice (some ⟨g, 0, none⟩) (lj + 1) cap else V i) := by
  subst hp
  subst hl
  have el : (addD X j d).length = X.length := by rw [addD, List.length_set]
  have hRlt := (h.row.lt R rfl).2
  have row1 := h.row.kept hg (ne_row fun r hr q => (h.far j hj r hr).1 q)
  obtain ⟨row2, hg2⟩ := row1.stored j (.slice (some ⟨g, 0, none⟩) ((X.getD j []).length + 1) cap)
  have hgR : g ≠ R := by
    intro e
    rcases hat with hat | hat
    · exact (h.far j hj g hat).1 (by rw [e]; rfl)
    · omega
  refine ⟨by rw [el, ← map_set_range]; exact row2, fun i hi => ?_, fun i hi b hb => ?_⟩
  · rw [el] at hi
    by_cases e : i = j
    · subst e
      rw [addD, set_getD_same _ _ _ _ hi, if_pos rfl, List.length_append, cellsDn_next]
      exact hown.kept hg2 (ne_row fun r hr q => by injection hr with hr; injection q with q; exact hgR (q.trans hr.symm))
    · rw [addD, set_getD_other _ _ _ _ _ e, if_neg e]
      exact ((h.inn i hi).kept hg (ne_row fun r hr q => e ((h.far j hj r hr).2 i hi q))).kept hg2 (ne_row fun r hr q => (h.far i hi r q).1 (by injection hr with hr; rw [← hr]; rfl))
  · rw [el] at hi
    by_cases e : i = j
    · rw [if_pos e] at hb
      have hb' : g = b := by injection hb
      subst hb'
      refine ⟨fun q => hgR (by injection q with q; exact q.symm), fun k hk hkb => ?_⟩
      rw [el] at hk
      by_cases e2 : k = j
      · rw [e2, e]
      · rw [if_neg e2] at hkb
        rcases hat with hat | hat
        · exact absurd ((h.far j hj g hat).2 k hk hkb) e2
        · have := ((h.inn k hk).lt g hkb).2; omega
    · rw [if_neg e] at hb
      refine ⟨(h.far i hi b hb).1, fun k hk hkb => ?_⟩
      rw [el] at hk
      by_cases e2 : k = j
      · rw [if_pos e2] at hkb
        have hb' : g = b := by injection hkb
        subst hb'
        rcases hat with hat | hat
        · exact absurd ((h.far j hj g hat).2 i hi hb) e
        · have := ((h.inn i hi).lt g hb).2; omega
      · rw [if_neg e2] at hkb
        exact (h.far i hi b hb).2 k hk hkb

/-- Block B is a map of at most n entries: where each thread lies. -/
def PlAt (w : World) (B n : Nat) (ts : List Int) : Prop :=
  ∃ D : DataW Value, w.ownsMap Try.prog 2 asIs B n D ∧ ∀ a : Int, (has D (.int .i64 a) = decide (a ∈ ts)) ∧ (a ∈ ts → D.atKey (.int .i64 a) (.held (.int .i64 0)) = .held (.int .i64 (idxT a ts)))
theorem PlAt.later {w w' : World} {B n : Nat} {ts : List Int} (h : PlAt w B n ts) (hb : Below w.heap.size w w') : PlAt w' B n ts := by
  obtain ⟨D, h1, h2⟩ := h
  exact ⟨D, h1.kept (grown_below (row := none) hb) (by simp), h2⟩
theorem PlAt.high {w w' : World} {B n : Nat} {ts : List Int} {row : Option Nat} (h : PlAt w B n ts) (hg : w.grownBy w' row) (hr : row ≠ some B) : PlAt w' B n ts := by
  obtain ⟨D, h1, h2⟩ := h
  exact ⟨D, h1.kept hg (fun e => hr e.symm), h2⟩
theorem PlAt.mono {w : World} {B n n' : Nat} {ts : List Int} (h : PlAt w B n ts) (hn : n ≤ n') : PlAt w B n' ts := by
  obtain ⟨D, h1, h2⟩ := h
  exact ⟨D, h1.mono hn, h2⟩
theorem grown_setCell (w : World) (p : Addr) (v : Value) : w.grownBy (w.setCell p v) (some p.block) :=
  ⟨rfl, rfl, rfl, by simp, fun k _ hk => heap_setCell_other w p k v (fun e => hk (by simp [e]))⟩
theorem PlAt.put {w w' : World} {B n p : Nat} {ts : List Int} {D : DataW Value} {t : Int} (h1 : w.ownsMap Try.prog 2 asIs B n D) (h2 : ∀ a : Int, (has D (.int .i64 a) = decide (a ∈ ts)) ∧ (a ∈ ts → D.atKey (.int .i64 a) (.held (.int .i64 0)) = .held (.int .i64 (idxT a ts))))
    (ht : t ∉ ts) (hp : p = ts.length) (hown : w'.ownsMap Try.prog 2 asIs B (n + 1) (D.put (.int .i64 t) (.held (.int .i64 (p : Int))))) : PlAt w' B (n + 1) (ts ++ [t]) := by
  subst hp
  refine ⟨_, hown, fun a => ?_⟩
  by_cases e : a = t
  · subst e
    refine ⟨?_, fun _ => ?_⟩
    · rw [has_put_same h1.isMap (by trivial)]; exact (decide_eq_true (by simp)).symm
    · rw [idxT_new ht]; exact atKey_put_same h1.isMap (by trivial) _ _
  · obtain ⟨k1, k2⟩ := h2 a
    refine ⟨?_, fun hm => ?_⟩
    · rw [has_put_other (by intro h; injection h with _ h; exact e h), k1]
      exact decide_eq_decide.2 ⟨fun h => List.mem_append_left _ h, fun h => by
        rcases List.mem_append.1 h with h | h
        · exact h
        · exact absurd (List.mem_singleton.1 h) e⟩
    · have hm' : a ∈ ts := by
        rcases List.mem_append.1 hm with h | h
        · exact h
        · exact absurd (List.mem_singleton.1 h) e
      rw [idxT_app hm']
      exact (atKey_put_other (by intro h; injection h with _ h; exact e h) _ _).trans (k2 hm')
end Go.Proofs.Ytebgonaiodblhaa
