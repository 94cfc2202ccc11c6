/- Steps that are built by append. -/
import Derived.Test.YtdjdfkhgkadhgaaBuilt3
import Derived.Test.YtdjdfkhgkadhgaaStS
namespace Go.Proofs.Ytdjdfkhgkadhgaa
open Go.RowKit

/-- The cells of k steps. -/
def cellsT (ts : List St) (k : Nat) (V : Nat → Value) : List Value :=
  (List.range (k * 3)).map fun t => if t % 3 = 0 then .bool (ts.getD (t / 3) st0).1 else if t % 3 = 1 then .int .i64 (ts.getD (t / 3) st0).2.1 else V (t / 3)
theorem cellsT_len (ts : List St) (k : Nat) (V : Nat → Value) : (cellsT ts k V).length = k * 3 := by simp [cellsT]
theorem cellsT_flg (ts : List St) (k : Nat) (V : Nat → Value) (i : Nat) (h : i < k) : (cellsT ts k V)[i * 3]? = some (.bool (ts.getD i st0).1) := by
  unfold cellsT
  rw [List.getElem?_map, List.getElem?_range (by omega)]
  simp only [Option.map_some]
  rw [if_pos (by omega), show i * 3 / 3 = i by omega]
theorem cellsT_num (ts : List St) (k : Nat) (V : Nat → Value) (i : Nat) (h : i < k) : (cellsT ts k V)[i * 3 + 1]? = some (.int .i64 (ts.getD i st0).2.1) := by
  unfold cellsT
  rw [List.getElem?_map, List.getElem?_range (by omega)]
  simp only [Option.map_some]
  rw [if_neg (by omega), if_pos (by omega), show (i * 3 + 1) / 3 = i by omega]
theorem cellsT_words (ts : List St) (k : Nat) (V : Nat → Value) (i : Nat) (h : i < k) : (cellsT ts k V)[i * 3 + 2]? = some (V i) := by
  unfold cellsT
  rw [List.getElem?_map, List.getElem?_range (by omega)]
  simp only [Option.map_some]
  rw [if_neg (by omega), if_neg (by omega), show (i * 3 + 2) / 3 = i by omega]
theorem cellsT_next (ts : List St) (k : Nat) (V : Nat → Value) : cellsT ts (k + 1) V = cellsT ts k V ++ [.bool (ts.getD k st0).1, .int .i64 (ts.getD k st0).2.1, V k] := by
  unfold cellsT
  rw [show (k + 1) * 3 = k * 3 + 1 + 1 + 1 by omega, List.range_succ, List.range_succ, List.range_succ]
  simp only [List.map_append, List.append_assoc, List.map_cons, List.map_nil, List.singleton_append]
  congr 1
  rw [if_pos (by omega), if_neg (by omega), if_pos (by omega), if_neg (by omega), if_neg (by omega), show k * 3 / 3 = k by omega, show (k * 3 + 1) / 3 = k by omega, show (k * 3 + 1 + 1) / 3 = k by omega]
  rfl
theorem cellsT_congr (ts : List St) (k : Nat) (V V' : Nat → Value) (h : ∀ i, i < k → V i = V' i) : cellsT ts k V = cellsT ts k V' := by
  unfold cellsT
  refine List.map_congr_left fun t ht => ?_
  have := List.mem_range.1 ht
  rw [h (t / 3) (by omega)]
theorem cellsT_ext (ts ts' : List St) (k : Nat) (V : Nat → Value) (h : ∀ i, i < k → ts.getD i st0 = ts'.getD i st0) : cellsT ts k V = cellsT ts' k V := by
  unfold cellsT
  refine List.map_congr_left fun t ht => ?_
  have := List.mem_range.1 ht
  rw [h (t / 3) (by omega)]

/-- k steps have been built. -/
def BuiltT (P : Nat → Prop) (w : World) (v : Value) (k : Nat) (ts : List St) : Prop :=
  ∃ V Bk, w.ownsRow 0 73 3 v k (cellsT ts k V) ∧ (∀ r, v.ownBlock = some r → P r) ∧ Inner P w v.ownBlock k V Bk (fun i => (ts.getD i st0).2.2)
theorem BuiltT.nil (P : Nat → Prop) (w : World) (ts : List St) : BuiltT P w (.slice none 0 0) 0 ts :=
  ⟨fun _ => .bool false, fun _ => 0, World.ownsRow_nil _ _ _ _, fun _ h => (by cases h), Inner.zero _ _ _ _ _ _⟩
theorem BuiltT.empty (w : World) (P : Nat → Prop) (hP : P w.heap.size) (ts : List St) : BuiltT P (w.alloc (.cells #[] 73)) (.slice (some ⟨w.heap.size, 0, none⟩) 0 0) 0 ts :=
  ⟨fun _ => .bool false, fun _ => 0, World.ownsRow_made w #[] 0 (Nat.zero_le _) (by unfold maxLen; omega) (by simp), fun r h => by injection h with h; subst h; exact hP, Inner.zero _ _ _ _ _ _⟩
theorem BuiltT.later {P : Nat → Prop} {w w' : World} {v : Value} {k : Nat} {ts : List St} (h : BuiltT P w v k ts) (hb : Below w.heap.size w w') : BuiltT P w' v k ts := by
  obtain ⟨V, Bk, h1, h2, h3⟩ := h
  exact ⟨V, Bk, ownsRow_later h1 hb, h2, h3.later hb⟩
theorem BuiltT.mono {P P' : Nat → Prop} {w : World} {v : Value} {k : Nat} {ts : List St} (h : BuiltT P w v k ts) (hP : ∀ b, P b → b < w.heap.size → P' b) : BuiltT P' w v k ts := by
  obtain ⟨V, Bk, h1, h2, h3⟩ := h
  exact ⟨V, Bk, h1, fun r hr => hP r (h2 r hr) (h1.lt r hr).2, h3.mono hP⟩
theorem BuiltT.shape {P : Nat → Prop} {w : World} {v : Value} {k : Nat} {ts : List St} (h : BuiltT P w v k ts) : ∃ ao c, v = .slice ao k c := by
  obtain ⟨V, Bk, h1, _⟩ := h
  rcases h1.2 with ⟨rfl, e⟩ | ⟨g, cap, cur, rfl, _⟩
  · exact ⟨none, 0, by rw [e]⟩
  · exact ⟨_, _, rfl⟩

theorem BuiltT.step {P P' : Nat → Prop} {w w1 w2 w3 : World} {v z : Value} {k g cap : Nat} {V : Nat → Value} {Bk : Nat → Nat} {ts : List St} (hi : Inner P w v.ownBlock k V Bk (fun i => (ts.getD i st0).2.2)) (hr : w.ownsRow 0 73 3 v k (cellsT ts k V)) (hpr : ∀ r, v.ownBlock = some r → P r)
    (hP : ∀ b, P b → P' b) (hN : ∀ b, w.heap.size ≤ b → P' b) (hb1 : Below w.heap.size w w1) (hz : OwI w.heap.size w1 z (ts.getD k st0).2.2) (hb2 : Below w1.heap.size w1 w2)
    (hown : w3.ownsRow 0 73 3 (.slice (some ⟨g, 0, none⟩) (k + 1) cap) (k + 1) (cellsT ts k V ++ [.bool (ts.getD k st0).1, .int .i64 (ts.getD k st0).2.1, z])) (hg : w2.grownBy w3 v.ownBlock) (hat : v.ownBlock = some g ∨ g = w2.heap.size) :
    BuiltT P' w3 (.slice (some ⟨g, 0, none⟩) (k + 1) cap) (k + 1) ts := by
  obtain ⟨Bk', h⟩ := hi.step hP hN (fun r hr' => (hr.lt r hr').2) hb1 hz hb2 hg hat
  refine ⟨_, Bk', ?_, fun r hr' => ?_, h⟩
  · rw [cellsT_next, cellsT_congr ts k _ V (fun i hi => by rw [if_neg (by omega)]), if_pos rfl]
    exact hown
  · injection hr' with hr'
    subst hr'
    rcases hat with hat | hat
    · exact hP _ (hpr _ hat)
    · have h1 := hb1.size
      have h2 := hb2.size
      exact hN _ (by dsimp only; omega)

/-- A flush, the header, and a flush: what stands behind k steps. -/
theorem BuiltT.three {P P' : Nat → Prop} {w w1 w2 w3 : World} {v z : Value} {k g cap : Nat} {V : Nat → Value} {Bk : Nat → Nat} {ts : List St} {a : Int} {ws : List Int} (hi : Inner P w v.ownBlock k V Bk (fun i => (ts.getD i st0).2.2)) (hr : w.ownsRow 0 73 3 v k (cellsT ts k V)) (hpr : ∀ r, v.ownBlock = some r → P r)
    (e0 : ts.getD k st0 = (true, 0, [])) (e1 : ts.getD (k + 1) st0 = (false, a, ws)) (e2 : ts.getD (k + 2) st0 = (true, 0, []))
    (hP : ∀ b, P b → P' b) (hN : ∀ b, w.heap.size ≤ b → P' b) (hb1 : Below w.heap.size w w1) (hz : OwI w.heap.size w1 z ws) (hb2 : Below w1.heap.size w1 w2)
    (hown : w3.ownsRow 0 73 3 (.slice (some ⟨g, 0, none⟩) (k + 3) cap) (k + 3) (cellsT ts k V ++ [.bool true, .int .i64 0, .slice none 0 0, .bool false, .int .i64 a, z, .bool true, .int .i64 0, .slice none 0 0])) (hg : w2.grownBy w3 v.ownBlock) (hat : v.ownBlock = some g ∨ g = w2.heap.size) :
    BuiltT P' w3 (.slice (some ⟨g, 0, none⟩) (k + 3) cap) (k + 3) ts := by
  -- the header's words stand as the k-th for a while
  obtain ⟨Bk', h⟩ := Inner.step (X := fun i => if i = k then ws else (ts.getD i st0).2.2) (V := V) (Bk := Bk) (k := k) (row := v.ownBlock) (P := P) (w := w)
    ⟨fun i hi' => by have := hi.rd i hi'; simp only [if_neg (show i ≠ k by omega)]; exact this, fun i hi' hn => by
      simp only [if_neg (show i ≠ k by omega)] at hn
      obtain ⟨q1, q2, q3, q4, q5⟩ := hi.own i hi' hn
      exact ⟨q1, q2, q3, q4, fun j hj hj' ej => q5 j hj (by simpa only [if_neg (show j ≠ k by omega)] using hj') ej⟩⟩
    hP hN (fun r hr' => (hr.lt r hr').2) hb1 (by simpa only [if_true] using hz) hb2 hg hat
  let V' : Nat → Value := fun i => if i = k + 1 then z else if i < k then V i else .slice none 0 0
  have rnil : ∀ (S : Nat → Prop), RdI S w3 (.slice none 0 0) [] := fun S => ⟨none, 0, by simp, by simp, fun h => absurd rfl h⟩
  refine ⟨V', fun i => if i = k + 1 then Bk' k else Bk' i, ?_, fun r hr' => ?_, fun i hi' => ?_, fun i hi' hn => ?_⟩
  · have c1 : cellsT ts k V' = cellsT ts k V := cellsT_congr ts k _ _ (fun i hi => by simp only [V', if_neg (show i ≠ k + 1 by omega), if_pos hi])
    have c2 : V' k = .slice none 0 0 := by simp only [V', if_neg (show k ≠ k + 1 by omega), if_neg (Nat.lt_irrefl k)]
    have c3 : V' (k + 1) = z := by simp only [V', if_true]
    have c4 : V' (k + 2) = .slice none 0 0 := by simp only [V', if_neg (show k + 2 ≠ k + 1 by omega), if_neg (show ¬ k + 2 < k by omega)]
    rw [show k + 3 = k + 1 + 1 + 1 by omega, cellsT_next, cellsT_next, cellsT_next, c1, c2, c3, c4, e0, e1, e2]
    simpa using hown
  · injection hr' with hr'
    subst hr'
    rcases hat with hat | hat
    · exact hP _ (hpr _ hat)
    · have h1 := hb1.size
      have h2 := hb2.size
      exact hN _ (by dsimp only; omega)
  · by_cases a1 : i = k + 1
    · subst a1
      have := h.rd k (by omega)
      simp only [if_true] at this
      simp only [V', if_true, e1]
      exact this
    · simp only [V', if_neg a1]
      by_cases a2 : i < k
      · have := h.rd i (by omega)
        simp only [if_neg (show i ≠ k by omega)] at this
        simp only [if_pos a2]
        exact this
      · have : i = k ∨ i = k + 2 := by omega
        simp only [if_neg a2]
        rcases this with rfl | rfl
        · rw [e0]; exact rnil _
        · rw [e2]; exact rnil _
  · have hw : i = k + 1 ∨ i < k := by
      by_cases a1 : i = k + 1
      · exact Or.inl a1
      · by_cases a2 : i < k
        · exact Or.inr a2
        · have : i = k ∨ i = k + 2 := by omega
          rcases this with rfl | rfl
          · rw [e0] at hn; exact absurd rfl hn
          · rw [e2] at hn; exact absurd rfl hn
    have back : ∀ j, j < k + 3 → (ts.getD j st0).2.2 ≠ [] → j = k + 1 ∨ j < k := by
      intro j hj hj'
      by_cases a1 : j = k + 1
      · exact Or.inl a1
      · by_cases a2 : j < k
        · exact Or.inr a2
        · have : j = k ∨ j = k + 2 := by omega
          rcases this with rfl | rfl
          · rw [e0] at hj'; exact absurd rfl hj'
          · rw [e2] at hj'; exact absurd rfl hj'
    rcases hw with rfl | a2
    · rw [e1] at hn
      obtain ⟨q1, q2, q3, q4, q5⟩ := h.own k (by omega) (by simpa only [if_true] using hn)
      simp only [if_true]
      refine ⟨q1, q2, q3, q4, fun j hj hj' ej => ?_⟩
      rcases back j hj hj' with rfl | a3
      · rfl
      · simp only [if_neg (show j ≠ k + 1 by omega)] at ej
        have := q5 j (by omega) (by simpa only [if_neg (show j ≠ k by omega)] using hj') ej
        omega
    · obtain ⟨q1, q2, q3, q4, q5⟩ := h.own i (by omega) (by simpa only [if_neg (show i ≠ k by omega)] using hn)
      simp only [if_neg (show i ≠ k + 1 by omega)]
      refine ⟨q1, q2, q3, q4, fun j hj hj' ej => ?_⟩
      rcases back j hj hj' with rfl | a3
      · simp only [if_true] at ej
        rw [e1] at hj'
        have := q5 k (by omega) (by simpa only [if_true] using hj') ej
        omega
      · simp only [if_neg (show j ≠ k + 1 by omega)] at ej
        exact q5 j (by omega) (by simpa only [if_neg (show j ≠ k by omega)] using hj') ej

theorem BuiltT.ow {P : Nat → Prop} {w : World} {v : Value} {k : Nat} {ts : List St} (h : BuiltT P w v k ts) (hk : ts.length = k) (hm : k ≤ 9223372036854775807) : OwT (fun b => P b ∧ b < w.heap.size) w v ts := by
  obtain ⟨V, Bk, h1, hpr, h2⟩ := h
  subst hk
  rcases h1.2 with ⟨rfl, e⟩ | ⟨g, cap, cur, rfl, hg, hh, _⟩
  · have : ts = [] := List.eq_nil_of_length_eq_zero e
    subst this
    exact OwT_nil _ _
  · refine ⟨_, cap, g, 0, V, Bk, rfl, hm, fun _ => ⟨rfl, ⟨hpr g rfl, (Array.getElem?_eq_some_iff.1 hh).1⟩, fun o => h1.frozenAt o⟩, fun i hi => ⟨?_, ?_, ?_, h2.rd i hi, fun hn => ?_⟩⟩
    · rw [Nat.zero_add, h1.cellAt (i * 3) (by omega)]
      exact cellsT_flg _ _ _ _ hi
    · rw [Nat.zero_add, h1.cellAt (i * 3 + 1) (by omega)]
      exact cellsT_num _ _ _ _ hi
    · rw [Nat.zero_add, h1.cellAt (i * 3 + 2) (by omega)]
      exact cellsT_words _ _ _ _ hi
    · obtain ⟨k1, k2, k3, k4, k5⟩ := h2.own i hi hn
      exact ⟨⟨k1, k2⟩, fun e => k4 (by rw [e]; rfl), k3, k5⟩
theorem cells3_one {x : Bool} {y : Int} {ao : Option Addr} {n c : Nat} : ∀ u ∈ ([.bool x, .int .i64 y, .slice ao n c] : List Value), u.oneCell' = true := by
  intro u hu
  simp at hu
  rcases hu with rfl | rfl | rfl <;> rfl
theorem cells9_one {y : Int} {ao : Option Addr} {n c : Nat} : ∀ u ∈ ([.bool true, .int .i64 0, .slice none 0 0, .bool false, .int .i64 y, .slice ao n c, .bool true, .int .i64 0, .slice none 0 0] : List Value), u.oneCell' = true := by
  intro u hu
  simp at hu
  rcases hu with rfl | rfl | rfl | rfl | rfl | rfl | rfl | rfl | rfl <;> rfl

/-- The end of a function that stores a code and steps into its result's variable. -/
theorem ret_steps {w w3 : World} {P : Nat → Prop} {r : Nat} {z x : Value} {ts : List St} (hb : Below w.heap.size w w3) (hr : w.heap.size ≤ r) (ho : OwT P w3 z ts) (hP : ∀ b, P b → r < b ∧ b < w3.heap.size) :
    Below w.heap.size w ((w3.setCell ⟨r, 0, none⟩ x).setCell ⟨r, 1, none⟩ z) ∧ OwT (fun b => w.heap.size ≤ b ∧ b < ((w3.setCell ⟨r, 0, none⟩ x).setCell ⟨r, 1, none⟩ z).heap.size) ((w3.setCell ⟨r, 0, none⟩ x).setCell ⟨r, 1, none⟩ z) z ts := by
  have hw : Wr (fun y => y = r) w3 ((w3.setCell ⟨r, 0, none⟩ x).setCell ⟨r, 1, none⟩ z) := ((Wr.refl (fun y => y = r) _).setCell (p := ⟨r, 0, none⟩) rfl _).setCell (p := ⟨r, 1, none⟩) rfl _
  exact ⟨(hb.setCell (p := ⟨r, 0, none⟩) hr _).setCell (p := ⟨r, 1, none⟩) hr _, (ho.wr hw (fun b h1 e => by have := (hP b h1).1; omega)).mono fun b h1 => by have := hP b h1; simp; omega⟩
end Go.Proofs.Ytdjdfkhgkadhgaa
