/- Puts that are built by append, one a round. -/
import Derived.Test.YtiommfabhchgdaaBuilt
namespace Go.Proofs.Ytiommfabhchgdaa
open Go.RowKit

/-- The cells of k puts. -/
def cellsP (ps : List (Int × List Int)) (k : Nat) (V : Nat → Value) : List Value :=
  (List.range (k * 2)).map fun t => if t % 2 = 0 then .int .i64 (ps.getD (t / 2) (0, [])).1 else V (t / 2)
theorem cellsP_len (ps : List (Int × List Int)) (k : Nat) (V : Nat → Value) : (cellsP ps k V).length = k * 2 := by simp [cellsP]
theorem cellsP_num (ps : List (Int × List Int)) (k : Nat) (V : Nat → Value) (i : Nat) (h : i < k) : (cellsP ps k V)[i * 2]? = some (.int .i64 (ps.getD i (0, [])).1) := by
  unfold cellsP
  rw [List.getElem?_map, List.getElem?_range (by omega)]
  simp only [Option.map_some]
  rw [if_pos (by omega), show i * 2 / 2 = i by omega]
theorem cellsP_words (ps : List (Int × List Int)) (k : Nat) (V : Nat → Value) (i : Nat) (h : i < k) : (cellsP ps k V)[i * 2 + 1]? = some (V i) := by
  unfold cellsP
  rw [List.getElem?_map, List.getElem?_range (by omega)]
  simp only [Option.map_some]
  rw [if_neg (by omega), show (i * 2 + 1) / 2 = i by omega]
theorem cellsP_succ (ps : List (Int × List Int)) (k : Nat) (V : Nat → Value) (z : Value) : cellsP ps (k + 1) (fun i => if i = k then z else V i) = cellsP ps k V ++ [.int .i64 (ps.getD k (0, [])).1, z] := by
  unfold cellsP
  rw [show (k + 1) * 2 = k * 2 + 1 + 1 by omega, List.range_succ, List.range_succ]
  simp only [List.map_append, List.append_assoc, List.map_cons, List.map_nil, List.singleton_append]
  congr 1
  · refine List.map_congr_left fun i hi => ?_
    have := List.mem_range.1 hi
    by_cases e : i % 2 = 0
    · rw [if_pos e, if_pos e]
    · rw [if_neg e, if_neg e, if_neg (by omega)]
  · rw [if_pos (by omega), if_neg (by omega), show k * 2 / 2 = k by omega, show (k * 2 + 1) / 2 = k by omega, if_pos rfl]

/-- k puts have been built. -/
def BuiltP (P : Nat → Prop) (w : World) (v : Value) (k : Nat) (ps : List (Int × List Int)) : Prop :=
  ∃ V Bk, w.ownsRow 0 57 2 v k (cellsP ps k V) ∧ (∀ r, v.ownBlock = some r → P r) ∧ Inner P w v.ownBlock k V Bk (fun i => (ps.getD i (0, [])).2)

theorem BuiltP.nil (P : Nat → Prop) (w : World) (ps : List (Int × List Int)) : BuiltP P w (.slice none 0 0) 0 ps :=
  ⟨fun _ => .bool false, fun _ => 0, World.ownsRow_nil _ _ _ _, fun _ h => (by cases h), Inner.zero _ _ _ _ _ _⟩
theorem BuiltP.later {P : Nat → Prop} {w w' : World} {v : Value} {k : Nat} {ps : List (Int × List Int)} (h : BuiltP P w v k ps) (hb : Below w.heap.size w w') : BuiltP P w' v k ps := by
  obtain ⟨V, Bk, h1, h2, h3⟩ := h
  exact ⟨V, Bk, ownsRow_later h1 hb, h2, h3.later hb⟩
theorem BuiltP.mono {P P' : Nat → Prop} {w : World} {v : Value} {k : Nat} {ps : List (Int × List Int)} (h : BuiltP P w v k ps) (hP : ∀ b, P b → b < w.heap.size → P' b) : BuiltP P' w v k ps := by
  obtain ⟨V, Bk, h1, h2, h3⟩ := h
  exact ⟨V, Bk, h1, fun r hr => hP r (h2 r hr) (h1.lt r hr).2, h3.mono hP⟩

theorem BuiltP.step {P P' : Nat → Prop} {w w1 w2 w3 : World} {v z : Value} {k g cap : Nat} {V : Nat → Value} {Bk : Nat → Nat} {ps : List (Int × List Int)} (hi : Inner P w v.ownBlock k V Bk (fun i => (ps.getD i (0, [])).2)) (hr : w.ownsRow 0 57 2 v k (cellsP ps k V)) (hpr : ∀ r, v.ownBlock = some r → P r)
    (hP : ∀ b, P b → P' b) (hN : ∀ b, w.heap.size ≤ b → P' b) (hb1 : Below w.heap.size w w1) (hz : OwI w.heap.size w1 z (ps.getD k (0, [])).2) (hb2 : Below w1.heap.size w1 w2)
    (hown : w3.ownsRow 0 57 2 (.slice (some ⟨g, 0, none⟩) (k + 1) cap) (k + 1) (cellsP ps k V ++ [.int .i64 (ps.getD k (0, [])).1, z])) (hg : w2.grownBy w3 v.ownBlock) (hat : v.ownBlock = some g ∨ g = w2.heap.size) :
    BuiltP P' w3 (.slice (some ⟨g, 0, none⟩) (k + 1) cap) (k + 1) ps := by
  obtain ⟨Bk', h⟩ := hi.step hP hN (fun r hr' => (hr.lt r hr').2) hb1 hz hb2 hg hat
  refine ⟨_, Bk', by rw [cellsP_succ]; exact hown, fun r hr' => ?_, h⟩
  injection hr' with hr'
  subst hr'
  rcases hat with hat | hat
  · exact hP _ (hpr _ hat)
  · have h1 := hb1.size
    have h2 := hb2.size
    exact hN _ (by dsimp only; omega)

theorem BuiltP.ow {P : Nat → Prop} {w : World} {v : Value} {k : Nat} {ps : List (Int × List Int)} (h : BuiltP P w v k ps) (hk : ps.length = k) (hm : k ≤ 9223372036854775807) : OwP (fun b => P b ∧ b < w.heap.size) w v ps := by
  obtain ⟨V, Bk, h1, hpr, h2⟩ := h
  subst hk
  rcases h1.2 with ⟨rfl, e⟩ | ⟨g, cap, cur, rfl, hg, hh, _⟩
  · have : ps = [] := List.eq_nil_of_length_eq_zero e
    subst this
    exact OwP_nil _ _
  · refine ⟨_, cap, g, 0, V, Bk, rfl, hm, fun _ => ⟨rfl, ⟨hpr g rfl, (Array.getElem?_eq_some_iff.1 hh).1⟩, fun o => h1.frozenAt o⟩, fun i hi => ⟨?_, ?_, h2.rd i hi, fun hn => ?_⟩⟩
    · rw [Nat.zero_add, h1.cellAt (i * 2) (by omega)]
      exact cellsP_num _ _ _ _ hi
    · rw [Nat.zero_add, h1.cellAt (i * 2 + 1) (by omega)]
      exact cellsP_words _ _ _ _ hi
    · obtain ⟨k1, k2, k3, k4, k5⟩ := h2.own i hi hn
      exact ⟨⟨k1, k2⟩, fun e => k4 (by rw [e]; rfl), k3, k5⟩

theorem BuiltP.shape {P : Nat → Prop} {w : World} {v : Value} {k : Nat} {ps : List (Int × List Int)} (h : BuiltP P w v k ps) : ∃ ao c, v = .slice ao k c := by
  obtain ⟨V, Bk, h1, _⟩ := h
  rcases h1.2 with ⟨rfl, e⟩ | ⟨g, cap, cur, rfl, _⟩
  · exact ⟨none, 0, by rw [e]⟩
  · exact ⟨_, _, rfl⟩

theorem cells2_one {x : Int} {ao : Option Addr} {n c : Nat} : ∀ u ∈ ([.int .i64 x, .slice ao n c] : List Value), u.oneCell' = true := by
  intro u hu
  simp at hu
  rcases hu with rfl | rfl <;> rfl
end Go.Proofs.Ytiommfabhchgdaa
