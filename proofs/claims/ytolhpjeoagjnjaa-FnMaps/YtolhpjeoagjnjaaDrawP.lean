/- Chapter 3: the model's draw of puts, walked: 'l3DrawPuts'; 'l1Chance'. -/
import Derived.Test.YtolhpjeoagjnjaaDraw2
import Derived.Test.YtolhpjeoagjnjaaBuilt3
namespace Go.Proofs.Ytolhpjeoagjnjaa
open Go.RowKit

theorem l1WordsR {S : Nat → Prop} {w : World} {v : Value} {xs : List Int} (hv : RdI S w v xs) :
    Calls Try.prog 44 #[v] w fun e w' => ∃ c : Int, e = .returned (.int .i64 c) ∧ ∃ q, w' = w.drewN q := by
  obtain ⟨ao, c, rfl, hm, hc⟩ := hv
  by_cases h : xs = []
  · subst h
    exact (l1Words_none ao _ w).mono fun e w' ⟨he, hq⟩ => ⟨0, he, hq⟩
  · obtain ⟨b, off, rfl, _, hcc⟩ := hc h
    exact (l1Words_cells (fun i => xs.getD i 0) xs.length b off _ w hm hcc).mono fun e w' ⟨he, hq⟩ => ⟨_, he, hq⟩
theorem l1Chance {s : Nat} {v : Value} {bs : List Nat} {w : World} {t : Nat} (n : Int) (hS : Src s v bs w t) (ht : t ≤ 1073741824) (hn : n ≤ 1073741824) (hn1 : -1073741824 ≤ n) :
    Calls Try.prog 56 #[.pointer (some ⟨s, 0, none⟩), .int .i64 n] w fun e w' => ∃ r : Bool, e = .returned (.bool r) ∧ ∃ t', Drawn 1 s v bs t t' w w' := by
  have HS := hide hS
  clear hS
  go_enter Try.func56, Try.ntmps56
  go_wp2_with fail
  refine (l1Next n HS.out ht hn hn1).mono ?_
  rintro e w1 ⟨r, rfl, ra, rb, t1, hd1⟩
  have D1 := hide hd1
  clear hd1 rb
  go_wp2
  go_ret
  exact ⟨_, rfl, t1, D1.out⟩
theorem cellsP_congr {ps qs : List (Int × List Int)} {k : Nat} (V : Nat → Value) (h : ∀ i, i < k → qs.getD i (0, []) = ps.getD i (0, [])) : cellsP qs k V = cellsP ps k V := by
  unfold cellsP
  refine List.map_congr_left fun t ht => ?_
  have := List.mem_range.1 ht
  rw [h (t / 2) (by omega)]
theorem OwI_new (w : World) (xs : List Int) (t : TypeId) (hl : xs.length ≤ 1048576) : OwI w.heap.size (w.alloc (.cells (xs.map (Value.int .i64)).toArray t)) (.slice (some ⟨w.heap.size, 0, none⟩) xs.length xs.length) xs := by
  refine ⟨w.heap.size, ⟨_, 0, by simp, by omega, fun _ => ⟨w.heap.size, 0, rfl, rfl, fun i hi => ?_⟩⟩, fun _ => ⟨Nat.le_refl _, by simp, fun o => by simp [go_sem]⟩⟩
  simp [go_sem, List.getD, hi]
theorem RdI.grownD {S : Nat → Prop} {w w' : World} {v : Value} {xs : List Int} {row : Option Nat} (h : RdI S w v xs) (hS : xs ≠ [] → ∀ b, S b → some b ≠ row) (hg : w.grownBy w' row) : RdI S w' v xs := by
  obtain ⟨ao, c, e1, e2, e3⟩ := h
  refine ⟨ao, c, e1, e2, fun hne => ?_⟩
  obtain ⟨b, off, f1, f2, f3⟩ := e3 hne
  exact ⟨b, off, f1, f2, fun j hj => (World.cell?_of_block (hg.block b (World.block_lt_of_cell? _ _ (f3 j hj)) (fun e => hS hne b f2 e))).trans (f3 j hj)⟩
theorem rep_at (m i : Nat) : (List.replicate m ((0, []) : Int × List Int)).getD i (0, []) = (0, []) := by
  rw [List.getD, List.getElem?_replicate]
  split <;> rfl
theorem made_cellsP (m : Nat) : (madeCells #[Value.int .i64 0, Value.slice none 0 0] (m * 2)).toList = cellsP (List.replicate m (0, [])) m (fun _ => .slice none 0 0) := by
  have h : (madeCells #[Value.int .i64 0, Value.slice none 0 0] (m * 2)).toList = (List.range (m * 2)).map (fun i => #[Value.int .i64 0, Value.slice none 0 0][i % 2]!) := by simp [madeCells]
  rw [h]
  unfold cellsP
  refine List.map_congr_left fun t _ => ?_
  rw [rep_at]
  rcases Nat.mod_two_eq_zero_or_one t with e | e <;> simp [e]
end Go.Proofs.Ytolhpjeoagjnjaa
