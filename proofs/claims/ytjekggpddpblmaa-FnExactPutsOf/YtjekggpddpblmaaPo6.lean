/- Chapter 5: how great the answer of PutsOf is (the walk of 'spec.PutsOf' is to come here). -/
import Derived.Test.YtjekggpddpblmaaPo5
namespace Go.Proofs.Ytjekggpddpblmaa
open Go.RowKit Go.Maps

theorem cellsP_twoJ (ps : List (Int × List Int)) (k : Nat) (V : Nat → Value) (j : Nat) (h : j < k * 2) : (cellsP ps k V)[j]? = some (if j % 2 = 0 then .int .i64 (ps.getD (j / 2) (0, [])).1 else V (j / 2)) := by
  unfold cellsP
  rw [List.getElem?_map, List.getElem?_range h]
  rfl
theorem cellsP_set {P P' : List (Int × List Int)} {j t : Nat} {V : Nat → Value} {z : Value} (hP : ∀ i, i < j → (P'.getD i (0, [])).1 = (P.getD i (0, [])).1) :
    (cellsP P j V).set (t * 2 + 1) z = cellsP P' j (fun i => if i = t then z else V i) := by
  apply List.ext_getElem?
  intro i
  by_cases hi : i < j * 2
  · rw [cellsP_twoJ _ _ _ _ hi, hP _ (by omega)]
    by_cases e : i = t * 2 + 1
    · subst e
      rw [List.getElem?_set_self (by rw [cellsP_len]; exact hi), if_neg (by omega), if_pos (by omega)]
    · rw [List.getElem?_set_ne (fun h => e h.symm), cellsP_twoJ _ _ _ _ hi]
      by_cases e2 : i % 2 = 0
      · rw [if_pos e2, if_pos e2]
      · rw [if_neg e2, if_neg e2, if_neg (by omega)]
  · rw [List.getElem?_eq_none (by rw [List.length_set, cellsP_len]; omega), List.getElem?_eq_none (by rw [cellsP_len]; omega)]
/-- The words of one put of a built row are put anew, in place. -/
theorem puts_set {O : Nat} {wr w1 : World} {g j cap t : Nat} {P P' : List (Int × List Int)} {V : Nat → Value} {Bk : Nat → Nat} {z : Value} {ws : List Int} (ht : t < j)
    (hr : wr.ownsRow (O + 1) 51 2 (.slice (some ⟨g, 0, none⟩) j cap) j (cellsP P j V)) (hi : Inner (O < ·) wr (some g) j V Bk (fun i => (P.getD i (0, [])).2)) (hb : Below wr.heap.size wr w1) (hz : OwI wr.heap.size w1 z ws)
    (hP : ∀ i, i < j → P'.getD i (0, []) = if i = t then ((P.getD i (0, [])).1, ws) else P.getD i (0, [])) :
    (w1.setCell ⟨g, t * 2 + 1, none⟩ z).ownsRow (O + 1) 51 2 (.slice (some ⟨g, 0, none⟩) j cap) j (cellsP P' j (fun i => if i = t then z else V i)) ∧
      ∃ Bk', Inner (O < ·) (w1.setCell ⟨g, t * 2 + 1, none⟩ z) (some g) j (fun i => if i = t then z else V i) Bk' (fun i => (P'.getD i (0, [])).2) := by
  obtain ⟨hg1, hg2⟩ := hr.lt g rfl
  have hs := hb.size
  obtain ⟨bz, hz1, hz2⟩ := hz
  have h2 := hi.later hb
  have hw : Wr (· = g) w1 (w1.setCell ⟨g, t * 2 + 1, none⟩ z) := (Wr.refl (· = g) w1).setCell (p := ⟨g, t * 2 + 1, none⟩) rfl _
  refine ⟨?_, fun i => if i = t then bz else Bk i, fun i hi' => ?_, fun i hi' hne => ?_⟩
  · rw [← cellsP_set (P := P) (P' := P') (fun i hi' => by rw [hP i hi']; split <;> rfl)]
    exact ((ownsRow_later hr hb).stored (t * 2 + 1) z).1
  · rw [hP i hi']
    by_cases e : i = t
    · subst e
      simp only [if_true]
      exact hz1.wr hw (fun hn b e' h => by have := (hz2 hn).1; omega)
    · simp only [if_neg e]
      exact (h2.rd i hi').wr hw (fun hn b e' h => (h2.own i hi' hn).2.2.2.1 (by rw [← e', h]))
  · rw [hP i hi'] at hne
    by_cases e : i = t
    · subst e
      simp only [if_true] at hne ⊢
      obtain ⟨k1, k2, k3⟩ := hz2 hne
      refine ⟨by omega, by simpa using k2, fun o => by rw [World.frozen?_setCell]; exact k3 o, fun e' => by injection e' with e'; omega, fun i' hi'' hne' e' => ?_⟩
      by_cases e2 : i' = i
      · exact e2
      · rw [hP i' hi'', if_neg e2] at hne'
        rw [if_neg e2] at e'
        have := (hi.own i' hi'' hne').2.1
        omega
    · simp only [if_neg e] at hne ⊢
      obtain ⟨k1, k2, k3, k4, k5⟩ := h2.own i hi' hne
      refine ⟨k1, by simpa using k2, fun o => by rw [World.frozen?_setCell]; exact k3 o, k4, fun i' hi'' hne' e' => ?_⟩
      by_cases e2 : i' = t
      · subst e2
        rw [hP i' hi'', if_pos rfl] at hne'
        simp only [if_true] at e'
        have h6 := (hz2 hne').1
        have h7 := (hi.own i hi' hne).2.1
        omega
      · rw [hP i' hi'', if_neg e2] at hne'
        rw [if_neg e2] at e'
        exact k5 i' hi'' hne' e'

theorem totP_mostJ {ps : List (Int × List Int)} {B : Nat} (h : ∀ p ∈ ps, p.2.length ≤ B) : totP ps ps.length ≤ ps.length * (B + 1) := by
  have g : ∀ i, i ≤ ps.length → totP ps i ≤ i * (B + 1) := by
    intro i
    induction i with
    | zero => intro _; rw [totP_zero]; omega
    | succ i ih =>
      intro hi
      rw [totP_succ ps i (by omega), Nat.succ_mul]
      have := ih (by omega)
      have := h (ps.getD i (0, [])) (by simp [List.getD, show i < ps.length by omega])
      omega
  exact g _ (Nat.le_refl _)
theorem po_bound (vs : List (Int × List Int)) (os : List Oj) : totP (poV vs os) (poV vs os).length ≤ 1073741824 := by
  unfold poV
  split
  · rename_i h
    obtain ⟨h1, _, h3, h4⟩ := poC_zero h
    have hob : ∀ i, i < os.length → 0 ≤ (os.getD i oj0).1 ∧ (os.getD i oj0).1 < 40 ∧ (os.getD i oj0).2.1.toNat + (os.getD i oj0).2.2.length ≤ 64 := fun i hi => by
      obtain ⟨⟨k1, k2, k3, k4⟩, k5, _⟩ := objF_zero (h4 i hi)
      omega
    have hl := (poL_facts (os := os) (fun i hi => ⟨(hob i hi).1, (hob i hi).2.1⟩) os.length (Nat.le_refl _)).2.1
    have hM := poM_len (M := vs.foldl putM fun _ => []) (os := os) (fun a => foldl_len (by simp) (fun i hi => ((hpF_all h1).2 i hi).2.2)) (fun i hi => (hob i hi).2.2) os.length (Nat.le_refl _)
    generalize poL os os.length = L at hl
    generalize poM (vs.foldl putM fun _ => []) os os.length = M at hM
    have hw : ∀ p ∈ poR L M, p.2.length ≤ 64 := fun p hp => by
      obtain ⟨a, _, rfl⟩ := List.mem_map.1 hp
      exact hM a
    have h5 := totP_mostJ hw
    have h6 : (poR L M).length = L.length := by simp [poR]
    have h7 : (poR L M).length * (64 + 1) ≤ 12 * (64 + 1) := Nat.mul_le_mul_right _ (by omega)
    omega
  · simp [totP]
end Go.Proofs.Ytjekggpddpblmaa
