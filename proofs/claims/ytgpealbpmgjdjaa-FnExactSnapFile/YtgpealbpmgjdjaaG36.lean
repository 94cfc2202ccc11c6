/- Same Mp6b in one text: what each says stands at its head below. -/
import Derived.Test.YtgpealbpmgjdjaaG31
import Derived.Test.YtgpealbpmgjdjaaG35
/- Lists of numbers held against each other: 'slices.Equal' and the model's 'l2Same', walked. -/
namespace Go.Proofs.Ytgpealbpmgjdjaa
open Go.RowKit

theorem list_ext {α : Type} [Inhabited α] {d : α} {xs ys : List α} (hl : xs.length = ys.length) (h : ∀ j, j < xs.length → xs.getD j d = ys.getD j d) : xs = ys := by
  apply List.ext_getElem hl
  intro i h1 h2
  have := h i h1
  simpa [List.getD, h1, h2] using this

set_option maxHeartbeats 1000000 in
set_option maxRecDepth 4000 in
theorem l2SameR {S T : Nat → Prop} {w : World} {u v : Value} {xs ys : List Int} (hu : RdI S w u xs) (hv : RdI T w v ys) :
    Calls Try.prog 54 #[u, v] w fun e w' => e = .returned (.bool (decide (xs = ys))) ∧ ∃ q, w' = w.drewN q := by
  have hm : xs.length ≤ 9223372036854775807 := by obtain ⟨_, _, _, h, _⟩ := hu; exact h
  have hm' : ys.length ≤ 9223372036854775807 := by obtain ⟨_, _, _, h, _⟩ := hv; exact h
  obtain ⟨ao, c, rfl⟩ := hu.shape
  obtain ⟨ao', c', rfl⟩ := hv.shape
  have HU := hide hu
  have HV := hide hv
  obtain ⟨B, hB⟩ : ∃ B, decide (xs = ys) = B := ⟨_, rfl⟩
  have HB := hide hB
  rw [hB]
  clear hu hv hB
  obtain ⟨n, hn⟩ : ∃ n, xs.length = n := ⟨_, rfl⟩
  obtain ⟨n', hn'⟩ : ∃ n', ys.length = n' := ⟨_, rfl⟩
  have HN := hide hn
  have HN' := hide hn'
  rw [hn] at HU hm ⊢
  rw [hn'] at HV hm' ⊢
  clear hn hn'
  by_cases hl : n = n'
  · subst hl
    go_enter Try.func54, Try.ntmps54
    go_wp2
    go_loopw [5] (fun i wr => ∃ k q : Nat, k ≤ n ∧ i = .int .i64 k ∧ Hid (∀ j, j < k → xs.getD j 0 = ys.getD j 0) ∧ wr = w.drewN q) (fun i _ => n - (intOf i).toNat)
    case atStart => exact ⟨0, 0, Nat.zero_le _, rfl, fun j hj => absurd hj (Nat.not_lt_zero _), rfl⟩
    case round =>
      obtain ⟨k, q, hk, rfl, HA, rfl⟩ := hrel
      by_cases hlt : k < n
      · obtain ⟨b, off, rfl, g1⟩ := HU.out.at (k := k) (by rw [HN.out]; exact hlt)
        obtain ⟨b', off', rfl, g2⟩ := HV.out.at (k := k) (by rw [HN'.out]; exact hlt)
        obtain ⟨x, hx⟩ : ∃ x, xs.getD k 0 = x := ⟨_, rfl⟩
        obtain ⟨y, hy⟩ : ∃ y, ys.getD k 0 = y := ⟨_, rfl⟩
        have HX := hide hx
        have HY := hide hy
        rw [hx] at g1
        rw [hy] at g2
        clear hx hy
        by_cases hxy : x = y
        · subst hxy
          have HA2 : Hid (∀ j, j < k + 1 → xs.getD j 0 = ys.getD j 0) := by
            intro j hj
            by_cases e : j = k
            · subst e; rw [HX.out, HY.out]
            · exact HA.out j (by omega)
          go_wp2
          go_quiet (fail)
          go_wp2
          go_roundw
          case rel => exact ⟨k + 1, _, by omega, by go_num, HA2.out, rfl⟩
          case measure => simp [intOf]; omega
        · have hb : B = false := by
            rw [← HB.out]
            exact decide_eq_false (fun e => hxy (by rw [← HX.out, ← HY.out, e]))
          subst hb
          go_wp2
          go_quiet (fail)
          go_wp2
          go_ret
          exact ⟨rfl, _, World.drewN_drewN ..⟩
      · have hb : B = true := by
          rw [← HB.out]
          exact decide_eq_true (list_ext (by rw [HN.out, HN'.out]) (fun j hj => HA.out j (by rw [HN.out] at hj; omega)))
        subst hb
        go_wp2
        go_ret
        exact ⟨rfl, _, rfl⟩
  · have hb : B = false := by
      rw [← HB.out]
      exact decide_eq_false (fun e => hl (by rw [← HN.out, ← HN'.out, e]))
    subst hb
    have hl' : ¬ (n : Int) = (n' : Int) := by omega
    go_enter Try.func54, Try.ntmps54
    go_wp2
    go_ret
    exact ⟨rfl, 0, rfl⟩

set_option maxHeartbeats 1000000 in
set_option maxRecDepth 4000 in
theorem slicesEqualR {S T : Nat → Prop} {w : World} {u v : Value} {xs ys : List Int} (hu : RdI S w u xs) (hv : RdI T w v ys) :
    Calls Try.prog 61 #[u, v] w fun e w' => e = .returned (.bool (decide (xs = ys))) ∧ ∃ q, w' = w.drewN q := by
  have hm : xs.length ≤ 9223372036854775807 := by obtain ⟨_, _, _, h, _⟩ := hu; exact h
  have hm' : ys.length ≤ 9223372036854775807 := by obtain ⟨_, _, _, h, _⟩ := hv; exact h
  obtain ⟨ao, c, rfl⟩ := hu.shape
  obtain ⟨ao', c', rfl⟩ := hv.shape
  have HU := hide hu
  have HV := hide hv
  obtain ⟨B, hB⟩ : ∃ B, decide (xs = ys) = B := ⟨_, rfl⟩
  have HB := hide hB
  rw [hB]
  clear hu hv hB
  obtain ⟨n, hn⟩ : ∃ n, xs.length = n := ⟨_, rfl⟩
  obtain ⟨n', hn'⟩ : ∃ n', ys.length = n' := ⟨_, rfl⟩
  have HN := hide hn
  have HN' := hide hn'
  rw [hn] at HU hm ⊢
  rw [hn'] at HV hm' ⊢
  clear hn hn'
  by_cases hl : n = n'
  · subst hl
    go_enter Try.func61, Try.ntmps61
    go_wp2
    go_loopw [13] (fun i wr => ∃ k q : Nat, k ≤ n ∧ i = .int .i64 k ∧ Hid (∀ j, j < k → xs.getD j 0 = ys.getD j 0) ∧ wr = w.drewN q) (fun i _ => n - (intOf i).toNat)
    case atStart => exact ⟨0, 0, Nat.zero_le _, rfl, fun j hj => absurd hj (Nat.not_lt_zero _), rfl⟩
    case round =>
      obtain ⟨k, q, hk, rfl, HA, rfl⟩ := hrel
      by_cases hlt : k < n
      · obtain ⟨b, off, rfl, g1⟩ := HU.out.at (k := k) (by rw [HN.out]; exact hlt)
        obtain ⟨b', off', rfl, g2⟩ := HV.out.at (k := k) (by rw [HN'.out]; exact hlt)
        obtain ⟨x, hx⟩ : ∃ x, xs.getD k 0 = x := ⟨_, rfl⟩
        obtain ⟨y, hy⟩ : ∃ y, ys.getD k 0 = y := ⟨_, rfl⟩
        have HX := hide hx
        have HY := hide hy
        rw [hx] at g1
        rw [hy] at g2
        clear hx hy
        by_cases hxy : x = y
        · subst hxy
          have HA2 : Hid (∀ j, j < k + 1 → xs.getD j 0 = ys.getD j 0) := by
            intro j hj
            by_cases e : j = k
            · subst e; rw [HX.out, HY.out]
            · exact HA.out j (by omega)
          go_wp2
          go_quiet (fail)
          go_wp2
          go_roundw
          case rel => exact ⟨k + 1, _, by omega, by go_num, HA2.out, rfl⟩
          case measure => simp [intOf]; omega
        · have hb : B = false := by
            rw [← HB.out]
            exact decide_eq_false (fun e => hxy (by rw [← HX.out, ← HY.out, e]))
          subst hb
          go_wp2
          go_quiet (fail)
          go_wp2
          go_ret
          exact ⟨rfl, _, World.drewN_drewN ..⟩
      · have hb : B = true := by
          rw [← HB.out]
          exact decide_eq_true (list_ext (by rw [HN.out, HN'.out]) (fun j hj => HA.out j (by rw [HN.out] at hj; omega)))
        subst hb
        go_wp2
        go_ret
        exact ⟨rfl, _, rfl⟩
  · have hb : B = false := by
      rw [← HB.out]
      exact decide_eq_false (fun e => hl (by rw [← HN.out, ← HN'.out, e]))
    subst hb
    have hl' : ¬ (n : Int) = (n' : Int) := by omega
    go_enter Try.func61, Try.ntmps61
    go_wp2
    go_ret
    exact ⟨rfl, 0, rfl⟩

end Go.Proofs.Ytgpealbpmgjdjaa
/- Chapter 7: 'UnpackMap' of the program and of the model, walked. -/
namespace Go.Proofs.Ytgpealbpmgjdjaa
open Go.RowKit
theorem umC_cases (ws : List Int) (hz : wordsF ws = 0) : (ws.length = 0 ∧ umC ws = 0 ∧ umR ws = []) ∨ (ws.length ≠ 0 ∧ ws.length ≠ 2 ∧ umC ws = 5 ∧ umR ws = []) ∨
    (ws.length = 2 ∧ ∃ v0 v1, ws = [v0, v1] ∧ (0 ≤ v0 ∧ v0 ≤ 65535) ∧ (0 ≤ v1 ∧ v1 ≤ 65535) ∧ ((v0 ≤ 1023 ∧ v1 ≤ 1023 ∧ umC ws = 0 ∧ umR ws = blk (bitB v0 v1)) ∨ (¬ (v0 ≤ 1023 ∧ v1 ≤ 1023) ∧ umC ws = 5 ∧ umR ws = []))) := by
  have hin := words_in hz
  match ws, hz, hin with
  | [], hz, _ => exact Or.inl ⟨rfl, by simp [umC, hz], by simp [umR]⟩
  | [a], hz, _ => exact Or.inr (Or.inl ⟨by simp, by simp, by simp [umC, hz], by simp [umR]⟩)
  | [a, b], hz, hin =>
    have h0 := hin 0 (by simp)
    have h1 := hin 1 (by simp)
    simp only [List.getD_cons_zero, List.getD_cons_succ] at h0 h1
    refine Or.inr (Or.inr ⟨rfl, a, b, rfl, h0, h1, ?_⟩)
    by_cases h : a ≤ 1023 ∧ b ≤ 1023
    · exact Or.inl ⟨h.1, h.2, by simp [umC, hz, h.1, h.2], by simp [umR, umC, hz, h.1, h.2]⟩
    · have hc : umC [a, b] = 5 := by simp only [umC, hz, List.length_cons, List.length_nil, List.getD_cons_zero, List.getD_cons_succ]; rw [if_neg (by simp), if_neg (by simp), if_neg (fun h' => h ⟨h'.2.1, h'.2.2⟩)]
      exact Or.inr ⟨h, hc, by rw [umR, if_neg (by rw [hc]; simp)]⟩
  | a :: b :: c :: ws, hz, _ =>
    have hc : umC (a :: b :: c :: ws) = 5 := by simp only [umC, hz]; rw [if_neg (by simp), if_neg (by simp), if_neg (by simp)]
    exact Or.inr (Or.inl ⟨by simp, by simp, hc, by rw [umR, if_neg (by rw [hc]; simp)]⟩)
theorem umC_bad {ws : List Int} (hz : wordsF ws ≠ 0) : umC ws = wordsF ws ∧ umR ws = [] := by
  have h : umC ws = wordsF ws := by unfold umC; rw [if_pos hz]
  exact ⟨h, by rw [umR, if_neg (by rw [h]; exact fun h' => hz h'.1)]⟩
theorem rd_two {S : Nat → Prop} {w : World} {ao : Option Addr} {n c : Nat} {v0 v1 : Int} (h : RdI S w (.slice ao n c) [v0, v1]) : ∃ b off, ao = some ⟨b, off, none⟩ ∧ w.cell? ⟨b, off, none⟩ = some (.int .i64 v0) ∧ w.cell? ⟨b, off + 1, none⟩ = some (.int .i64 v1) := by
  obtain ⟨b, off, e, q0⟩ := h.at (k := 0) (by simp)
  obtain ⟨b', off', e', q1⟩ := h.at (k := 1) (by simp)
  rw [e] at e'
  injection e' with e'
  injection e' with e1 e2
  subst e1 e2
  exact ⟨b, off, e, by simpa using q0, by simpa using q1⟩
/-- The result's variable, as it was laid. -/
structure ResI (w wr : World) : Prop where
  below : Below w.heap.size w wr
  c0 : wr.cell? ⟨w.heap.size, 0, none⟩ = some (.int .i64 0)
  c1 : wr.cell? ⟨w.heap.size, 1, none⟩ = some (.slice none 0 0)
  fr : ∀ o, wr.frozen? ⟨w.heap.size, o, none⟩ = false
theorem ResI.lt {w wr : World} (h : ResI w wr) : w.heap.size < wr.heap.size := World.block_lt_of_cell? _ _ h.c0
theorem ResI.later {w wr w1 : World} (h : ResI w wr) (hb : Below wr.heap.size wr w1) : ResI w w1 :=
  ⟨below_on h.below hb, cell_later hb h.c0, cell_later hb h.c1, fun o => ((bcell hb).2 _ _ h.lt).trans (h.fr o)⟩
end Go.Proofs.Ytgpealbpmgjdjaa
