/- Same Mp6b Mp7a Tk0 in one text: what each says stands at its head below. -/
import Derived.Test.YtlmaopljihbdkaaGreatG20
import Derived.Test.YtlmaopljihbdkaaGreatG22
import Derived.Test.YtlmaopljihbdkaaGreatG07
/- Lists of numbers held against each other: 'slices.Equal' and the model's 'l2Same', walked. -/
namespace Go.Proofs.YtlmaopljihbdkaaGreat
open Go.RowKit

theorem list_ext {α : Type} [Inhabited α] {d : α} {xs ys : List α} (hl : xs.length = ys.length) (h : ∀ j, j < xs.length → xs.getD j d = ys.getD j d) : xs = ys := by
  apply List.ext_getElem hl
  intro i h1 h2
  have := h i h1
  simpa [List.getD, h1, h2] using this

set_option maxHeartbeats 1000000 in
set_option maxRecDepth 4000 in
theorem l2SameR {S T : Nat → Prop} {w : World} {u v : Value} {xs ys : List Int} (hu : RdI S w u xs) (hv : RdI T w v ys) :
    Calls Tryz.prog 95 #[u, v] w fun e w' => e = .returned (.bool (decide (xs = ys))) ∧ ∃ q, w' = w.drewN q := by
  have hm : xs.length ≤ 9223372036854775807 := by obtain ⟨_, _, _, h, _⟩ := hu; exact h
  have hm' : ys.length ≤ 9223372036854775807 := by obtain ⟨_, _, _, h, _⟩ := hv; exact h
  obtain ⟨ao, c, rfl⟩ := hu.shape
  obtain ⟨ao', c', rfl⟩ := hv.shape
  have HU := hide hu
  have HV := hide hv
  obtain ⟨B, hB⟩ : ∃ B, decide (xs = ys) = B := ⟨_, rfl⟩
  have HB := hide hB
  rw [hB]
  clear hu hv hB
  obtain ⟨n, hn⟩ : ∃ n, xs.length = n := ⟨_, rfl⟩
  obtain ⟨n', hn'⟩ : ∃ n', ys.length = n' := ⟨_, rfl⟩
  have HN := hide hn
  have HN' := hide hn'
  rw [hn] at HU hm ⊢
  rw [hn'] at HV hm' ⊢
  clear hn hn'
  by_cases hl : n = n'
  · subst hl
    go_enter Tryz.func95, Tryz.ntmps95
    go_wp2
    go_loopw [5] (fun i wr => ∃ k q : Nat, k ≤ n ∧ i = .int .i64 k ∧ Hid (∀ j, j < k → xs.getD j 0 = ys.getD j 0) ∧ wr = w.drewN q) (fun i _ => n - (intOf i).toNat)
    case atStart => exact ⟨0, 0, Nat.zero_le _, rfl, fun j hj => absurd hj (Nat.not_lt_zero _), rfl⟩
    case round =>
      obtain ⟨k, q, hk, rfl, HA, rfl⟩ := hrel
      by_cases hlt : k < n
      · obtain ⟨b, off, rfl, g1⟩ := HU.out.at (k := k) (by rw [HN.out]; exact hlt)
        obtain ⟨b', off', rfl, g2⟩ := HV.out.at (k := k) (by rw [HN'.out]; exact hlt)
        obtain ⟨x, hx⟩ : ∃ x, xs.getD k 0 = x := ⟨_, rfl⟩
        obtain ⟨y, hy⟩ : ∃ y, ys.getD k 0 = y := ⟨_, rfl⟩
        have HX := hide hx
        have HY := hide hy
        rw [hx] at g1
        rw [hy] at g2
        clear hx hy
        by_cases hxy : x = y
        · subst hxy
          have HA2 : Hid (∀ j, j < k + 1 → xs.getD j 0 = ys.getD j 0) := by
            intro j hj
            by_cases e : j = k
            · subst e; rw [HX.out, HY.out]
            · exact HA.out j (by omega)
          go_wp2
          go_quiet (fail)
          go_wp2
          go_roundw
          case rel => exact ⟨k + 1, _, by omega, by go_num, HA2.out, rfl⟩
          case measure => simp [intOf]; omega
        · have hb : B = false := by
            rw [← HB.out]
            exact decide_eq_false (fun e => hxy (by rw [← HX.out, ← HY.out, e]))
          subst hb
          go_wp2
          go_quiet (fail)
          go_wp2
          go_ret
          exact ⟨rfl, _, World.drewN_drewN ..⟩
      · have hb : B = true := by
          rw [← HB.out]
          exact decide_eq_true (list_ext (by rw [HN.out, HN'.out]) (fun j hj => HA.out j (by rw [HN.out] at hj; omega)))
        subst hb
        go_wp2
        go_ret
        exact ⟨rfl, _, rfl⟩
  · have hb : B = false := by
      rw [← HB.out]
      exact decide_eq_false (fun e => hl (by rw [← HN.out, ← HN'.out, e]))
    subst hb
    have hl' : ¬ (n : Int) = (n' : Int) := by omega
    go_enter Tryz.func95, Tryz.ntmps95
    go_wp2
    go_ret
    exact ⟨rfl, 0, rfl⟩

set_option maxHeartbeats 1000000 in
set_option maxRecDepth 4000 in
theorem slicesEqualR {S T : Nat → Prop} {w : World} {u v : Value} {xs ys : List Int} (hu : RdI S w u xs) (hv : RdI T w v ys) :
    Calls Tryz.prog 102 #[u, v] w fun e w' => e = .returned (.bool (decide (xs = ys))) ∧ ∃ q, w' = w.drewN q := by
  have hm : xs.length ≤ 9223372036854775807 := by obtain ⟨_, _, _, h, _⟩ := hu; exact h
  have hm' : ys.length ≤ 9223372036854775807 := by obtain ⟨_, _, _, h, _⟩ := hv; exact h
  obtain ⟨ao, c, rfl⟩ := hu.shape
  obtain ⟨ao', c', rfl⟩ := hv.shape
  have HU := hide hu
  have HV := hide hv
  obtain ⟨B, hB⟩ : ∃ B, decide (xs = ys) = B := ⟨_, rfl⟩
  have HB := hide hB
  rw [hB]
  clear hu hv hB
  obtain ⟨n, hn⟩ : ∃ n, xs.length = n := ⟨_, rfl⟩
  obtain ⟨n', hn'⟩ : ∃ n', ys.length = n' := ⟨_, rfl⟩
  have HN := hide hn
  have HN' := hide hn'
  rw [hn] at HU hm ⊢
  rw [hn'] at HV hm' ⊢
  clear hn hn'
  by_cases hl : n = n'
  · subst hl
    go_enter Tryz.func102, Tryz.ntmps102
    go_wp2
    go_loopw [13] (fun i wr => ∃ k q : Nat, k ≤ n ∧ i = .int .i64 k ∧ Hid (∀ j, j < k → xs.getD j 0 = ys.getD j 0) ∧ wr = w.drewN q) (fun i _ => n - (intOf i).toNat)
    case atStart => exact ⟨0, 0, Nat.zero_le _, rfl, fun j hj => absurd hj (Nat.not_lt_zero _), rfl⟩
    case round =>
      obtain ⟨k, q, hk, rfl, HA, rfl⟩ := hrel
      by_cases hlt : k < n
      · obtain ⟨b, off, rfl, g1⟩ := HU.out.at (k := k) (by rw [HN.out]; exact hlt)
        obtain ⟨b', off', rfl, g2⟩ := HV.out.at (k := k) (by rw [HN'.out]; exact hlt)
        obtain ⟨x, hx⟩ : ∃ x, xs.getD k 0 = x := ⟨_, rfl⟩
        obtain ⟨y, hy⟩ : ∃ y, ys.getD k 0 = y := ⟨_, rfl⟩
        have HX := hide hx
        have HY := hide hy
        rw [hx] at g1
        rw [hy] at g2
        clear hx hy
        by_cases hxy : x = y
        · subst hxy
          have HA2 : Hid (∀ j, j < k + 1 → xs.getD j 0 = ys.getD j 0) := by
            intro j hj
            by_cases e : j = k
            · subst e; rw [HX.out, HY.out]
            · exact HA.out j (by omega)
          go_wp2
          go_quiet (fail)
          go_wp2
          go_roundw
          case rel => exact ⟨k + 1, _, by omega, by go_num, HA2.out, rfl⟩
          case measure => simp [intOf]; omega
        · have hb : B = false := by
            rw [← HB.out]
            exact decide_eq_false (fun e => hxy (by rw [← HX.out, ← HY.out, e]))
          subst hb
          go_wp2
          go_quiet (fail)
          go_wp2
          go_ret
          exact ⟨rfl, _, World.drewN_drewN ..⟩
      · have hb : B = true := by
          rw [← HB.out]
          exact decide_eq_true (list_ext (by rw [HN.out, HN'.out]) (fun j hj => HA.out j (by rw [HN.out] at hj; omega)))
        subst hb
        go_wp2
        go_ret
        exact ⟨rfl, _, rfl⟩
  · have hb : B = false := by
      rw [← HB.out]
      exact decide_eq_false (fun e => hl (by rw [← HN.out, ← HN'.out, e]))
    subst hb
    have hl' : ¬ (n : Int) = (n' : Int) := by omega
    go_enter Tryz.func102, Tryz.ntmps102
    go_wp2
    go_ret
    exact ⟨rfl, 0, rfl⟩

end Go.Proofs.YtlmaopljihbdkaaGreat
/- Chapter 7: 'UnpackMap' of the program and of the model, walked. -/
namespace Go.Proofs.YtlmaopljihbdkaaGreat
open Go.RowKit
theorem umC_cases (ws : List Int) (hz : wordsF ws = 0) : (ws.length = 0 ∧ umC ws = 0 ∧ umR ws = []) ∨ (ws.length ≠ 0 ∧ ws.length ≠ 2 ∧ umC ws = 5 ∧ umR ws = []) ∨
    (ws.length = 2 ∧ ∃ v0 v1, ws = [v0, v1] ∧ (0 ≤ v0 ∧ v0 ≤ 65535) ∧ (0 ≤ v1 ∧ v1 ≤ 65535) ∧ ((v0 ≤ 1023 ∧ v1 ≤ 1023 ∧ umC ws = 0 ∧ umR ws = blk (bitB v0 v1)) ∨ (¬ (v0 ≤ 1023 ∧ v1 ≤ 1023) ∧ umC ws = 5 ∧ umR ws = []))) := by
  have hin := words_in hz
  match ws, hz, hin with
  | [], hz, _ => exact Or.inl ⟨rfl, by simp [umC, hz], by simp [umR]⟩
  | [a], hz, _ => exact Or.inr (Or.inl ⟨by simp, by simp, by simp [umC, hz], by simp [umR]⟩)
  | [a, b], hz, hin =>
    have h0 := hin 0 (by simp)
    have h1 := hin 1 (by simp)
    simp only [List.getD_cons_zero, List.getD_cons_succ] at h0 h1
    refine Or.inr (Or.inr ⟨rfl, a, b, rfl, h0, h1, ?_⟩)
    by_cases h : a ≤ 1023 ∧ b ≤ 1023
    · exact Or.inl ⟨h.1, h.2, by simp [umC, hz, h.1, h.2], by simp [umR, umC, hz, h.1, h.2]⟩
    · have hc : umC [a, b] = 5 := by simp only [umC, hz, List.length_cons, List.length_nil, List.getD_cons_zero, List.getD_cons_succ]; rw [if_neg (by simp), if_neg (by simp), if_neg (fun h' => h ⟨h'.2.1, h'.2.2⟩)]
      exact Or.inr ⟨h, hc, by rw [umR, if_neg (by rw [hc]; simp)]⟩
  | a :: b :: c :: ws, hz, _ =>
    have hc : umC (a :: b :: c :: ws) = 5 := by simp only [umC, hz]; rw [if_neg (by simp), if_neg (by simp), if_neg (by simp)]
    exact Or.inr (Or.inl ⟨by simp, by simp, hc, by rw [umR, if_neg (by rw [hc]; simp)]⟩)
theorem umC_bad {ws : List Int} (hz : wordsF ws ≠ 0) : umC ws = wordsF ws ∧ umR ws = [] := by
  have h : umC ws = wordsF ws := by unfold umC; rw [if_pos hz]
  exact ⟨h, by rw [umR, if_neg (by rw [h]; exact fun h' => hz h'.1)]⟩
theorem rd_two {S : Nat → Prop} {w : World} {ao : Option Addr} {n c : Nat} {v0 v1 : Int} (h : RdI S w (.slice ao n c) [v0, v1]) : ∃ b off, ao = some ⟨b, off, none⟩ ∧ w.cell? ⟨b, off, none⟩ = some (.int .i64 v0) ∧ w.cell? ⟨b, off + 1, none⟩ = some (.int .i64 v1) := by
  obtain ⟨b, off, e, q0⟩ := h.at (k := 0) (by simp)
  obtain ⟨b', off', e', q1⟩ := h.at (k := 1) (by simp)
  rw [e] at e'
  injection e' with e'
  injection e' with e1 e2
  subst e1 e2
  exact ⟨b, off, e, by simpa using q0, by simpa using q1⟩
/-- The result's variable, as it was laid. -/
structure ResI (w wr : World) : Prop where
  below : Below w.heap.size w wr
  c0 : wr.cell? ⟨w.heap.size, 0, none⟩ = some (.int .i64 0)
  c1 : wr.cell? ⟨w.heap.size, 1, none⟩ = some (.slice none 0 0)
  fr : ∀ o, wr.frozen? ⟨w.heap.size, o, none⟩ = false
theorem ResI.lt {w wr : World} (h : ResI w wr) : w.heap.size < wr.heap.size := World.block_lt_of_cell? _ _ h.c0
theorem ResI.later {w wr w1 : World} (h : ResI w wr) (hb : Below wr.heap.size wr w1) : ResI w w1 :=
  ⟨below_on h.below hb, cell_later hb h.c0, cell_later hb h.c1, fun o => ((bcell hb).2 _ _ h.lt).trans (h.fr o)⟩
theorem ResI.start (w : World) : ResI w (w.alloc (.cells #[.int .i64 0, .slice none 0 0] 166)) :=
  ⟨below_alloc _ _, by simp [go_sem], by simp [go_sem], fun o => by simp [go_sem]⟩

end Go.Proofs.YtlmaopljihbdkaaGreat
/- Chapter 7: 'FreeBlocks' of the program, walked. -/
namespace Go.Proofs.YtlmaopljihbdkaaGreat
open Go.RowKit

/-- The code of 'FreeBlocks'. -/
def fbC (xs ys : List Int) : Int := if mapF xs ≠ 0 then mapF xs else if mapF ys ≠ 0 then mapF ys else if ∀ y, y ∈ ys → y ∈ xs then 0 else 4
/-- .. and the map. -/
def fbR (xs ys : List Int) : List Int := if fbC xs ys = 0 then xs.filter (fun x => !decide (x ∈ ys)) else []
theorem isMap_len {xs : List Int} (h : IsMap xs) : xs.length ≤ 20 := by rw [← blk_of h]; exact blk_len _
theorem fbR_len (xs ys : List Int) : (fbR xs ys).length ≤ 1048576 := by
  unfold fbR
  by_cases h : fbC xs ys = 0
  · rw [if_pos h]
    have hx : mapF xs = 0 := by
      by_cases h1 : mapF xs = 0
      · exact h1
      · unfold fbC at h; rw [if_pos h1] at h; exact absurd h h1
    have := isMap_len (mapF_iff.1 hx)
    have := List.length_filter_le (fun x => !decide (x ∈ ys)) xs
    omega
  · rw [if_neg h]; simp
theorem blk_free {xs ys : List Int} (h : IsMap xs) : blk (fun x => decide (x ∈ xs) && !decide (x ∈ ys)) = xs.filter (fun x => !decide (x ∈ ys)) :=
  pair_ext (blk_up _) (h.2.filter _) fun a => by
    rw [mem_blk, List.mem_filter]
    simp only [Bool.and_eq_true, decide_eq_true_eq]
    exact ⟨fun h' => h'.2, fun h' => ⟨h.1 a h'.1, h'⟩⟩
theorem TkIn.shape {w : World} {f : Value} {xs : List Int} (h : TkIn w f xs) : ∃ b, f = .func (.func 197) #[] #[.pointer (some ⟨b, 0, none⟩)] := by
  obtain ⟨b, _, _, e, _⟩ := h
  exact ⟨b, e⟩
/-- Two closures in two variables. -/
structure Two (w : World) (p q : Nat) (xs ys : List Int) : Prop where
  f : ∃ f, w.cell? ⟨p, 0, none⟩ = some f ∧ TkIn w f xs
  g : ∃ g, w.cell? ⟨q, 0, none⟩ = some g ∧ TkIn w g ys
theorem Two.later {w w' : World} {p q : Nat} {xs ys : List Int} (h : Two w p q xs ys) (hb : Below w.heap.size w w') : Two w' p q xs ys := by
  obtain ⟨⟨f, h1, h2⟩, g, h3, h4⟩ := h
  exact ⟨⟨f, cell_later hb h1, h2.later hb⟩, g, cell_later hb h3, h4.later hb⟩
theorem two_cells (w4 : World) : ((w4.alloc (.cells #[.nilFunc] 206)).alloc (.cells #[.nilFunc] 206)).cell? ⟨w4.heap.size, 0, none⟩ = some .nilFunc ∧ ((w4.alloc (.cells #[.nilFunc] 206)).alloc (.cells #[.nilFunc] 206)).frozen? ⟨w4.heap.size, 0, none⟩ = false ∧
    ((w4.alloc (.cells #[.nilFunc] 206)).alloc (.cells #[.nilFunc] 206)).cell? ⟨w4.heap.size + 1, 0, none⟩ = some .nilFunc ∧ ((w4.alloc (.cells #[.nilFunc] 206)).alloc (.cells #[.nilFunc] 206)).frozen? ⟨w4.heap.size + 1, 0, none⟩ = false := by
  refine ⟨by simp [go_sem], by simp [go_sem], by simp [go_sem], by simp [go_sem]⟩
theorem two_made {w w4 : World} {f g : Value} {xs ys : List Int} (hr : ResI w w4) (hf : TkIn w4 f xs) (hg : TkIn w4 g ys) :
    ResI w ((w4.alloc (.cells #[f] 206)).alloc (.cells #[g] 206)) ∧ Two ((w4.alloc (.cells #[f] 206)).alloc (.cells #[g] 206)) w4.heap.size (w4.heap.size + 1) xs ys := by
  have hb : Below w4.heap.size w4 ((w4.alloc (.cells #[f] 206)).alloc (.cells #[g] 206)) := below_on (below_alloc w4 _) (below_alloc _ _)
  exact ⟨hr.later hb, ⟨f, by simp [go_sem], hf.later hb⟩, g, by simp [go_sem], hg.later hb⟩

end Go.Proofs.YtlmaopljihbdkaaGreat
/- A code with two lists of numbers that share no memory: compared, marked, held. -/
namespace Go.Proofs.YtlmaopljihbdkaaGreat
open Go.RowKit

theorem RdI_nilK (S : Nat → Prop) (w : World) : RdI S w (.slice none 0 0) [] := ⟨none, 0, by simp, by simp, fun h => absurd rfl h⟩
/-- Two lists of new memory. -/
def OwK (B : Nat) (w : World) (u v : Value) (xs ys : List Int) : Prop :=
  ∃ b1 b2, RdI (· = b1) w u xs ∧ RdI (· = b2) w v ys ∧ (xs ≠ [] → B ≤ b1 ∧ b1 < w.heap.size ∧ ∀ o, w.frozen? ⟨b1, o, none⟩ = false) ∧ (ys ≠ [] → B ≤ b2 ∧ b2 < w.heap.size ∧ ∀ o, w.frozen? ⟨b2, o, none⟩ = false) ∧ (xs ≠ [] → ys ≠ [] → b1 ≠ b2)
/-- .. in [lo, hi). -/
def IvK (lo hi : Nat) (w : World) (u v : Value) (xs ys : List Int) : Prop :=
  ∃ b1 b2, RdI (· = b1) w u xs ∧ RdI (· = b2) w v ys ∧ (xs ≠ [] → lo ≤ b1 ∧ b1 < hi ∧ b1 < w.heap.size ∧ ∀ o, w.frozen? ⟨b1, o, none⟩ = false) ∧ (ys ≠ [] → lo ≤ b2 ∧ b2 < hi ∧ b2 < w.heap.size ∧ ∀ o, w.frozen? ⟨b2, o, none⟩ = false) ∧ (xs ≠ [] → ys ≠ [] → b1 ≠ b2)
/-- .. whose marks stand from k on. -/
def MkK (k : Int) (lo hi : Nat) (w : World) (u v : Value) (n m : Nat) : Prop := RdI (fun b => lo ≤ b ∧ b < hi) w u (mkI k n) ∧ RdI (fun b => lo ≤ b ∧ b < hi) w v (mkI (k + (n : Int)) m)
theorem OwK.iv {B : Nat} {w : World} {u v : Value} {xs ys : List Int} (h : OwK B w u v xs ys) : IvK B w.heap.size w u v xs ys := by
  obtain ⟨b1, b2, h1, h2, h3, h4, h5⟩ := h
  exact ⟨b1, b2, h1, h2, fun hn => ⟨(h3 hn).1, (h3 hn).2.1, (h3 hn).2.1, (h3 hn).2.2⟩, fun hn => ⟨(h4 hn).1, (h4 hn).2.1, (h4 hn).2.1, (h4 hn).2.2⟩, h5⟩
theorem OwK.shape {B : Nat} {w : World} {u v : Value} {xs ys : List Int} (h : OwK B w u v xs ys) : ∃ ao c ao' c', u = .slice ao xs.length c ∧ v = .slice ao' ys.length c' := by
  obtain ⟨b1, b2, h1, h2, _⟩ := h
  obtain ⟨a, c, e1⟩ := h1.shape
  obtain ⟨a', c', e2⟩ := h2.shape
  exact ⟨a, c, a', c', e1, e2⟩
theorem OwK_nil (B : Nat) (w : World) : OwK B w (.slice none 0 0) (.slice none 0 0) [] [] :=
  ⟨0, 0, RdI_nilK _ _, RdI_nilK _ _, fun h => absurd rfl h, fun h => absurd rfl h, fun h => absurd rfl h⟩
theorem OwK.wr {B : Nat} {T : Nat → Prop} {w w' : World} {u v : Value} {xs ys : List Int} (h : OwK B w u v xs ys) (hw : Wr T w w') (hd : ∀ b, B ≤ b → b < w.heap.size → ¬ T b) : OwK B w' u v xs ys := by
  obtain ⟨b1, b2, h1, h2, h3, h4, h5⟩ := h
  exact ⟨b1, b2, h1.wr hw (fun hn b hb => hb ▸ hd _ (h3 hn).1 (h3 hn).2.1), h2.wr hw (fun hn b hb => hb ▸ hd _ (h4 hn).1 (h4 hn).2.1),
    fun hn => ⟨(h3 hn).1, Nat.lt_of_lt_of_le (h3 hn).2.1 hw.size, fun o => (hw.frz _ _ (h3 hn).2.1).trans ((h3 hn).2.2 o)⟩,
    fun hn => ⟨(h4 hn).1, Nat.lt_of_lt_of_le (h4 hn).2.1 hw.size, fun o => (hw.frz _ _ (h4 hn).2.1).trans ((h4 hn).2.2 o)⟩, h5⟩
theorem OwK.mono {B B' : Nat} {w : World} {u v : Value} {xs ys : List Int} (h : OwK B w u v xs ys) (hB : B' ≤ B) : OwK B' w u v xs ys := by
  obtain ⟨b1, b2, h1, h2, h3, h4, h5⟩ := h
  exact ⟨b1, b2, h1, h2, fun hn => ⟨Nat.le_trans hB (h3 hn).1, (h3 hn).2⟩, fun hn => ⟨Nat.le_trans hB (h4 hn).1, (h4 hn).2⟩, h5⟩
theorem IvK.wr {lo hi : Nat} {T : Nat → Prop} {w w' : World} {u v : Value} {xs ys : List Int} (h : IvK lo hi w u v xs ys) (hw : Wr T w w') (hd : ∀ b, lo ≤ b → b < hi → ¬ T b) : IvK lo hi w' u v xs ys := by
  obtain ⟨b1, b2, h1, h2, h3, h4, h5⟩ := h
  exact ⟨b1, b2, h1.wr hw (fun hn b hb => hb ▸ hd _ (h3 hn).1 (h3 hn).2.1), h2.wr hw (fun hn b hb => hb ▸ hd _ (h4 hn).1 (h4 hn).2.1),
    fun hn => ⟨(h3 hn).1, (h3 hn).2.1, Nat.lt_of_lt_of_le (h3 hn).2.2.1 hw.size, fun o => (hw.frz _ _ (h3 hn).2.2.1).trans ((h3 hn).2.2.2 o)⟩,
    fun hn => ⟨(h4 hn).1, (h4 hn).2.1, Nat.lt_of_lt_of_le (h4 hn).2.2.1 hw.size, fun o => (hw.frz _ _ (h4 hn).2.2.1).trans ((h4 hn).2.2.2 o)⟩, h5⟩
theorem IvK.later {lo hi : Nat} {w w' : World} {u v : Value} {xs ys : List Int} (h : IvK lo hi w u v xs ys) (hb : Below w.heap.size w w') : IvK lo hi w' u v xs ys :=
  h.wr (Wr.of_below hb fun _ => False) fun _ _ _ => id
theorem MkK.wr {k : Int} {lo hi : Nat} {T : Nat → Prop} {w w' : World} {u v : Value} {n m : Nat} (h : MkK k lo hi w u v n m) (hw : Wr T w w') (hd : ∀ b, lo ≤ b → b < hi → ¬ T b) : MkK k lo hi w' u v n m :=
  ⟨h.1.wr hw fun _ b hb => hd b hb.1 hb.2, h.2.wr hw fun _ b hb => hd b hb.1 hb.2⟩
theorem MkK.later {k : Int} {lo hi : Nat} {w w' : World} {u v : Value} {n m : Nat} (h : MkK k lo hi w u v n m) (hb : Below w.heap.size w w') : MkK k lo hi w' u v n m :=
  ⟨h.1.later hb, h.2.later hb⟩

/-- What a function leaves that answers a code with two lists. -/
def EndsK (code : Int) (xs ys : List Int) (w : World) : Ending → World → Prop := fun e w' => ∃ u v, e = .returned (.agg #[.int .i64 code, u, v]) ∧ Below w.heap.size w w' ∧ OwK w.heap.size w' u v xs ys
end Go.Proofs.YtlmaopljihbdkaaGreat
