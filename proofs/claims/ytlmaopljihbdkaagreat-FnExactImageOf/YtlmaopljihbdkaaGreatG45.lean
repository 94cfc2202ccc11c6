/- Sn2 ApplyN in one text: what each says stands at its head below. -/
import Derived.Test.YtlmaopljihbdkaaGreatG36
import Derived.Test.YtlmaopljihbdkaaGreatG39
/- Chapter 11: 'impl.SnapPuts', walked. Made by program (gensn2.py, out of Im2). -/
namespace Go.Proofs.YtlmaopljihbdkaaGreat
open Go.RowKit Go.Shelf
theorem snP_words (r : Rf) (i : Nat) : ((snP r).getD i (0, [])).2.length ≤ 8 := by
  rcases Nat.lt_or_ge i (sbL r).length with h | h
  · rw [snP_at h]
    simp only [List.length_take]
    omega
  · have : (snP r).getD i (0, []) = (0, []) := by simp [List.getD, snP_len, h]
    rw [this]
    simp
theorem totP_le11 {ps : List (Int × List Int)} {c : Nat} (h : ∀ i, (ps.getD i (0, [])).2.length ≤ c) : ∀ i, i ≤ ps.length → totP ps i ≤ i * (c + 1)
  | 0, _ => by simp [totP]
  | i + 1, hi => by
    have := totP_le11 h i (by omega)
    have h2 := h i
    rw [totP_succ _ _ (by omega), Nat.add_mul]
    omega
theorem snR_tot (r : Rf) : totP (snR r) (snR r).length ≤ 1048576 := by
  unfold snR
  split
  · rename_i h
    have h1 := totP_le11 (snP_words r) _ (Nat.le_refl _)
    have h2 := (sbL_some (rf_words h)).1
    rw [snP_len] at h1 ⊢
    omega
  · simp [totP]
theorem snR_bad {r : Rf} (h : rfF r ≠ 0) : snR r = [] := by unfold snR; rw [if_neg h]
theorem snR_ok {r : Rf} (h : rfF r = 0) : snR r = snP r := by unfold snR; rw [if_pos h]
theorem ret_putsS {w w3 : World} {P : Nat → Prop} {r : Nat} {z x : Value} {ps : List (Int × List Int)} (hb : Below w.heap.size w w3) (hr : w.heap.size ≤ r) (ho : OwP P w3 z ps) (hP : ∀ b, P b → r < b ∧ b < w3.heap.size) :
    Below w.heap.size w ((w3.setCell ⟨r, 0, none⟩ x).setCell ⟨r, 1, none⟩ z) ∧ OwP (fun b => w.heap.size ≤ b ∧ b < ((w3.setCell ⟨r, 0, none⟩ x).setCell ⟨r, 1, none⟩ z).heap.size) ((w3.setCell ⟨r, 0, none⟩ x).setCell ⟨r, 1, none⟩ z) z ps := by
  have hw : Wr (fun q => q = r) w3 ((w3.setCell ⟨r, 0, none⟩ x).setCell ⟨r, 1, none⟩ z) := ((Wr.refl (fun q => q = r) _).setCell (p := ⟨r, 0, none⟩) rfl _).setCell (p := ⟨r, 1, none⟩) rfl _
  exact ⟨(hb.setCell (p := ⟨r, 0, none⟩) hr _).setCell (p := ⟨r, 1, none⟩) hr _, (ho.wr hw (fun b h e => by have := hP b h; omega)).mono fun b h => ⟨by have := hP b h; omega, Nat.lt_of_lt_of_le (hP b h).2 hw.size⟩⟩

set_option maxHeartbeats 2000000 in
set_option maxRecDepth 4000 in
theorem snapBlocksI (a b c d : Int) (ay : Option Addr) (l cy : Nat) (az : Option Addr) (m cz : Nat) (w : World) :
    Calls Tryz.prog 86 #[.agg #[.int .i64 a, .int .i64 b, .int .i64 c, .int .i64 d, .slice ay l cy, .slice az m cz]] w fun e w' => e = .returned (.func (.func 133) #[] #[.pointer (some ⟨w.heap.size, 0, none⟩)]) ∧ w' = w.alloc (.cells #[.int .i64 a, .int .i64 b, .int .i64 c, .int .i64 d, .slice ay l cy, .slice az m cz] 33) := by
  go_enter Tryz.func86, Tryz.ntmps86
  go_wp2
  go_ret
  exact ⟨rfl, rfl⟩
theorem snapCollect {S T : Nat → Prop} {w : World} {ay az : Option Addr} {cy cz : Nat} (r : Rf) (hy : RdI S w (.slice ay r.sn.length cy) r.sn) (hz : RdJ T w (.slice az r.lg.length cz) r.lg) (hl : r.sn.length ≤ 40) (hcy : capE (.slice ay r.sn.length cy)) :
    Calls Tryz.prog 81 #[.func (.func 133) #[] #[.pointer (some ⟨w.heap.size, 0, none⟩)]] (w.alloc (.cells #[.int .i64 r.tm, .int .i64 r.vt, .int .i64 r.si, .int .i64 r.st, .slice ay r.sn.length cy, .slice az r.lg.length cz] 33)) fun e w' =>
      ∃ u, e = .returned u ∧ Below (w.alloc (.cells #[.int .i64 r.tm, .int .i64 r.vt, .int .i64 r.si, .int .i64 r.st, .slice ay r.sn.length cy, .slice az r.lg.length cz] 33)).heap.size (w.alloc (.cells #[.int .i64 r.tm, .int .i64 r.vt, .int .i64 r.si, .int .i64 r.st, .slice ay r.sn.length cy, .slice az r.lg.length cz] 33)) w' ∧ OwP (fun b => w.heap.size + 1 ≤ b ∧ b < w'.heap.size) w' u (snP r) := by
  have hbA := below_alloc w (.cells #[.int .i64 r.tm, .int .i64 r.vt, .int .i64 r.si, .int .i64 r.st, .slice ay r.sn.length cy, .slice az r.lg.length cz] 33)
  have hl5 := (sbL_some hl).1
  refine (collectP (enters_of Tryz.func133 (by kernel_rfl) rfl) (fun m => snapSeq r (by simp [go_sem]) (by simp [go_sem]) (by simp [go_sem]) (by simp [go_sem]) (by simp [go_sem]) (by simp [go_sem]) (hy.inw.later hbA) (hz.later hbA) hl hcy (fun b hb => by simp; omega) m) (fun b hb => by simp; omega) (by rw [snP_len]; omega)).mono ?_
  rintro e w' ⟨u, rfl, hb, hbl⟩
  exact ⟨u, rfl, hbl, (hb.ow rfl (by rw [snP_len]; omega)).mono fun b h => ⟨by have := h.1; simp at this; omega, h.2⟩⟩

end Go.Proofs.YtlmaopljihbdkaaGreat
/- Views as maps: one put laid into a rising list. -/
namespace Go.Proofs.YtlmaopljihbdkaaGreat

def dnB (p : Int × List Int) (L : List (Int × List Int)) : Nat → Bool
  | 0 => decide (p.2 = [])
  | k + 1 => dnB p L k || decide (p.1 ≤ (L.getD k (0, [])).1)
def insP (p : Int × List Int) (L : List (Int × List Int)) : Nat → List (Int × List Int)
  | 0 => []
  | k + 1 => (insP p L k ++ if dnB p L k = false ∧ p.1 ≤ (L.getD k (0, [])).1 then [p] else []) ++ if (L.getD k (0, [])).1 = p.1 then [] else [L.getD k (0, [])]
def insF (p : Int × List Int) (L : List (Int × List Int)) : List (Int × List Int) := insP p L L.length ++ if dnB p L L.length = false then [p] else []

theorem dnB_iff (p : Int × List Int) (L : List (Int × List Int)) : ∀ k, dnB p L k = true ↔ p.2 = [] ∨ ∃ j, j < k ∧ p.1 ≤ (L.getD j (0, [])).1
  | 0 => by simp [dnB]
  | k + 1 => by
    rw [dnB, Bool.or_eq_true, dnB_iff p L k, decide_eq_true_eq]
    constructor
    · rintro ((h | ⟨j, h1, h2⟩) | h)
      · exact Or.inl h
      · exact Or.inr ⟨j, by omega, h2⟩
      · exact Or.inr ⟨k, by omega, h⟩
    · rintro (h | ⟨j, h1, h2⟩)
      · exact Or.inl (Or.inl h)
      · by_cases e : j = k
        · subst e; exact Or.inr h2
        · exact Or.inl (Or.inr ⟨j, by omega, h2⟩)
theorem insP_all {p : Int × List Int} {L : List (Int × List Int)} (hL : L.Pairwise fun a b => a.1 < b.1) : ∀ k, k ≤ L.length →
    ((insP p L k).Pairwise fun a b => a.1 < b.1) ∧ ∀ x, x ∈ insP p L k ↔ ((∃ j, j < k ∧ x = L.getD j (0, []) ∧ x.1 ≠ p.1) ∨ (x = p ∧ p.2 ≠ [] ∧ dnB p L k = true)) := by
  have hlt : ∀ i j, i < j → j < L.length → (L.getD i (0, [])).1 < (L.getD j (0, [])).1 := fun i j hij hj => by
    have := List.pairwise_iff_getElem.1 hL i j (by omega) hj hij
    simpa [List.getD, hj, show i < L.length by omega] using this
  intro k
  induction k with
  | zero =>
    intro _
    refine ⟨List.Pairwise.nil, fun x => ⟨fun h => by simp [insP] at h, fun h => ?_⟩⟩
    rcases h with ⟨j, h, _⟩ | ⟨_, h1, h2⟩
    · omega
    · rw [dnB, decide_eq_true_eq] at h2
      exact absurd h2 h1
  | succ k ih =>
    intro hk
    obtain ⟨h1, h2⟩ := ih (by omega)
    obtain ⟨q, hq⟩ : ∃ q, L.getD k (0, []) = q := ⟨_, rfl⟩
    have hdn := dnB_iff p L k
    have hmid : ((insP p L k ++ if dnB p L k = false ∧ p.1 ≤ q.1 then [p] else []).Pairwise fun a b => a.1 < b.1) ∧
        ∀ x, x ∈ (insP p L k ++ if dnB p L k = false ∧ p.1 ≤ q.1 then [p] else []) ↔ ((∃ j, j < k ∧ x = L.getD j (0, []) ∧ x.1 ≠ p.1) ∨ (x = p ∧ p.2 ≠ [] ∧ dnB p L (k + 1) = true)) := by
      by_cases hc : dnB p L k = false ∧ p.1 ≤ q.1
      · rw [if_pos hc]
        have hno : ¬ (p.2 = [] ∨ ∃ j, j < k ∧ p.1 ≤ (L.getD j (0, [])).1) := fun h => by rw [hdn.2 h] at hc; exact absurd hc.1 (by decide)
        refine ⟨List.pairwise_append.2 ⟨h1, by simp, fun a ha b hb => ?_⟩, fun x => ?_⟩
        · simp at hb
          subst hb
          rcases (h2 a).1 ha with ⟨j, hj, rfl, _⟩ | ⟨_, _, h⟩
          · by_cases e : (L.getD j (0, [])).1 < b.1
            · exact e
            · exact absurd (Or.inr ⟨j, hj, by omega⟩) hno
          · rw [hc.1] at h; exact absurd h (by decide)
        · rw [List.mem_append, h2 x, hc.1]
          have hd1 : dnB p L (k + 1) = true := by rw [dnB, hq]; simp [hc.2]
          rw [hd1]
          constructor
          · rintro ((h | ⟨_, _, h⟩) | h)
            · exact Or.inl h
            · exact absurd h (by decide)
            · exact Or.inr ⟨by simpa using h, fun e => hno (Or.inl e), rfl⟩
          · rintro (h | ⟨h, _⟩)
            · exact Or.inl (Or.inl h)
            · exact Or.inr (by simpa using h)
      · rw [if_neg hc, List.append_nil]
        refine ⟨h1, fun x => ?_⟩
        rw [h2 x]
        have hd1 : dnB p L (k + 1) = dnB p L k := by
          rw [dnB, hq]
          cases hb : dnB p L k
          · have : ¬ p.1 ≤ q.1 := fun h => hc ⟨hb, h⟩
            simp [this]
          · rfl
        rw [hd1]
    obtain ⟨m1, m2⟩ := hmid
    rw [insP, hq]
    by_cases he : q.1 = p.1
    · rw [if_pos he, List.append_nil]
      refine ⟨m1, fun x => ?_⟩
      rw [m2 x]
      constructor
      · rintro (⟨j, a, b⟩ | h)
        · exact Or.inl ⟨j, by omega, b⟩
        · exact Or.inr h
      · rintro (⟨j, a, b, c⟩ | h)
        · by_cases e : j = k
          · subst e; rw [b, hq] at c; exact absurd he c
          · exact Or.inl ⟨j, by omega, b, c⟩
        · exact Or.inr h
    · rw [if_neg he]
      refine ⟨List.pairwise_append.2 ⟨m1, by simp, fun a ha b hb => ?_⟩, fun x => ?_⟩
      · simp at hb
        subst hb
        rcases (m2 a).1 ha with ⟨j, hj, rfl, _⟩ | ⟨rfl, hpn, hd⟩
        · have := hlt j k hj (by omega); rw [hq] at this; exact this
        · rcases (dnB_iff a L (k + 1)).1 hd with h | ⟨j, hj, hle⟩
          · exact absurd h hpn
          · by_cases e : j = k
            · subst e; rw [hq] at hle; omega
            · have := hlt j k (by omega) (by omega); rw [hq] at this; omega
      · rw [List.mem_append, m2 x]
        constructor
        · rintro ((⟨j, a, b⟩ | h) | h)
          · exact Or.inl ⟨j, by omega, b⟩
          · exact Or.inr h
          · have hx : x = q := by simpa using h
            exact Or.inl ⟨k, by omega, by rw [hq]; exact hx, by rw [hx]; exact he⟩
        · rintro (⟨j, a, b, c⟩ | h)
          · by_cases e : j = k
            · subst e; rw [hq] at b; exact Or.inr (by simp [b])
            · exact Or.inl (Or.inl ⟨j, by omega, b, c⟩)
          · exact Or.inl (Or.inr h)
/-- A put that is laid into a view. -/
theorem insF_view (M : Int → List Int) (p : Int × List Int) (h0 : 0 ≤ p.1) (h1 : p.1 < 40) : insF p (viewTo M 40) = viewTo (putM M p) 40 := by
  obtain ⟨L, hL⟩ : ∃ L, viewTo M 40 = L := ⟨_, rfl⟩
  have hp : L.Pairwise fun a b => a.1 < b.1 := by rw [← hL]; exact view_lt _ _
  have hm : ∀ x, x ∈ L ↔ 0 ≤ x.1 ∧ x.1 < 40 ∧ x.2 ≠ [] ∧ x.2 = M x.1 := fun x => by rw [← hL]; exact view_mem _ _ _
  obtain ⟨k1, k2⟩ := insP_all (p := p) hp L.length (Nat.le_refl _)
  have hgm : ∀ x, (∃ j, j < L.length ∧ x = L.getD j (0, []) ∧ x.1 ≠ p.1) ↔ x ∈ L ∧ x.1 ≠ p.1 := fun x => by
    constructor
    · rintro ⟨j, hj, rfl, hn⟩
      exact ⟨by simp [List.getD, hj], hn⟩
    · rintro ⟨hx, hn⟩
      obtain ⟨j, hj, rfl⟩ := List.getElem_of_mem hx
      exact ⟨j, hj, by simp [List.getD, hj], hn⟩
  rw [hL]
  refine rising_eq ?_ (view_lt _ _) fun x => ?_
  · unfold insF
    by_cases hd : dnB p L L.length = false
    · rw [if_pos hd]
      refine List.pairwise_append.2 ⟨k1, by simp, fun a ha b hb => ?_⟩
      simp at hb
      subst hb
      rcases (k2 a).1 ha with ⟨j, hj, rfl, _⟩ | ⟨_, _, h⟩
      · by_cases e : (L.getD j (0, [])).1 < b.1
        · exact e
        · have : dnB b L L.length = true := (dnB_iff b L _).2 (Or.inr ⟨j, hj, by omega⟩)
          rw [hd] at this
          exact absurd this (by decide)
      · rw [hd] at h; exact absurd h (by decide)
    · rw [if_neg hd, List.append_nil]; exact k1
  · have hfin : x ∈ insF p L ↔ (x ∈ L ∧ x.1 ≠ p.1) ∨ (x = p ∧ p.2 ≠ []) := by
      unfold insF
      rw [List.mem_append, k2 x, hgm x]
      cases hd : dnB p L L.length
      · have hpn : p.2 ≠ [] := fun h => by rw [(dnB_iff p L _).2 (Or.inl h)] at hd; exact absurd hd (by decide)
        constructor
        · rintro ((h | ⟨_, _, h⟩) | h)
          · exact Or.inl h
          · exact absurd h (by decide)
          · exact Or.inr ⟨by simpa using h, hpn⟩
        · rintro (h | ⟨h, _⟩)
          · exact Or.inl (Or.inl h)
          · exact Or.inr (by simpa using h)
      · constructor
        · rintro ((h | ⟨h, hn, _⟩) | h)
          · exact Or.inl h
          · exact Or.inr ⟨h, hn⟩
          · simp at h
        · rintro (h | ⟨h, hn⟩)
          · exact Or.inl (Or.inl h)
          · exact Or.inl (Or.inr ⟨h, hn, rfl⟩)
    rw [hfin, view_mem, hm x]
    unfold putM
    by_cases e : x.1 = p.1
    · rw [if_pos e]
      constructor
      · rintro (⟨_, h⟩ | ⟨rfl, hn⟩)
        · exact absurd e h
        · exact ⟨h0, h1, hn, rfl⟩
      · rintro ⟨_, _, a, b⟩
        exact Or.inr ⟨Prod.ext e b, by rw [← b]; exact a⟩
    · rw [if_neg e]
      constructor
      · rintro (⟨⟨a, b, c, d⟩, _⟩ | ⟨rfl, _⟩)
        · exact ⟨a, b, c, d⟩
        · exact absurd rfl e
      · rintro ⟨a, b, c, d⟩
        exact Or.inl ⟨⟨a, b, c, d⟩, e⟩
end Go.Proofs.YtlmaopljihbdkaaGreat
