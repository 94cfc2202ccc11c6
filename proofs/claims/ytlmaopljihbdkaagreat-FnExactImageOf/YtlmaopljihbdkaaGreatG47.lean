/- Cat Last AbsI AbsS in one text: what each says stands at its head below. -/
import Derived.Test.YtlmaopljihbdkaaGreatG46
import Derived.Laws.AppendOwnNone
import Derived.Test.YtlmaopljihbdkaaGreatG34
/- Chapter 4: slices.Grow and slices.Concat of puts, walked. -/
namespace Go.Proofs.YtlmaopljihbdkaaGreat
open Go.RowKit Go.Maps
theorem cellsP_two (ps : List (Int × List Int)) (k : Nat) (V : Nat → Value) (j : Nat) (h : j < k * 2) : (cellsP ps k V)[j]? = some (if j % 2 = 0 then .int .i64 (ps.getD (j / 2) (0, [])).1 else V (j / 2)) := by
  unfold cellsP
  rw [List.getElem?_map, List.getElem?_range h]
  rfl
theorem cellsP_append (L M : List (Int × List Int)) (V V' : Nat → Value) : cellsP (L ++ M) (L.length + M.length) (fun i => if i < L.length then V i else V' (i - L.length)) = cellsP L L.length V ++ cellsP M M.length V' := by
  apply List.ext_getElem?
  intro j
  by_cases h1 : j < L.length * 2
  · rw [List.getElem?_append_left (by rw [cellsP_len]; exact h1), cellsP_two _ _ _ _ h1, cellsP_two _ _ _ _ (by omega)]
    have h2 : j / 2 < L.length := by omega
    have e : (L ++ M).getD (j / 2) (0, []) = L.getD (j / 2) (0, []) := by simp [List.getD, List.getElem?_append_left h2]
    rw [e, if_pos h2]
  · rw [List.getElem?_append_right (by rw [cellsP_len]; omega), cellsP_len]
    by_cases h3 : j < (L.length + M.length) * 2
    · rw [cellsP_two _ _ _ _ h3, cellsP_two _ _ _ _ (by omega)]
      have h2 : ¬ j / 2 < L.length := by omega
      have e1 : (j - L.length * 2) / 2 = j / 2 - L.length := by omega
      have e2 : (j - L.length * 2) % 2 = j % 2 := by omega
      have e : (L ++ M).getD (j / 2) (0, []) = M.getD (j / 2 - L.length) (0, []) := by simp [List.getD, List.getElem?_append_right (show L.length ≤ j / 2 by omega)]
      rw [e, if_neg h2, e1, e2]
    · rw [List.getElem?_eq_none (by rw [cellsP_len]; omega), List.getElem?_eq_none (by rw [cellsP_len]; omega)]
theorem cellsP_one {S : Nat → Prop} {w : World} {M : List (Int × List Int)} {V : Nat → Value} (h : ∀ i, i < M.length → RdI S w (V i) (M.getD i (0, [])).2) : ∀ u ∈ cellsP M M.length V, u.oneCell' = true := by
  intro u hu
  obtain ⟨j, hj⟩ := List.mem_iff_getElem?.1 hu
  have hlt : j < M.length * 2 := by
    have := (List.getElem?_eq_some_iff.1 hj).1
    rwa [cellsP_len] at this
  rw [cellsP_two _ _ _ _ hlt] at hj
  injection hj with hj
  subst hj
  by_cases e : j % 2 = 0
  · rw [if_pos e]; rfl
  · rw [if_neg e]
    obtain ⟨a, c, e'⟩ := (h (j / 2) (by omega)).shape
    rw [e']; rfl
theorem cellsP_at {w : World} {M : List (Int × List Int)} {V : Nat → Value} {b off : Nat} (h : ∀ i, i < M.length → w.cell? ⟨b, off + i * 2, none⟩ = some (.int .i64 (M.getD i (0, [])).1) ∧ w.cell? ⟨b, off + i * 2 + 1, none⟩ = some (V i)) :
    ∀ j u, (cellsP M M.length V)[j]? = some u → w.cell? ((⟨b, off, none⟩ : Addr).add j) = some u := by
  intro j u hj
  have hlt : j < M.length * 2 := by
    have := (List.getElem?_eq_some_iff.1 hj).1
    rwa [cellsP_len] at this
  rw [cellsP_two _ _ _ _ hlt] at hj
  injection hj with hj
  subst hj
  have := h (j / 2) (by omega)
  by_cases e : j % 2 = 0
  · rw [if_pos e]
    have e2 : off + j / 2 * 2 = off + j := by omega
    rw [← this.1, e2]; unfold Addr.add; split <;> simp_all
  · rw [if_neg e]
    have e2 : off + j / 2 * 2 + 1 = off + j := by omega
    rw [← this.2, e2]; unfold Addr.add; split <;> simp_all
theorem RowP.join {B : Nat} {w w3 : World} {v v3 : Value} {L M : List (Int × List Int)} {V V' : Nat → Value} {k : Nat} (hk : M.length = k) (h1 : w.ownsRow B 74 2 v L.length (cellsP L L.length V)) (h2 : ∀ i, i < L.length → RdI (fun b => b < B) w (V i) (L.getD i (0, [])).2) (hB : B ≤ w.heap.size)
    (hz : ∀ i, i < M.length → RdI (fun b => b < B) w (V' i) (M.getD i (0, [])).2) (hown : w3.ownsRow B 74 2 v3 (L.length + k) (cellsP L L.length V ++ cellsP M M.length V')) (hg : w.grownBy w3 v.ownBlock) :
    RowP B w3 v3 (L ++ M) ∧ Below B w w3 := by
  subst hk
  have hb : Below B w w3 := ((Below.refl B w)).grown hg hB (fun r hr => (h1.lt r hr).1)
  refine ⟨⟨fun i => if i < L.length then V i else V' (i - L.length), ?_, fun i hi => ?_⟩, hb⟩
  · rw [List.length_append, cellsP_append]
    exact hown
  · rw [List.length_append] at hi
    by_cases h : i < L.length
    · have e : (L ++ M).getD i (0, []) = L.getD i (0, []) := by simp [List.getD, List.getElem?_append_left h]
      rw [e]
      simp only [if_pos h]
      exact (h2 i h).under hb
    · have e : (L ++ M).getD i (0, []) = M.getD (i - L.length) (0, []) := by simp [List.getD, List.getElem?_append_right (show L.length ≤ i by omega)]
      rw [e]
      simp only [if_neg h]
      exact (hz _ (by omega)).under hb

theorem run_append_zeroR {w : World} (base : Nat) (t ty e : TypeId) (i : TypeInfo) (size : Nat) (ht : Tryz.prog.underlying t = some (.slice e)) (hi : Tryz.prog.info? e = some i)
    (v : Value) (n : Nat) (xs : List Value) (hown : w.ownsRow base e size v n xs) (ao : Option Addr) (c : Nat) :
    (Builtin.append_ #[t, t] ty #[v, .slice ao 0 c]).run Tryz.prog w = .ok v w := by
  rcases hown.2 with ⟨rfl, rfl⟩ | ⟨g, cap, cur, rfl, _, _, hnc, _⟩
  · exact run_append_zero w t ty e i ht hi none 0 0 (Nat.le_refl _) ao c
  · exact run_append_zero w t ty e i ht hi _ n cap hnc ao c
theorem wpList_append_zeroR {w : World} {ops : Array Oper} {rest : List Oper} {o : Oper} {a : Act} {Q : Exit → Act → World → Prop} (hgd : o.guard = none) (s x : Operand) (t : TypeId)
    (ho : o.op = .call { callee := .builtin .append, args := #[s, x], argTypes := #[t, t] })
    (base : Nat) (e : TypeId) (i : TypeInfo) (size : Nat) (ht : Tryz.prog.underlying t = some (.slice e)) (hi : Tryz.prog.info? e = some i)
    (v : Value) (n : Nat) (xs : List Value) (hs : a.eval s = v) (hown : w.ownsRow base e size v n xs) (ao : Option Addr) (c : Nat) (hx : a.eval x = .slice ao 0 c)
    (h : wpList Tryz.prog ops Q rest (a.put o.dst v) w) : wpList Tryz.prog ops Q (o :: rest) a w := by
  refine wpList_plain hgd fun K hK => ?_
  have hrun := run_append_zeroR (w := w) base t o.type e i size ht hi v n xs hown ao c
  unfold Oper.wp
  simp [execOp, ho, resolve, invoke, builtin, hs, hx, hrun, Result.andThen]
  exact hK _ _ h

end Go.Proofs.YtlmaopljihbdkaaGreat
/- Chapter 4: of each block the last put alone: 'impl.lastOfEach', walked. -/
namespace Go.Proofs.YtlmaopljihbdkaaGreat
open Go.RowKit Go.Maps

theorem zeroInt (w : World) : (zeroValue 3).run Tryz.prog w = .ok (.int .i64 0) w := by kernel_rfl

/-- Behind k puts: the number of the last one of block x. -/
def lastI (ps : List (Int × List Int)) : Nat → Int → Int
  | 0, _ => 0
  | k + 1, x => if x = (ps.getD k (0, [])).1 then (k : Int) else lastI ps k x
theorem lastI_ge (ps : List (Int × List Int)) (x : Int) : ∀ n j, j < n → (ps.getD j (0, [])).1 = x → (j : Int) ≤ lastI ps n x
  | 0, _, h, _ => absurd h (Nat.not_lt_zero _)
  | n + 1, j, h, e => by
    unfold lastI
    by_cases e2 : x = (ps.getD n (0, [])).1
    · rw [if_pos e2]; omega
    · rw [if_neg e2]
      refine lastI_ge ps x n j ?_ e
      have : j ≠ n := by rintro rfl; exact e2 e.symm
      omega
theorem lastI_eq (ps : List (Int × List Int)) (x : Int) : ∀ n i, i < n → (ps.getD i (0, [])).1 = x → (∀ j, i < j → j < n → (ps.getD j (0, [])).1 ≠ x) → lastI ps n x = (i : Int)
  | 0, _, h, _, _ => absurd h (Nat.not_lt_zero _)
  | n + 1, i, h, e, hl => by
    unfold lastI
    by_cases e2 : i = n
    · subst e2; rw [if_pos e.symm]
    · rw [if_neg (fun e3 => hl n (by omega) (by omega) e3.symm)]
      exact lastI_eq ps x n i (by omega) e (fun j h1 h2 => hl j h1 (by omega))
theorem lastI_iff (ps : List (Int × List Int)) (n i : Nat) (hi : i < n) : lastI ps n (ps.getD i (0, [])).1 = (i : Int) ↔ ∀ j, i < j → j < n → (ps.getD j (0, [])).1 ≠ (ps.getD i (0, [])).1 := by
  refine ⟨fun h j h1 h2 e => ?_, fun h => lastI_eq ps _ n i hi rfl h⟩
  have := lastI_ge ps _ n j h2 e
  omega
/-- Of the first k puts of n those that are the last one of their block. -/
def absP (ps : List (Int × List Int)) (n : Nat) : Nat → List (Int × List Int)
  | 0 => []
  | k + 1 => absP ps n k ++ if lastI ps n (ps.getD k (0, [])).1 = (k : Int) then [ps.getD k (0, [])] else []
theorem absP_len (ps : List (Int × List Int)) (n : Nat) : ∀ k, (absP ps n k).length ≤ k
  | 0 => Nat.le_refl _
  | k + 1 => by
    have := absP_len ps n k
    rw [absP, List.length_append]
    split <;> simp <;> omega
theorem absP_pre (ps : List (Int × List Int)) (n : Nat) : ∀ d k, ∃ r, absP ps n (k + d) = absP ps n k ++ r
  | 0, k => ⟨[], by simp⟩
  | d + 1, k => by
    obtain ⟨r, hr⟩ := absP_pre ps n d k
    exact ⟨_, by rw [← Nat.add_assoc, absP, hr, List.append_assoc]⟩
theorem absP_at (ps : List (Int × List Int)) (n k : Nat) (hk : k < n) (h : lastI ps n (ps.getD k (0, [])).1 = (k : Int)) : (absP ps n n).getD (absP ps n k).length (0, []) = ps.getD k (0, []) := by
  obtain ⟨r, hr⟩ := absP_pre ps n (n - (k + 1)) (k + 1)
  rw [show k + 1 + (n - (k + 1)) = n by omega] at hr
  rw [hr, absP, if_pos h, List.append_assoc]
  simp [List.getD]
theorem absP_word {ps : List (Int × List Int)} {n C : Nat} (hw : ∀ i, i < n → (ps.getD i (0, [])).2.length ≤ C) : ∀ k, k ≤ n → ∀ p ∈ absP ps n k, p.2.length ≤ C
  | 0, _, p, hp => by simp [absP] at hp
  | k + 1, hk, p, hp => by
    rw [absP, List.mem_append] at hp
    rcases hp with hp | hp
    · exact absP_word hw k (by omega) p hp
    · split at hp
      · rw [List.mem_singleton] at hp; subst hp; exact hw k (by omega)
      · simp at hp

/-- Block B is a map of at most n entries; at each home block it has the number that f tells. -/
def LastAt (w : World) (B n : Nat) (f : Int → Int) : Prop :=
  ∃ D : DataW Value, w.ownsMap Tryz.prog 2 asIs B n D ∧ ∀ a : Int, 0 ≤ a → a < 40 → D.atKey (.int .i64 a) (.held (.int .i64 0)) = .held (.int .i64 (f a))
theorem LastAt.later {w w' : World} {B n : Nat} {f : Int → Int} (h : LastAt w B n f) (hb : Below w.heap.size w w') : LastAt w' B n f := by
  obtain ⟨D, h1, h2⟩ := h
  exact ⟨D, h1.kept (grown_below (row := none) hb) (by simp), h2⟩
theorem LastAt.put {w w' : World} {B n : Nat} {f : Int → Int} {D : DataW Value} {x i : Int} (h1 : w.ownsMap Tryz.prog 2 asIs B n D) (h2 : ∀ a : Int, 0 ≤ a → a < 40 → D.atKey (.int .i64 a) (.held (.int .i64 0)) = .held (.int .i64 (f a)))
    (hown : w'.ownsMap Tryz.prog 2 asIs B (n + 1) (D.put (.int .i64 x) (.held (.int .i64 i)))) : LastAt w' B (n + 1) (fun a => if a = x then i else f a) := by
  refine ⟨_, hown, fun a h3 h4 => ?_⟩
  by_cases e : a = x
  · subst e
    simp only [if_true]
    exact atKey_put_same h1.isMap (by trivial) _ _
  · simp only [if_neg e]
    exact (atKey_put_other (by intro h; injection h with _ h; exact e h) _ _).trans (h2 a h3 h4)

end Go.Proofs.YtlmaopljihbdkaaGreat
/- Chapter 4: 'impl.AbsorbPuts', walked. -/
namespace Go.Proofs.YtlmaopljihbdkaaGreat
open Go.RowKit Go.Maps

/-- The code of AbsorbPuts; the puts that it tells. -/
def abC (as' bs' : List (Int × List Int)) : Int := if hpF 60 as' = 0 then (if hpF 60 bs' = 0 then (if 60 < as'.length + bs'.length then 2 else 0) else hpF 60 bs') else hpF 60 as'
def abR (as' bs' : List (Int × List Int)) : List (Int × List Int) := if abC as' bs' = 0 then absP (as' ++ bs') (as' ++ bs').length (as' ++ bs').length else []
theorem abC_zero {vs ps : List (Int × List Int)} (h : abC vs ps = 0) : hpF 60 vs = 0 ∧ hpF 60 ps = 0 ∧ vs.length + ps.length ≤ 60 := by
  unfold abC at h
  by_cases h1 : hpF 60 vs = 0
  · rw [if_pos h1] at h
    by_cases h2 : hpF 60 ps = 0
    · rw [if_pos h2] at h
      by_cases h3 : 60 < vs.length + ps.length
      · rw [if_pos h3] at h; exact absurd h (by decide)
      · exact ⟨h1, h2, by omega⟩
    · rw [if_neg h2] at h; exact absurd h h2
  · rw [if_neg h1] at h; exact absurd h h1
theorem ab_all {vs ps : List (Int × List Int)} (h1 : hpF 60 vs = 0) (h2 : hpF 60 ps = 0) : ∀ i, i < (vs ++ ps).length → 0 ≤ ((vs ++ ps).getD i (0, [])).1 ∧ ((vs ++ ps).getD i (0, [])).1 < 40 ∧ ((vs ++ ps).getD i (0, [])).2.length ≤ 64 := by
  intro i hi
  rw [List.length_append] at hi
  by_cases h : i < vs.length
  · have e : (vs ++ ps).getD i (0, []) = vs.getD i (0, []) := by simp [List.getD, List.getElem?_append_left h]
    rw [e]
    exact (hpF_all h1).2 i h
  · have e : (vs ++ ps).getD i (0, []) = ps.getD (i - vs.length) (0, []) := by simp [List.getD, List.getElem?_append_right (show vs.length ≤ i by omega)]
    rw [e]
    exact (hpF_all h2).2 _ (by omega)

end Go.Proofs.YtlmaopljihbdkaaGreat
/- Chapter 4: 'spec.AbsorbPuts', walked: rows of puts joined, and what is taken out of them. -/
namespace Go.Proofs.YtlmaopljihbdkaaGreat
open Go.RowKit Go.Maps

theorem RdI.grownN {S : Nat → Prop} {w w' : World} {v : Value} {xs : List Int} {row : Option Nat} (h : RdI S w v xs) (hS : xs ≠ [] → ∀ b, S b → some b ≠ row) (hg : w.grownBy w' row) : RdI S w' v xs := by
  obtain ⟨ao, c, e1, e2, e3⟩ := h
  refine ⟨ao, c, e1, e2, fun hne => ?_⟩
  obtain ⟨b, off, f1, f2, f3⟩ := e3 hne
  exact ⟨b, off, f1, f2, fun j hj => (World.cell?_of_block (hg.block b (World.block_lt_of_cell? _ _ (f3 j hj)) (fun e => hS hne b f2 e))).trans (f3 j hj)⟩

theorem BuiltP.join {Q : Nat → Prop} {w1 w2 w3 : World} {z1 : Value} {r2 : Option Nat} {n m g cap : Nat} {vs ps : List (Int × List Int)} {V1 V2 : Nat → Value} {B1 B2 : Nat → Nat} (hn : vs.length = n) (hm : ps.length = m)
    (h1 : w1.ownsRow 0 74 2 z1 n (cellsP vs n V1)) (p1 : ∀ r, z1.ownBlock = some r → Q r) (i1 : Inner Q w1 z1.ownBlock n V1 B1 (fun i => (vs.getD i (0, [])).2)) (hb : Below w1.heap.size w1 w2)
    (i2 : Inner (w1.heap.size ≤ ·) w2 r2 m V2 B2 (fun i => (ps.getD i (0, [])).2)) (hQ : ∀ b, w1.heap.size ≤ b → Q b)
    (hown : w3.ownsRow 0 74 2 (.slice (some ⟨g, 0, none⟩) (n + m) cap) (n + m) (cellsP vs n V1 ++ cellsP ps ps.length V2)) (hg : w2.grownBy w3 z1.ownBlock) (hat : z1.ownBlock = some g ∨ g = w2.heap.size) :
    BuiltP Q w3 (.slice (some ⟨g, 0, none⟩) (n + m) cap) (n + m) (vs ++ ps) := by
  have hlt : ∀ r, z1.ownBlock = some r → r < w1.heap.size := fun r hr => (h1.lt r hr).2
  have hs := hb.size
  have hs3 := hg.size
  have eL : ∀ i, i < n → (vs ++ ps).getD i (0, []) = vs.getD i (0, []) := fun i hi => by simp [List.getD, List.getElem?_append_left (show i < vs.length by omega)]
  have eR : ∀ i, ¬ i < n → (vs ++ ps).getD i (0, []) = ps.getD (i - n) (0, []) := fun i hi => by simp [List.getD, List.getElem?_append_right (show vs.length ≤ i by omega), hn]
  have fz : ∀ b, b < w2.heap.size → some b ≠ z1.ownBlock → ∀ o, w3.frozen? ⟨b, o, none⟩ = w2.frozen? ⟨b, o, none⟩ := fun b h1 h2 o => World.frozen?_of_block (hg.block b h1 (fun e => h2 e))
  have L : ∀ i, i < n → (vs.getD i (0, [])).2 ≠ [] → Q (B1 i) ∧ B1 i < w1.heap.size ∧ some (B1 i) ≠ z1.ownBlock ∧ (∀ o, w3.frozen? ⟨B1 i, o, none⟩ = false) := fun i hi hne => by
    obtain ⟨k1, k2, k3, k4, _⟩ := i1.own i hi hne
    exact ⟨k1, k2, fun e => k4 e.symm, fun o => (fz _ (by omega) (fun e => k4 e.symm) o).trans (((bcell hb).2 _ _ k2).trans (k3 o))⟩
  have R : ∀ i, i < m → (ps.getD i (0, [])).2 ≠ [] → w1.heap.size ≤ B2 i ∧ B2 i < w2.heap.size ∧ some (B2 i) ≠ z1.ownBlock ∧ (∀ o, w3.frozen? ⟨B2 i, o, none⟩ = false) := fun i hi hne => by
    obtain ⟨k1, k2, k3, k4, _⟩ := i2.own i hi hne
    have hne2 : some (B2 i) ≠ z1.ownBlock := fun e => by have := hlt _ e.symm; omega
    exact ⟨k1, k2, hne2, fun o => (fz _ k2 hne2 o).trans (k3 o)⟩
  refine ⟨fun i => if i < n then V1 i else V2 (i - n), fun i => if i < n then B1 i else B2 (i - n), ?_, fun r hr => ?_, fun i hi => ?_, fun i hi hne => ?_⟩
  · have := cellsP_append vs ps V1 V2
    rw [hn] at this
    rw [hm] at this hown
    rw [this]
    exact hown
  · injection hr with hr
    subst hr
    rcases hat with h | h
    · exact p1 _ h
    · exact hQ _ (by dsimp only; omega)
  · by_cases h : i < n
    · simp only [if_pos h]
      rw [eL i h]
      exact ((i1.rd i h).later hb).grownN (fun hne b e => by rw [e]; exact (L i h hne).2.2.1) hg
    · simp only [if_neg h]
      rw [eR i h]
      exact (i2.rd (i - n) (by omega)).grownN (fun hne b e => by rw [e]; exact (R _ (by omega) hne).2.2.1) hg
  · by_cases h : i < n
    · simp only [if_pos h]
      simp only [eL i h] at hne
      obtain ⟨k1, k2, k3, k4⟩ := L i h hne
      refine ⟨k1, by omega, k4, fun e => ?_, fun j hj hnj e => ?_⟩
      · injection e with e
        rcases hat with h' | h'
        · exact k3 (by rw [h', ← e])
        · dsimp only at e; omega
      · by_cases hj' : j < n
        · simp only [if_pos hj'] at e
          simp only [eL j hj'] at hnj
          exact (i1.own i h hne).2.2.2.2 j hj' hnj e
        · simp only [if_neg hj'] at e
          simp only [eR j hj'] at hnj
          have := (R (j - n) (by omega) hnj).1
          omega
    · simp only [if_neg h]
      simp only [eR i h] at hne
      obtain ⟨k1, k2, k3, k4⟩ := R (i - n) (by omega) hne
      refine ⟨hQ _ k1, by omega, k4, fun e => ?_, fun j hj hnj e => ?_⟩
      · injection e with e
        rcases hat with h' | h'
        · exact k3 (by rw [h', ← e])
        · dsimp only at e; omega
      · by_cases hj' : j < n
        · simp only [if_pos hj'] at e
          simp only [eL j hj'] at hnj
          have := (L j hj' hnj).2.1
          omega
        · simp only [if_neg hj'] at e
          simp only [eR j hj'] at hnj
          have := (i2.own (i - n) (by omega) hne).2.2.2.2 (j - n) (by omega) hnj e
          omega

/-- Of the first k puts of n the numbers of those that are the last one of their block. -/
def absI (ps : List (Int × List Int)) (n : Nat) : Nat → List Nat
  | 0 => []
  | k + 1 => absI ps n k ++ if lastI ps n (ps.getD k (0, [])).1 = (k : Int) then [k] else []
theorem absI_map (ps : List (Int × List Int)) (n : Nat) : ∀ k, absP ps n k = (absI ps n k).map fun i => ps.getD i (0, [])
  | 0 => rfl
  | k + 1 => by
    rw [absP, absI, List.map_append, absI_map ps n k]
    split <;> rfl
theorem absI_lt (ps : List (Int × List Int)) (n : Nat) : ∀ k, (absI ps n k).Pairwise (· < ·) ∧ ∀ i ∈ absI ps n k, i < k
  | 0 => ⟨List.Pairwise.nil, fun i hi => by simp [absI] at hi⟩
  | k + 1 => by
    obtain ⟨h1, h2⟩ := absI_lt ps n k
    rw [absI]
    split
    · refine ⟨List.pairwise_append.2 ⟨h1, List.pairwise_singleton _ _, fun a ha b hb => ?_⟩, fun i hi => ?_⟩
      · rw [List.mem_singleton] at hb; subst hb; exact h2 a ha
      · rcases List.mem_append.1 hi with h | h
        · have := h2 i h; omega
        · rw [List.mem_singleton] at h; omega
    · rw [List.append_nil]
      exact ⟨h1, fun i hi => by have := h2 i hi; omega⟩
theorem absI_pre (ps : List (Int × List Int)) (n : Nat) : ∀ d k, ∃ r, absI ps n (k + d) = absI ps n k ++ r
  | 0, k => ⟨[], by simp⟩
  | d + 1, k => by
    obtain ⟨r, hr⟩ := absI_pre ps n d k
    exact ⟨_, by rw [← Nat.add_assoc, absI, hr, List.append_assoc]⟩
theorem absI_at (ps : List (Int × List Int)) (n k : Nat) (hk : k < n) (h : lastI ps n (ps.getD k (0, [])).1 = (k : Int)) : (absI ps n n).getD (absI ps n k).length 0 = k := by
  obtain ⟨r, hr⟩ := absI_pre ps n (n - (k + 1)) (k + 1)
  rw [show k + 1 + (n - (k + 1)) = n by omega] at hr
  rw [hr, absI, if_pos h, List.append_assoc]
  simp [List.getD]
theorem absI_inj (ps : List (Int × List Int)) (n i j : Nat) (hi : i < (absI ps n n).length) (hj : j < (absI ps n n).length) (h : (absI ps n n).getD i 0 = (absI ps n n).getD j 0) : i = j := by
  have hp := (absI_lt ps n n).1
  have g : ∀ t, t < (absI ps n n).length → (absI ps n n).getD t 0 = (absI ps n n)[t]! := fun t ht => by simp [List.getD, ht]
  rcases Nat.lt_trichotomy i j with h1 | h1 | h1
  · have := List.pairwise_iff_getElem.1 hp i j hi hj h1
    simp [List.getD, hi, hj] at h
    omega
  · exact h1
  · have := List.pairwise_iff_getElem.1 hp j i hj hi h1
    simp [List.getD, hi, hj] at h
    omega

/-- What is taken out of a built row is built. -/
theorem BuiltP.sub {Q : Nat → Prop} {wa wr : World} {ra : Option Nat} {N j O : Nat} {J : List (Int × List Int)} {V : Nat → Value} {Bk : Nat → Nat} {z : Value} (hj : (absI J N N).length = j)
    (hi : Inner Q wa ra N V Bk (fun i => (J.getD i (0, [])).2)) (hO : wa.heap.size = O) (hb : Below O wa wr) (hr : wr.ownsRow (O + 1) 74 2 z j (cellsP (absP J N N) j (fun t => V ((absI J N N).getD t 0)))) (hQ : ∀ b, O < b → Q b) :
    BuiltP Q wr z j (absP J N N) := by
  subst hO
  have hs := hb.size
  have e : ∀ t, t < j → (absP J N N).getD t (0, []) = J.getD ((absI J N N).getD t 0) (0, []) := fun t ht => by
    rw [absI_map]
    simp [List.getD, show t < (absI J N N).length by omega]
  have lt : ∀ t, t < j → (absI J N N).getD t 0 < N := fun t ht => by
    have hm : (absI J N N).getD t 0 ∈ absI J N N := by simp [List.getD, show t < (absI J N N).length by omega]
    exact (absI_lt J N N).2 _ hm
  refine ⟨_, fun t => Bk ((absI J N N).getD t 0), ⟨hr.1, hr.2.imp id (fun ⟨g, cap, cur, h1, h2, h3⟩ => ⟨g, cap, cur, h1, Nat.zero_le _, h3⟩)⟩, fun r hr' => hQ _ (by have := (hr.lt r hr').1; omega), fun t ht => ?_, fun t ht hne => ?_⟩
  · rw [e t ht]
    exact (hi.rd _ (lt t ht)).later hb
  · simp only [e t ht] at hne
    obtain ⟨k1, k2, k3, k4, k5⟩ := hi.own _ (lt t ht) hne
    refine ⟨k1, by omega, fun o => ((bcell hb).2 _ _ k2).trans (k3 o), fun h => ?_, fun t' ht' hne' h => ?_⟩
    · have := (hr.lt _ h).1; omega
    · simp only [e t' ht'] at hne'
      exact absI_inj J N t' t (by omega) (by omega) (k5 _ (lt t' ht') hne' h)
end Go.Proofs.YtlmaopljihbdkaaGreat
