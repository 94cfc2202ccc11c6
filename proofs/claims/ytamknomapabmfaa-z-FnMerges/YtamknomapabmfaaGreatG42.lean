/- Po3 in one text: what each says stands at its head below. -/
import Derived.Test.YtamknomapabmfaaGreatG41
import Derived.Test.YtamknomapabmfaaGreatG33
/- Chapter 5: what impl.putsOfParts keeps: the blocks in order, and a map whose merged words are the call's own. -/
namespace Go.Proofs.YtamknomapabmfaaGreat
open Go.RowKit Go.Maps

def ordL (L : List Int) (o : Oj) : List Int := if o.1 ∈ L then L else L ++ [o.1]
def ojM (M : Int → List Int) (o : Oj) : Int → List Int := putM M (o.1, mrgL (M o.1) o.2.1.toNat o.2.2)
def poL (os : List Oj) (k : Nat) : List Int := (os.take k).foldl ordL []
def poM (M : Int → List Int) (os : List Oj) (k : Nat) : Int → List Int := (os.take k).foldl ojM M
instance : Inhabited Oj := ⟨oj0⟩
theorem poL_succ (os : List Oj) (k : Nat) (h : k < os.length) : poL os (k + 1) = ordL (poL os k) (os.getD k oj0) := foldl_take ordL oj0 [] os k h
theorem poM_succ (M : Int → List Int) (os : List Oj) (k : Nat) (h : k < os.length) : poM M os (k + 1) = ojM (poM M os k) (os.getD k oj0) := foldl_take ojM oj0 M os k h
theorem poL_facts {os : List Oj} (ha : ∀ i, i < os.length → 0 ≤ (os.getD i oj0).1 ∧ (os.getD i oj0).1 < 40) : ∀ k, k ≤ os.length → (poL os k).Nodup ∧ (poL os k).length ≤ k ∧ ∀ a ∈ poL os k, 0 ≤ a ∧ a < 40
  | 0, _ => ⟨List.nodup_nil, Nat.le_refl _, fun a h => by simp [poL] at h⟩
  | k + 1, hk => by
    obtain ⟨h1, h2, h3⟩ := poL_facts ha k (by omega)
    rw [poL_succ _ _ (by omega), ordL]
    split
    · exact ⟨h1, by omega, h3⟩
    · rename_i hn
      refine ⟨List.nodup_append.2 ⟨h1, by simp, fun a ha' b hb => ?_⟩, by rw [List.length_append]; simp; omega, fun a h => ?_⟩
      · rw [List.mem_singleton] at hb; subst hb; rintro rfl; exact hn ha'
      · rcases List.mem_append.1 h with h | h
        · exact h3 a h
        · rw [List.mem_singleton] at h; subst h; exact ha k (by omega)

theorem RdI.grownJ {S : Nat → Prop} {w w' : World} {v : Value} {xs : List Int} {row : Option Nat} (h : RdI S w v xs) (hS : xs ≠ [] → ∀ b, S b → some b ≠ row) (hg : w.grownBy w' row) : RdI S w' v xs := by
  obtain ⟨ao, c, e1, e2, e3⟩ := h
  refine ⟨ao, c, e1, e2, fun hne => ?_⟩
  obtain ⟨b, off, f1, f2, f3⟩ := e3 hne
  exact ⟨b, off, f1, f2, fun j hj => (World.cell?_of_block (hg.block b (World.block_lt_of_cell? _ _ (f3 j hj)) (fun e => hS hne b f2 e))).trans (f3 j hj)⟩
theorem RdI.ltS {S : Nat → Prop} {w : World} {v : Value} {xs : List Int} (h : RdI S w v xs) : RdI (fun b => S b ∧ b < w.heap.size) w v xs := by
  obtain ⟨ao, c, e1, e2, e3⟩ := h
  refine ⟨ao, c, e1, e2, fun hne => ?_⟩
  obtain ⟨b, off, f1, f2, f3⟩ := e3 hne
  exact ⟨b, off, f1, ⟨f2, World.block_lt_of_cell? _ _ (f3 0 (List.length_pos_iff.2 hne))⟩, f3⟩
/-- Block B is a map of at most n entries that has at each home block the words of M; those of the blocks of L lie in blocks of their own from base on, none of them B or the row's. -/
def PoAt (base : Nat) (w : World) (B n : Nat) (row : Option Nat) (M : Int → List Int) (L : List Int) : Prop :=
  ∃ D : DataW Value, w.ownsMap Tryz.prog 2 asIs B n D ∧ row ≠ some B ∧ (∀ r, row = some r → r < w.heap.size) ∧ (∀ a : Int, 0 ≤ a → a < 40 → ∃ v, D.atKey (.int .i64 a) (.held (.slice none 0 0)) = .held v ∧ RdI (fun b => b ≠ B ∧ row ≠ some b) w v (M a)) ∧
    ∃ Bk : Int → Nat, ∀ a ∈ L, (∃ v, D.atKey (.int .i64 a) (.held (.slice none 0 0)) = .held v ∧ RdI (· = Bk a) w v (M a)) ∧ base ≤ Bk a ∧ Bk a < w.heap.size ∧ (∀ o, w.frozen? ⟨Bk a, o, none⟩ = false) ∧ Bk a ≠ B ∧ row ≠ some (Bk a) ∧ ∀ a' ∈ L, Bk a' = Bk a → a' = a
theorem PoAt.later {base : Nat} {w w' : World} {B n : Nat} {row : Option Nat} {M : Int → List Int} {L : List Int} (h : PoAt base w B n row M L) (hb : Below w.heap.size w w') : PoAt base w' B n row M L := by
  obtain ⟨D, h1, h2, hr, h3, Bk, h4⟩ := h
  have hs := hb.size
  refine ⟨D, h1.kept (grown_below (row := none) hb) (by simp), h2, fun r e => Nat.lt_of_lt_of_le (hr r e) hs, fun a p q => ?_, Bk, fun a ha => ?_⟩
  · obtain ⟨v, e, r⟩ := h3 a p q
    exact ⟨v, e, r.later hb⟩
  · obtain ⟨⟨v, e, r⟩, k1, k2, k3, k4, k5, k6⟩ := h4 a ha
    exact ⟨⟨v, e, r.later hb⟩, k1, by omega, fun o => ((bcell hb).2 _ _ k2).trans (k3 o), k4, k5, k6⟩
/-- The row has grown by an append. -/
theorem PoAt.rowed {base : Nat} {w w' : World} {B n g : Nat} {row : Option Nat} {M : Int → List Int} {L : List Int} (h : PoAt base w B n row M L) (hg : w.grownBy w' row) (hat : row = some g ∨ g = w.heap.size) (hgl : g < w'.heap.size) : PoAt base w' B n (some g) M L := by
  obtain ⟨D, h1, h2, hr, h3, Bk, h4⟩ := h
  have hs := hg.size
  refine ⟨D, h1.kept hg (fun e => h2 e.symm), fun e => ?_, fun r e => by injection e with e; omega, fun a p q => ?_, Bk, fun a ha => ?_⟩
  · injection e with e
    rcases hat with h | h
    · exact h2 (by rw [h, e])
    · have := h1.lt; omega
  · obtain ⟨v, e, r⟩ := h3 a p q
    refine ⟨v, e, (r.ltS.grownJ (fun _ b hb e => hb.1.2 e.symm) hg).narrow (fun _ b hb => ⟨hb.1.1, fun e => ?_⟩)⟩
    injection e with e
    rcases hat with h | h
    · exact hb.1.2 (by rw [h, e])
    · have := hb.2; omega
  · obtain ⟨⟨v, e, r⟩, k1, k2, k3, k4, k5, k6⟩ := h4 a ha
    refine ⟨⟨v, e, r.grownJ (fun _ b hb e' => k5 (by rw [← e', hb])) hg⟩, k1, by omega, fun o => (World.frozen?_of_block (hg.block _ k2 (fun e' => k5 e'.symm))).trans (k3 o), k4, fun e' => ?_, k6⟩
    injection e' with e'
    rcases hat with h | h
    · exact k5 (by rw [h, e'])
    · omega
/-- Words of the call's own are put at block x. -/
theorem PoAt.put {base : Nat} {w w1 w2 : World} {B n : Nat} {row : Option Nat} {M : Int → List Int} {L L' : List Int} {D : DataW Value} {x : Int} {z : Value} {ws : List Int} (h1 : w1.ownsMap Tryz.prog 2 asIs B n D) (h2 : row ≠ some B) (hr : ∀ r, row = some r → r < w.heap.size) (hb : Below w.heap.size w w1)
    (h3 : ∀ a : Int, 0 ≤ a → a < 40 → ∃ v, D.atKey (.int .i64 a) (.held (.slice none 0 0)) = .held v ∧ RdI (fun b => b ≠ B ∧ row ≠ some b) w v (M a)) {Bk : Int → Nat}
    (h4 : ∀ a ∈ L, (∃ v, D.atKey (.int .i64 a) (.held (.slice none 0 0)) = .held v ∧ RdI (· = Bk a) w v (M a)) ∧ base ≤ Bk a ∧ Bk a < w.heap.size ∧ (∀ o, w.frozen? ⟨Bk a, o, none⟩ = false) ∧ Bk a ≠ B ∧ row ≠ some (Bk a) ∧ ∀ a' ∈ L, Bk a' = Bk a → a' = a)
    (hB : B < w.heap.size) (hbase : base ≤ w.heap.size) (hz : OwI w.heap.size w1 z ws) (hne : ws ≠ []) (hL : ∀ a ∈ L', a = x ∨ a ∈ L)
    (hown : w2.ownsMap Tryz.prog 2 asIs B (n + 1) (D.put (.int .i64 x) (.held z))) (hg : w1.grownBy w2 (some B)) : PoAt base w2 B (n + 1) row (putM M (x, ws)) L' := by
  have hs1 := hb.size
  have hs2 := hg.size
  obtain ⟨bz, hz1, hz2⟩ := hz
  obtain ⟨z1, z2, z3⟩ := hz2 hne
  have hzr : RdI (· = bz) w2 z ws := hz1.grownJ (fun _ b e e' => by injection e' with e'; omega) hg
  have same : (D.put (.int .i64 x) (.held z)).atKey (.int .i64 x) (.held (.slice none 0 0)) = .held z := atKey_put_same h1.isMap (by trivial) _ _
  have other : ∀ a, a ≠ x → (D.put (.int .i64 x) (.held z)).atKey (.int .i64 a) (.held (.slice none 0 0)) = D.atKey (.int .i64 a) (.held (.slice none 0 0)) := fun a e => atKey_put_other (by intro h; injection h with _ h; exact e h) _ _
  refine ⟨_, hown, h2, fun r e => by have := hr r e; omega, fun a p q => ?_, fun a => if a = x then bz else Bk a, fun a ha => ?_⟩
  · unfold putM
    by_cases e : a = x
    · subst e
      refine ⟨z, same, ?_⟩
      simp only [if_true]
      exact hzr.narrow (fun _ b hb' => ⟨by omega, fun e => by have := hr b e; omega⟩)
    · obtain ⟨v, e', r⟩ := h3 a p q
      refine ⟨v, (other a e).trans e', ?_⟩
      simp only [if_neg e]
      exact (r.later hb).grownJ (fun _ b hb' e'' => hb'.1 (by injection e'')) hg
  · unfold putM
    by_cases e : a = x
    · subst e
      simp only [if_true]
      refine ⟨⟨z, same, hzr⟩, by omega, by omega, fun o => (World.frozen?_of_block (hg.block bz z2 (fun e' => by injection e' with e'; omega))).trans (z3 o), by omega, fun e' => by have := hr _ e'; omega, fun a' ha' e' => ?_⟩
      by_cases e2 : a' = a
      · exact e2
      · rw [if_neg e2] at e'
        have := (h4 a' ((hL a' ha').resolve_left e2)).2.2.1
        omega
    · simp only [if_neg e]
      obtain ⟨⟨v, e', r⟩, k1, k2, k3, k4, k5, k6⟩ := h4 a ((hL a ha).resolve_left e)
      refine ⟨⟨v, (other a e).trans e', (r.later hb).grownJ (fun _ b hb' e'' => by injection e'' with e''; omega) hg⟩, k1, by omega, fun o => (World.frozen?_of_block (hg.block (Bk a) (by omega) (fun e' => by injection e' with e'; omega))).trans (((bcell hb).2 _ _ k2).trans (k3 o)), k4, k5, fun a' ha' e'' => ?_⟩
      by_cases e2 : a' = x
      · rw [if_pos e2] at e''
        omega
      · rw [if_neg e2] at e''
        exact k6 a' ((hL a' ha').resolve_left e2) e''
end Go.Proofs.YtamknomapabmfaaGreat
