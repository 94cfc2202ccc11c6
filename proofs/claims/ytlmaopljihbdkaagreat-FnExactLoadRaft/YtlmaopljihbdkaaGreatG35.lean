/- St2b in one text: what each says stands at its head below. -/
import Derived.Test.YtlmaopljihbdkaaGreatG34
/- Chapter 11: what 'storeBlocks' keeps while its parts are told. -/
namespace Go.Proofs.YtlmaopljihbdkaaGreat
open Go.RowKit

theorem RdJ.noloop {S : Nat → Prop} {w : World} {v : Value} {fs : List Oj} {l : Nat} {q q' : Obj} (h : RdJ S w v fs) (hl : w.heap[l]? = some q) (hq : isMark q = true) (hq' : isMark q' = true) : RdJ S (w.putObj l q') v fs := by
  obtain ⟨ao, c, e1, e2, e3⟩ := h
  refine ⟨ao, c, e1, e2, fun hne => ?_⟩
  obtain ⟨b, off, V, f1, f2, f3⟩ := e3 hne
  have hk := Ku.of_wr (wr_mark hl hq hq')
  have hb : ∀ o v, w.cell? ⟨b, o, none⟩ = some v → (w.putObj l q').cell? ⟨b, o, none⟩ = some v := fun o v hc => hk.cell hc (fun e => by subst e; exact cell_no_loop hc hl hq)
  exact ⟨b, off, V, f1, f2, fun i hi => ⟨hb _ _ (f3 i hi).1, hb _ _ (f3 i hi).2.1, hb _ _ (f3 i hi).2.2.1, (f3 i hi).2.2.2.noloop hl hq hq'⟩⟩
/-- A set of cells that hold what they hold. -/
structure KeepG (S T : Nat → Prop) (C : List (Nat × Nat × Value)) (E : List Nat) (y z : Value) (sn : List Int) (lg : List Oj) (w : World) : Prop where
  rd : RdI S w y sn
  rj : RdJ T w z lg
  cl : ∀ p, p ∈ C → w.cell? ⟨p.1, p.2.1, none⟩ = some p.2.2
  dl : ∀ b, b ∈ E → w.heap[b]? = some (.deferred (some []))
theorem KeepG.later {S T : Nat → Prop} {C : List (Nat × Nat × Value)} {E : List Nat} {y z : Value} {sn : List Int} {lg : List Oj} {w w' : World} (h : KeepG S T C E y z sn lg w) (hb : Below w.heap.size w w') : KeepG S T C E y z sn lg w' :=
  ⟨h.rd.later hb, h.rj.later hb, fun p hp => cell_later hb (h.cl p hp), fun b hb2 => (hb.block b (Array.getElem?_eq_some_iff.1 (h.dl b hb2)).1).trans (h.dl b hb2)⟩
theorem KeepG.ku {S T D : Nat → Prop} {C : List (Nat × Nat × Value)} {E : List Nat} {y z : Value} {sn : List Int} {lg : List Oj} {w w' : World} (h : KeepG S T C E y z sn lg w) (hw : Ku D w w') (h1 : ∀ b, D b → ¬ S b ∧ ¬ T b ∧ (∀ p, p ∈ C → p.1 ≠ b) ∧ ¬ b ∈ E) : KeepG S T C E y z sn lg w' :=
  ⟨h.rd.ku hw (fun _ b hb hd => (h1 b hd).1 hb), h.rj.ku hw (fun b hb hd => (h1 b hd).2.1 hb), fun p hp => hw.cell (h.cl p hp) (fun hd => (h1 p.1 hd).2.2.1 p hp rfl), fun b hb => (hw.block b (Array.getElem?_eq_some_iff.1 (h.dl b hb)).1 (fun hd => (h1 b hd).2.2.2 hb)).trans (h.dl b hb)⟩
theorem KeepG.noloop {S T : Nat → Prop} {C : List (Nat × Nat × Value)} {E : List Nat} {y z : Value} {sn : List Int} {lg : List Oj} {w : World} {l : Nat} {q q' : Obj} (h : KeepG S T C E y z sn lg w) (hl : w.heap[l]? = some q) (hq : isMark q = true) (hq' : isMark q' = true) (hE : ¬ l ∈ E) : KeepG S T C E y z sn lg (w.putObj l q') :=
  ⟨h.rd.noloop hl hq hq', h.rj.noloop hl hq hq', fun p hp => cell_wr (wr_mark hl hq hq') (h.cl p hp) (fun e => cell_no_loop (h.cl p hp) (e ▸ hl) hq), fun b hb => (World.putObj_heap_other (fun (e : b = l) => hE (by rw [← e]; exact hb))).trans (h.dl b hb)⟩

/-- The state of a part of 'storeBlocks': the caller's J, n items on; its own blocks apart. -/
def PartI (J : (Nat → Prop) → Nat → World → Prop) (S T : Nat → Prop) (C : List (Nat × Nat × Value)) (E X : List Nat) (y z : Value) (sn : List Int) (lg : List Oj) (n : Nat) (D : Nat → Prop) (k : Nat) (W : World) : Prop :=
  J D (n + k) W ∧ (∀ b, D b → b < W.heap.size ∧ (¬ S b ∧ ¬ T b ∧ (∀ p, p ∈ C → p.1 ≠ b) ∧ ¬ b ∈ E) ∧ ¬ b ∈ X) ∧ KeepG S T C E y z sn lg W

/-- What one round of a part hands on to the caller. -/
theorem part_yield {m l n : Nat} {P : Program} {J : (Nat → Prop) → Nat → World → Prop} {Jx : World → Prop} {W0 : World} {qs qp : List (Int × List Int)}
    (hJo : ∀ D k A l' o o', W0.heap.size ≤ l' → J D k A → A.heap[l']? = some o → isMark o = true → isMark o' = true → J D k (A.putObj l' o'))
    (hY : ∀ D k x v A B, J D k A → Below A.heap.size A B → k < qs.length → x = (qs.getD k (0, [])).1 → OwI A.heap.size B v (qs.getD k (0, [])).2 →
      YieldAt Fence.wide (m - 1) P l (encP x v) B fun e W' => (e = .returned (.bool true) ∧ ∃ D', J D' (k + 1) W' ∧ Ku D B W' ∧ ∀ b, D' b → D b ∨ B.heap.size ≤ b) ∨ (e = .returned (.bool false) ∧ Jx W' ∧ Ku D B W'))
    (hq : ∀ k, k < qp.length → n + k < qs.length ∧ qs.getD (n + k) (0, []) = qp.getD k (0, []))
    {D : Nat → Prop} {k : Nat} {x : Int} {v : Value} {A B W : World} {R : Nat} {T : TypeId} (hJ : J D (n + k) A) (hAB : Below A.heap.size A B) (hk : k < qp.length) (hx : x = (qp.getD k (0, [])).1) (hv : OwI A.heap.size B v (qp.getD k (0, [])).2)
    (hR : W0.heap.size ≤ R) (hW : ∃ r r', A.heap[R]? = some (.loop r) ∧ W = (B.alloc (.cells #[.int .i64 x, v] T)).putObj R (.loop r')) :
    YieldAt Fence.wide (m - 1) P l (encP x v) W fun e W' => (e = .returned (.bool true) ∧ ∃ D', J D' (n + (k + 1)) W' ∧ Ku D W W' ∧ ∀ b, D' b → D b ∨ W.heap.size ≤ b) ∨ (e = .returned (.bool false) ∧ Jx W' ∧ Ku D W W') := by
  obtain ⟨r, r', hr, hW⟩ := hW
  have hRA : R < A.heap.size := (Array.getElem?_eq_some_iff.1 hr).1
  have hsAB := hAB.size
  have hrB : (B.alloc (.cells #[.int .i64 x, v] T)).heap[R]? = some (.loop r) := ((below_alloc B _).block R (by omega)).trans ((hAB.block R hRA).trans hr)
  have hb : Below (A.putObj R (.loop r')).heap.size (A.putObj R (.loop r')) W := by
    have hsA : (A.putObj R (.loop r')).heap.size = A.heap.size := by simp [World.putObj]
    have w1 := wr_put (r' := r') hr
    have w2 := wr_put (r' := r') hrB
    have bb := below_on hAB (below_alloc B (.cells #[.int .i64 x, v] T))
    refine ⟨by rw [hW, w2.os, bb.os, w1.os], by rw [hW, w2.tape, bb.tape, w1.tape], by rw [hW, w2.output, bb.output, w1.output], by rw [hW, hsA]; exact Nat.le_trans bb.size w2.size, fun j hj => ?_⟩
    rw [hsA] at hj
    by_cases e : j = R
    · subst e
      rw [hW]
      exact (World.putObj_heap_same (by simp; omega)).trans (World.putObj_heap_same hj).symm
    · rw [hW]
      exact (World.putObj_heap_other e).trans ((bb.block j hj).trans (World.putObj_heap_other e).symm)
  have hv2 : OwI (A.putObj R (.loop r')).heap.size W v (qs.getD (n + k) (0, [])).2 := by
    rw [(hq k hk).2]
    have hsA : (A.putObj R (.loop r')).heap.size = A.heap.size := by simp [World.putObj]
    obtain ⟨bz, z1, z2⟩ := hv
    have hku : Ku (fun b => b = R) B W := by rw [hW]; exact (Ku.of_below (below_alloc _ _)).trans (Ku.of_wr (wr_put hrB))
    refine ⟨bz, z1.ku hku (fun hn b hb e => by have := (z2 hn).1; omega), fun hn => ?_⟩
    obtain ⟨j1, j2, j3⟩ := z2 hn
    rw [hsA]
    exact ⟨j1, Nat.lt_of_lt_of_le j2 hku.size, fun o => (hku.frozen j2 (by omega)).trans (j3 o)⟩
  have hy := hY D (n + k) x v (A.putObj R (.loop r')) W (hJo _ _ _ _ _ _ hR hJ hr rfl rfl) hb (hq k hk).1 (by rw [(hq k hk).2]; exact hx) hv2
  exact hy
end Go.Proofs.YtlmaopljihbdkaaGreat
