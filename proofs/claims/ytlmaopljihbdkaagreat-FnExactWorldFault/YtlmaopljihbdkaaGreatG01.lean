/- Base Eq in one text: what each says stands at its head below. -/
import Derived.Test.YtlmaopljihbdkaaGreatRows
import Derived.WalkKit
import Derived.WalkSpells
import Derived.WalkLawsBesides
import Derived.Deep.QuietTactic
import Derived.BigQuiet
import Derived.Deep.RegionHeld3
namespace Go.Proofs.YtlmaopljihbdkaaGreat
open Go.RowKit
theorem ret_int {k : IntKind} {a b : Int} (h : a = b) : Ending.returned (.int k a) = .returned (.int k b) := by rw [h]
theorem hide {p : Prop} (h : p) : Hid p := h
def RdI (S : Nat → Prop) (w : World) (v : Value) (xs : List Int) : Prop :=
  ∃ (ao : Option Addr) (c : Nat), v = .slice ao xs.length (xs.length + c) ∧ xs.length ≤ 9223372036854775807 ∧
    (xs ≠ [] → ∃ b off, ao = some ⟨b, off, none⟩ ∧ S b ∧ ∀ i, i < xs.length → w.cell? ⟨b, off + i, none⟩ = some (.int .i64 (xs.getD i 0)))
def RdII (S : Nat → Prop) (w : World) (v : Value) (xss : List (List Int)) : Prop :=
  ∃ (ao : Option Addr) (c : Nat), v = .slice ao xss.length c ∧ xss.length ≤ 9223372036854775807 ∧
    (xss ≠ [] → ∃ (b off : Nat) (V : Nat → Value), ao = some ⟨b, off, none⟩ ∧ S b ∧
      ∀ i, i < xss.length → w.cell? ⟨b, off + i, none⟩ = some (V i) ∧ RdI S w (V i) (xss.getD i []))
def Keeps (S : Nat → Prop) (w w' : World) : Prop := ∀ b, S b → w'.heap[b]? = w.heap[b]?
theorem Keeps.cell {S : Nat → Prop} {w w' : World} (h : Keeps S w w') {b o : Nat} (hb : S b) : w'.cell? ⟨b, o, none⟩ = w.cell? ⟨b, o, none⟩ :=
  World.cell?_of_block (h b hb)
theorem RdI.keep {S T : Nat → Prop} {w w' : World} {v : Value} {xs : List Int} (h : RdI S w v xs) (hk : Keeps S w w') (hT : ∀ b, S b → T b) : RdI T w' v xs := by
  obtain ⟨ao, c, h1, h2, h3⟩ := h
  refine ⟨ao, c, h1, h2, fun hne => ?_⟩
  obtain ⟨b, off, e, hb, hc⟩ := h3 hne
  exact ⟨b, off, e, hT b hb, fun i hi => (hk.cell hb).trans (hc i hi)⟩
theorem RdII.keep {S T : Nat → Prop} {w w' : World} {v : Value} {xs : List (List Int)} (h : RdII S w v xs) (hk : Keeps S w w') (hT : ∀ b, S b → T b) : RdII T w' v xs := by
  obtain ⟨ao, c, h1, h2, h3⟩ := h
  refine ⟨ao, c, h1, h2, fun hne => ?_⟩
  obtain ⟨b, off, V, e, hb, hc⟩ := h3 hne
  exact ⟨b, off, V, e, hT b hb, fun i hi => ⟨(hk.cell hb).trans (hc i hi).1, (hc i hi).2.keep hk hT⟩⟩
theorem RdI.shape {S : Nat → Prop} {w : World} {v : Value} {xs : List Int} (h : RdI S w v xs) : ∃ ao c, v = .slice ao xs.length c := by
  obtain ⟨ao, c, h1, _⟩ := h
  exact ⟨ao, _, h1⟩
theorem RdI.drewN {S : Nat → Prop} {w : World} {v : Value} {xs : List Int} (h : RdI S w v xs) (n : Nat) : RdI S (w.drewN n) v xs := h
theorem RdII.drewN {S : Nat → Prop} {w : World} {v : Value} {xs : List (List Int)} (h : RdII S w v xs) (n : Nat) : RdII S (w.drewN n) v xs := h
def tot (xss : List (List Int)) (i : Nat) : Nat := ((xss.take i).map List.length).sum
theorem tot_zero (xss : List (List Int)) : tot xss 0 = 0 := by simp [tot]
theorem tot_succ (xss : List (List Int)) (i : Nat) (h : i < xss.length) : tot xss (i + 1) = tot xss i + (xss.getD i []).length := by
  unfold tot
  rw [List.take_succ_eq_append_getElem h]
  simp only [List.map_append, List.sum_append, List.map_cons, List.map_nil, List.sum_cons, List.sum_nil]
  simp [List.getD, h]
theorem tot_le (xss : List (List Int)) : ∀ (i j : Nat), i ≤ j → tot xss i ≤ tot xss j := by
  intro i j h
  unfold tot
  have : xss.take j = xss.take i ++ (xss.drop i).take (j - i) := by
    rw [← List.take_add]; congr 1; omega
  rw [this]; simp
structure Wr (S : Nat → Prop) (w w' : World) : Prop where
  os : w'.os = w.os
  tape : w'.tape = w.tape
  output : w'.output = w.output
  size : w.heap.size ≤ w'.heap.size
  block : ∀ k, k < w.heap.size → ¬ S k → w'.heap[k]? = w.heap[k]?
  frz : ∀ b o, b < w.heap.size → w'.frozen? ⟨b, o, none⟩ = w.frozen? ⟨b, o, none⟩
theorem Wr.refl (S : Nat → Prop) (w : World) : Wr S w w := ⟨rfl, rfl, rfl, Nat.le_refl _, fun _ _ _ => rfl, fun _ _ _ => rfl⟩
theorem Wr.trans {S : Nat → Prop} {a b c : World} (h : Wr S a b) (k : Wr S b c) : Wr S a c :=
  ⟨k.os.trans h.os, k.tape.trans h.tape, k.output.trans h.output, Nat.le_trans h.size k.size,
    fun i hi hs => (k.block i (Nat.lt_of_lt_of_le hi h.size) hs).trans (h.block i hi hs),
    fun i o hi => (k.frz i o (Nat.lt_of_lt_of_le hi h.size)).trans (h.frz i o hi)⟩
theorem Wr.mono {S T : Nat → Prop} {a b : World} (h : Wr S a b) (hT : ∀ x, S x → T x) : Wr T a b :=
  ⟨h.os, h.tape, h.output, h.size, fun i hi hs => h.block i hi (fun hx => hs (hT i hx)), h.frz⟩
theorem Wr.setCell {S : Nat → Prop} {a w : World} (h : Wr S a w) {p : Addr} (hp : S p.block) (u : Value) : Wr S a (w.setCell p u) :=
  h.trans ⟨rfl, rfl, rfl, by simp, fun k _ hs => Below.heap_setCell _ _ _ _ (fun e => hs (e ▸ hp)), fun _ _ _ => by simp⟩
theorem Wr.drewN {S : Nat → Prop} {a w : World} (h : Wr S a w) (n : Nat) : Wr S a (w.drewN n) := ⟨h.os, h.tape, h.output, h.size, h.block, h.frz⟩
theorem Wr.alloc {S : Nat → Prop} {a w : World} (h : Wr S a w) (o : Obj) : Wr S a (w.alloc o) :=
  h.trans ⟨rfl, rfl, rfl, by simp, fun k hk _ => Below.heap_alloc _ _ _ hk, fun b o' hb => World.frozen?_alloc_past _ _ _ hb⟩
theorem Wr.of_below {w w' : World} (h : Below w.heap.size w w') (S : Nat → Prop) : Wr S w w' :=
  ⟨h.os, h.tape, h.output, h.size, fun k hk _ => h.block k hk, fun b o hb => h.frozen (p := ⟨b, o, none⟩) hb⟩
theorem Wr.cell {S : Nat → Prop} {w w' : World} (h : Wr S w w') {b o : Nat} (hb : b < w.heap.size) (hs : ¬ S b) : w'.cell? ⟨b, o, none⟩ = w.cell? ⟨b, o, none⟩ :=
  World.cell?_of_block (h.block b hb hs)
theorem Wr.below {S : Nat → Prop} {w w' : World} (h : Wr S w w') {B : Nat} (hB : B ≤ w.heap.size) (hS : ∀ b, S b → B ≤ b) : Below B w w' :=
  ⟨h.os, h.tape, h.output, h.size, fun k hk => h.block k (by omega) (fun hs => by have := hS k hs; omega)⟩
def OwII (S : Nat → Prop) (w : World) (v : Value) (xss : List (List Int)) : Prop :=
  ∃ (ao : Option Addr) (c b off : Nat) (V : Nat → Value) (B : Nat → Nat), v = .slice ao xss.length c ∧ xss.length ≤ 9223372036854775807 ∧ (xss ≠ [] → ao = some ⟨b, off, none⟩ ∧ S b) ∧
    ∀ i, i < xss.length → w.cell? ⟨b, off + i, none⟩ = some (V i) ∧ RdI (· = B i) w (V i) (xss.getD i []) ∧
      (xss.getD i [] ≠ [] → S (B i) ∧ B i ≠ b ∧ (∀ o, w.frozen? ⟨B i, o, none⟩ = false) ∧ ∀ j, j < xss.length → xss.getD j [] ≠ [] → B j = B i → j = i)
theorem RdI.narrow {S T : Nat → Prop} {w : World} {v : Value} {xs : List Int} (h : RdI S w v xs) (hT : xs ≠ [] → ∀ b, S b → T b) : RdI T w v xs := by
  obtain ⟨ao, c, h1, h2, h3⟩ := h
  refine ⟨ao, c, h1, h2, fun hne => ?_⟩
  obtain ⟨b, off, e, hb, hc⟩ := h3 hne
  exact ⟨b, off, e, hT hne b hb, hc⟩
theorem RdI.lt {S : Nat → Prop} {w : World} {v : Value} {xs : List Int} (h : RdI S w v xs) (hne : xs ≠ []) : ∃ b, S b ∧ b < w.heap.size := by
  obtain ⟨ao, c, h1, h2, h3⟩ := h
  obtain ⟨b, off, e, hb, hc⟩ := h3 hne
  exact ⟨b, hb, World.block_lt_of_cell? _ _ (hc 0 (List.length_pos_iff.2 hne))⟩
theorem OwII.rd {S : Nat → Prop} {w : World} {v : Value} {xss : List (List Int)} (h : OwII S w v xss) : RdII S w v xss := by
  obtain ⟨ao, c, b, off, V, B, h1, h2, h3, h4⟩ := h
  refine ⟨ao, c, h1, h2, fun hne => ?_⟩
  obtain ⟨e, hb⟩ := h3 hne
  exact ⟨b, off, V, e, hb, fun i hi => ⟨(h4 i hi).1, (h4 i hi).2.1.narrow fun hn x hx => hx ▸ ((h4 i hi).2.2 hn).1⟩⟩
def RdP (S : Nat → Prop) (w : World) (v : Value) (ps : List (Int × List Int)) : Prop :=
  ∃ (ao : Option Addr) (c : Nat), v = .slice ao ps.length c ∧ ps.length ≤ 9223372036854775807 ∧
    (ps ≠ [] → ∃ (b off : Nat) (V : Nat → Value), ao = some ⟨b, off, none⟩ ∧ S b ∧
      ∀ i, i < ps.length → w.cell? ⟨b, off + i * 2, none⟩ = some (.int .i64 (ps.getD i (0, [])).1) ∧ w.cell? ⟨b, off + i * 2 + 1, none⟩ = some (V i) ∧ RdI S w (V i) (ps.getD i (0, [])).2)
theorem RdP.keep {S T : Nat → Prop} {w w' : World} {v : Value} {ps : List (Int × List Int)} (h : RdP S w v ps) (hk : Keeps S w w') (hT : ∀ b, S b → T b) : RdP T w' v ps := by
  obtain ⟨ao, c, h1, h2, h3⟩ := h
  refine ⟨ao, c, h1, h2, fun hne => ?_⟩
  obtain ⟨b, off, V, e, hb, hc⟩ := h3 hne
  exact ⟨b, off, V, e, hT b hb, fun i hi => ⟨(hk.cell hb).trans (hc i hi).1, (hk.cell hb).trans (hc i hi).2.1, (hc i hi).2.2.keep hk hT⟩⟩
def OwP (S : Nat → Prop) (w : World) (v : Value) (ps : List (Int × List Int)) : Prop :=
  ∃ (ao : Option Addr) (c b off : Nat) (V : Nat → Value) (B : Nat → Nat), v = .slice ao ps.length c ∧ ps.length ≤ 9223372036854775807 ∧
    (ps ≠ [] → ao = some ⟨b, off, none⟩ ∧ S b ∧ ∀ o, w.frozen? ⟨b, o, none⟩ = false) ∧
    ∀ i, i < ps.length → w.cell? ⟨b, off + i * 2, none⟩ = some (.int .i64 (ps.getD i (0, [])).1) ∧ w.cell? ⟨b, off + i * 2 + 1, none⟩ = some (V i) ∧ RdI (· = B i) w (V i) (ps.getD i (0, [])).2 ∧
      ((ps.getD i (0, [])).2 ≠ [] → S (B i) ∧ B i ≠ b ∧ (∀ o, w.frozen? ⟨B i, o, none⟩ = false) ∧ ∀ j, j < ps.length → (ps.getD j (0, [])).2 ≠ [] → B j = B i → j = i)
theorem OwP.rd {S : Nat → Prop} {w : World} {v : Value} {ps : List (Int × List Int)} (h : OwP S w v ps) : RdP S w v ps := by
  obtain ⟨ao, c, b, off, V, B, h1, h2, h3, h4⟩ := h
  refine ⟨ao, c, h1, h2, fun hne => ?_⟩
  obtain ⟨e, hb, _⟩ := h3 hne
  exact ⟨b, off, V, e, hb, fun i hi => ⟨(h4 i hi).1, (h4 i hi).2.1, (h4 i hi).2.2.1.narrow fun hn x hx => hx ▸ ((h4 i hi).2.2.2 hn).1⟩⟩
theorem RdI.later {S : Nat → Prop} {w w' : World} {v : Value} {xs : List Int} (h : RdI S w v xs) (hb : Below w.heap.size w w') : RdI S w' v xs := by
  obtain ⟨ao, c, h1, h2, h3⟩ := h
  refine ⟨ao, c, h1, h2, fun hne => ?_⟩
  obtain ⟨b, off, e, hs, hc⟩ := h3 hne
  exact ⟨b, off, e, hs, fun i hi => cell_later hb (hc i hi)⟩
theorem RdII.later {S : Nat → Prop} {w w' : World} {v : Value} {xs : List (List Int)} (h : RdII S w v xs) (hb : Below w.heap.size w w') : RdII S w' v xs := by
  obtain ⟨ao, c, h1, h2, h3⟩ := h
  refine ⟨ao, c, h1, h2, fun hne => ?_⟩
  obtain ⟨b, off, V, e, hs, hc⟩ := h3 hne
  exact ⟨b, off, V, e, hs, fun i hi => ⟨cell_later hb (hc i hi).1, (hc i hi).2.later hb⟩⟩
theorem RdP.later {S : Nat → Prop} {w w' : World} {v : Value} {ps : List (Int × List Int)} (h : RdP S w v ps) (hb : Below w.heap.size w w') : RdP S w' v ps := by
  obtain ⟨ao, c, h1, h2, h3⟩ := h
  refine ⟨ao, c, h1, h2, fun hne => ?_⟩
  obtain ⟨b, off, V, e, hs, hc⟩ := h3 hne
  exact ⟨b, off, V, e, hs, fun i hi => ⟨cell_later hb (hc i hi).1, cell_later hb (hc i hi).2.1, (hc i hi).2.2.later hb⟩⟩
theorem bcell {W w1 : World} (hb : Below W.heap.size W w1) : (∀ b o, b < W.heap.size → w1.cell? ⟨b, o, none⟩ = W.cell? ⟨b, o, none⟩) ∧ (∀ b o, b < W.heap.size → w1.frozen? ⟨b, o, none⟩ = W.frozen? ⟨b, o, none⟩) :=
  ⟨fun b o h => hb.cell (p := ⟨b, o, none⟩) h, fun b o h => hb.frozen (p := ⟨b, o, none⟩) h⟩
theorem below_on {a b c : World} (h : Below a.heap.size a b) (k : Below b.heap.size b c) : Below a.heap.size a c := h.trans (k.mono h.size)
theorem below_alloc (w : World) (o : Obj) : Below w.heap.size w (w.alloc o) := (Below.refl _ _).alloc (Nat.le_refl _) _
theorem below_drewN (w : World) (n : Nat) : Below w.heap.size w (w.drewN n) := ⟨rfl, rfl, rfl, Nat.le_refl _, fun _ _ => rfl⟩
theorem cell_wr {T : Nat → Prop} {w w' : World} {b o : Nat} {v : Value} (hw : Wr T w w') (h : w.cell? ⟨b, o, none⟩ = some v) (hd : ¬ T b) : w'.cell? ⟨b, o, none⟩ = some v :=
  (hw.cell (World.block_lt_of_cell? _ _ h) hd).trans h
theorem RdI.wr {S T : Nat → Prop} {w w' : World} {v : Value} {xs : List Int} (h : RdI S w v xs) (hw : Wr T w w') (hd : xs ≠ [] → ∀ b, S b → ¬ T b) : RdI S w' v xs := by
  obtain ⟨ao, c, h1, h2, h3⟩ := h
  refine ⟨ao, c, h1, h2, fun hne => ?_⟩
  obtain ⟨b, off, e, hs, hc⟩ := h3 hne
  exact ⟨b, off, e, hs, fun i hi => cell_wr hw (hc i hi) (hd hne b hs)⟩
theorem RdII.wr {S T : Nat → Prop} {w w' : World} {v : Value} {xs : List (List Int)} (h : RdII S w v xs) (hw : Wr T w w') (hd : ∀ b, S b → ¬ T b) : RdII S w' v xs := by
  obtain ⟨ao, c, h1, h2, h3⟩ := h
  refine ⟨ao, c, h1, h2, fun hne => ?_⟩
  obtain ⟨b, off, V, e, hs, hc⟩ := h3 hne
  exact ⟨b, off, V, e, hs, fun i hi => ⟨cell_wr hw (hc i hi).1 (hd b hs), (hc i hi).2.wr hw fun _ => hd⟩⟩
theorem RdP.wr {S T : Nat → Prop} {w w' : World} {v : Value} {ps : List (Int × List Int)} (h : RdP S w v ps) (hw : Wr T w w') (hd : ∀ b, S b → ¬ T b) : RdP S w' v ps := by
  obtain ⟨ao, c, h1, h2, h3⟩ := h
  refine ⟨ao, c, h1, h2, fun hne => ?_⟩
  obtain ⟨b, off, V, e, hs, hc⟩ := h3 hne
  exact ⟨b, off, V, e, hs, fun i hi => ⟨cell_wr hw (hc i hi).1 (hd b hs), cell_wr hw (hc i hi).2.1 (hd b hs), (hc i hi).2.2.wr hw fun _ => hd⟩⟩
theorem OwII.wr {S T : Nat → Prop} {w w' : World} {v : Value} {xss : List (List Int)} (h : OwII S w v xss) (hw : Wr T w w') (hd : ∀ b, S b → ¬ T b) : OwII S w' v xss := by
  obtain ⟨ao, c, b, off, V, B, h1, h2, h3, h4⟩ := h
  refine ⟨ao, c, b, off, V, B, h1, h2, h3, fun i hi => ?_⟩
  obtain ⟨f1, f2, f3⟩ := h4 i hi
  have hne : xss ≠ [] := by rintro rfl; exact absurd hi (Nat.not_lt_zero _)
  refine ⟨cell_wr hw f1 (hd b (h3 hne).2), f2.wr hw (fun hn x hx => hx ▸ hd _ (f3 hn).1), fun hn => ?_⟩
  obtain ⟨q1, q2, q3, q4⟩ := f3 hn
  obtain ⟨x, rfl, hl⟩ := f2.lt hn
  exact ⟨q1, q2, fun o => by rw [hw.frz _ _ hl]; exact q3 o, q4⟩
theorem OwP.wr {S T : Nat → Prop} {w w' : World} {v : Value} {ps : List (Int × List Int)} (h : OwP S w v ps) (hw : Wr T w w') (hd : ∀ b, S b → ¬ T b) : OwP S w' v ps := by
  obtain ⟨ao, c, b, off, V, B, h1, h2, h3, h4⟩ := h
  refine ⟨ao, c, b, off, V, B, h1, h2, fun hne => ?_, fun i hi => ?_⟩
  · obtain ⟨q1, q2, q3⟩ := h3 hne
    have hl := World.block_lt_of_cell? _ _ (h4 0 (List.length_pos_iff.2 hne)).1
    exact ⟨q1, q2, fun o => by rw [hw.frz _ _ hl]; exact q3 o⟩
  · obtain ⟨f1, f2, f2', f3⟩ := h4 i hi
    have hne : ps ≠ [] := by rintro rfl; exact absurd hi (Nat.not_lt_zero _)
    refine ⟨cell_wr hw f1 (hd b (h3 hne).2.1), cell_wr hw f2 (hd b (h3 hne).2.1), f2'.wr hw (fun hn x hx => hx ▸ hd _ (f3 hn).1), fun hn => ?_⟩
    obtain ⟨q1, q2, q3, q4⟩ := f3 hn
    obtain ⟨x, rfl, hl⟩ := f2'.lt hn
    exact ⟨q1, q2, fun o => by rw [hw.frz _ _ hl]; exact q3 o, q4⟩
theorem OwII.later {S : Nat → Prop} {w w' : World} {v : Value} {xs : List (List Int)} (h : OwII S w v xs) (hb : Below w.heap.size w w') : OwII S w' v xs :=
  h.wr (Wr.of_below hb fun _ => False) fun _ _ => id
theorem OwP.later {S : Nat → Prop} {w w' : World} {v : Value} {ps : List (Int × List Int)} (h : OwP S w v ps) (hb : Below w.heap.size w w') : OwP S w' v ps :=
  h.wr (Wr.of_below hb fun _ => False) fun _ _ => id
theorem OwII.mono {S T : Nat → Prop} {w : World} {v : Value} {xss : List (List Int)} (h : OwII S w v xss) (hT : ∀ b, S b → T b) : OwII T w v xss := by
  obtain ⟨ao, c, b, off, V, B, h1, h2, h3, h4⟩ := h
  exact ⟨ao, c, b, off, V, B, h1, h2, fun hne => ⟨(h3 hne).1, hT _ (h3 hne).2⟩, fun i hi => ⟨(h4 i hi).1, (h4 i hi).2.1, fun hn => ⟨hT _ ((h4 i hi).2.2 hn).1, ((h4 i hi).2.2 hn).2⟩⟩⟩
theorem OwP.mono {S T : Nat → Prop} {w : World} {v : Value} {ps : List (Int × List Int)} (h : OwP S w v ps) (hT : ∀ b, S b → T b) : OwP T w v ps := by
  obtain ⟨ao, c, b, off, V, B, h1, h2, h3, h4⟩ := h
  exact ⟨ao, c, b, off, V, B, h1, h2, fun hne => ⟨(h3 hne).1, hT _ (h3 hne).2.1, (h3 hne).2.2⟩, fun i hi => ⟨(h4 i hi).1, (h4 i hi).2.1, (h4 i hi).2.2.1, fun hn => ⟨hT _ ((h4 i hi).2.2.2 hn).1, ((h4 i hi).2.2.2 hn).2⟩⟩⟩
theorem OwII.shape {S : Nat → Prop} {w : World} {v : Value} {xss : List (List Int)} (h : OwII S w v xss) : ∃ ao c, v = .slice ao xss.length c := by
  obtain ⟨ao, c, _, _, _, _, h1, _⟩ := h
  exact ⟨ao, c, h1⟩
theorem OwP.shape {S : Nat → Prop} {w : World} {v : Value} {ps : List (Int × List Int)} (h : OwP S w v ps) : ∃ ao c, v = .slice ao ps.length c := by
  obtain ⟨ao, c, _, _, _, _, h1, _⟩ := h
  exact ⟨ao, c, h1⟩
end Go.Proofs.YtlmaopljihbdkaaGreat
namespace Go.Proofs.YtlmaopljihbdkaaGreat
open Go.RowKit
theorem eqI_cells (X : Nat → Int) (n b off c b' off' c' : Nat) (w : World) (hm : n ≤ 9223372036854775807)
    (hx : ∀ i, i < n → w.cell? ⟨b, off + i, none⟩ = some (.int .i64 (X i)))
    (hy : ∀ i, i < n → w.cell? ⟨b', off' + i, none⟩ = some (.int .i64 (X i))) :
    Calls Tryz.prog 40 #[.slice (some ⟨b, off, none⟩) n c, .slice (some ⟨b', off', none⟩) n c'] w fun e w' =>
      e = .returned (.bool true) ∧ ∃ q, w' = w.drewN q := by
  go_enter Tryz.func40, Tryz.ntmps40
  go_wp2
  go_loopw [5] (fun i wr => ∃ k q : Nat, k ≤ n ∧ i = .int .i64 k ∧ wr = w.drewN q) (fun i _ => n - (intOf i).toNat)
  case atStart => exact ⟨0, 0, Nat.zero_le _, rfl, rfl⟩
  case round =>
    obtain ⟨k, q, hk, rfl, rfl⟩ := hrel
    by_cases hlt : k < n
    · have g1 := hx k hlt
      have g2 := hy k hlt
      go_wp2
      go_quiet (fail)
      go_wp2
      go_roundw
      case rel => exact ⟨k + 1, _, by omega, by go_num, rfl⟩
      case measure => simp [intOf]; omega
    · go_wp2
      go_ret
      exact ⟨rfl, _, rfl⟩
theorem eqI_none (ao ao' : Option Addr) (c c' : Nat) (w : World) :
    Calls Tryz.prog 40 #[.slice ao 0 c, .slice ao' 0 c'] w fun e w' => e = .returned (.bool true) ∧ ∃ q, w' = w.drewN q := by
  go_enter Tryz.func40, Tryz.ntmps40
  go_wp2
  go_loopw [5] (fun i wr => i = .int .i64 0 ∧ wr = w) (fun _ _ => 0)
  case atStart => exact ⟨rfl, rfl⟩
  case round =>
    obtain ⟨rfl, rfl⟩ := hrel
    go_wp2
    go_ret
    exact ⟨rfl, 0, rfl⟩
theorem eqI {S T : Nat → Prop} {w : World} {u v : Value} {xs : List Int} (hu : RdI S w u xs) (hv : RdI T w v xs) :
    Calls Tryz.prog 40 #[u, v] w fun e w' => e = .returned (.bool true) ∧ ∃ q, w' = w.drewN q := by
  obtain ⟨ao, c, rfl, hm, h⟩ := hu
  obtain ⟨ao', c', rfl, _, h'⟩ := hv
  cases xs with
  | nil => exact eqI_none _ _ _ _ _
  | cons x xs =>
    obtain ⟨b, off, rfl, _, hc⟩ := h (by simp)
    obtain ⟨b', off', rfl, _, hc'⟩ := h' (by simp)
    exact eqI_cells (fun i => (x :: xs).getD i 0) _ _ _ _ _ _ _ _ hm hc hc'
theorem eqII_cells (V V' : Nat → Value) (n b off c b' off' c' : Nat) (w : World) (hm : n ≤ 9223372036854775807)
    (hx : ∀ i, i < n → w.cell? ⟨b, off + i, none⟩ = some (V i))
    (hy : ∀ i, i < n → w.cell? ⟨b', off' + i, none⟩ = some (V' i))
    (hs : ∀ i, i < n → ∃ xs S T, RdI S w (V i) xs ∧ RdI T w (V' i) xs) :
    Calls Tryz.prog 113 #[.slice (some ⟨b, off, none⟩) n c, .slice (some ⟨b', off', none⟩) n c'] w fun e w' =>
      e = .returned (.bool true) ∧ ∃ q, w' = w.drewN q := by
  go_enter Tryz.func113, Tryz.ntmps113
  go_wp2
  go_loopw [5] (fun i wr => ∃ k : Nat, k ≤ n ∧ i = .int .i64 k ∧ Hid (∃ q, wr = w.drewN q)) (fun i _ => n - (intOf i).toNat)
  case atStart => exact ⟨0, Nat.zero_le _, rfl, 0, rfl⟩
  case round =>
    obtain ⟨k, hk, rfl, HQ⟩ := hrel
    by_cases hlt : k < n
    · have g1 : wr.cell? ⟨b, off + k, none⟩ = some (V k) := by obtain ⟨q, rfl⟩ := HQ; exact hx k hlt
      have g2 : wr.cell? ⟨b', off' + k, none⟩ = some (V' k) := by obtain ⟨q, rfl⟩ := HQ; exact hy k hlt
      obtain ⟨xs, S, T, r1, r2⟩ := hs k hlt
      have R1 : Hid (RdI S wr (V k) xs) := by obtain ⟨q, rfl⟩ := HQ; exact r1
      have R2 : Hid (RdI T wr (V' k) xs) := by obtain ⟨q, rfl⟩ := HQ; exact r2
      clear r1 r2 hs
      go_wp2_with fail
      go_quiet ((go_at_call 40; exact Calls.quiet_of (eqI (RdI.drewN R1.out _) (RdI.drewN R2.out _))))
      go_wp2
      go_roundw
      case rel => exact ⟨k + 1, by omega, by go_num, by obtain ⟨q, rfl⟩ := HQ; exact ⟨_, World.drewN_drewN ..⟩⟩
      case measure => simp [intOf]; omega
    · go_wp2
      go_ret
      exact ⟨rfl, HQ.out⟩
theorem eqII_none (ao ao' : Option Addr) (c c' : Nat) (w : World) :
    Calls Tryz.prog 113 #[.slice ao 0 c, .slice ao' 0 c'] w fun e w' => e = .returned (.bool true) ∧ ∃ q, w' = w.drewN q := by
  go_enter Tryz.func113, Tryz.ntmps113
  go_wp2
  go_loopw [5] (fun i wr => i = .int .i64 0 ∧ wr = w) (fun _ _ => 0)
  case atStart => exact ⟨rfl, rfl⟩
  case round =>
    obtain ⟨rfl, rfl⟩ := hrel
    go_wp2
    go_ret
    exact ⟨rfl, 0, rfl⟩
theorem eqII {S T : Nat → Prop} {w : World} {u v : Value} {xss : List (List Int)} (hu : RdII S w u xss) (hv : RdII T w v xss) :
    Calls Tryz.prog 113 #[u, v] w fun e w' => e = .returned (.bool true) ∧ ∃ q, w' = w.drewN q := by
  obtain ⟨ao, c, rfl, hm, h⟩ := hu
  obtain ⟨ao', c', rfl, _, h'⟩ := hv
  cases xss with
  | nil => exact eqII_none _ _ _ _ _
  | cons x xs =>
    obtain ⟨b, off, V, rfl, _, hc⟩ := h (by simp)
    obtain ⟨b', off', V', rfl, _, hc'⟩ := h' (by simp)
    exact eqII_cells V V' _ _ _ _ _ _ _ _ hm (fun i hi => (hc i hi).1) (fun i hi => (hc' i hi).1) (fun i hi => ⟨_, S, T, (hc i hi).2, (hc' i hi).2⟩)
theorem eqPut {S T : Nat → Prop} {w : World} {u v : Value} {x : Int} {xs : List Int} (hu : RdI S w u xs) (hv : RdI T w v xs) :
    Calls Tryz.prog 54 #[.agg #[.int .i64 x, u], .agg #[.int .i64 x, v]] w fun e w' => e = .returned (.bool true) ∧ Below w.heap.size w w' := by
  have HU := hide hu
  have HV := hide hv
  clear hu hv
  go_enter Tryz.func54, Tryz.ntmps54
  go_wp2_with fail
  refine (eqI ((HU.out.later (below_alloc _ _)).later (below_alloc _ _)) ((HV.out.later (below_alloc _ _)).later (below_alloc _ _))).mono ?_
  rintro e w' ⟨rfl, q, rfl⟩
  go_wp2
  go_ret
  exact ⟨rfl, below_on (below_on (below_alloc _ _) (below_alloc _ _)) (below_drewN _ _)⟩
theorem eqP_cells (X : Nat → Int) (V V' : Nat → Value) (n b off c b' off' c' : Nat) (w : World) (hm : n ≤ 9223372036854775807)
    (hx : ∀ i, i < n → w.cell? ⟨b, off + i * 2, none⟩ = some (.int .i64 (X i)) ∧ w.cell? ⟨b, off + i * 2 + 1, none⟩ = some (V i))
    (hy : ∀ i, i < n → w.cell? ⟨b', off' + i * 2, none⟩ = some (.int .i64 (X i)) ∧ w.cell? ⟨b', off' + i * 2 + 1, none⟩ = some (V' i))
    (hs : ∀ i, i < n → ∃ xs S T, RdI S w (V i) xs ∧ RdI T w (V' i) xs) :
    Calls Tryz.prog 20 #[.slice (some ⟨b, off, none⟩) n c, .slice (some ⟨b', off', none⟩) n c'] w fun e w' =>
      e = .returned (.bool true) ∧ Below w.heap.size w w' := by
  go_enter Tryz.func20, Tryz.ntmps20
  go_wp2
  go_loopw [5] (fun i wr => ∃ k : Nat, k ≤ n ∧ i = .int .i64 k ∧ Hid (Below w.heap.size w wr)) (fun i _ => n - (intOf i).toNat)
  case atStart => exact ⟨0, Nat.zero_le _, rfl, Below.refl _ _⟩
  case round =>
    obtain ⟨k, hk, rfl, HB⟩ := hrel
    by_cases hlt : k < n
    · have g1 := cell_later HB.out (hx k hlt).1
      have g2 := cell_later HB.out (hx k hlt).2
      have g3 := cell_later HB.out (hy k hlt).1
      have g4 := cell_later HB.out (hy k hlt).2
      obtain ⟨xs, S, T, r1, r2⟩ := hs k hlt
      have R1 := hide (r1.later HB.out)
      have R2 := hide (r2.later HB.out)
      clear r1 r2 hs hx hy
      go_wp2_with fail
      go_region_held3 (fun w' => w'.cell? ⟨b, off + k * 2, none⟩ = some (.int .i64 (X k)) ∧ w'.cell? ⟨b, off + k * 2 + 1, none⟩ = some (V k) ∧ w'.cell? ⟨b', off' + k * 2, none⟩ = some (.int .i64 (X k)) ∧ w'.cell? ⟨b', off' + k * 2 + 1, none⟩ = some (V' k)) (simp [*, go_sem])
        (first
          | (go_at_call 54; refine (eqPut (R1.out.drewN 1) (R2.out.drewN 1)).mono ?_; rintro e w' ⟨rfl, hb⟩; have c1 := cell_later hb g1; have c2 := cell_later hb g2; have c3 := cell_later hb g3; have c4 := cell_later hb g4; have HB' := hide hb; clear hb))
      go_wp2
      go_roundw
      case rel => exact ⟨k + 1, by omega, by go_num, below_on HB.out (below_on (below_drewN wr 1) HB')⟩
      case measure => simp [intOf]; omega
    · go_wp2
      go_ret
      exact ⟨rfl, HB.out⟩
theorem eqP_none (ao ao' : Option Addr) (c c' : Nat) (w : World) :
    Calls Tryz.prog 20 #[.slice ao 0 c, .slice ao' 0 c'] w fun e w' => e = .returned (.bool true) ∧ Below w.heap.size w w' := by
  go_enter Tryz.func20, Tryz.ntmps20
  go_wp2
  go_loopw [5] (fun i wr => i = .int .i64 0 ∧ wr = w) (fun _ _ => 0)
  case atStart => exact ⟨rfl, rfl⟩
  case round =>
    obtain ⟨rfl, rfl⟩ := hrel
    go_wp2
    go_ret
    exact ⟨rfl, Below.refl _ _⟩
theorem eqP {S T : Nat → Prop} {w : World} {u v : Value} {ps : List (Int × List Int)} (hu : RdP S w u ps) (hv : RdP T w v ps) :
    Calls Tryz.prog 20 #[u, v] w fun e w' => e = .returned (.bool true) ∧ Below w.heap.size w w' := by
  obtain ⟨ao, c, rfl, hm, h⟩ := hu
  obtain ⟨ao', c', rfl, _, h'⟩ := hv
  by_cases hne : ps = []
  · subst hne; exact eqP_none _ _ _ _ _
  · obtain ⟨b, off, V, rfl, _, hc⟩ := h hne
    obtain ⟨b', off', V', rfl, _, hc'⟩ := h' hne
    exact eqP_cells (fun i => (ps.getD i (0, [])).1) V V' _ _ _ _ _ _ _ _ hm (fun i hi => ⟨(hc i hi).1, (hc i hi).2.1⟩) (fun i hi => ⟨(hc' i hi).1, (hc' i hi).2.1⟩) (fun i hi => ⟨_, S, T, (hc i hi).2.2, (hc' i hi).2.2⟩)
theorem eqDisk {S S' T T' : Nat → Prop} {w : World} {u u' v v' : Value} {xss : List (List Int)} {ps : List (Int × List Int)} (hu : RdII S w u xss) (hp : RdP S' w u' ps) (hv : RdII T w v xss) (hq : RdP T' w v' ps) :
    Calls Tryz.prog 61 #[.agg #[u, u'], .agg #[v, v']] w fun e w' => e = .returned (.bool true) ∧ Below w.heap.size w w' := by
  have HU := hide hu
  have HV := hide hv
  have HP := hide hp
  have HQ := hide hq
  clear hu hv hp hq
  go_enter Tryz.func61, Tryz.ntmps61
  go_wp2_with fail
  refine (eqII ((HU.out.later (below_alloc _ _)).later (below_alloc _ _)) ((HV.out.later (below_alloc _ _)).later (below_alloc _ _))).mono ?_
  rintro e w' ⟨rfl, q, rfl⟩
  go_wp2_with fail
  refine (eqP (((HP.out.later (below_alloc _ _)).later (below_alloc _ _)).later (below_drewN _ q)) (((HQ.out.later (below_alloc _ _)).later (below_alloc _ _)).later (below_drewN _ q))).mono ?_
  rintro e w' ⟨rfl, hb⟩
  have HB := hide hb
  clear hb
  go_wp2
  go_ret
  exact ⟨rfl, below_on (below_on (below_on (below_alloc _ _) (below_alloc _ _)) (below_drewN _ _)) HB.out⟩
end Go.Proofs.YtlmaopljihbdkaaGreat
