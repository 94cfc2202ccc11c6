/- Base To in one text: what each says stands at its head below. -/
import Derived.Test.YtncgpfapepminaaDoorRows
import Derived.WalkKit
import Derived.WalkSpells
import Derived.WalkLawsBesides
import Derived.Deep.QuietTactic
import Derived.BigQuiet
import Derived.Deep.RegionHeld3
import Derived.Deep.OwnRows
/- Readings of slices in memory: plain definitions and lemmas that the walks share. -/
namespace Go.Proofs.YtncgpfapepminaaDoor
open Go.RowKit

theorem ret_int {k : IntKind} {a b : Int} (h : a = b) : Ending.returned (.int k a) = .returned (.int k b) := by rw [h]
theorem hide {p : Prop} (h : p) : Hid p := h
theorem unhide {p : Prop} (h : Hid p) : p := h

/-- The slice value v reads as the numbers xs, all of them in blocks of S. -/
def RdI (S : Nat → Prop) (w : World) (v : Value) (xs : List Int) : Prop :=
  ∃ (ao : Option Addr) (c : Nat), v = .slice ao xs.length (xs.length + c) ∧ xs.length ≤ 9223372036854775807 ∧
    (xs ≠ [] → ∃ b off, ao = some ⟨b, off, none⟩ ∧ S b ∧ ∀ i, i < xs.length → w.cell? ⟨b, off + i, none⟩ = some (.int .i64 (xs.getD i 0)))

/-- The slice value v reads as the rows xss, all of them in blocks of S. -/
def RdII (S : Nat → Prop) (w : World) (v : Value) (xss : List (List Int)) : Prop :=
  ∃ (ao : Option Addr) (c : Nat), v = .slice ao xss.length c ∧ xss.length ≤ 9223372036854775807 ∧
    (xss ≠ [] → ∃ (b off : Nat) (V : Nat → Value), ao = some ⟨b, off, none⟩ ∧ S b ∧
      ∀ i, i < xss.length → w.cell? ⟨b, off + i, none⟩ = some (V i) ∧ RdI S w (V i) (xss.getD i []))

/-- What one world holds at the blocks of S the other holds, too. -/
def Keeps (S : Nat → Prop) (w w' : World) : Prop := ∀ b, S b → w'.heap[b]? = w.heap[b]?

theorem Keeps.cell {S : Nat → Prop} {w w' : World} (h : Keeps S w w') {b o : Nat} (hb : S b) : w'.cell? ⟨b, o, none⟩ = w.cell? ⟨b, o, none⟩ :=
  World.cell?_of_block (h b hb)

theorem RdI.keep {S T : Nat → Prop} {w w' : World} {v : Value} {xs : List Int} (h : RdI S w v xs) (hk : Keeps S w w') (hT : ∀ b, S b → T b) : RdI T w' v xs := by
  obtain ⟨ao, c, h1, h2, h3⟩ := h
  refine ⟨ao, c, h1, h2, fun hne => ?_⟩
  obtain ⟨b, off, e, hb, hc⟩ := h3 hne
  exact ⟨b, off, e, hT b hb, fun i hi => (hk.cell hb).trans (hc i hi)⟩

theorem RdII.keep {S T : Nat → Prop} {w w' : World} {v : Value} {xs : List (List Int)} (h : RdII S w v xs) (hk : Keeps S w w') (hT : ∀ b, S b → T b) : RdII T w' v xs := by
  obtain ⟨ao, c, h1, h2, h3⟩ := h
  refine ⟨ao, c, h1, h2, fun hne => ?_⟩
  obtain ⟨b, off, V, e, hb, hc⟩ := h3 hne
  exact ⟨b, off, V, e, hT b hb, fun i hi => ⟨(hk.cell hb).trans (hc i hi).1, (hc i hi).2.keep hk hT⟩⟩

theorem RdI.shape {S : Nat → Prop} {w : World} {v : Value} {xs : List Int} (h : RdI S w v xs) : ∃ ao c, v = .slice ao xs.length c := by
  obtain ⟨ao, c, h1, _⟩ := h
  exact ⟨ao, _, h1⟩
theorem RdI.drewN {S : Nat → Prop} {w : World} {v : Value} {xs : List Int} (h : RdI S w v xs) (n : Nat) : RdI S (w.drewN n) v xs := h
theorem RdII.drewN {S : Nat → Prop} {w : World} {v : Value} {xs : List (List Int)} (h : RdII S w v xs) (n : Nat) : RdII S (w.drewN n) v xs := h

/-- k, k + 1, .. : what marking lays into n cells. -/
def mkI (k : Int) (n : Nat) : List Int := (List.range n).map fun (i : Nat) => k + (i : Int)

theorem mkI_len (k : Int) (n : Nat) : (mkI k n).length = n := by simp [mkI]
theorem mkI_at (k : Int) (n i : Nat) (h : i < n) : (mkI k n).getD i 0 = k + (i : Int) := by simp [mkI, List.getD, h]

/-- How many numbers the first i rows hold. -/
def tot (xss : List (List Int)) (i : Nat) : Nat := ((xss.take i).map List.length).sum

theorem tot_zero (xss : List (List Int)) : tot xss 0 = 0 := by simp [tot]
theorem tot_succ (xss : List (List Int)) (i : Nat) (h : i < xss.length) : tot xss (i + 1) = tot xss i + (xss.getD i []).length := by
  unfold tot
  rw [List.take_succ_eq_append_getElem h]
  simp only [List.map_append, List.sum_append, List.map_cons, List.map_nil, List.sum_cons, List.sum_nil]
  simp [List.getD, h]
theorem tot_le (xss : List (List Int)) : ∀ (i j : Nat), i ≤ j → tot xss i ≤ tot xss j := by
  intro i j h
  unfold tot
  have : xss.take j = xss.take i ++ (xss.drop i).take (j - i) := by
    rw [← List.take_add]; congr 1; omega
  rw [this]; simp

def mkII (k : Int) (xss : List (List Int)) : List (List Int) := (List.range xss.length).map fun i => mkI (k + (tot xss i : Int)) (xss.getD i []).length

theorem mkII_len (k : Int) (xss : List (List Int)) : (mkII k xss).length = xss.length := by simp [mkII]
theorem mkII_at (k : Int) (xss : List (List Int)) (i : Nat) (h : i < xss.length) : (mkII k xss).getD i [] = mkI (k + (tot xss i : Int)) (xss.getD i []).length := by simp [mkII, List.getD, h]

/-- The blocks of S alone may have been written; nothing has been frozen or let go; no block has gone. -/
structure Wr (S : Nat → Prop) (w w' : World) : Prop where
  os : w'.os = w.os
  tape : w'.tape = w.tape
  output : w'.output = w.output
  size : w.heap.size ≤ w'.heap.size
  block : ∀ k, k < w.heap.size → ¬ S k → w'.heap[k]? = w.heap[k]?
  frz : ∀ b o, b < w.heap.size → w'.frozen? ⟨b, o, none⟩ = w.frozen? ⟨b, o, none⟩

theorem Wr.refl (S : Nat → Prop) (w : World) : Wr S w w := ⟨rfl, rfl, rfl, Nat.le_refl _, fun _ _ _ => rfl, fun _ _ _ => rfl⟩

theorem Wr.trans {S : Nat → Prop} {a b c : World} (h : Wr S a b) (k : Wr S b c) : Wr S a c :=
  ⟨k.os.trans h.os, k.tape.trans h.tape, k.output.trans h.output, Nat.le_trans h.size k.size,
    fun i hi hs => (k.block i (Nat.lt_of_lt_of_le hi h.size) hs).trans (h.block i hi hs),
    fun i o hi => (k.frz i o (Nat.lt_of_lt_of_le hi h.size)).trans (h.frz i o hi)⟩

theorem Wr.mono {S T : Nat → Prop} {a b : World} (h : Wr S a b) (hT : ∀ x, S x → T x) : Wr T a b :=
  ⟨h.os, h.tape, h.output, h.size, fun i hi hs => h.block i hi (fun hx => hs (hT i hx)), h.frz⟩

theorem Wr.setCell {S : Nat → Prop} {a w : World} (h : Wr S a w) {p : Addr} (hp : S p.block) (u : Value) : Wr S a (w.setCell p u) :=
  h.trans ⟨rfl, rfl, rfl, by simp, fun k _ hs => Below.heap_setCell _ _ _ _ (fun e => hs (e ▸ hp)), fun _ _ _ => by simp⟩

theorem Wr.drewN {S : Nat → Prop} {a w : World} (h : Wr S a w) (n : Nat) : Wr S a (w.drewN n) := ⟨h.os, h.tape, h.output, h.size, h.block, h.frz⟩

theorem Wr.alloc {S : Nat → Prop} {a w : World} (h : Wr S a w) (o : Obj) : Wr S a (w.alloc o) :=
  h.trans ⟨rfl, rfl, rfl, by simp, fun k hk _ => Below.heap_alloc _ _ _ hk, fun b o' hb => World.frozen?_alloc_past _ _ _ hb⟩

theorem Wr.of_below {w w' : World} (h : Below w.heap.size w w') (S : Nat → Prop) : Wr S w w' :=
  ⟨h.os, h.tape, h.output, h.size, fun k hk _ => h.block k hk, fun b o hb => h.frozen (p := ⟨b, o, none⟩) hb⟩

theorem Wr.cell {S : Nat → Prop} {w w' : World} (h : Wr S w w') {b o : Nat} (hb : b < w.heap.size) (hs : ¬ S b) : w'.cell? ⟨b, o, none⟩ = w.cell? ⟨b, o, none⟩ :=
  World.cell?_of_block (h.block b hb hs)

theorem Wr.below {S : Nat → Prop} {w w' : World} (h : Wr S w w') {B : Nat} (hB : B ≤ w.heap.size) (hS : ∀ b, S b → B ≤ b) : Below B w w' :=
  ⟨h.os, h.tape, h.output, h.size, fun k hk => h.block k (by omega) (fun hs => by have := hS k hs; omega)⟩

theorem Wr.keeps {S T : Nat → Prop} {w w' : World} (h : Wr S w w') (hT : ∀ b, T b → b < w.heap.size ∧ ¬ S b) : Keeps T w w' :=
  fun b hb => h.block b (hT b hb).1 (hT b hb).2

/-- The slice value v reads as the rows xss; its rows lie in blocks of their own, each another one, none of them frozen; all in S. -/
def OwII (S : Nat → Prop) (w : World) (v : Value) (xss : List (List Int)) : Prop :=
  ∃ (ao : Option Addr) (c b off : Nat) (V : Nat → Value) (B : Nat → Nat), v = .slice ao xss.length c ∧ xss.length ≤ 9223372036854775807 ∧ (xss ≠ [] → ao = some ⟨b, off, none⟩ ∧ S b) ∧
    ∀ i, i < xss.length → w.cell? ⟨b, off + i, none⟩ = some (V i) ∧ RdI (· = B i) w (V i) (xss.getD i []) ∧
      (xss.getD i [] ≠ [] → S (B i) ∧ B i ≠ b ∧ (∀ o, w.frozen? ⟨B i, o, none⟩ = false) ∧ ∀ j, j < xss.length → xss.getD j [] ≠ [] → B j = B i → j = i)

theorem RdI.narrow {S T : Nat → Prop} {w : World} {v : Value} {xs : List Int} (h : RdI S w v xs) (hT : xs ≠ [] → ∀ b, S b → T b) : RdI T w v xs := by
  obtain ⟨ao, c, h1, h2, h3⟩ := h
  refine ⟨ao, c, h1, h2, fun hne => ?_⟩
  obtain ⟨b, off, e, hb, hc⟩ := h3 hne
  exact ⟨b, off, e, hT hne b hb, hc⟩

theorem RdI.lt {S : Nat → Prop} {w : World} {v : Value} {xs : List Int} (h : RdI S w v xs) (hne : xs ≠ []) : ∃ b, S b ∧ b < w.heap.size := by
  obtain ⟨ao, c, h1, h2, h3⟩ := h
  obtain ⟨b, off, e, hb, hc⟩ := h3 hne
  exact ⟨b, hb, World.block_lt_of_cell? _ _ (hc 0 (List.length_pos_iff.2 hne))⟩

theorem OwII.rd {S : Nat → Prop} {w : World} {v : Value} {xss : List (List Int)} (h : OwII S w v xss) : RdII S w v xss := by
  obtain ⟨ao, c, b, off, V, B, h1, h2, h3, h4⟩ := h
  refine ⟨ao, c, h1, h2, fun hne => ?_⟩
  obtain ⟨e, hb⟩ := h3 hne
  exact ⟨b, off, V, e, hb, fun i hi => ⟨(h4 i hi).1, (h4 i hi).2.1.narrow fun hn x hx => hx ▸ ((h4 i hi).2.2 hn).1⟩⟩

/-- The slice value v reads as the puts ps (a number and words each, two cells), all of them in blocks of S. -/
def RdP (S : Nat → Prop) (w : World) (v : Value) (ps : List (Int × List Int)) : Prop :=
  ∃ (ao : Option Addr) (c : Nat), v = .slice ao ps.length c ∧ ps.length ≤ 9223372036854775807 ∧
    (ps ≠ [] → ∃ (b off : Nat) (V : Nat → Value), ao = some ⟨b, off, none⟩ ∧ S b ∧
      ∀ i, i < ps.length → w.cell? ⟨b, off + i * 2, none⟩ = some (.int .i64 (ps.getD i (0, [])).1) ∧ w.cell? ⟨b, off + i * 2 + 1, none⟩ = some (V i) ∧ RdI S w (V i) (ps.getD i (0, [])).2)

theorem RdP.keep {S T : Nat → Prop} {w w' : World} {v : Value} {ps : List (Int × List Int)} (h : RdP S w v ps) (hk : Keeps S w w') (hT : ∀ b, S b → T b) : RdP T w' v ps := by
  obtain ⟨ao, c, h1, h2, h3⟩ := h
  refine ⟨ao, c, h1, h2, fun hne => ?_⟩
  obtain ⟨b, off, V, e, hb, hc⟩ := h3 hne
  exact ⟨b, off, V, e, hT b hb, fun i hi => ⟨(hk.cell hb).trans (hc i hi).1, (hk.cell hb).trans (hc i hi).2.1, (hc i hi).2.2.keep hk hT⟩⟩

/-- .. its words lie in blocks of their own, each another one; nothing of it is frozen; all in S. -/
def OwP (S : Nat → Prop) (w : World) (v : Value) (ps : List (Int × List Int)) : Prop :=
  ∃ (ao : Option Addr) (c b off : Nat) (V : Nat → Value) (B : Nat → Nat), v = .slice ao ps.length c ∧ ps.length ≤ 9223372036854775807 ∧
    (ps ≠ [] → ao = some ⟨b, off, none⟩ ∧ S b ∧ ∀ o, w.frozen? ⟨b, o, none⟩ = false) ∧
    ∀ i, i < ps.length → w.cell? ⟨b, off + i * 2, none⟩ = some (.int .i64 (ps.getD i (0, [])).1) ∧ w.cell? ⟨b, off + i * 2 + 1, none⟩ = some (V i) ∧ RdI (· = B i) w (V i) (ps.getD i (0, [])).2 ∧
      ((ps.getD i (0, [])).2 ≠ [] → S (B i) ∧ B i ≠ b ∧ (∀ o, w.frozen? ⟨B i, o, none⟩ = false) ∧ ∀ j, j < ps.length → (ps.getD j (0, [])).2 ≠ [] → B j = B i → j = i)

theorem OwP.rd {S : Nat → Prop} {w : World} {v : Value} {ps : List (Int × List Int)} (h : OwP S w v ps) : RdP S w v ps := by
  obtain ⟨ao, c, b, off, V, B, h1, h2, h3, h4⟩ := h
  refine ⟨ao, c, h1, h2, fun hne => ?_⟩
  obtain ⟨e, hb, _⟩ := h3 hne
  exact ⟨b, off, V, e, hb, fun i hi => ⟨(h4 i hi).1, (h4 i hi).2.1, (h4 i hi).2.2.1.narrow fun hn x hx => hx ▸ ((h4 i hi).2.2.2 hn).1⟩⟩

/-- All old blocks hold what they held. -/
theorem below_keeps {w w' : World} {S : Nat → Prop} (h : Below w.heap.size w w') (hS : ∀ b, S b → b < w.heap.size) : Keeps S w w' := fun b hb => h.block b (hS b hb)

theorem RdI.later {S : Nat → Prop} {w w' : World} {v : Value} {xs : List Int} (h : RdI S w v xs) (hb : Below w.heap.size w w') : RdI S w' v xs := by
  obtain ⟨ao, c, h1, h2, h3⟩ := h
  refine ⟨ao, c, h1, h2, fun hne => ?_⟩
  obtain ⟨b, off, e, hs, hc⟩ := h3 hne
  exact ⟨b, off, e, hs, fun i hi => cell_later hb (hc i hi)⟩

theorem RdII.later {S : Nat → Prop} {w w' : World} {v : Value} {xs : List (List Int)} (h : RdII S w v xs) (hb : Below w.heap.size w w') : RdII S w' v xs := by
  obtain ⟨ao, c, h1, h2, h3⟩ := h
  refine ⟨ao, c, h1, h2, fun hne => ?_⟩
  obtain ⟨b, off, V, e, hs, hc⟩ := h3 hne
  exact ⟨b, off, V, e, hs, fun i hi => ⟨cell_later hb (hc i hi).1, (hc i hi).2.later hb⟩⟩

theorem RdP.later {S : Nat → Prop} {w w' : World} {v : Value} {ps : List (Int × List Int)} (h : RdP S w v ps) (hb : Below w.heap.size w w') : RdP S w' v ps := by
  obtain ⟨ao, c, h1, h2, h3⟩ := h
  refine ⟨ao, c, h1, h2, fun hne => ?_⟩
  obtain ⟨b, off, V, e, hs, hc⟩ := h3 hne
  exact ⟨b, off, V, e, hs, fun i hi => ⟨cell_later hb (hc i hi).1, cell_later hb (hc i hi).2.1, (hc i hi).2.2.later hb⟩⟩

theorem bcell {W w1 : World} (hb : Below W.heap.size W w1) : (∀ b o, b < W.heap.size → w1.cell? ⟨b, o, none⟩ = W.cell? ⟨b, o, none⟩) ∧ (∀ b o, b < W.heap.size → w1.frozen? ⟨b, o, none⟩ = W.frozen? ⟨b, o, none⟩) :=
  ⟨fun b o h => hb.cell (p := ⟨b, o, none⟩) h, fun b o h => hb.frozen (p := ⟨b, o, none⟩) h⟩

/-- Below, from an earlier world on. -/
theorem below_on {a b c : World} (h : Below a.heap.size a b) (k : Below b.heap.size b c) : Below a.heap.size a c := h.trans (k.mono h.size)
theorem below_alloc (w : World) (o : Obj) : Below w.heap.size w (w.alloc o) := (Below.refl _ _).alloc (Nat.le_refl _) _
theorem below_drewN (w : World) (n : Nat) : Below w.heap.size w (w.drewN n) := ⟨rfl, rfl, rfl, Nat.le_refl _, fun _ _ => rfl⟩

/-- How many numbers the first i puts hold. -/
def totP (ps : List (Int × List Int)) (i : Nat) : Nat := ((ps.take i).map fun p => p.2.length + 1).sum

theorem totP_zero (ps : List (Int × List Int)) : totP ps 0 = 0 := by simp [totP]
theorem totP_succ (ps : List (Int × List Int)) (i : Nat) (h : i < ps.length) : totP ps (i + 1) = totP ps i + ((ps.getD i (0, [])).2.length + 1) := by
  unfold totP
  rw [List.take_succ_eq_append_getElem h]
  simp only [List.map_append, List.sum_append, List.map_cons, List.map_nil, List.sum_cons, List.sum_nil]
  simp [List.getD, h]
theorem totP_le (ps : List (Int × List Int)) : ∀ (i j : Nat), i ≤ j → totP ps i ≤ totP ps j := by
  intro i j h
  unfold totP
  have : ps.take j = ps.take i ++ (ps.drop i).take (j - i) := by
    rw [← List.take_add]; congr 1; omega
  rw [this]; simp

def mkP (k : Int) (ps : List (Int × List Int)) : List (Int × List Int) :=
  (List.range ps.length).map fun i => (k + (totP ps i : Int), mkI (k + (totP ps i : Int) + 1) (ps.getD i (0, [])).2.length)

theorem mkP_len (k : Int) (ps : List (Int × List Int)) : (mkP k ps).length = ps.length := by simp [mkP]
theorem mkP_at (k : Int) (ps : List (Int × List Int)) (i : Nat) (h : i < ps.length) : (mkP k ps).getD i (0, []) = (k + (totP ps i : Int), mkI (k + (totP ps i : Int) + 1) (ps.getD i (0, [])).2.length) := by simp [mkP, List.getD, h]

theorem cell_wr {T : Nat → Prop} {w w' : World} {b o : Nat} {v : Value} (hw : Wr T w w') (h : w.cell? ⟨b, o, none⟩ = some v) (hd : ¬ T b) : w'.cell? ⟨b, o, none⟩ = some v :=
  (hw.cell (World.block_lt_of_cell? _ _ h) hd).trans h

theorem RdI.wr {S T : Nat → Prop} {w w' : World} {v : Value} {xs : List Int} (h : RdI S w v xs) (hw : Wr T w w') (hd : xs ≠ [] → ∀ b, S b → ¬ T b) : RdI S w' v xs := by
  obtain ⟨ao, c, h1, h2, h3⟩ := h
  refine ⟨ao, c, h1, h2, fun hne => ?_⟩
  obtain ⟨b, off, e, hs, hc⟩ := h3 hne
  exact ⟨b, off, e, hs, fun i hi => cell_wr hw (hc i hi) (hd hne b hs)⟩

theorem RdII.wr {S T : Nat → Prop} {w w' : World} {v : Value} {xs : List (List Int)} (h : RdII S w v xs) (hw : Wr T w w') (hd : ∀ b, S b → ¬ T b) : RdII S w' v xs := by
  obtain ⟨ao, c, h1, h2, h3⟩ := h
  refine ⟨ao, c, h1, h2, fun hne => ?_⟩
  obtain ⟨b, off, V, e, hs, hc⟩ := h3 hne
  exact ⟨b, off, V, e, hs, fun i hi => ⟨cell_wr hw (hc i hi).1 (hd b hs), (hc i hi).2.wr hw fun _ => hd⟩⟩

theorem RdP.wr {S T : Nat → Prop} {w w' : World} {v : Value} {ps : List (Int × List Int)} (h : RdP S w v ps) (hw : Wr T w w') (hd : ∀ b, S b → ¬ T b) : RdP S w' v ps := by
  obtain ⟨ao, c, h1, h2, h3⟩ := h
  refine ⟨ao, c, h1, h2, fun hne => ?_⟩
  obtain ⟨b, off, V, e, hs, hc⟩ := h3 hne
  exact ⟨b, off, V, e, hs, fun i hi => ⟨cell_wr hw (hc i hi).1 (hd b hs), cell_wr hw (hc i hi).2.1 (hd b hs), (hc i hi).2.2.wr hw fun _ => hd⟩⟩

theorem OwII.wr {S T : Nat → Prop} {w w' : World} {v : Value} {xss : List (List Int)} (h : OwII S w v xss) (hw : Wr T w w') (hd : ∀ b, S b → ¬ T b) : OwII S w' v xss := by
  obtain ⟨ao, c, b, off, V, B, h1, h2, h3, h4⟩ := h
  refine ⟨ao, c, b, off, V, B, h1, h2, h3, fun i hi => ?_⟩
  obtain ⟨f1, f2, f3⟩ := h4 i hi
  have hne : xss ≠ [] := by rintro rfl; exact absurd hi (Nat.not_lt_zero _)
  refine ⟨cell_wr hw f1 (hd b (h3 hne).2), f2.wr hw (fun hn x hx => hx ▸ hd _ (f3 hn).1), fun hn => ?_⟩
  obtain ⟨q1, q2, q3, q4⟩ := f3 hn
  obtain ⟨x, rfl, hl⟩ := f2.lt hn
  exact ⟨q1, q2, fun o => by rw [hw.frz _ _ hl]; exact q3 o, q4⟩

theorem OwP.wr {S T : Nat → Prop} {w w' : World} {v : Value} {ps : List (Int × List Int)} (h : OwP S w v ps) (hw : Wr T w w') (hd : ∀ b, S b → ¬ T b) : OwP S w' v ps := by
  obtain ⟨ao, c, b, off, V, B, h1, h2, h3, h4⟩ := h
  refine ⟨ao, c, b, off, V, B, h1, h2, fun hne => ?_, fun i hi => ?_⟩
  · obtain ⟨q1, q2, q3⟩ := h3 hne
    have hl := World.block_lt_of_cell? _ _ (h4 0 (List.length_pos_iff.2 hne)).1
    exact ⟨q1, q2, fun o => by rw [hw.frz _ _ hl]; exact q3 o⟩
  · obtain ⟨f1, f2, f2', f3⟩ := h4 i hi
    have hne : ps ≠ [] := by rintro rfl; exact absurd hi (Nat.not_lt_zero _)
    refine ⟨cell_wr hw f1 (hd b (h3 hne).2.1), cell_wr hw f2 (hd b (h3 hne).2.1), f2'.wr hw (fun hn x hx => hx ▸ hd _ (f3 hn).1), fun hn => ?_⟩
    obtain ⟨q1, q2, q3, q4⟩ := f3 hn
    obtain ⟨x, rfl, hl⟩ := f2'.lt hn
    exact ⟨q1, q2, fun o => by rw [hw.frz _ _ hl]; exact q3 o, q4⟩

theorem OwII.later {S : Nat → Prop} {w w' : World} {v : Value} {xs : List (List Int)} (h : OwII S w v xs) (hb : Below w.heap.size w w') : OwII S w' v xs :=
  h.wr (Wr.of_below hb fun _ => False) fun _ _ => id
theorem OwP.later {S : Nat → Prop} {w w' : World} {v : Value} {ps : List (Int × List Int)} (h : OwP S w v ps) (hb : Below w.heap.size w w') : OwP S w' v ps :=
  h.wr (Wr.of_below hb fun _ => False) fun _ _ => id

theorem Wr.on {S : Nat → Prop} {a b c : World} (h : Wr S a b) (k : Below b.heap.size b c) : Wr S a c := h.trans (Wr.of_below k S)
theorem wr_on {S : Nat → Prop} {a b c : World} (h : Below a.heap.size a b) (k : Wr S b c) : Wr S a c := (Wr.of_below h S).trans k

theorem OwII.mono {S T : Nat → Prop} {w : World} {v : Value} {xss : List (List Int)} (h : OwII S w v xss) (hT : ∀ b, S b → T b) : OwII T w v xss := by
  obtain ⟨ao, c, b, off, V, B, h1, h2, h3, h4⟩ := h
  exact ⟨ao, c, b, off, V, B, h1, h2, fun hne => ⟨(h3 hne).1, hT _ (h3 hne).2⟩, fun i hi => ⟨(h4 i hi).1, (h4 i hi).2.1, fun hn => ⟨hT _ ((h4 i hi).2.2 hn).1, ((h4 i hi).2.2 hn).2⟩⟩⟩

theorem OwP.mono {S T : Nat → Prop} {w : World} {v : Value} {ps : List (Int × List Int)} (h : OwP S w v ps) (hT : ∀ b, S b → T b) : OwP T w v ps := by
  obtain ⟨ao, c, b, off, V, B, h1, h2, h3, h4⟩ := h
  exact ⟨ao, c, b, off, V, B, h1, h2, fun hne => ⟨(h3 hne).1, hT _ (h3 hne).2.1, (h3 hne).2.2⟩, fun i hi => ⟨(h4 i hi).1, (h4 i hi).2.1, (h4 i hi).2.2.1, fun hn => ⟨hT _ ((h4 i hi).2.2.2 hn).1, ((h4 i hi).2.2.2 hn).2⟩⟩⟩

theorem OwII.shape {S : Nat → Prop} {w : World} {v : Value} {xss : List (List Int)} (h : OwII S w v xss) : ∃ ao c, v = .slice ao xss.length c := by
  obtain ⟨ao, c, _, _, _, _, h1, _⟩ := h
  exact ⟨ao, c, h1⟩
theorem OwP.shape {S : Nat → Prop} {w : World} {v : Value} {ps : List (Int × List Int)} (h : OwP S w v ps) : ∃ ao c, v = .slice ao ps.length c := by
  obtain ⟨ao, c, _, _, _, _, h1, _⟩ := h
  exact ⟨ao, c, h1⟩

end Go.Proofs.YtncgpfapepminaaDoor
/- The walks of the laws' copying functions: a copy reads as what was copied, in new blocks of its own. -/
namespace Go.Proofs.YtncgpfapepminaaDoor
open Go.RowKit

theorem Tryd.infoInt : (Tryd.prog.info? 2).map (fun i => (i.zero, i.size, i.bytes)) = some (some (.int .i64 0), 1, 8) := by kernel_rfl
theorem Tryd.infoInts : (Tryd.prog.info? 24).map (fun i => (i.zero, i.size, i.bytes)) = some (some (.slice none 0 0), 1, 24) := by kernel_rfl
theorem OwP_nil (S : Nat → Prop) (w : World) : OwP S w (.slice none 0 0) [] :=
  ⟨none, 0, 0, 0, fun _ => .bool false, fun _ => 0, by simp, by simp, fun h => absurd rfl h, fun i hi => absurd hi (Nat.not_lt_zero _)⟩
theorem OwII_nil (S : Nat → Prop) (w : World) : OwII S w (.slice none 0 0) [] :=
  ⟨none, 0, 0, 0, fun _ => .bool false, fun _ => 0, by simp, by simp, fun h => absurd rfl h, fun i hi => absurd hi (Nat.not_lt_zero _)⟩

/-- What the copying loop knows behind j numbers. -/
structure ToAt (X : Nat → Int) (n : Nat) (w : World) (j : Nat) (wr : World) : Prop where
  below : Below w.heap.size w wr
  size : wr.heap.size = w.heap.size + 1
  row : wr.rowIs w.heap.size 2 n (fun i => if i < j then .int .i64 (X i) else .int .i64 0)

theorem ToAt.step {X : Nat → Int} {n : Nat} {w : World} {j : Nat} {wr : World} (h : ToAt X n w j wr) :
    ToAt X n w (j + 1) (wr.setCell ⟨w.heap.size, j, none⟩ (.int .i64 (X j))) := by
  refine ⟨h.below.setCell (Nat.le_refl _) _, by simp [h.size], (h.row.set j (.int .i64 (X j))).congr fun i hi => ?_⟩
  by_cases e : i = j
  · subst e; simp
  · rw [if_neg e]
    by_cases e2 : i < j
    · rw [if_pos e2, if_pos (by omega)]
    · rw [if_neg e2, if_neg (by omega)]

/-- A row of numbers reads as them. -/
theorem rd_row {w : World} {b t : Nat} {xs : List Int} (h : w.rowIs b t xs.length (fun i => .int .i64 (xs.getD i 0))) (hm : xs.length ≤ 9223372036854775807) : RdI (· = b) w (.slice (some ⟨b, 0, none⟩) xs.length xs.length) xs :=
  ⟨_, 0, rfl, hm, fun _ => ⟨b, 0, rfl, rfl, fun i hi => by rw [Nat.zero_add]; exact h.cell hi⟩⟩

theorem ToAt.full {xs : List Int} {w w' : World} (h : ToAt (fun i => xs.getD i 0) xs.length w xs.length w') : w'.rowIs w.heap.size 2 xs.length (fun i => .int .i64 (xs.getD i 0)) :=
  h.row.congr fun i hi => by rw [if_pos hi]

/-- What the loop that copies rows knows behind j of them. -/
structure ToAt2 (xss : List (List Int)) (w : World) (j : Nat) (wr : World) : Prop where
  below : Below w.heap.size w wr
  size : wr.heap.size = w.heap.size + 1 + j
  row : wr.rowIs w.heap.size 24 xss.length (fun i => if i < j then .slice (some ⟨w.heap.size + 1 + i, 0, none⟩) (xss.getD i []).length (xss.getD i []).length else .slice none 0 0)
  rows : ∀ i, i < j → wr.rowIs (w.heap.size + 1 + i) 2 (xss.getD i []).length (fun t => .int .i64 ((xss.getD i []).getD t 0))

theorem ToAt2.step {xss : List (List Int)} {w : World} {j : Nat} {wr w1 : World} (h : ToAt2 xss w j wr) (h1 : ToAt (fun i => (xss.getD j []).getD i 0) (xss.getD j []).length wr (xss.getD j []).length w1) :
    ToAt2 xss w (j + 1) (w1.setCell ⟨w.heap.size, j, none⟩ (.slice (some ⟨wr.heap.size, 0, none⟩) (xss.getD j []).length (xss.getD j []).length)) := by
  have hsz := h.size
  refine ⟨(below_on h.below h1.below).setCell (Nat.le_refl _) _, by simp [h1.size, h.size]; omega, ?_, fun i hi => ?_⟩
  · refine ((h.row.of_block (h1.below.block _ (by omega))).set j _).congr fun i hi => ?_
    by_cases e : i = j
    · subst e; simp [hsz]
    · rw [if_neg e]
      by_cases e2 : i < j
      · rw [if_pos e2, if_pos (by omega)]
      · rw [if_neg e2, if_neg (by omega)]
  · by_cases e : i = j
    · subst e
      have := h1.full.setOther (a := ⟨w.heap.size, i, none⟩) (by simp; omega) (.slice (some ⟨wr.heap.size, 0, none⟩) (xss.getD i []).length (xss.getD i []).length)
      rwa [hsz] at this ⊢
    · exact ((h.rows i (by omega)).of_block (h1.below.block _ (by omega))).setOther (by simp; omega) _

/-- Cell t of the row of puts, j of which are copied; B: the row's block. -/
def putCellAt (ps : List (Int × List Int)) (B j t : Nat) : Value :=
  if t / 2 < j then (if t % 2 = 0 then .int .i64 (ps.getD (t / 2) (0, [])).1 else .slice (some ⟨B + 4 + 4 * (t / 2), 0, none⟩) (ps.getD (t / 2) (0, [])).2.length (ps.getD (t / 2) (0, [])).2.length)
  else (if t % 2 = 0 then .int .i64 0 else .slice none 0 0)

theorem putCellAt_num (ps : List (Int × List Int)) (B j i : Nat) (h : i < j) : putCellAt ps B j (i * 2) = .int .i64 (ps.getD i (0, [])).1 := by
  unfold putCellAt
  rw [show i * 2 / 2 = i by omega, if_pos h, if_pos (by omega)]
theorem putCellAt_words (ps : List (Int × List Int)) (B j i : Nat) (h : i < j) : putCellAt ps B j (i * 2 + 1) = .slice (some ⟨B + 4 + 4 * i, 0, none⟩) (ps.getD i (0, [])).2.length (ps.getD i (0, [])).2.length := by
  unfold putCellAt
  rw [show (i * 2 + 1) / 2 = i by omega, if_pos h, if_neg (by omega)]

theorem made_puts (w : World) (ps : List (Int × List Int)) (n : Nat) (hn : ps.length = n) (t : TypeId) : (w.alloc (.cells (madeCells #[.int .i64 0, .slice none 0 0] (n * 2)) t)).rowIs w.heap.size t (ps.length * 2) (putCellAt ps w.heap.size 0) := by
  subst hn
  refine ⟨_, Deep.blk_alloc_new _ _, size_madeCells _ _, fun i hi => ?_⟩
  unfold putCellAt
  rw [if_neg (Nat.not_lt_zero _)]
  rcases Nat.mod_two_eq_zero_or_one i with e | e <;> simp [madeCells, hi, e]

/-- A disk that lies in blocks of its own, from B on. -/
def OwD (B : Nat) (w : World) (u v : Value) (xss : List (List Int)) (ps : List (Int × List Int)) : Prop :=
  ∃ S T : Nat → Prop, (∀ b, S b → B ≤ b ∧ b < w.heap.size) ∧ (∀ b, T b → B ≤ b ∧ b < w.heap.size) ∧ (∀ b, S b → ¬ T b) ∧ OwII S w u xss ∧ OwP T w v ps

end Go.Proofs.YtncgpfapepminaaDoor
