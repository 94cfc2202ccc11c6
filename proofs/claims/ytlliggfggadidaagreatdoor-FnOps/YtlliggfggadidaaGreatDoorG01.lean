/- Base To Copy Draw Fault Tear Draw2 Eq Sz Small in one text: what each says stands at its head below. -/
import Derived.Test.YtlliggfggadidaaGreatDoorRows
import Derived.WalkKit
import Derived.WalkSpells
import Derived.WalkLawsBesides
import Derived.Deep.QuietTactic
import Derived.BigQuiet
import Derived.Deep.RegionHeld3
import Derived.Deep.OwnRows
import Derived.Deep.AppendLies
namespace Go.Proofs.YtlliggfggadidaaGreatDoor
open Go.RowKit
theorem ret_int {k : IntKind} {a b : Int} (h : a = b) : Ending.returned (.int k a) = .returned (.int k b) := by rw [h]
theorem hide {p : Prop} (h : p) : Hid p := h
def RdI (S : Nat → Prop) (w : World) (v : Value) (xs : List Int) : Prop :=
  ∃ (ao : Option Addr) (c : Nat), v = .slice ao xs.length (xs.length + c) ∧ xs.length ≤ 9223372036854775807 ∧
    (xs ≠ [] → ∃ b off, ao = some ⟨b, off, none⟩ ∧ S b ∧ ∀ i, i < xs.length → w.cell? ⟨b, off + i, none⟩ = some (.int .i64 (xs.getD i 0)))
def Keeps (S : Nat → Prop) (w w' : World) : Prop := ∀ b, S b → w'.heap[b]? = w.heap[b]?
theorem Keeps.cell {S : Nat → Prop} {w w' : World} (h : Keeps S w w') {b o : Nat} (hb : S b) : w'.cell? ⟨b, o, none⟩ = w.cell? ⟨b, o, none⟩ :=
  World.cell?_of_block (h b hb)
theorem RdI.keep {S T : Nat → Prop} {w w' : World} {v : Value} {xs : List Int} (h : RdI S w v xs) (hk : Keeps S w w') (hT : ∀ b, S b → T b) : RdI T w' v xs := by
  obtain ⟨ao, c, h1, h2, h3⟩ := h
  refine ⟨ao, c, h1, h2, fun hne => ?_⟩
  obtain ⟨b, off, e, hb, hc⟩ := h3 hne
  exact ⟨b, off, e, hT b hb, fun i hi => (hk.cell hb).trans (hc i hi)⟩
theorem RdI.shape {S : Nat → Prop} {w : World} {v : Value} {xs : List Int} (h : RdI S w v xs) : ∃ ao c, v = .slice ao xs.length c := by
  obtain ⟨ao, c, h1, _⟩ := h
  exact ⟨ao, _, h1⟩
theorem RdI.drewN {S : Nat → Prop} {w : World} {v : Value} {xs : List Int} (h : RdI S w v xs) (n : Nat) : RdI S (w.drewN n) v xs := h
structure Wr (S : Nat → Prop) (w w' : World) : Prop where
  os : w'.os = w.os
  tape : w'.tape = w.tape
  output : w'.output = w.output
  size : w.heap.size ≤ w'.heap.size
  block : ∀ k, k < w.heap.size → ¬ S k → w'.heap[k]? = w.heap[k]?
  frz : ∀ b o, b < w.heap.size → w'.frozen? ⟨b, o, none⟩ = w.frozen? ⟨b, o, none⟩
theorem Wr.refl (S : Nat → Prop) (w : World) : Wr S w w := ⟨rfl, rfl, rfl, Nat.le_refl _, fun _ _ _ => rfl, fun _ _ _ => rfl⟩
theorem Wr.trans {S : Nat → Prop} {a b c : World} (h : Wr S a b) (k : Wr S b c) : Wr S a c :=
  ⟨k.os.trans h.os, k.tape.trans h.tape, k.output.trans h.output, Nat.le_trans h.size k.size,
    fun i hi hs => (k.block i (Nat.lt_of_lt_of_le hi h.size) hs).trans (h.block i hi hs),
    fun i o hi => (k.frz i o (Nat.lt_of_lt_of_le hi h.size)).trans (h.frz i o hi)⟩
theorem Wr.mono {S T : Nat → Prop} {a b : World} (h : Wr S a b) (hT : ∀ x, S x → T x) : Wr T a b :=
  ⟨h.os, h.tape, h.output, h.size, fun i hi hs => h.block i hi (fun hx => hs (hT i hx)), h.frz⟩
theorem Wr.setCell {S : Nat → Prop} {a w : World} (h : Wr S a w) {p : Addr} (hp : S p.block) (u : Value) : Wr S a (w.setCell p u) :=
  h.trans ⟨rfl, rfl, rfl, by simp, fun k _ hs => Below.heap_setCell _ _ _ _ (fun e => hs (e ▸ hp)), fun _ _ _ => by simp⟩
theorem Wr.drewN {S : Nat → Prop} {a w : World} (h : Wr S a w) (n : Nat) : Wr S a (w.drewN n) := ⟨h.os, h.tape, h.output, h.size, h.block, h.frz⟩
theorem Wr.alloc {S : Nat → Prop} {a w : World} (h : Wr S a w) (o : Obj) : Wr S a (w.alloc o) :=
  h.trans ⟨rfl, rfl, rfl, by simp, fun k hk _ => Below.heap_alloc _ _ _ hk, fun b o' hb => World.frozen?_alloc_past _ _ _ hb⟩
theorem Wr.of_below {w w' : World} (h : Below w.heap.size w w') (S : Nat → Prop) : Wr S w w' :=
  ⟨h.os, h.tape, h.output, h.size, fun k hk _ => h.block k hk, fun b o hb => h.frozen (p := ⟨b, o, none⟩) hb⟩
theorem Wr.cell {S : Nat → Prop} {w w' : World} (h : Wr S w w') {b o : Nat} (hb : b < w.heap.size) (hs : ¬ S b) : w'.cell? ⟨b, o, none⟩ = w.cell? ⟨b, o, none⟩ :=
  World.cell?_of_block (h.block b hb hs)
theorem Wr.below {S : Nat → Prop} {w w' : World} (h : Wr S w w') {B : Nat} (hB : B ≤ w.heap.size) (hS : ∀ b, S b → B ≤ b) : Below B w w' :=
  ⟨h.os, h.tape, h.output, h.size, fun k hk => h.block k (by omega) (fun hs => by have := hS k hs; omega)⟩
theorem RdI.narrow {S T : Nat → Prop} {w : World} {v : Value} {xs : List Int} (h : RdI S w v xs) (hT : xs ≠ [] → ∀ b, S b → T b) : RdI T w v xs := by
  obtain ⟨ao, c, h1, h2, h3⟩ := h
  refine ⟨ao, c, h1, h2, fun hne => ?_⟩
  obtain ⟨b, off, e, hb, hc⟩ := h3 hne
  exact ⟨b, off, e, hT hne b hb, hc⟩
theorem RdI.lt {S : Nat → Prop} {w : World} {v : Value} {xs : List Int} (h : RdI S w v xs) (hne : xs ≠ []) : ∃ b, S b ∧ b < w.heap.size := by
  obtain ⟨ao, c, h1, h2, h3⟩ := h
  obtain ⟨b, off, e, hb, hc⟩ := h3 hne
  exact ⟨b, hb, World.block_lt_of_cell? _ _ (hc 0 (List.length_pos_iff.2 hne))⟩
theorem RdI.later {S : Nat → Prop} {w w' : World} {v : Value} {xs : List Int} (h : RdI S w v xs) (hb : Below w.heap.size w w') : RdI S w' v xs := by
  obtain ⟨ao, c, h1, h2, h3⟩ := h
  refine ⟨ao, c, h1, h2, fun hne => ?_⟩
  obtain ⟨b, off, e, hs, hc⟩ := h3 hne
  exact ⟨b, off, e, hs, fun i hi => cell_later hb (hc i hi)⟩
theorem bcell {W w1 : World} (hb : Below W.heap.size W w1) : (∀ b o, b < W.heap.size → w1.cell? ⟨b, o, none⟩ = W.cell? ⟨b, o, none⟩) ∧ (∀ b o, b < W.heap.size → w1.frozen? ⟨b, o, none⟩ = W.frozen? ⟨b, o, none⟩) :=
  ⟨fun b o h => hb.cell (p := ⟨b, o, none⟩) h, fun b o h => hb.frozen (p := ⟨b, o, none⟩) h⟩
theorem below_on {a b c : World} (h : Below a.heap.size a b) (k : Below b.heap.size b c) : Below a.heap.size a c := h.trans (k.mono h.size)
theorem below_alloc (w : World) (o : Obj) : Below w.heap.size w (w.alloc o) := (Below.refl _ _).alloc (Nat.le_refl _) _
theorem below_drewN (w : World) (n : Nat) : Below w.heap.size w (w.drewN n) := ⟨rfl, rfl, rfl, Nat.le_refl _, fun _ _ => rfl⟩
theorem cell_wr {T : Nat → Prop} {w w' : World} {b o : Nat} {v : Value} (hw : Wr T w w') (h : w.cell? ⟨b, o, none⟩ = some v) (hd : ¬ T b) : w'.cell? ⟨b, o, none⟩ = some v :=
  (hw.cell (World.block_lt_of_cell? _ _ h) hd).trans h
theorem RdI.wr {S T : Nat → Prop} {w w' : World} {v : Value} {xs : List Int} (h : RdI S w v xs) (hw : Wr T w w') (hd : xs ≠ [] → ∀ b, S b → ¬ T b) : RdI S w' v xs := by
  obtain ⟨ao, c, h1, h2, h3⟩ := h
  refine ⟨ao, c, h1, h2, fun hne => ?_⟩
  obtain ⟨b, off, e, hs, hc⟩ := h3 hne
  exact ⟨b, off, e, hs, fun i hi => cell_wr hw (hc i hi) (hd hne b hs)⟩
theorem Wr.on {S : Nat → Prop} {a b c : World} (h : Wr S a b) (k : Below b.heap.size b c) : Wr S a c := h.trans (Wr.of_below k S)
end Go.Proofs.YtlliggfggadidaaGreatDoor
namespace Go.Proofs.YtlliggfggadidaaGreatDoor
open Go.RowKit
theorem Tryz.infoInt : (Tryz.prog.info? 2).map (fun i => (i.zero, i.size, i.bytes)) = some (some (.int .i64 0), 1, 8) := by kernel_rfl
end Go.Proofs.YtlliggfggadidaaGreatDoor
namespace Go.Proofs.YtlliggfggadidaaGreatDoor
open Go.RowKit
def OwI (B : Nat) (w : World) (v : Value) (xs : List Int) : Prop :=
  ∃ b, RdI (· = b) w v xs ∧ (xs ≠ [] → B ≤ b ∧ b < w.heap.size ∧ ∀ o, w.frozen? ⟨b, o, none⟩ = false)
theorem OwI.rd {B : Nat} {w : World} {v : Value} {xs : List Int} (h : OwI B w v xs) : RdI (fun b => B ≤ b ∧ b < w.heap.size) w v xs := by
  obtain ⟨b, h1, h2⟩ := h
  exact h1.narrow fun hne x hx => hx ▸ ⟨(h2 hne).1, (h2 hne).2.1⟩
theorem OwI.shape {B : Nat} {w : World} {v : Value} {xs : List Int} (h : OwI B w v xs) : ∃ ao c, v = .slice ao xs.length c := by
  obtain ⟨b, ⟨ao, c, h1, _⟩, _⟩ := h
  exact ⟨ao, _, h1⟩
theorem OwI.mono {B B' : Nat} {w : World} {v : Value} {xs : List Int} (h : OwI B w v xs) (hB : B' ≤ B) : OwI B' w v xs := by
  obtain ⟨b, h1, h2⟩ := h
  exact ⟨b, h1, fun hne => ⟨Nat.le_trans hB (h2 hne).1, (h2 hne).2⟩⟩
theorem OwI.wr {B : Nat} {T : Nat → Prop} {w w' : World} {v : Value} {xs : List Int} (h : OwI B w v xs) (hw : Wr T w w') (hd : ∀ b, B ≤ b → b < w.heap.size → ¬ T b) : OwI B w' v xs := by
  obtain ⟨b, h1, h2⟩ := h
  refine ⟨b, h1.wr hw (fun hne x hx => by subst hx; exact hd _ (h2 hne).1 (h2 hne).2.1), fun hne => ?_⟩
  obtain ⟨k1, k2, k3⟩ := h2 hne
  exact ⟨k1, Nat.lt_of_lt_of_le k2 hw.size, fun o => by rw [hw.frz _ _ k2]; exact k3 o⟩
theorem OwI.later {B : Nat} {w w' : World} {v : Value} {xs : List Int} (h : OwI B w v xs) (hb : Below w.heap.size w w') : OwI B w' v xs :=
  h.wr (Wr.of_below hb fun _ => False) fun _ _ _ => id
theorem OwI_nil (B : Nat) (w : World) : OwI B w (.slice none 0 0) [] := ⟨0, ⟨none, 0, by simp, by simp, fun h => absurd rfl h⟩, fun h => absurd rfl h⟩
theorem run_append_zero {P : Program} (w : World) (t ty e : TypeId) (i : TypeInfo) (ht : P.underlying t = some (.slice e)) (hi : P.info? e = some i) (a : Option Addr) (n cap : Nat) (hn : n ≤ cap) (ao : Option Addr) (c : Nat) :
    (Builtin.append_ #[t, t] ty #[.slice a n cap, .slice ao 0 c]).run P w = .ok (.slice a n cap) w := by
  cases a <;> cases ao <;> simp [Builtin.append_, run_underlying ht, sizeOf, typeInfo, hi, Builtin.lenOf, Builtin.firstCells, hn, storeCells, loadCells, loadCellsFrom]
theorem wpList_append_any {P : Program} (w : World) {ops : Array Oper} {rest : List Oper} {o : Oper} {a : Act} {Q : Exit → Act → World → Prop} (hgd : o.guard = none) (s x : Operand) (t : TypeId)
    (ho : o.op = .call { callee := .builtin .append, args := #[s, x], argTypes := #[t, t] })
    (base : Nat) (e : TypeId) (i : TypeInfo) (z : Value) (size bytes : Nat) (ht : P.underlying t = some (.slice e)) (hi : P.info? e = some i) (hz : i.zero = some z)
    (hsize : i.size = size) (hby : i.bytes = bytes) (hzs : z.cells.size = size) (hsz : 0 < size)
    (v : Value) (n : Nat) (xs : List Value) (hs : a.eval s = v) (hown : w.ownsRow base e size v n xs)
    (ao : Option Addr) (m c : Nat) (news : List Value) (hx : a.eval x = .slice ao m c) (hl : news.length = m * size)
    (hnews : m ≠ 0 → ∃ ad, ao = some ad ∧ ∀ j u, news[j]? = some u → w.cell? (ad.add j) = some u) (h1 : ∀ u ∈ news, u.oneCell' = true)
    (h63 : n + m ≤ maxLen) (hbytes : (n + m) * bytes ≤ 140737488355328) (hbase : base ≤ w.heap.size)
    (h : ∀ v' w', w'.ownsRow base e size v' (n + m) (xs ++ news) → w.grownBy w' v.ownBlock → wpList P ops Q rest (a.put o.dst v') w') : wpList P ops Q (o :: rest) a w := by
  by_cases hm : m = 0
  · subst hm
    have hn : news = [] := List.eq_nil_of_length_eq_zero (by simpa using hl)
    subst hn
    refine wpList_plain hgd fun K hK => ?_
    have hv : ∃ ad k, v = .slice ad n k ∧ n ≤ k := by
      rcases hown.2 with ⟨rfl, rfl⟩ | ⟨g, cap, cur, rfl, _, _, hnc, _⟩
      · exact ⟨_, _, rfl, Nat.le_refl _⟩
      · exact ⟨_, _, rfl, hnc⟩
    obtain ⟨ad, k, rfl, hk⟩ := hv
    have hrun := run_append_zero (P := P) w t o.type e i ht hi ad n k hk ao c
    unfold Oper.wp
    simp [execOp, ho, resolve, invoke, builtin, hs, hx, hrun, Result.andThen]
    exact hK _ _ (h _ w (by simpa using hown) (World.grownBy.refl _ _))
  · obtain ⟨ad, rfl, hc⟩ := hnews hm
    exact wpList_append_own (P := P) w hgd s x t ho base e i z size bytes ht hi hz hsize hby hzs hsz v n xs hs hown ad m c news hx hl hc h1 h63 hbytes hbase (fun v' w' k1 k2 _ => h v' w' k1 k2)
theorem ow_of_owns {w : World} {B t : Nat} {v : Value} {n : Nat} {xs : List Int} (hn : xs.length = n) (h : w.ownsRow B t 1 v n (xs.map (Value.int .i64))) (hm : xs.length ≤ 9223372036854775807) : OwI B w v xs := by
  subst hn
  rcases h.2 with ⟨rfl, e⟩ | ⟨g, cap, cur, rfl, hg, hh, hnc, _⟩
  · have : xs = [] := List.eq_nil_of_length_eq_zero e
    subst this
    exact OwI_nil _ _
  · refine ⟨g, ⟨_, cap - xs.length, by rw [Nat.add_sub_cancel' hnc], hm, fun _ => ⟨g, 0, rfl, rfl, fun i hi => ?_⟩⟩, fun _ => ⟨hg, (Array.getElem?_eq_some_iff.1 hh).1, fun o => h.frozenAt o⟩⟩
    rw [Nat.zero_add, h.cellAt i (by simpa using hi)]
    simp [List.getD, hi]
theorem RdI.src {S : Nat → Prop} {w : World} {v : Value} {xs : List Int} (h : RdI S w v xs) :
    ∃ ao c, v = .slice ao xs.length c ∧ (xs.length ≠ 0 → ∃ ad, ao = some ad ∧ ∀ j u, (xs.map (Value.int .i64))[j]? = some u → w.cell? (ad.add j) = some u) := by
  obtain ⟨ao, c, h1, h2, h3⟩ := h
  refine ⟨ao, _, h1, fun hne => ?_⟩
  obtain ⟨b, off, e, _, hc⟩ := h3 (fun e => hne (by rw [e]; rfl))
  refine ⟨_, e, fun j u hu => ?_⟩
  have hj : j < xs.length := by
    have := (List.getElem?_eq_some_iff.1 hu).1
    simpa using this
  rw [Addr.add_lit, hc j hj]
  simp [hj] at hu
  simp [List.getD, hj, hu]
theorem copyWords {S : Nat → Prop} {w : World} {v : Value} {xs : List Int} (hv : RdI S w v xs) (hm : xs.length ≤ 1048576) :
    Calls Tryz.prog 69 #[v] w fun e w' => ∃ u, e = .returned u ∧ Below w.heap.size w w' ∧ OwI w.heap.size w' u xs := by
  obtain ⟨ao, c, rfl, hsrc⟩ := hv.src
  obtain ⟨i0, hi, hz0, hz1, hz2⟩ := info_parts Tryz.infoInt
  have HS := hide hsrc
  clear hsrc hv
  go_enter Tryz.func69, Tryz.ntmps69
  go_wp2_with (at_builtin; refine wpList_append_any _ rfl _ _ 24 rfl w.heap.size 2 i0 (.int .i64 0) 1 8 Tryz.underlying24 hi hz0 hz1 hz2 rfl (by decide) _ _ _ rfl (World.ownsRow_nil _ _ _ _) ao xs.length c (xs.map (Value.int .i64)) rfl (by simp) HS.out (ints_oneCell _ _) (by unfold maxLen; omega) (by omega) (Nat.le_refl _) ?_)
  intro v' w1 hown hgrow
  have HO := hide hown
  have HG := hide hgrow
  clear hown hgrow
  go_wp2
  go_ret
  refine ⟨v', rfl, (Below.refl _ _).grown HG.out (Nat.le_refl _) (fun k hk => by cases hk), ow_of_owns rfl HO.out (by omega)⟩
theorem l1IntsOwn {S : Nat → Prop} {w : World} {v : Value} {xs : List Int} (hv : RdI S w v xs) (hm : xs.length ≤ 1048576) :
    Calls Tryz.prog 71 #[v] w fun e w' => ∃ u, e = .returned u ∧ Below w.heap.size w w' ∧ w'.ownsRow w.heap.size 2 1 u xs.length (xs.map (Value.int .i64)) := by
  obtain ⟨ao, c, rfl, hsrc⟩ := hv.src
  obtain ⟨i0, hi, hz0, hz1, hz2⟩ := info_parts Tryz.infoInt
  have HS : Hid (xs.length ≠ 0 → ∃ ad, ao = some ad ∧ ∀ j u, (xs.map (Value.int .i64))[j]? = some u → (w.alloc (.cells #[] 2)).cell? (ad.add j) = some u) := fun hne => by
    obtain ⟨ad, e, hc⟩ := hsrc hne
    exact ⟨ad, e, fun j u hu => cell_later (below_alloc _ _) (hc j u hu)⟩
  clear hsrc hv
  go_enter Tryz.func71, Tryz.ntmps71
  go_wp2_with (at_builtin; refine wpList_append_any _ rfl _ _ 24 rfl w.heap.size 2 i0 (.int .i64 0) 1 8 Tryz.underlying24 hi hz0 hz1 hz2 rfl (by decide) _ 0 [] rfl (World.ownsRow_made w #[] 0 (Nat.le_refl _) (by unfold maxLen; omega) (by simp)) ao xs.length c (xs.map (Value.int .i64)) rfl (by simp) HS.out (ints_oneCell _ _) (by unfold maxLen; omega) (by omega) (by simp) ?_)
  intro v' w1 hown hgrow
  have HO := hide hown
  have HG := hide hgrow
  clear hown hgrow
  go_wp2
  go_ret
  exact ⟨v', rfl, (below_alloc _ _).grown HG.out (by simp) (fun k hk => by simp [Value.ownBlock] at hk; omega), HO.out⟩
theorem l1Ints {S : Nat → Prop} {w : World} {v : Value} {xs : List Int} (hv : RdI S w v xs) (hm : xs.length ≤ 1048576) :
    Calls Tryz.prog 71 #[v] w fun e w' => ∃ u, e = .returned u ∧ Below w.heap.size w w' ∧ OwI w.heap.size w' u xs :=
  (l1IntsOwn hv hm).mono fun e w' ⟨u, he, hb, ho⟩ => ⟨u, he, hb, ow_of_owns rfl ho (by omega)⟩
end Go.Proofs.YtlliggfggadidaaGreatDoor
namespace Go.Proofs.YtlliggfggadidaaGreatDoor
open Go.RowKit
def RdB (s : Nat) (w : World) (v : Value) (bs : List Nat) : Prop :=
  ∃ (ao : Option Addr) (c : Nat), v = .slice ao bs.length c ∧ bs.length ≤ 2097152 ∧
    (bs ≠ [] → ∃ b off, ao = some ⟨b, off, none⟩ ∧ b ≠ s ∧ ∀ i, i < bs.length → w.cell? ⟨b, off + i, none⟩ = some (.int .u8 ((bs.getD i 0 : Nat) : Int)) ∧ bs.getD i 0 ≤ 255)
structure Src (s : Nat) (v : Value) (bs : List Nat) (w : World) (t : Nat) : Prop where
  code : w.cell? ⟨s, 0, none⟩ = some v
  at_ : w.cell? ⟨s, 1, none⟩ = some (.int .i64 (t : Int))
  free : ∀ o, w.frozen? ⟨s, o, none⟩ = false
  rd : RdB s w v bs
theorem RdB.wr {s : Nat} {w w' : World} {v : Value} {bs : List Nat} (h : RdB s w v bs) (hw : Wr (· = s) w w') : RdB s w' v bs := by
  obtain ⟨ao, c, e1, e2, e3⟩ := h
  refine ⟨ao, c, e1, e2, fun hne => ?_⟩
  obtain ⟨b, off, f1, f2, f3⟩ := e3 hne
  exact ⟨b, off, f1, f2, fun i hi => ⟨cell_wr hw (f3 i hi).1 f2, (f3 i hi).2⟩⟩
theorem Src.set {s : Nat} {v : Value} {bs : List Nat} {w : World} {t : Nat} (h : Src s v bs w t) : Src s v bs (w.setCell ⟨s, 1, none⟩ (.int .i64 ((t : Int) + 1))) (t + 1) := by
  refine ⟨?_, ?_, fun o => by rw [World.frozen?_setCell]; exact h.free o, h.rd.wr ((Wr.refl (· = s) w).setCell (p := ⟨s, 1, none⟩) rfl _)⟩
  · rw [World.cell?_setCell_other _ _ _ _ (by simp)]; exact h.code
  · rw [World.cell?_setCell_same _ _ _ h.at_]; simp
theorem Src.drewN {s : Nat} {v : Value} {bs : List Nat} {w : World} {t : Nat} (h : Src s v bs w t) (q : Nat) : Src s v bs (w.drewN q) t := ⟨h.code, h.at_, h.free, h.rd⟩
theorem Src.lt {s : Nat} {v : Value} {bs : List Nat} {w : World} {t : Nat} (h : Src s v bs w t) : s < w.heap.size := World.block_lt_of_cell? _ _ h.code
theorem Src.later {s : Nat} {v : Value} {bs : List Nat} {w w' : World} {t : Nat} (h : Src s v bs w t) (hb : Below w.heap.size w w') : Src s v bs w' t := by
  refine ⟨cell_later hb h.code, cell_later hb h.at_, fun o => ((bcell hb).2 _ _ h.lt).trans (h.free o), ?_⟩
  obtain ⟨ao, c, e1, e2, e3⟩ := h.rd
  refine ⟨ao, c, e1, e2, fun hne => ?_⟩
  obtain ⟨b, off, f1, f2, f3⟩ := e3 hne
  exact ⟨b, off, f1, f2, fun i hi => ⟨cell_later hb (f3 i hi).1, (f3 i hi).2⟩⟩
def Drawn (N s : Nat) (v : Value) (bs : List Nat) (t t' : Nat) (w w' : World) : Prop := Src s v bs w' t' ∧ Wr (· = s) w w' ∧ t' ≤ t + N
theorem drawn_one {s : Nat} {v : Value} {bs : List Nat} {w : World} {t : Nat} (h : Src s v bs w t) (q : Nat) : Drawn 1 s v bs t (t + 1) w ((w.setCell ⟨s, 1, none⟩ (.int .i64 ((t : Int) + 1))).drewN q) :=
  ⟨h.set.drewN q, ((Wr.refl (· = s) w).setCell (p := ⟨s, 1, none⟩) rfl _).drewN q, Nat.le_refl _⟩
set_option maxHeartbeats 2000000 in
set_option maxRecDepth 4000 in
theorem l1Next {s : Nat} {v : Value} {bs : List Nat} {w : World} {t : Nat} (n : Int) (hS : Src s v bs w t) (ht : t ≤ 1073741824) (hn : n ≤ 1073741824) (hn1 : -1073741824 ≤ n) :
    Calls Tryz.prog 40 #[.pointer (some ⟨s, 0, none⟩), .int .i64 n] w fun e w' => ∃ r : Int, e = .returned (.int .i64 r) ∧ 0 ≤ r ∧ (1 ≤ n → r < n) ∧ ∃ t', Drawn 1 s v bs t t' w w' := by
  have HS := hide hS
  have c1 := hS.at_
  have c0 := hS.code
  have f1 := hS.free 1
  obtain ⟨ao, c, rfl, hk, hrd⟩ := hS.rd
  have HR := hide hrd
  clear hrd hS
  obtain ⟨k, hk'⟩ : ∃ k, bs.length = k := ⟨_, rfl⟩
  have HK := hide hk'
  rw [hk'] at hk c0 HS ⊢
  clear hk'
  by_cases hlt : n < 1
  · go_enter Tryz.func40, Tryz.ntmps40
    go_wp2
    go_ret
    exact ⟨0, rfl, by omega, fun h => by omega, t + 1, drawn_one HS.out 0⟩
  · have hn0 : ¬ n = 0 := by omega
    by_cases hk0 : k = 0
    · subst hk0
      go_enter Tryz.func40, Tryz.ntmps40
      go_wp2
      go_ret
      exact ⟨_, rfl, Int.emod_nonneg _ hn0, Int.emod_lt_of_pos _ (by omega), t + 1, drawn_one HS.out 0⟩
    · obtain ⟨b, off, rfl, hbs, hc⟩ := HR.out (by rintro rfl; exact hk0 (by rw [← HK.out]; rfl))
      have hkz : ¬ (k : Int) = 0 := by omega
      have hj : t % k < k := Nat.mod_lt _ (by omega)
      have hj2 : (t + 1) % k < k := Nat.mod_lt _ (by omega)
      obtain ⟨g1, g1b⟩ := hc (t % k) (by rw [HK.out]; exact hj)
      obtain ⟨g2, g2b⟩ := hc ((t + 1) % k) (by rw [HK.out]; exact hj2)
      obtain ⟨j, hje⟩ : ∃ j, t % k = j := ⟨_, rfl⟩
      obtain ⟨j2, hje2⟩ : ∃ j, (t + 1) % k = j := ⟨_, rfl⟩
      obtain ⟨d, hde⟩ : ∃ d, t / k = d := ⟨_, rfl⟩
      have m1 : (t : Int) % (k : Int) = (j : Int) := by omega
      have m2 : ((t : Int) + 1) % (k : Int) = (j2 : Int) := by rw [← hje2]; simp
      have m3 : (t : Int) / (k : Int) = (d : Int) := by omega
      have hd : d ≤ 1073741824 := by rw [← hde]; exact Nat.le_trans (Nat.div_le_self _ _) ht
      rw [hje] at g1 g1b hj
      rw [hje2] at g2 g2b hj2
      obtain ⟨x, hx⟩ : ∃ x, bs.getD j 0 = x := ⟨_, rfl⟩
      obtain ⟨x2, hx2⟩ : ∃ x, bs.getD j2 0 = x := ⟨_, rfl⟩
      rw [hx] at g1 g1b
      rw [hx2] at g2 g2b
      clear hje hje2 hde hx hx2 hc HR
      have hsb : ¬ s = b := fun e => hbs e.symm
      have j1 : (j : Int) < (k : Int) := by omega
      have j3 : (j2 : Int) < (k : Int) := by omega
      by_cases h200 : 200 < n
      · go_enter Tryz.func40, Tryz.ntmps40
        go_wp2_with fail
        go_quiet (fail)
        go_wp2_with fail
        go_quiet (fail)
        go_wp2
        go_ret
        exact ⟨_, rfl, Int.emod_nonneg _ hn0, fun _ => Int.emod_lt_of_pos _ (by omega), t + 1, drawn_one HS.out _⟩
      · go_enter Tryz.func40, Tryz.ntmps40
        go_wp2_with fail
        go_quiet (fail)
        go_wp2
        go_ret
        exact ⟨_, rfl, Int.emod_nonneg _ hn0, fun _ => Int.emod_lt_of_pos _ (by omega), t + 1, drawn_one HS.out _⟩
end Go.Proofs.YtlliggfggadidaaGreatDoor
namespace Go.Proofs.YtlliggfggadidaaGreatDoor
open Go.RowKit
def wF (X : Nat → Int) (n : Nat) : Int := if 64 < n then 2 else if (∀ i, i < n → 0 ≤ X i ∧ X i ≤ 65535) then 0 else 3
theorem wF_many {X : Nat → Int} {n : Nat} (h : 64 < n) : wF X n = 2 := by unfold wF; rw [if_pos h]
theorem wF_ok {X : Nat → Int} {n : Nat} (h : n ≤ 64) (h' : ∀ i, i < n → 0 ≤ X i ∧ X i ≤ 65535) : wF X n = 0 := by unfold wF; rw [if_neg (by omega), if_pos h']
theorem wF_range {X : Nat → Int} {n : Nat} (h : n ≤ 64) {i : Nat} (hi : i < n) (h' : X i < 0 ∨ 65535 < X i) : wF X n = 3 := by
  unfold wF; rw [if_neg (by omega), if_neg (fun k => by have := k i hi; omega)]
def wordsF (xs : List Int) : Int := wF (fun i => xs.getD i 0) xs.length
theorem l1In_yes (v lo hi : Int) (h1 : lo ≤ v) (h2 : v ≤ hi) (w : World) :
    Calls Tryz.prog 56 #[.int .i64 v, .int .i64 lo, .int .i64 hi] w fun e w' => e = .returned (.bool true) ∧ w' = w := by
  go_enter Tryz.func56, Tryz.ntmps56
  go_wp2
  go_ret
  exact ⟨rfl, rfl⟩
theorem l1In_no (v lo hi : Int) (h : v < lo ∨ hi < v) (w : World) :
    Calls Tryz.prog 56 #[.int .i64 v, .int .i64 lo, .int .i64 hi] w fun e w' => e = .returned (.bool false) ∧ w' = w := by
  by_cases h1 : v < lo
  · go_enter Tryz.func56, Tryz.ntmps56
    go_wp2
    go_ret
    exact ⟨by simp, rfl⟩
  · have h2 : hi < v := by omega
    clear h
    go_enter Tryz.func56, Tryz.ntmps56
    go_wp2
    go_ret
    exact ⟨by simp [h2], rfl⟩
theorem wordsFault_cells (X : Nat → Int) (n b off c : Nat) (w : World) (hm : n ≤ 9223372036854775807)
    (hx : ∀ i, i < n → w.cell? ⟨b, off + i, none⟩ = some (.int .i64 (X i))) :
    Calls Tryz.prog 64 #[.slice (some ⟨b, off, none⟩) n c] w fun e w' => e = .returned (.int .i64 (wF X n)) ∧ ∃ q, w' = w.drewN q := by
  have HX := hide hx
  clear hx
  by_cases hn : 64 < n
  · have HZ := hide (wF_many (X := X) hn)
    go_enter Tryz.func64, Tryz.ntmps64
    go_wp2
    go_ret
    exact ⟨ret_int HZ.out.symm, 0, rfl⟩
  · go_enter Tryz.func64, Tryz.ntmps64
    go_wp2
    go_loopw [10] (fun i wr => ∃ k : Nat, k ≤ n ∧ i = .int .i64 k ∧ Hid (∀ j, j < k → 0 ≤ X j ∧ X j ≤ 65535) ∧ wr = w) (fun i _ => n - (intOf i).toNat)
    case atStart => exact ⟨0, Nat.zero_le _, rfl, fun j hj => absurd hj (Nat.not_lt_zero _), rfl⟩
    case round =>
      obtain ⟨k, hk, rfl, HA, rfl⟩ := hrel
      by_cases hlt : k < n
      · have g1 := HX.out k hlt
        by_cases h1 : X k < 0
        · have HZ := hide (wF_range (X := X) (by omega) hlt (Or.inl h1))
          go_wp2
          go_ret
          exact ⟨ret_int HZ.out.symm, 0, rfl⟩
        · by_cases h2 : 65535 < X k
          · have HZ := hide (wF_range (X := X) (by omega) hlt (Or.inr h2))
            go_wp2
            go_ret
            exact ⟨ret_int HZ.out.symm, 0, rfl⟩
          · go_wp2
            go_roundw
            case rel => exact ⟨k + 1, by omega, by go_num, fun j hj => (by by_cases e : j = k; · subst e; omega
                                                                           · exact HA.out j (by omega)), by simp⟩
            case measure => simp [intOf]; omega
      · have HZ := hide (wF_ok (X := X) (n := n) (by omega) (fun i hi => HA.out i (by omega)))
        go_wp2
        go_ret
        exact ⟨ret_int HZ.out.symm, 0, rfl⟩
theorem wordsFault_none (ao : Option Addr) (c : Nat) (w : World) :
    Calls Tryz.prog 64 #[.slice ao 0 c] w fun e w' => e = .returned (.int .i64 0) ∧ ∃ q, w' = w.drewN q := by
  go_enter Tryz.func64, Tryz.ntmps64
  go_wp2
  go_loopw [10] (fun i wr => i = .int .i64 0 ∧ wr = w) (fun _ _ => 0)
  case atStart => exact ⟨rfl, rfl⟩
  case round =>
    obtain ⟨rfl, rfl⟩ := hrel
    go_wp2
    go_ret
    exact ⟨rfl, 0, rfl⟩
theorem wordsFault {S : Nat → Prop} {w : World} {v : Value} {xs : List Int} (hv : RdI S w v xs) :
    Calls Tryz.prog 64 #[v] w fun e w' => e = .returned (.int .i64 (wordsF xs)) ∧ ∃ q, w' = w.drewN q := by
  obtain ⟨ao, c, rfl, hm, h⟩ := hv
  by_cases hne : xs = []
  · subst hne
    have e0 : wordsF [] = 0 := wF_ok (by simp) (by simp)
    rw [e0]
    exact wordsFault_none _ _ _
  · obtain ⟨b, off, rfl, _, hc⟩ := h hne
    exact wordsFault_cells _ _ _ _ _ _ hm hc
theorem l1Words_cells (X : Nat → Int) (n b off c : Nat) (w : World) (hm : n ≤ 9223372036854775807)
    (hx : ∀ i, i < n → w.cell? ⟨b, off + i, none⟩ = some (.int .i64 (X i))) :
    Calls Tryz.prog 86 #[.slice (some ⟨b, off, none⟩) n c] w fun e w' => e = .returned (.int .i64 (wF X n)) ∧ ∃ q, w' = w.drewN q := by
  have HX := hide hx
  clear hx
  by_cases hn : 64 < n
  · have HZ := hide (wF_many (X := X) hn)
    go_enter Tryz.func86, Tryz.ntmps86
    go_wp2
    go_ret
    exact ⟨ret_int HZ.out.symm, 0, rfl⟩
  · go_enter Tryz.func86, Tryz.ntmps86
    go_wp2
    go_loopw [3] (fun i wr => ∃ k : Nat, k ≤ n ∧ i = .int .i64 k ∧ Hid (∀ j, j < k → 0 ≤ X j ∧ X j ≤ 65535) ∧ wr = w) (fun i _ => n - (intOf i).toNat)
    case atStart => exact ⟨0, Nat.zero_le _, rfl, fun j hj => absurd hj (Nat.not_lt_zero _), rfl⟩
    case round =>
      obtain ⟨k, hk, rfl, HA, rfl⟩ := hrel
      by_cases hlt : k < n
      · have g1 := HX.out k hlt
        by_cases h1 : X k < 0 ∨ 65535 < X k
        · have HZ := hide (wF_range (X := X) (by omega) hlt h1)
          have H1 := hide h1
          clear h1
          go_wp2_with fail
          refine (l1In_no _ _ _ H1.out _).mono ?_
          rintro e w' ⟨rfl, rfl⟩
          go_wp2
          go_ret
          exact ⟨ret_int HZ.out.symm, 0, rfl⟩
        · have h2 : 0 ≤ X k := by omega
          have h3 : X k ≤ 65535 := by omega
          clear h1
          go_wp2_with fail
          refine (l1In_yes _ _ _ h2 h3 _).mono ?_
          rintro e w' ⟨rfl, rfl⟩
          go_wp2
          go_roundw
          case rel => exact ⟨k + 1, by omega, by go_num, fun j hj => (by by_cases e : j = k; · subst e; omega
                                                                         · exact HA.out j (by omega)), by simp⟩
          case measure => simp [intOf]; omega
      · have HZ := hide (wF_ok (X := X) (n := n) (by omega) (fun i hi => HA.out i (by omega)))
        go_wp2
        go_ret
        exact ⟨ret_int HZ.out.symm, 0, rfl⟩
theorem l1Words_none (ao : Option Addr) (c : Nat) (w : World) :
    Calls Tryz.prog 86 #[.slice ao 0 c] w fun e w' => e = .returned (.int .i64 0) ∧ ∃ q, w' = w.drewN q := by
  go_enter Tryz.func86, Tryz.ntmps86
  go_wp2
  go_loopw [3] (fun i wr => i = .int .i64 0 ∧ wr = w) (fun _ _ => 0)
  case atStart => exact ⟨rfl, rfl⟩
  case round =>
    obtain ⟨rfl, rfl⟩ := hrel
    go_wp2
    go_ret
    exact ⟨rfl, 0, rfl⟩
theorem l1Words {S : Nat → Prop} {w : World} {v : Value} {xs : List Int} (hv : RdI S w v xs) :
    Calls Tryz.prog 86 #[v] w fun e w' => e = .returned (.int .i64 (wordsF xs)) ∧ ∃ q, w' = w.drewN q := by
  obtain ⟨ao, c, rfl, hm, h⟩ := hv
  by_cases hne : xs = []
  · subst hne
    have e0 : wordsF [] = 0 := wF_ok (by simp) (by simp)
    rw [e0]
    exact l1Words_none _ _ _
  · obtain ⟨b, off, rfl, _, hc⟩ := h hne
    exact l1Words_cells _ _ _ _ _ _ hm hc
end Go.Proofs.YtlliggfggadidaaGreatDoor
namespace Go.Proofs.YtlliggfggadidaaGreatDoor
open Go.RowKit
theorem RdI.at {S : Nat → Prop} {w : World} {ao : Option Addr} {n c : Nat} {xs : List Int} (h : RdI S w (.slice ao n c) xs) {k : Nat} (hk : k < xs.length) : ∃ b off, ao = some ⟨b, off, none⟩ ∧ w.cell? ⟨b, off + k, none⟩ = some (.int .i64 (xs.getD k 0)) := by
  obtain ⟨ao', c', e1, e2, e3⟩ := h
  obtain ⟨b, off, f1, f2, f3⟩ := e3 (by rintro rfl; simp at hk)
  injection e1 with e1 _ _
  exact ⟨b, off, by rw [e1, f1], f3 k hk⟩
end Go.Proofs.YtlliggfggadidaaGreatDoor
namespace Go.Proofs.YtlliggfggadidaaGreatDoor
open Go.RowKit
theorem Wr.onBelow {S : Nat → Prop} {a w w' : World} (h : Wr S a w) (k : Below a.heap.size w w') : Wr S a w' :=
  ⟨k.os.trans h.os, k.tape.trans h.tape, k.output.trans h.output, Nat.le_trans h.size k.size, fun i hi hs => (k.block i hi).trans (h.block i hi hs), fun b o hb => (k.frozen (p := ⟨b, o, none⟩) hb).trans (h.frz b o hb)⟩
theorem Drawn.on {M N s : Nat} {v : Value} {bs : List Nat} {t t' t'' : Nat} {a b c : World} (h : Drawn M s v bs t t' a b) (k : Drawn N s v bs t' t'' b c) : Drawn (M + N) s v bs t t'' a c :=
  ⟨k.1, h.2.1.trans k.2.1, by have := h.2.2; have := k.2.2; omega⟩
theorem Drawn.refl {s : Nat} {v : Value} {bs : List Nat} {t : Nat} {w : World} (h : Src s v bs w t) : Drawn 0 s v bs t t w w := ⟨h, Wr.refl _ _, Nat.le_refl _⟩
theorem Drawn.later {N s : Nat} {v : Value} {bs : List Nat} {t t' : Nat} {a b c : World} (h : Drawn N s v bs t t' a b) (hb : Below b.heap.size b c) : Drawn N s v bs t t' a c :=
  ⟨h.1.later hb, h.2.1.on hb, h.2.2⟩
theorem Drawn.mono {M N s : Nat} {v : Value} {bs : List Nat} {t t' : Nat} {a b : World} (h : Drawn M s v bs t t' a b) (hN : M ≤ N) : Drawn N s v bs t t' a b := ⟨h.1, h.2.1, by have := h.2.2; omega⟩
theorem l1Source {w : World} {v : Value} {bs : List Nat} (hv : RdB w.heap.size w v bs) :
    Calls Tryz.prog 19 #[v] w fun e w' => e = .returned (.pointer (some ⟨w.heap.size, 0, none⟩)) ∧ Below w.heap.size w w' ∧ w'.heap.size = w.heap.size + 1 ∧ Src w.heap.size v bs w' 0 := by
  have HV := hide hv
  obtain ⟨ao, c, rfl, h2, h3⟩ := hv
  go_enter Tryz.func19, Tryz.ntmps19
  go_wp2
  go_ret
  refine ⟨rfl, below_alloc _ _, by simp, by simp [go_sem], by simp [go_sem], fun o => by simp [go_sem], ?_⟩
  obtain ⟨ao', c', e1, e2, e3⟩ := HV.out
  refine ⟨ao', c', e1, e2, fun hne => ?_⟩
  obtain ⟨b, off, f1, f2, f3⟩ := e3 hne
  exact ⟨b, off, f1, f2, fun i hi => ⟨cell_later (below_alloc _ _) (f3 i hi).1, (f3 i hi).2⟩⟩
set_option maxHeartbeats 1000000 in
theorem l1Pick {s : Nat} {v u : Value} {bs : List Nat} {w : World} {t : Nat} {xs : List Int} (hS : Src s v bs w t) (ht : t ≤ 1073741824) (hu : RdI (· ≠ s) w u xs) (hx0 : xs ≠ []) (hxl : xs.length ≤ 1048576) :
    Calls Tryz.prog 53 #[.pointer (some ⟨s, 0, none⟩), u] w fun e w' => ∃ i, i < xs.length ∧ e = .returned (.int .i64 (xs.getD i 0)) ∧ ∃ t', Drawn 1 s v bs t t' w w' := by
  have HS := hide hS
  obtain ⟨ao, c, rfl, h2, h3⟩ := hu
  obtain ⟨b, off, rfl, hb, hc⟩ := h3 hx0
  have HC := hide hc
  obtain ⟨k, hk⟩ : ∃ k, xs.length = k := ⟨_, rfl⟩
  have HK := hide hk
  have hk0 : 0 < k := by rw [← hk]; exact List.length_pos_iff.2 hx0
  rw [hk] at hxl ⊢
  clear hS h2 h3 hc hk hx0
  go_enter Tryz.func53, Tryz.ntmps53
  go_wp2_with fail
  refine (l1Next (k : Int) HS.out ht (by omega) (by omega)).mono ?_
  rintro e w1 ⟨r, rfl, hr0, hr1, t', hd⟩
  have hr2 : r < (k : Int) := hr1 (by omega)
  obtain ⟨i, rfl⟩ : ∃ i : Nat, r = (i : Int) := ⟨r.toNat, (Int.toNat_of_nonneg hr0).symm⟩
  have hi : i < k := by omega
  have g1 := cell_wr hd.2.1 (HC.out i (by rw [HK.out]; exact hi)) hb
  obtain ⟨x, hx⟩ : ∃ x, xs.getD i 0 = x := ⟨_, rfl⟩
  have HX := hide hx
  rw [hx] at g1
  have HD := hide hd
  clear hr1 hd hx
  go_wp2
  go_ret
  exact ⟨i, hi, ret_int HX.out.symm, t', HD.out⟩
theorem RdI_new (s : Nat) (w : World) (xs : List Int) (t : TypeId) (hs : s < w.heap.size) (hl : xs.length ≤ 1048576) : RdI (· ≠ s) (w.alloc (.cells (xs.map (Value.int .i64)).toArray t)) (.slice (some ⟨w.heap.size, 0, none⟩) xs.length xs.length) xs := by
  refine ⟨_, 0, by simp, by omega, fun _ => ⟨w.heap.size, 0, rfl, by omega, fun i hi => ?_⟩⟩
  simp [go_sem]
  rw [List.getElem?_eq_getElem hi]
  rfl
theorem Drawn.onBelow {N s : Nat} {v : Value} {bs : List Nat} {t0 t t' : Nat} {a b c : World} (h0 : Src s v bs a t0) (h : Drawn N s v bs t t' a b) (hb : Below a.heap.size b c) : Drawn N s v bs t t' a c := by
  have hl := h0.lt
  have hw := h.2.1.onBelow hb
  exact ⟨⟨(hb.cell (p := ⟨s, 0, none⟩) hl).trans h.1.code, (hb.cell (p := ⟨s, 1, none⟩) hl).trans h.1.at_, fun o => (hb.frozen (p := ⟨s, o, none⟩) hl).trans (h.1.free o), h0.rd.wr hw⟩, hw, h.2.2⟩
theorem ownsRow_wr {w w' : World} {B e z s : Nat} {v : Value} {n : Nat} {xs : List Value} (h : w.ownsRow B e z v n xs) (hw : Wr (· = s) w w') (hs : v.ownBlock ≠ some s) : w'.ownsRow B e z v n xs := by
  obtain ⟨h1, h2⟩ := h
  refine ⟨h1, ?_⟩
  rcases h2 with h2 | ⟨g, cap, cur, hv, hg, hh, r⟩
  · exact Or.inl h2
  · exact Or.inr ⟨g, cap, cur, hv, hg, by rw [hw.block g (Array.getElem?_eq_some_iff.1 hh).1 (fun e => hs (by rw [hv, e]; rfl))]; exact hh, r⟩
theorem ownBlock_ne {w : World} {B e z s : Nat} {v : Value} {n : Nat} {xs : List Value} (h : w.ownsRow B e z v n xs) (hs : s < B) : v.ownBlock ≠ some s := fun e => by have := (h.lt _ e).1; omega
theorem made_ints (w : World) (n : Nat) (hn : n ≤ 1048576) (t : TypeId) : OwI w.heap.size (w.alloc (.cells (madeCells #[.int .i64 0] n) t)) (.slice (some ⟨w.heap.size, 0, none⟩) n n) (List.replicate n 0) := by
  refine ⟨w.heap.size, ⟨_, 0, by simp, by simp; omega, fun _ => ⟨w.heap.size, 0, rfl, rfl, fun i hi => ?_⟩⟩, fun _ => ⟨Nat.le_refl _, by simp, fun o => by simp [go_sem]⟩⟩
  have hi' : i < n := by simpa using hi
  have := (World.rowIs_made w (.int .i64 0) n t).cell hi'
  simpa [List.getD, hi'] using this
end Go.Proofs.YtlliggfggadidaaGreatDoor
namespace Go.Proofs.YtlliggfggadidaaGreatDoor
open Go.RowKit
end Go.Proofs.YtlliggfggadidaaGreatDoor
namespace Go.Proofs.YtlliggfggadidaaGreatDoor
open Go.RowKit
end Go.Proofs.YtlliggfggadidaaGreatDoor
namespace Go.Proofs.YtlliggfggadidaaGreatDoor
open Go.RowKit
end Go.Proofs.YtlliggfggadidaaGreatDoor
