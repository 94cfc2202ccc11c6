/- To Copy Fault in one text: what each says stands at its head below. -/
import Derived.Test.YtamknomapabmfaaGreatG01
import Derived.Deep.OwnRows
/- The walks of the laws' copying functions: a copy reads as what was copied, in new blocks of its own. -/
namespace Go.Proofs.YtamknomapabmfaaGreat
open Go.RowKit

theorem Tryz.infoInt : (Tryz.prog.info? 2).map (fun i => (i.zero, i.size, i.bytes)) = some (some (.int .i64 0), 1, 8) := by kernel_rfl
theorem Tryz.infoInts : (Tryz.prog.info? 24).map (fun i => (i.zero, i.size, i.bytes)) = some (some (.slice none 0 0), 1, 24) := by kernel_rfl
theorem Tryz.infoPut : (Tryz.prog.info? 38).map (fun i => (i.zero, i.size, i.bytes)) = some (some (.agg #[.int .i64 0, .slice none 0 0]), 2, 32) := by kernel_rfl

theorem OwP_nil (S : Nat → Prop) (w : World) : OwP S w (.slice none 0 0) [] :=
  ⟨none, 0, 0, 0, fun _ => .bool false, fun _ => 0, by simp, by simp, fun h => absurd rfl h, fun i hi => absurd hi (Nat.not_lt_zero _)⟩
theorem OwII_nil (S : Nat → Prop) (w : World) : OwII S w (.slice none 0 0) [] :=
  ⟨none, 0, 0, 0, fun _ => .bool false, fun _ => 0, by simp, by simp, fun h => absurd rfl h, fun i hi => absurd hi (Nat.not_lt_zero _)⟩

/-- What the copying loop knows behind j numbers. -/
structure ToAt (X : Nat → Int) (n : Nat) (w : World) (j : Nat) (wr : World) : Prop where
  below : Below w.heap.size w wr
  size : wr.heap.size = w.heap.size + 1
  row : wr.rowIs w.heap.size 2 n (fun i => if i < j then .int .i64 (X i) else .int .i64 0)

theorem ToAt.step {X : Nat → Int} {n : Nat} {w : World} {j : Nat} {wr : World} (h : ToAt X n w j wr) :
    ToAt X n w (j + 1) (wr.setCell ⟨w.heap.size, j, none⟩ (.int .i64 (X j))) := by
  refine ⟨h.below.setCell (Nat.le_refl _) _, by simp [h.size], (h.row.set j (.int .i64 (X j))).congr fun i hi => ?_⟩
  by_cases e : i = j
  · subst e; simp
  · rw [if_neg e]
    by_cases e2 : i < j
    · rw [if_pos e2, if_pos (by omega)]
    · rw [if_neg e2, if_neg (by omega)]

/-- A row of numbers reads as them. -/
theorem rd_row {w : World} {b t : Nat} {xs : List Int} (h : w.rowIs b t xs.length (fun i => .int .i64 (xs.getD i 0))) (hm : xs.length ≤ 9223372036854775807) : RdI (· = b) w (.slice (some ⟨b, 0, none⟩) xs.length xs.length) xs :=
  ⟨_, 0, rfl, hm, fun _ => ⟨b, 0, rfl, rfl, fun i hi => by rw [Nat.zero_add]; exact h.cell hi⟩⟩

theorem ToAt.full {xs : List Int} {w w' : World} (h : ToAt (fun i => xs.getD i 0) xs.length w xs.length w') : w'.rowIs w.heap.size 2 xs.length (fun i => .int .i64 (xs.getD i 0)) :=
  h.row.congr fun i hi => by rw [if_pos hi]

/-- What the loop that copies rows knows behind j of them. -/
structure ToAt2 (xss : List (List Int)) (w : World) (j : Nat) (wr : World) : Prop where
  below : Below w.heap.size w wr
  size : wr.heap.size = w.heap.size + 1 + j
  row : wr.rowIs w.heap.size 24 xss.length (fun i => if i < j then .slice (some ⟨w.heap.size + 1 + i, 0, none⟩) (xss.getD i []).length (xss.getD i []).length else .slice none 0 0)
  rows : ∀ i, i < j → wr.rowIs (w.heap.size + 1 + i) 2 (xss.getD i []).length (fun t => .int .i64 ((xss.getD i []).getD t 0))

theorem ToAt2.step {xss : List (List Int)} {w : World} {j : Nat} {wr w1 : World} (h : ToAt2 xss w j wr) (h1 : ToAt (fun i => (xss.getD j []).getD i 0) (xss.getD j []).length wr (xss.getD j []).length w1) :
    ToAt2 xss w (j + 1) (w1.setCell ⟨w.heap.size, j, none⟩ (.slice (some ⟨wr.heap.size, 0, none⟩) (xss.getD j []).length (xss.getD j []).length)) := by
  have hsz := h.size
  refine ⟨(below_on h.below h1.below).setCell (Nat.le_refl _) _, by simp [h1.size, h.size]; omega, ?_, fun i hi => ?_⟩
  · refine ((h.row.of_block (h1.below.block _ (by omega))).set j _).congr fun i hi => ?_
    by_cases e : i = j
    · subst e; simp [hsz]
    · rw [if_neg e]
      by_cases e2 : i < j
      · rw [if_pos e2, if_pos (by omega)]
      · rw [if_neg e2, if_neg (by omega)]
  · by_cases e : i = j
    · subst e
      have := h1.full.setOther (a := ⟨w.heap.size, i, none⟩) (by simp; omega) (.slice (some ⟨wr.heap.size, 0, none⟩) (xss.getD i []).length (xss.getD i []).length)
      rwa [hsz] at this ⊢
    · exact ((h.rows i (by omega)).of_block (h1.below.block _ (by omega))).setOther (by simp; omega) _

/-- Cell t of the row of puts, j of which are copied; B: the row's block. -/
def putCellAt (ps : List (Int × List Int)) (B j t : Nat) : Value :=
  if t / 2 < j then (if t % 2 = 0 then .int .i64 (ps.getD (t / 2) (0, [])).1 else .slice (some ⟨B + 4 + 4 * (t / 2), 0, none⟩) (ps.getD (t / 2) (0, [])).2.length (ps.getD (t / 2) (0, [])).2.length)
  else (if t % 2 = 0 then .int .i64 0 else .slice none 0 0)

theorem putCellAt_num (ps : List (Int × List Int)) (B j i : Nat) (h : i < j) : putCellAt ps B j (i * 2) = .int .i64 (ps.getD i (0, [])).1 := by
  unfold putCellAt
  rw [show i * 2 / 2 = i by omega, if_pos h, if_pos (by omega)]
theorem putCellAt_words (ps : List (Int × List Int)) (B j i : Nat) (h : i < j) : putCellAt ps B j (i * 2 + 1) = .slice (some ⟨B + 4 + 4 * i, 0, none⟩) (ps.getD i (0, [])).2.length (ps.getD i (0, [])).2.length := by
  unfold putCellAt
  rw [show (i * 2 + 1) / 2 = i by omega, if_pos h, if_neg (by omega)]

/-- What the loop that copies puts knows behind j of them. -/
structure ToAt3 (ps : List (Int × List Int)) (w : World) (j : Nat) (wr : World) : Prop where
  below : Below w.heap.size w wr
  size : wr.heap.size = w.heap.size + 1 + 4 * j
  row : wr.rowIs w.heap.size 38 (ps.length * 2) (putCellAt ps w.heap.size j)
  rows : ∀ i, i < j → wr.rowIs (w.heap.size + 4 + 4 * i) 2 (ps.getD i (0, [])).2.length (fun t => .int .i64 ((ps.getD i (0, [])).2.getD t 0))

theorem ToAt3.step {ps : List (Int × List Int)} {w : World} {j : Nat} {wr w1 : World} (h : ToAt3 ps w j wr) (hb : Below wr.heap.size wr w1) (hz : w1.heap.size = wr.heap.size + 1 + 1 + 1 + 1)
    (h1 : w1.rowIs (wr.heap.size + 1 + 1 + 1) 2 (ps.getD j (0, [])).2.length (fun i => .int .i64 ((ps.getD j (0, [])).2.getD i 0))) :
    ToAt3 ps w (j + 1) ((w1.setCell ⟨w.heap.size, j * 2, none⟩ (.int .i64 (ps.getD j (0, [])).1)).setCell ⟨w.heap.size, j * 2 + 1, none⟩ (.slice (some ⟨wr.heap.size + 1 + 1 + 1, 0, none⟩) (ps.getD j (0, [])).2.length (ps.getD j (0, [])).2.length)) := by
  have hsz := h.size
  refine ⟨((below_on h.below hb).setCell (Nat.le_refl _) _).setCell (Nat.le_refl _) _, by simp [hz, h.size]; omega, ?_, fun i hi => ?_⟩
  · refine (((h.row.of_block (hb.block _ (by omega))).set (j * 2) _).set (j * 2 + 1) _).congr fun i hi => ?_
    by_cases e : i = j * 2 + 1
    · subst e
      rw [if_pos rfl, putCellAt_words _ _ _ _ (by omega), hsz]
      congr 3
      omega
    · rw [if_neg e]
      by_cases e1 : i = j * 2
      · subst e1
        rw [if_pos rfl, putCellAt_num _ _ _ _ (by omega)]
      · rw [if_neg e1]
        unfold putCellAt
        by_cases e2 : i / 2 < j
        · rw [if_pos e2, if_pos (show i / 2 < j + 1 by omega)]
        · rw [if_neg e2, if_neg (show ¬ i / 2 < j + 1 by omega)]
  · by_cases e : i = j
    · subst e
      have := (h1.setOther (a := ⟨w.heap.size, i * 2, none⟩) (by simp; omega) (.int .i64 (ps.getD i (0, [])).1)).setOther (a := ⟨w.heap.size, i * 2 + 1, none⟩) (by simp; omega) (.slice (some ⟨wr.heap.size + 1 + 1 + 1, 0, none⟩) (ps.getD i (0, [])).2.length (ps.getD i (0, [])).2.length)
      rw [show w.heap.size + 4 + 4 * i = wr.heap.size + 1 + 1 + 1 by omega]
      exact this
    · exact (((h.rows i (by omega)).of_block (hb.block _ (by omega))).setOther (by simp; omega) _).setOther (by simp; omega) _

theorem run_make_put (n : Nat) (hn : n ≤ 1048576) (w : World) :
    (Instr.makeSlice 30 (.int .i64 (n : Int)) (.int .i64 (n : Int))).run Tryz.prog w = .ok (.slice (some ⟨w.heap.size, 0, none⟩) n n) (w.alloc (.cells (madeCells #[.int .i64 0, .slice none 0 0] (n * 2)) 38)) := by
  obtain ⟨i, hi, hz, hs, hb⟩ := info_parts Tryz.infoPut
  have hr := run_make (P := Tryz.prog) w 30 38 i (.agg #[.int .i64 0, .slice none 0 0]) Tryz.underlying30 hi hz .i64 .i64 n n (by omega) (Int.le_refl _) (by rw [hb]; omega) (by omega)
  simp only [Int.toNat_natCast, hs] at hr
  exact hr

theorem made_puts (w : World) (ps : List (Int × List Int)) (n : Nat) (hn : ps.length = n) (t : TypeId) : (w.alloc (.cells (madeCells #[.int .i64 0, .slice none 0 0] (n * 2)) t)).rowIs w.heap.size t (ps.length * 2) (putCellAt ps w.heap.size 0) := by
  subst hn
  refine ⟨_, Deep.blk_alloc_new _ _, size_madeCells _ _, fun i hi => ?_⟩
  unfold putCellAt
  rw [if_neg (Nat.not_lt_zero _)]
  rcases Nat.mod_two_eq_zero_or_one i with e | e <;> simp [madeCells, hi, e]

/-- A disk that lies in blocks of its own, from B on. -/
def OwD (B : Nat) (w : World) (u v : Value) (xss : List (List Int)) (ps : List (Int × List Int)) : Prop :=
  ∃ S T : Nat → Prop, (∀ b, S b → B ≤ b ∧ b < w.heap.size) ∧ (∀ b, T b → B ≤ b ∧ b < w.heap.size) ∧ (∀ b, S b → ¬ T b) ∧ OwII S w u xss ∧ OwP T w v ps

end Go.Proofs.YtamknomapabmfaaGreat
/- Slices of numbers that the program and the model make by append: copies. -/
namespace Go.Proofs.YtamknomapabmfaaGreat
open Go.RowKit

/-- v reads as xs in one block from B on, in which nothing is frozen (where there is a number at all). -/
def OwI (B : Nat) (w : World) (v : Value) (xs : List Int) : Prop :=
  ∃ b, RdI (· = b) w v xs ∧ (xs ≠ [] → B ≤ b ∧ b < w.heap.size ∧ ∀ o, w.frozen? ⟨b, o, none⟩ = false)

theorem OwI.rd {B : Nat} {w : World} {v : Value} {xs : List Int} (h : OwI B w v xs) : RdI (fun b => B ≤ b ∧ b < w.heap.size) w v xs := by
  obtain ⟨b, h1, h2⟩ := h
  exact h1.narrow fun hne x hx => hx ▸ ⟨(h2 hne).1, (h2 hne).2.1⟩
theorem OwI.shape {B : Nat} {w : World} {v : Value} {xs : List Int} (h : OwI B w v xs) : ∃ ao c, v = .slice ao xs.length c := by
  obtain ⟨b, ⟨ao, c, h1, _⟩, _⟩ := h
  exact ⟨ao, _, h1⟩
theorem OwI.mono {B B' : Nat} {w : World} {v : Value} {xs : List Int} (h : OwI B w v xs) (hB : B' ≤ B) : OwI B' w v xs := by
  obtain ⟨b, h1, h2⟩ := h
  exact ⟨b, h1, fun hne => ⟨Nat.le_trans hB (h2 hne).1, (h2 hne).2⟩⟩
theorem OwI.wr {B : Nat} {T : Nat → Prop} {w w' : World} {v : Value} {xs : List Int} (h : OwI B w v xs) (hw : Wr T w w') (hd : ∀ b, B ≤ b → b < w.heap.size → ¬ T b) : OwI B w' v xs := by
  obtain ⟨b, h1, h2⟩ := h
  refine ⟨b, h1.wr hw (fun hne x hx => by subst hx; exact hd _ (h2 hne).1 (h2 hne).2.1), fun hne => ?_⟩
  obtain ⟨k1, k2, k3⟩ := h2 hne
  exact ⟨k1, Nat.lt_of_lt_of_le k2 hw.size, fun o => by rw [hw.frz _ _ k2]; exact k3 o⟩
theorem OwI.later {B : Nat} {w w' : World} {v : Value} {xs : List Int} (h : OwI B w v xs) (hb : Below w.heap.size w w') : OwI B w' v xs :=
  h.wr (Wr.of_below hb fun _ => False) fun _ _ _ => id
theorem OwI_nil (B : Nat) (w : World) : OwI B w (.slice none 0 0) [] := ⟨0, ⟨none, 0, by simp, by simp, fun h => absurd rfl h⟩, fun h => absurd rfl h⟩

theorem run_append_zero {P : Program} (w : World) (t ty e : TypeId) (i : TypeInfo) (ht : P.underlying t = some (.slice e)) (hi : P.info? e = some i) (a : Option Addr) (n cap : Nat) (hn : n ≤ cap) (ao : Option Addr) (c : Nat) :
    (Builtin.append_ #[t, t] ty #[.slice a n cap, .slice ao 0 c]).run P w = .ok (.slice a n cap) w := by
  cases a <;> cases ao <;> simp [Builtin.append_, run_underlying ht, sizeOf, typeInfo, hi, Builtin.lenOf, Builtin.firstCells, hn, storeCells, loadCells, loadCellsFrom]

/-- An append onto what the call itself has made, of a slice of whatever address where it holds nothing. -/
theorem wpList_append_any {P : Program} (w : World) {ops : Array Oper} {rest : List Oper} {o : Oper} {a : Act} {Q : Exit → Act → World → Prop} (hgd : o.guard = none) (s x : Operand) (t : TypeId)
    (ho : o.op = .call { callee := .builtin .append, args := #[s, x], argTypes := #[t, t] })
    (base : Nat) (e : TypeId) (i : TypeInfo) (z : Value) (size bytes : Nat) (ht : P.underlying t = some (.slice e)) (hi : P.info? e = some i) (hz : i.zero = some z)
    (hsize : i.size = size) (hby : i.bytes = bytes) (hzs : z.cells.size = size) (hsz : 0 < size)
    (v : Value) (n : Nat) (xs : List Value) (hs : a.eval s = v) (hown : w.ownsRow base e size v n xs)
    (ao : Option Addr) (m c : Nat) (news : List Value) (hx : a.eval x = .slice ao m c) (hl : news.length = m * size)
    (hnews : m ≠ 0 → ∃ ad, ao = some ad ∧ ∀ j u, news[j]? = some u → w.cell? (ad.add j) = some u) (h1 : ∀ u ∈ news, u.oneCell' = true)
    (h63 : n + m ≤ maxLen) (hbytes : (n + m) * bytes ≤ 140737488355328) (hbase : base ≤ w.heap.size)
    (h : ∀ v' w', w'.ownsRow base e size v' (n + m) (xs ++ news) → w.grownBy w' v.ownBlock → wpList P ops Q rest (a.put o.dst v') w') : wpList P ops Q (o :: rest) a w := by
  by_cases hm : m = 0
  · subst hm
    have hn : news = [] := List.eq_nil_of_length_eq_zero (by simpa using hl)
    subst hn
    refine wpList_plain hgd fun K hK => ?_
    have hv : ∃ ad k, v = .slice ad n k ∧ n ≤ k := by
      rcases hown.2 with ⟨rfl, rfl⟩ | ⟨g, cap, cur, rfl, _, _, hnc, _⟩
      · exact ⟨_, _, rfl, Nat.le_refl _⟩
      · exact ⟨_, _, rfl, hnc⟩
    obtain ⟨ad, k, rfl, hk⟩ := hv
    have hrun := run_append_zero (P := P) w t o.type e i ht hi ad n k hk ao c
    unfold Oper.wp
    simp [execOp, ho, resolve, invoke, builtin, hs, hx, hrun, Result.andThen]
    exact hK _ _ (h _ w (by simpa using hown) (World.grownBy.refl _ _))
  · obtain ⟨ad, rfl, hc⟩ := hnews hm
    exact wpList_append_own (P := P) w hgd s x t ho base e i z size bytes ht hi hz hsize hby hzs hsz v n xs hs hown ad m c news hx hl hc h1 h63 hbytes hbase (fun v' w' k1 k2 _ => h v' w' k1 k2)

/-- What append has built of numbers. -/
theorem ow_of_owns {w : World} {B t : Nat} {v : Value} {n : Nat} {xs : List Int} (hn : xs.length = n) (h : w.ownsRow B t 1 v n (xs.map (Value.int .i64))) (hm : xs.length ≤ 9223372036854775807) : OwI B w v xs := by
  subst hn
  rcases h.2 with ⟨rfl, e⟩ | ⟨g, cap, cur, rfl, hg, hh, hnc, _⟩
  · have : xs = [] := List.eq_nil_of_length_eq_zero e
    subst this
    exact OwI_nil _ _
  · refine ⟨g, ⟨_, cap - xs.length, by rw [Nat.add_sub_cancel' hnc], hm, fun _ => ⟨g, 0, rfl, rfl, fun i hi => ?_⟩⟩, fun _ => ⟨hg, (Array.getElem?_eq_some_iff.1 hh).1, fun o => h.frozenAt o⟩⟩
    rw [Nat.zero_add, h.cellAt i (by simpa using hi)]
    simp [List.getD, hi]

/-- What the append of a whole reading asks of its source. -/
theorem RdI.src {S : Nat → Prop} {w : World} {v : Value} {xs : List Int} (h : RdI S w v xs) :
    ∃ ao c, v = .slice ao xs.length c ∧ (xs.length ≠ 0 → ∃ ad, ao = some ad ∧ ∀ j u, (xs.map (Value.int .i64))[j]? = some u → w.cell? (ad.add j) = some u) := by
  obtain ⟨ao, c, h1, h2, h3⟩ := h
  refine ⟨ao, _, h1, fun hne => ?_⟩
  obtain ⟨b, off, e, _, hc⟩ := h3 (fun e => hne (by rw [e]; rfl))
  refine ⟨_, e, fun j u hu => ?_⟩
  have hj : j < xs.length := by
    have := (List.getElem?_eq_some_iff.1 hu).1
    simpa using this
  rw [Addr.add_lit, hc j hj]
  simp [hj] at hu
  simp [List.getD, hj, hu]

/-- 'impl.copyWords' of a reading. -/
theorem copyWords {S : Nat → Prop} {w : World} {v : Value} {xs : List Int} (hv : RdI S w v xs) (hm : xs.length ≤ 1048576) :
    Calls Tryz.prog 61 #[v] w fun e w' => ∃ u, e = .returned u ∧ Below w.heap.size w w' ∧ OwI w.heap.size w' u xs := by
  obtain ⟨ao, c, rfl, hsrc⟩ := hv.src
  obtain ⟨i0, hi, hz0, hz1, hz2⟩ := info_parts Tryz.infoInt
  have HS := hide hsrc
  clear hsrc hv
  go_enter Tryz.func61, Tryz.ntmps61
  go_wp2_with (at_builtin; refine wpList_append_any _ rfl _ _ 24 rfl w.heap.size 2 i0 (.int .i64 0) 1 8 Tryz.underlying24 hi hz0 hz1 hz2 rfl (by decide) _ _ _ rfl (World.ownsRow_nil _ _ _ _) ao xs.length c (xs.map (Value.int .i64)) rfl (by simp) HS.out (ints_oneCell _ _) (by unfold maxLen; omega) (by omega) (Nat.le_refl _) ?_)
  intro v' w1 hown hgrow
  have HO := hide hown
  have HG := hide hgrow
  clear hown hgrow
  go_wp2
  go_ret
  refine ⟨v', rfl, (Below.refl _ _).grown HG.out (Nat.le_refl _) (fun k hk => by cases hk), ow_of_owns rfl HO.out (by omega)⟩

/-- 'spec.l1Ints' of a reading: the row that it has built. -/
theorem l1IntsOwn {S : Nat → Prop} {w : World} {v : Value} {xs : List Int} (hv : RdI S w v xs) (hm : xs.length ≤ 1048576) :
    Calls Tryz.prog 30 #[v] w fun e w' => ∃ u, e = .returned u ∧ Below w.heap.size w w' ∧ w'.ownsRow w.heap.size 2 1 u xs.length (xs.map (Value.int .i64)) := by
  obtain ⟨ao, c, rfl, hsrc⟩ := hv.src
  obtain ⟨i0, hi, hz0, hz1, hz2⟩ := info_parts Tryz.infoInt
  have HS : Hid (xs.length ≠ 0 → ∃ ad, ao = some ad ∧ ∀ j u, (xs.map (Value.int .i64))[j]? = some u → (w.alloc (.cells #[] 2)).cell? (ad.add j) = some u) := fun hne => by
    obtain ⟨ad, e, hc⟩ := hsrc hne
    exact ⟨ad, e, fun j u hu => cell_later (below_alloc _ _) (hc j u hu)⟩
  clear hsrc hv
  go_enter Tryz.func30, Tryz.ntmps30
  go_wp2_with (at_builtin; refine wpList_append_any _ rfl _ _ 24 rfl w.heap.size 2 i0 (.int .i64 0) 1 8 Tryz.underlying24 hi hz0 hz1 hz2 rfl (by decide) _ 0 [] rfl (World.ownsRow_made w #[] 0 (Nat.le_refl _) (by unfold maxLen; omega) (by simp)) ao xs.length c (xs.map (Value.int .i64)) rfl (by simp) HS.out (ints_oneCell _ _) (by unfold maxLen; omega) (by omega) (by simp) ?_)
  intro v' w1 hown hgrow
  have HO := hide hown
  have HG := hide hgrow
  clear hown hgrow
  go_wp2
  go_ret
  exact ⟨v', rfl, (below_alloc _ _).grown HG.out (by simp) (fun k hk => by simp [Value.ownBlock] at hk; omega), HO.out⟩
/-- 'spec.l1Ints' of a reading. -/
theorem l1Ints {S : Nat → Prop} {w : World} {v : Value} {xs : List Int} (hv : RdI S w v xs) (hm : xs.length ≤ 1048576) :
    Calls Tryz.prog 30 #[v] w fun e w' => ∃ u, e = .returned u ∧ Below w.heap.size w w' ∧ OwI w.heap.size w' u xs :=
  (l1IntsOwn hv hm).mono fun e w' ⟨u, he, hb, ho⟩ => ⟨u, he, hb, ow_of_owns rfl ho (by omega)⟩
end Go.Proofs.YtamknomapabmfaaGreat
/- What is wrong with words and with a disk: 'wordsFault', 'DiskFault' of the program and of the model answer one and the same number. -/
namespace Go.Proofs.YtamknomapabmfaaGreat
open Go.RowKit

/-- The fault of n words. -/
def wF (X : Nat → Int) (n : Nat) : Int := if 64 < n then 2 else if (∀ i, i < n → 0 ≤ X i ∧ X i ≤ 65535) then 0 else 3
theorem wF_many {X : Nat → Int} {n : Nat} (h : 64 < n) : wF X n = 2 := by unfold wF; rw [if_pos h]
theorem wF_ok {X : Nat → Int} {n : Nat} (h : n ≤ 64) (h' : ∀ i, i < n → 0 ≤ X i ∧ X i ≤ 65535) : wF X n = 0 := by unfold wF; rw [if_neg (by omega), if_pos h']
theorem wF_range {X : Nat → Int} {n : Nat} (h : n ≤ 64) {i : Nat} (hi : i < n) (h' : X i < 0 ∨ 65535 < X i) : wF X n = 3 := by
  unfold wF; rw [if_neg (by omega), if_neg (fun k => by have := k i hi; omega)]
def wordsF (xs : List Int) : Int := wF (fun i => xs.getD i 0) xs.length

theorem l1In_yes (v lo hi : Int) (h1 : lo ≤ v) (h2 : v ≤ hi) (w : World) :
    Calls Tryz.prog 44 #[.int .i64 v, .int .i64 lo, .int .i64 hi] w fun e w' => e = .returned (.bool true) ∧ w' = w := by
  go_enter Tryz.func44, Tryz.ntmps44
  go_wp2
  go_ret
  exact ⟨rfl, rfl⟩

theorem l1In_no (v lo hi : Int) (h : v < lo ∨ hi < v) (w : World) :
    Calls Tryz.prog 44 #[.int .i64 v, .int .i64 lo, .int .i64 hi] w fun e w' => e = .returned (.bool false) ∧ w' = w := by
  by_cases h1 : v < lo
  · go_enter Tryz.func44, Tryz.ntmps44
    go_wp2
    go_ret
    exact ⟨by simp, rfl⟩
  · have h2 : hi < v := by omega
    clear h
    go_enter Tryz.func44, Tryz.ntmps44
    go_wp2
    go_ret
    exact ⟨by simp [h2], rfl⟩

theorem wordsFault_cells (X : Nat → Int) (n b off c : Nat) (w : World) (hm : n ≤ 9223372036854775807)
    (hx : ∀ i, i < n → w.cell? ⟨b, off + i, none⟩ = some (.int .i64 (X i))) :
    Calls Tryz.prog 34 #[.slice (some ⟨b, off, none⟩) n c] w fun e w' => e = .returned (.int .i64 (wF X n)) ∧ ∃ q, w' = w.drewN q := by
  have HX := hide hx
  clear hx
  by_cases hn : 64 < n
  · have HZ := hide (wF_many (X := X) hn)
    go_enter Tryz.func34, Tryz.ntmps34
    go_wp2
    go_ret
    exact ⟨ret_int HZ.out.symm, 0, rfl⟩
  · go_enter Tryz.func34, Tryz.ntmps34
    go_wp2
    go_loopw [10] (fun i wr => ∃ k : Nat, k ≤ n ∧ i = .int .i64 k ∧ Hid (∀ j, j < k → 0 ≤ X j ∧ X j ≤ 65535) ∧ wr = w) (fun i _ => n - (intOf i).toNat)
    case atStart => exact ⟨0, Nat.zero_le _, rfl, fun j hj => absurd hj (Nat.not_lt_zero _), rfl⟩
    case round =>
      obtain ⟨k, hk, rfl, HA, rfl⟩ := hrel
      by_cases hlt : k < n
      · have g1 := HX.out k hlt
        by_cases h1 : X k < 0
        · have HZ := hide (wF_range (X := X) (by omega) hlt (Or.inl h1))
          go_wp2
          go_ret
          exact ⟨ret_int HZ.out.symm, 0, rfl⟩
        · by_cases h2 : 65535 < X k
          · have HZ := hide (wF_range (X := X) (by omega) hlt (Or.inr h2))
            go_wp2
            go_ret
            exact ⟨ret_int HZ.out.symm, 0, rfl⟩
          · go_wp2
            go_roundw
            case rel => exact ⟨k + 1, by omega, by go_num, fun j hj => (by by_cases e : j = k; · subst e; omega
                                                                           · exact HA.out j (by omega)), by simp⟩
            case measure => simp [intOf]; omega
      · have HZ := hide (wF_ok (X := X) (n := n) (by omega) (fun i hi => HA.out i (by omega)))
        go_wp2
        go_ret
        exact ⟨ret_int HZ.out.symm, 0, rfl⟩

theorem wordsFault_none (ao : Option Addr) (c : Nat) (w : World) :
    Calls Tryz.prog 34 #[.slice ao 0 c] w fun e w' => e = .returned (.int .i64 0) ∧ ∃ q, w' = w.drewN q := by
  go_enter Tryz.func34, Tryz.ntmps34
  go_wp2
  go_loopw [10] (fun i wr => i = .int .i64 0 ∧ wr = w) (fun _ _ => 0)
  case atStart => exact ⟨rfl, rfl⟩
  case round =>
    obtain ⟨rfl, rfl⟩ := hrel
    go_wp2
    go_ret
    exact ⟨rfl, 0, rfl⟩

/-- 'impl.wordsFault' of a reading. -/
theorem wordsFault {S : Nat → Prop} {w : World} {v : Value} {xs : List Int} (hv : RdI S w v xs) :
    Calls Tryz.prog 34 #[v] w fun e w' => e = .returned (.int .i64 (wordsF xs)) ∧ ∃ q, w' = w.drewN q := by
  obtain ⟨ao, c, rfl, hm, h⟩ := hv
  by_cases hne : xs = []
  · subst hne
    have e0 : wordsF [] = 0 := wF_ok (by simp) (by simp)
    rw [e0]
    exact wordsFault_none _ _ _
  · obtain ⟨b, off, rfl, _, hc⟩ := h hne
    exact wordsFault_cells _ _ _ _ _ _ hm hc

theorem l1Words_cells (X : Nat → Int) (n b off c : Nat) (w : World) (hm : n ≤ 9223372036854775807)
    (hx : ∀ i, i < n → w.cell? ⟨b, off + i, none⟩ = some (.int .i64 (X i))) :
    Calls Tryz.prog 45 #[.slice (some ⟨b, off, none⟩) n c] w fun e w' => e = .returned (.int .i64 (wF X n)) ∧ ∃ q, w' = w.drewN q := by
  have HX := hide hx
  clear hx
  by_cases hn : 64 < n
  · have HZ := hide (wF_many (X := X) hn)
    go_enter Tryz.func45, Tryz.ntmps45
    go_wp2
    go_ret
    exact ⟨ret_int HZ.out.symm, 0, rfl⟩
  · go_enter Tryz.func45, Tryz.ntmps45
    go_wp2
    go_loopw [3] (fun i wr => ∃ k : Nat, k ≤ n ∧ i = .int .i64 k ∧ Hid (∀ j, j < k → 0 ≤ X j ∧ X j ≤ 65535) ∧ wr = w) (fun i _ => n - (intOf i).toNat)
    case atStart => exact ⟨0, Nat.zero_le _, rfl, fun j hj => absurd hj (Nat.not_lt_zero _), rfl⟩
    case round =>
      obtain ⟨k, hk, rfl, HA, rfl⟩ := hrel
      by_cases hlt : k < n
      · have g1 := HX.out k hlt
        by_cases h1 : X k < 0 ∨ 65535 < X k
        · have HZ := hide (wF_range (X := X) (by omega) hlt h1)
          have H1 := hide h1
          clear h1
          go_wp2_with fail
          refine (l1In_no _ _ _ H1.out _).mono ?_
          rintro e w' ⟨rfl, rfl⟩
          go_wp2
          go_ret
          exact ⟨ret_int HZ.out.symm, 0, rfl⟩
        · have h2 : 0 ≤ X k := by omega
          have h3 : X k ≤ 65535 := by omega
          clear h1
          go_wp2_with fail
          refine (l1In_yes _ _ _ h2 h3 _).mono ?_
          rintro e w' ⟨rfl, rfl⟩
          go_wp2
          go_roundw
          case rel => exact ⟨k + 1, by omega, by go_num, fun j hj => (by by_cases e : j = k; · subst e; omega
                                                                         · exact HA.out j (by omega)), by simp⟩
          case measure => simp [intOf]; omega
      · have HZ := hide (wF_ok (X := X) (n := n) (by omega) (fun i hi => HA.out i (by omega)))
        go_wp2
        go_ret
        exact ⟨ret_int HZ.out.symm, 0, rfl⟩

theorem l1Words_none (ao : Option Addr) (c : Nat) (w : World) :
    Calls Tryz.prog 45 #[.slice ao 0 c] w fun e w' => e = .returned (.int .i64 0) ∧ ∃ q, w' = w.drewN q := by
  go_enter Tryz.func45, Tryz.ntmps45
  go_wp2
  go_loopw [3] (fun i wr => i = .int .i64 0 ∧ wr = w) (fun _ _ => 0)
  case atStart => exact ⟨rfl, rfl⟩
  case round =>
    obtain ⟨rfl, rfl⟩ := hrel
    go_wp2
    go_ret
    exact ⟨rfl, 0, rfl⟩

/-- 'spec.l1Words' of a reading. -/
theorem l1Words {S : Nat → Prop} {w : World} {v : Value} {xs : List Int} (hv : RdI S w v xs) :
    Calls Tryz.prog 45 #[v] w fun e w' => e = .returned (.int .i64 (wordsF xs)) ∧ ∃ q, w' = w.drewN q := by
  obtain ⟨ao, c, rfl, hm, h⟩ := hv
  by_cases hne : xs = []
  · subst hne
    have e0 : wordsF [] = 0 := wF_ok (by simp) (by simp)
    rw [e0]
    exact l1Words_none _ _ _
  · obtain ⟨b, off, rfl, _, hc⟩ := h hne
    exact l1Words_cells _ _ _ _ _ _ hm hc

/-- The first fault among rows. -/
def firstF : List (List Int) → Int
  | [] => 0
  | xs :: r => if wordsF xs = 0 then firstF r else wordsF xs
/-- The first fault among puts, on a disk of n blocks. -/
def firstP (n : Nat) : List (Int × List Int) → Int
  | [] => 0
  | p :: r => if 0 ≤ p.1 ∧ p.1 < (n : Int) then (if wordsF p.2 = 0 then firstP n r else wordsF p.2) else 3
def diskF (xss : List (List Int)) (ps : List (Int × List Int)) : Int :=
  if 70 < xss.length ∨ 200 < ps.length then 2 else if firstF xss = 0 then firstP xss.length ps else firstF xss

theorem firstF_ok {xss : List (List Int)} {k : Nat} (h : k < xss.length) (h0 : wordsF (xss.getD k []) = 0) : firstF (xss.drop k) = firstF (xss.drop (k + 1)) := by
  rw [List.drop_eq_getElem_cons h]
  simp only [firstF]
  rw [if_pos (by simpa [List.getD, h] using h0)]
theorem firstF_no {xss : List (List Int)} {k : Nat} (h : k < xss.length) (h0 : wordsF (xss.getD k []) ≠ 0) : firstF (xss.drop k) = wordsF (xss.getD k []) := by
  rw [List.drop_eq_getElem_cons h]
  simp only [firstF]
  rw [if_neg (by simpa [List.getD, h] using h0)]
  simp [List.getD, h]
theorem firstF_end {xss : List (List Int)} {k : Nat} (h : xss.length ≤ k) : firstF (xss.drop k) = 0 := by rw [List.drop_eq_nil_of_le h]; rfl
theorem firstP_ok {n : Nat} {ps : List (Int × List Int)} {k : Nat} (h : k < ps.length) (ha : 0 ≤ (ps.getD k (0, [])).1 ∧ (ps.getD k (0, [])).1 < (n : Int)) (h0 : wordsF (ps.getD k (0, [])).2 = 0) : firstP n (ps.drop k) = firstP n (ps.drop (k + 1)) := by
  rw [List.drop_eq_getElem_cons h]
  simp only [firstP]
  simp only [List.getD, List.getElem?_eq_getElem h, Option.getD_some] at ha h0
  rw [if_pos ha, if_pos h0]
theorem firstP_no {n : Nat} {ps : List (Int × List Int)} {k : Nat} (h : k < ps.length) (ha : 0 ≤ (ps.getD k (0, [])).1 ∧ (ps.getD k (0, [])).1 < (n : Int)) (h0 : wordsF (ps.getD k (0, [])).2 ≠ 0) : firstP n (ps.drop k) = wordsF (ps.getD k (0, [])).2 := by
  rw [List.drop_eq_getElem_cons h]
  simp only [firstP]
  simp only [List.getD, List.getElem?_eq_getElem h, Option.getD_some] at ha h0 ⊢
  rw [if_pos ha, if_neg h0]
theorem firstP_at {n : Nat} {ps : List (Int × List Int)} {k : Nat} (h : k < ps.length) (ha : ¬ (0 ≤ (ps.getD k (0, [])).1 ∧ (ps.getD k (0, [])).1 < (n : Int))) : firstP n (ps.drop k) = 3 := by
  rw [List.drop_eq_getElem_cons h]
  simp only [firstP]
  simp only [List.getD, List.getElem?_eq_getElem h, Option.getD_some] at ha
  rw [if_neg ha]
theorem firstP_end {n : Nat} {ps : List (Int × List Int)} {k : Nat} (h : ps.length ≤ k) : firstP n (ps.drop k) = 0 := by rw [List.drop_eq_nil_of_le h]; rfl
theorem diskF_many {xss : List (List Int)} {ps : List (Int × List Int)} (h : 70 < xss.length ∨ 200 < ps.length) : diskF xss ps = 2 := by unfold diskF; rw [if_pos h]
theorem diskF_rows {xss : List (List Int)} {ps : List (Int × List Int)} (h : ¬ (70 < xss.length ∨ 200 < ps.length)) (h0 : firstF xss ≠ 0) : diskF xss ps = firstF xss := by unfold diskF; rw [if_neg h, if_neg h0]
theorem diskF_puts {xss : List (List Int)} {ps : List (Int × List Int)} (h : ¬ (70 < xss.length ∨ 200 < ps.length)) (h0 : firstF xss = 0) : diskF xss ps = firstP xss.length ps := by unfold diskF; rw [if_neg h, if_pos h0]
end Go.Proofs.YtamknomapabmfaaGreat
