/- Copy Mark Held Iv Hd Ob in one text: what each says stands at its head below. -/
import Derived.Test.YtcmdgnemkjfckaaGreatDoorG01
/- Slices of numbers that the program and the model make by append: copies. -/
namespace Go.Proofs.YtcmdgnemkjfckaaGreatDoor
open Go.RowKit

/-- v reads as xs in one block from B on, in which nothing is frozen (where there is a number at all). -/
def OwI (B : Nat) (w : World) (v : Value) (xs : List Int) : Prop :=
  ∃ b, RdI (· = b) w v xs ∧ (xs ≠ [] → B ≤ b ∧ b < w.heap.size ∧ ∀ o, w.frozen? ⟨b, o, none⟩ = false)

theorem OwI.rd {B : Nat} {w : World} {v : Value} {xs : List Int} (h : OwI B w v xs) : RdI (fun b => B ≤ b ∧ b < w.heap.size) w v xs := by
  obtain ⟨b, h1, h2⟩ := h
  exact h1.narrow fun hne x hx => hx ▸ ⟨(h2 hne).1, (h2 hne).2.1⟩
theorem OwI.shape {B : Nat} {w : World} {v : Value} {xs : List Int} (h : OwI B w v xs) : ∃ ao c, v = .slice ao xs.length c := by
  obtain ⟨b, ⟨ao, c, h1, _⟩, _⟩ := h
  exact ⟨ao, _, h1⟩
theorem OwI.mono {B B' : Nat} {w : World} {v : Value} {xs : List Int} (h : OwI B w v xs) (hB : B' ≤ B) : OwI B' w v xs := by
  obtain ⟨b, h1, h2⟩ := h
  exact ⟨b, h1, fun hne => ⟨Nat.le_trans hB (h2 hne).1, (h2 hne).2⟩⟩
theorem OwI.wr {B : Nat} {T : Nat → Prop} {w w' : World} {v : Value} {xs : List Int} (h : OwI B w v xs) (hw : Wr T w w') (hd : ∀ b, B ≤ b → b < w.heap.size → ¬ T b) : OwI B w' v xs := by
  obtain ⟨b, h1, h2⟩ := h
  refine ⟨b, h1.wr hw (fun hne x hx => by subst hx; exact hd _ (h2 hne).1 (h2 hne).2.1), fun hne => ?_⟩
  obtain ⟨k1, k2, k3⟩ := h2 hne
  exact ⟨k1, Nat.lt_of_lt_of_le k2 hw.size, fun o => by rw [hw.frz _ _ k2]; exact k3 o⟩
theorem OwI.later {B : Nat} {w w' : World} {v : Value} {xs : List Int} (h : OwI B w v xs) (hb : Below w.heap.size w w') : OwI B w' v xs :=
  h.wr (Wr.of_below hb fun _ => False) fun _ _ _ => id
theorem OwI_nil (B : Nat) (w : World) : OwI B w (.slice none 0 0) [] := ⟨0, ⟨none, 0, by simp, by simp, fun h => absurd rfl h⟩, fun h => absurd rfl h⟩

theorem run_append_zero {P : Program} (w : World) (t ty e : TypeId) (i : TypeInfo) (ht : P.underlying t = some (.slice e)) (hi : P.info? e = some i) (a : Option Addr) (n cap : Nat) (hn : n ≤ cap) (ao : Option Addr) (c : Nat) :
    (Builtin.append_ #[t, t] ty #[.slice a n cap, .slice ao 0 c]).run P w = .ok (.slice a n cap) w := by
  cases a <;> cases ao <;> simp [Builtin.append_, run_underlying ht, sizeOf, typeInfo, hi, Builtin.lenOf, Builtin.firstCells, hn, storeCells, loadCells, loadCellsFrom]

/-- An append onto what the call itself has made, of a slice of whatever address where it holds nothing. -/
theorem wpList_append_any {P : Program} (w : World) {ops : Array Oper} {rest : List Oper} {o : Oper} {a : Act} {Q : Exit → Act → World → Prop} (hgd : o.guard = none) (s x : Operand) (t : TypeId)
    (ho : o.op = .call { callee := .builtin .append, args := #[s, x], argTypes := #[t, t] })
    (base : Nat) (e : TypeId) (i : TypeInfo) (z : Value) (size bytes : Nat) (ht : P.underlying t = some (.slice e)) (hi : P.info? e = some i) (hz : i.zero = some z)
    (hsize : i.size = size) (hby : i.bytes = bytes) (hzs : z.cells.size = size) (hsz : 0 < size)
    (v : Value) (n : Nat) (xs : List Value) (hs : a.eval s = v) (hown : w.ownsRow base e size v n xs)
    (ao : Option Addr) (m c : Nat) (news : List Value) (hx : a.eval x = .slice ao m c) (hl : news.length = m * size)
    (hnews : m ≠ 0 → ∃ ad, ao = some ad ∧ ∀ j u, news[j]? = some u → w.cell? (ad.add j) = some u) (h1 : ∀ u ∈ news, u.oneCell' = true)
    (h63 : n + m ≤ maxLen) (hbytes : (n + m) * bytes ≤ 140737488355328) (hbase : base ≤ w.heap.size)
    (h : ∀ v' w', w'.ownsRow base e size v' (n + m) (xs ++ news) → w.grownBy w' v.ownBlock → wpList P ops Q rest (a.put o.dst v') w') : wpList P ops Q (o :: rest) a w := by
  by_cases hm : m = 0
  · subst hm
    have hn : news = [] := List.eq_nil_of_length_eq_zero (by simpa using hl)
    subst hn
    refine wpList_plain hgd fun K hK => ?_
    have hv : ∃ ad k, v = .slice ad n k ∧ n ≤ k := by
      rcases hown.2 with ⟨rfl, rfl⟩ | ⟨g, cap, cur, rfl, _, _, hnc, _⟩
      · exact ⟨_, _, rfl, Nat.le_refl _⟩
      · exact ⟨_, _, rfl, hnc⟩
    obtain ⟨ad, k, rfl, hk⟩ := hv
    have hrun := run_append_zero (P := P) w t o.type e i ht hi ad n k hk ao c
    unfold Oper.wp
    simp [execOp, ho, resolve, invoke, builtin, hs, hx, hrun, Result.andThen]
    exact hK _ _ (h _ w (by simpa using hown) (World.grownBy.refl _ _))
  · obtain ⟨ad, rfl, hc⟩ := hnews hm
    exact wpList_append_own (P := P) w hgd s x t ho base e i z size bytes ht hi hz hsize hby hzs hsz v n xs hs hown ad m c news hx hl hc h1 h63 hbytes hbase (fun v' w' k1 k2 _ => h v' w' k1 k2)

/-- What append has built of numbers. -/
theorem ow_of_owns {w : World} {B t : Nat} {v : Value} {n : Nat} {xs : List Int} (hn : xs.length = n) (h : w.ownsRow B t 1 v n (xs.map (Value.int .i64))) (hm : xs.length ≤ 9223372036854775807) : OwI B w v xs := by
  subst hn
  rcases h.2 with ⟨rfl, e⟩ | ⟨g, cap, cur, rfl, hg, hh, hnc, _⟩
  · have : xs = [] := List.eq_nil_of_length_eq_zero e
    subst this
    exact OwI_nil _ _
  · refine ⟨g, ⟨_, cap - xs.length, by rw [Nat.add_sub_cancel' hnc], hm, fun _ => ⟨g, 0, rfl, rfl, fun i hi => ?_⟩⟩, fun _ => ⟨hg, (Array.getElem?_eq_some_iff.1 hh).1, fun o => h.frozenAt o⟩⟩
    rw [Nat.zero_add, h.cellAt i (by simpa using hi)]
    simp [List.getD, hi]

/-- What the append of a whole reading asks of its source. -/
theorem RdI.src {S : Nat → Prop} {w : World} {v : Value} {xs : List Int} (h : RdI S w v xs) :
    ∃ ao c, v = .slice ao xs.length c ∧ (xs.length ≠ 0 → ∃ ad, ao = some ad ∧ ∀ j u, (xs.map (Value.int .i64))[j]? = some u → w.cell? (ad.add j) = some u) := by
  obtain ⟨ao, c, h1, h2, h3⟩ := h
  refine ⟨ao, _, h1, fun hne => ?_⟩
  obtain ⟨b, off, e, _, hc⟩ := h3 (fun e => hne (by rw [e]; rfl))
  refine ⟨_, e, fun j u hu => ?_⟩
  have hj : j < xs.length := by
    have := (List.getElem?_eq_some_iff.1 hu).1
    simpa using this
  rw [Addr.add_lit, hc j hj]
  simp [hj] at hu
  simp [List.getD, hj, hu]

/-- 'impl.copyWords' of a reading. -/
theorem copyWords {S : Nat → Prop} {w : World} {v : Value} {xs : List Int} (hv : RdI S w v xs) (hm : xs.length ≤ 1048576) :
    Calls Tryz.prog 61 #[v] w fun e w' => ∃ u, e = .returned u ∧ Below w.heap.size w w' ∧ OwI w.heap.size w' u xs := by
  obtain ⟨ao, c, rfl, hsrc⟩ := hv.src
  obtain ⟨i0, hi, hz0, hz1, hz2⟩ := info_parts Tryz.infoInt
  have HS := hide hsrc
  clear hsrc hv
  go_enter Tryz.func61, Tryz.ntmps61
  go_wp2_with (at_builtin; refine wpList_append_any _ rfl _ _ 22 rfl w.heap.size 2 i0 (.int .i64 0) 1 8 Tryz.underlying22 hi hz0 hz1 hz2 rfl (by decide) _ _ _ rfl (World.ownsRow_nil _ _ _ _) ao xs.length c (xs.map (Value.int .i64)) rfl (by simp) HS.out (ints_oneCell _ _) (by unfold maxLen; omega) (by omega) (Nat.le_refl _) ?_)
  intro v' w1 hown hgrow
  have HO := hide hown
  have HG := hide hgrow
  clear hown hgrow
  go_wp2
  go_ret
  refine ⟨v', rfl, (Below.refl _ _).grown HG.out (Nat.le_refl _) (fun k hk => by cases hk), ow_of_owns rfl HO.out (by omega)⟩

/-- 'spec.l1Ints' of a reading: the row that it has built. -/
theorem l1IntsOwn {S : Nat → Prop} {w : World} {v : Value} {xs : List Int} (hv : RdI S w v xs) (hm : xs.length ≤ 1048576) :
    Calls Tryz.prog 49 #[v] w fun e w' => ∃ u, e = .returned u ∧ Below w.heap.size w w' ∧ w'.ownsRow w.heap.size 2 1 u xs.length (xs.map (Value.int .i64)) := by
  obtain ⟨ao, c, rfl, hsrc⟩ := hv.src
  obtain ⟨i0, hi, hz0, hz1, hz2⟩ := info_parts Tryz.infoInt
  have HS : Hid (xs.length ≠ 0 → ∃ ad, ao = some ad ∧ ∀ j u, (xs.map (Value.int .i64))[j]? = some u → (w.alloc (.cells #[] 2)).cell? (ad.add j) = some u) := fun hne => by
    obtain ⟨ad, e, hc⟩ := hsrc hne
    exact ⟨ad, e, fun j u hu => cell_later (below_alloc _ _) (hc j u hu)⟩
  clear hsrc hv
  go_enter Tryz.func49, Tryz.ntmps49
  go_wp2_with (at_builtin; refine wpList_append_any _ rfl _ _ 22 rfl w.heap.size 2 i0 (.int .i64 0) 1 8 Tryz.underlying22 hi hz0 hz1 hz2 rfl (by decide) _ 0 [] rfl (World.ownsRow_made w #[] 0 (Nat.le_refl _) (by unfold maxLen; omega) (by simp)) ao xs.length c (xs.map (Value.int .i64)) rfl (by simp) HS.out (ints_oneCell _ _) (by unfold maxLen; omega) (by omega) (by simp) ?_)
  intro v' w1 hown hgrow
  have HO := hide hown
  have HG := hide hgrow
  clear hown hgrow
  go_wp2
  go_ret
  exact ⟨v', rfl, (below_alloc _ _).grown HG.out (by simp) (fun k hk => by simp [Value.ownBlock] at hk; omega), HO.out⟩
/-- 'spec.l1Ints' of a reading. -/
theorem l1Ints {S : Nat → Prop} {w : World} {v : Value} {xs : List Int} (hv : RdI S w v xs) (hm : xs.length ≤ 1048576) :
    Calls Tryz.prog 49 #[v] w fun e w' => ∃ u, e = .returned u ∧ Below w.heap.size w w' ∧ OwI w.heap.size w' u xs :=
  (l1IntsOwn hv hm).mono fun e w' ⟨u, he, hb, ho⟩ => ⟨u, he, hb, ow_of_owns rfl ho (by omega)⟩
end Go.Proofs.YtcmdgnemkjfckaaGreatDoor
/- The walks of the laws' marking functions: what is marked holds one number behind the other, and nothing else is written. -/
namespace Go.Proofs.YtcmdgnemkjfckaaGreatDoor
open Go.RowKit

/-- What a loop that marks n cells of block b knows behind j rounds. -/
structure MarkAt (b off n : Nat) (k : Int) (w : World) (j : Nat) (wr : World) : Prop where
  done : ∀ i, i < j → wr.cell? ⟨b, off + i, none⟩ = some (.int .i64 (k + (i : Int)))
  there : ∀ i, i < n → ∃ x, wr.cell? ⟨b, off + i, none⟩ = some x
  free : ∀ o, wr.frozen? ⟨b, o, none⟩ = false
  wr : Wr (· = b) w wr

theorem MarkAt.step {b off n : Nat} {k : Int} {w wr : World} {j : Nat} (h : MarkAt b off n k w j wr) (hj : j < n) :
    MarkAt b off n k w (j + 1) (wr.setCell ⟨b, off + j, none⟩ (.int .i64 (k + (j : Int)))) := by
  obtain ⟨x, hx⟩ := h.there j hj
  refine ⟨fun i hi => ?_, fun i hi => ?_, fun o => by rw [World.frozen?_setCell]; exact h.free o, h.wr.setCell rfl _⟩
  · by_cases e : i = j
    · subst e; exact World.cell?_setCell_same _ _ _ hx
    · rw [World.cell?_setCell_other _ _ _ _ (by simp <;> omega)]; exact h.done i (by omega)
  · by_cases e : i = j
    · subst e; exact ⟨_, World.cell?_setCell_same _ _ _ hx⟩
    · rw [World.cell?_setCell_other _ _ _ _ (by simp <;> omega)]; exact h.there i hi

theorem markI_cells (n b off c : Nat) (k : Int) (w : World) (hm : n ≤ 9223372036854775807) (hk0 : 0 ≤ k) (hk : k + (n : Int) ≤ 9223372036854775807)
    (hx : ∀ i, i < n → ∃ x, w.cell? ⟨b, off + i, none⟩ = some x) (hf : ∀ o, w.frozen? ⟨b, o, none⟩ = false) :
    Calls Tryz.prog 40 #[.slice (some ⟨b, off, none⟩) n c, .int .i64 k] w fun e w' =>
      e = .returned (.int .i64 (k + (n : Int))) ∧ MarkAt b off n k w n w' := by
  go_enter Tryz.func40, Tryz.ntmps40
  go_wp2
  go_loopw [1, 5] (fun t i wr => ∃ j : Nat, j ≤ n ∧ t = .int .i64 (k + (j : Int)) ∧ i = .int .i64 j ∧ Hid (MarkAt b off n k w j wr)) (fun _ i _ => n - (intOf i).toNat)
  case atStart => exact ⟨0, Nat.zero_le _, by simp, rfl, fun i hi => absurd hi (Nat.not_lt_zero _), hx, hf, Wr.refl _ _⟩
  case round =>
    obtain ⟨j, hj, rfl, rfl, HM⟩ := hrel
    by_cases hlt : j < n
    · obtain ⟨x, g1⟩ := HM.out.there j hlt
      have g2 := HM.out.free (off + j)
      have HN := hide (HM.out.step hlt)
      clear hx hf
      go_wp2
      go_roundw
      case rel => exact ⟨j + 1, by omega, by go_num, by go_num, unhide HN⟩
      case measure => simp [intOf]; omega
    · have : j = n := by omega
      subst this
      go_wp2
      go_ret
      exact ⟨rfl, HM.out⟩

theorem markI_none (ao : Option Addr) (c : Nat) (k : Int) (w : World) :
    Calls Tryz.prog 40 #[.slice ao 0 c, .int .i64 k] w fun e w' => e = .returned (.int .i64 k) ∧ w' = w := by
  go_enter Tryz.func40, Tryz.ntmps40
  go_wp2
  go_loopw [1, 5] (fun t i wr => t = .int .i64 k ∧ i = .int .i64 0 ∧ wr = w) (fun _ _ _ => 0)
  case atStart => exact ⟨rfl, rfl, rfl⟩
  case round =>
    obtain ⟨rfl, rfl, rfl⟩ := hrel
    go_wp2
    go_ret
    exact ⟨rfl, rfl⟩

/-- 'markInt64S' of a slice that reads as xs in block b alone, where nothing is frozen. -/
theorem markI {b : Nat} {w : World} {v : Value} {xs : List Int} {k : Int} (hv : RdI (· = b) w v xs) (hf : xs ≠ [] → ∀ o, w.frozen? ⟨b, o, none⟩ = false) (hk0 : 0 ≤ k) (hk : k + (xs.length : Int) ≤ 9223372036854775807) :
    Calls Tryz.prog 40 #[v, .int .i64 k] w fun e w' =>
      e = .returned (.int .i64 (k + (xs.length : Int))) ∧ RdI (· = b) w' v (mkI k xs.length) ∧ Wr (fun x => x = b ∧ xs ≠ []) w w' := by
  obtain ⟨ao, c, rfl, hm, h⟩ := hv
  cases xs with
  | nil => exact (markI_none _ _ _ _).mono fun e w' ⟨he, hw⟩ => ⟨by simpa using he, ⟨ao, c, by simp [mkI], by simp [mkI], fun h => absurd rfl h⟩, by subst hw; exact Wr.refl _ _⟩
  | cons x xs =>
    obtain ⟨b, off, rfl, rfl, hc⟩ := h (by simp)
    refine (markI_cells _ b off _ k w hm hk0 hk (fun i hi => ⟨_, hc i hi⟩) (hf (by simp))).mono fun e w' ⟨he, hM⟩ => ⟨he, ?_, ?_⟩
    · refine ⟨_, c, by rw [mkI_len], by rw [mkI_len]; exact hm, fun _ => ⟨b, off, rfl, rfl, fun i hi => ?_⟩⟩
      rw [mkI_len] at hi
      rw [mkI_at _ _ _ hi]
      exact hM.done i hi
    · exact hM.wr.mono fun y hy => ⟨hy, by simp⟩

/-- What the loop that marks n rows knows behind j of them. -/
structure MarkAt2 (xss : List (List Int)) (b off : Nat) (V : Nat → Value) (B : Nat → Nat) (k : Int) (w : World) (j : Nat) (wr : World) : Prop where
  cell : ∀ i, i < xss.length → wr.cell? ⟨b, off + i, none⟩ = some (V i)
  done : ∀ i, i < j → i < xss.length → RdI (· = B i) wr (V i) (mkI (k + (tot xss i : Int)) (xss.getD i []).length)
  todo : ∀ i, j ≤ i → i < xss.length → RdI (· = B i) wr (V i) (xss.getD i [])
  free : ∀ i, i < xss.length → xss.getD i [] ≠ [] → B i ≠ b ∧ (∀ o, wr.frozen? ⟨B i, o, none⟩ = false) ∧ ∀ j, j < xss.length → xss.getD j [] ≠ [] → B j = B i → j = i
  wr : Wr (fun x => ∃ i, i < xss.length ∧ xss.getD i [] ≠ [] ∧ x = B i) w wr

theorem mkI_ne {k : Int} {n : Nat} : mkI k n ≠ [] ↔ n ≠ 0 := by
  rw [← List.length_pos_iff, mkI_len]; omega

theorem MarkAt2.step {xss : List (List Int)} {b off : Nat} {V : Nat → Value} {B : Nat → Nat} {k : Int} {w : World} {j : Nat} {wr w' : World}
    (h : MarkAt2 xss b off V B k w j wr) (hj : j < xss.length) (h1 : RdI (· = B j) w' (V j) (mkI (k + (tot xss j : Int)) (xss.getD j []).length)) (h2 : Wr (fun x => x = B j ∧ xss.getD j [] ≠ []) wr w') :
    MarkAt2 xss b off V B k w (j + 1) w' := by
  have other : ∀ i, i < xss.length → i ≠ j → ∀ {xs : List Int}, (xs ≠ [] → xss.getD i [] ≠ []) → RdI (· = B i) wr (V i) xs → RdI (· = B i) w' (V i) xs := by
    intro i hi hij xs hxs hr
    obtain ⟨ao, c, e1, e2, e3⟩ := hr
    refine ⟨ao, c, e1, e2, fun hne => ?_⟩
    obtain ⟨b', off', f1, f2, f3⟩ := e3 hne
    refine ⟨b', off', f1, f2, fun t ht => ?_⟩
    rw [h2.cell (World.block_lt_of_cell? _ _ (f3 t ht)) (by rintro ⟨e, hne'⟩; exact hij ((h.free j hj hne').2.2 i hi (hxs hne) (f2.symm.trans e)))]
    exact f3 t ht
  refine ⟨fun i hi => ?_, fun i hi hi' => ?_, fun i hi hi' => other i hi' (by omega) id (h.todo i (by omega) hi'), fun i hi hne => ?_, h.wr.trans (h2.mono ?_)⟩
  · rw [h2.cell (World.block_lt_of_cell? _ _ (h.cell i hi)) (by rintro ⟨e, hne'⟩; exact (h.free j hj hne').1 e.symm)]
    exact h.cell i hi
  · by_cases e : i = j
    · subst e; exact h1
    · exact other i hi' e (fun hne => by rw [mkI_ne] at hne; intro e0; rw [e0] at hne; exact hne rfl) (h.done i (by omega) hi')
  · obtain ⟨f1, f2, f3⟩ := h.free i hi hne
    refine ⟨f1, fun o => ?_, f3⟩
    have hlt : B i < wr.heap.size := by
      by_cases e : i < j
      · obtain ⟨b', hb, hl⟩ := (h.done i e hi).lt (mkI_ne.2 (fun e0 => hne (List.eq_nil_of_length_eq_zero e0)))
        exact hb ▸ hl
      · obtain ⟨b', hb, hl⟩ := (h.todo i (by omega) hi).lt hne
        exact hb ▸ hl
    rw [h2.frz _ _ hlt]; exact f2 o
  · rintro x ⟨rfl, hne⟩; exact ⟨j, hj, hne, rfl⟩

/-- What the loop that marks n puts knows behind j of them. -/
structure MarkAt3 (ps : List (Int × List Int)) (b off : Nat) (V : Nat → Value) (B : Nat → Nat) (k : Int) (w : World) (j : Nat) (wr : World) : Prop where
  cell : ∀ i, i < ps.length → wr.cell? ⟨b, off + i * 2 + 1, none⟩ = some (V i)
  there : ∀ i, i < ps.length → ∃ x, wr.cell? ⟨b, off + i * 2, none⟩ = some x
  num : ∀ i, i < j → i < ps.length → wr.cell? ⟨b, off + i * 2, none⟩ = some (.int .i64 (k + (totP ps i : Int)))
  done : ∀ i, i < j → i < ps.length → RdI (· = B i) wr (V i) (mkI (k + (totP ps i : Int) + 1) (ps.getD i (0, [])).2.length)
  todo : ∀ i, j ≤ i → i < ps.length → RdI (· = B i) wr (V i) (ps.getD i (0, [])).2
  own : ∀ o, wr.frozen? ⟨b, o, none⟩ = false
  free : ∀ i, i < ps.length → (ps.getD i (0, [])).2 ≠ [] → B i ≠ b ∧ (∀ o, wr.frozen? ⟨B i, o, none⟩ = false) ∧ ∀ j, j < ps.length → (ps.getD j (0, [])).2 ≠ [] → B j = B i → j = i
  wr : Wr (fun x => x = b ∨ ∃ i, i < ps.length ∧ (ps.getD i (0, [])).2 ≠ [] ∧ x = B i) w wr

theorem RdI.setOther {b b' o : Nat} {w : World} {v u : Value} {xs : List Int} (h : RdI (· = b) w v xs) (hne : xs ≠ [] → b ≠ b') : RdI (· = b) (w.setCell ⟨b', o, none⟩ u) v xs := by
  obtain ⟨ao, c, e1, e2, e3⟩ := h
  refine ⟨ao, c, e1, e2, fun hn => ?_⟩
  obtain ⟨b1, off', f1, f2, f3⟩ := e3 hn
  refine ⟨b1, off', f1, f2, fun t ht => ?_⟩
  rw [World.cell?_setCell_other _ _ _ _ (by intro e; exact hne hn (f2.symm.trans (congrArg Addr.block e).symm))]
  exact f3 t ht

theorem MarkAt3.mid {ps : List (Int × List Int)} {b off : Nat} {V : Nat → Value} {B : Nat → Nat} {k : Int} {w : World} {j : Nat} {wr : World} (h : MarkAt3 ps b off V B k w j wr) (hj : j < ps.length) (u : Value) :
    RdI (· = B j) (wr.setCell ⟨b, off + j * 2, none⟩ u) (V j) (ps.getD j (0, [])).2 ∧ ((ps.getD j (0, [])).2 ≠ [] → ∀ o, (wr.setCell ⟨b, off + j * 2, none⟩ u).frozen? ⟨B j, o, none⟩ = false) :=
  ⟨(h.todo j (Nat.le_refl _) hj).setOther fun hn => (h.free j hj hn).1, fun hn o => by rw [World.frozen?_setCell]; exact (h.free j hj hn).2.1 o⟩

theorem MarkAt3.step {ps : List (Int × List Int)} {b off : Nat} {V : Nat → Value} {B : Nat → Nat} {k : Int} {w : World} {j : Nat} {wr w' : World}
    (h : MarkAt3 ps b off V B k w j wr) (hj : j < ps.length) (h1 : RdI (· = B j) w' (V j) (mkI (k + (totP ps j : Int) + 1) (ps.getD j (0, [])).2.length))
    (h2 : Wr (fun x => x = B j ∧ (ps.getD j (0, [])).2 ≠ []) (wr.setCell ⟨b, off + j * 2, none⟩ (.int .i64 (k + (totP ps j : Int)))) w') :
    MarkAt3 ps b off V B k w (j + 1) w' := by
  have keepb : ∀ o v, (wr.setCell ⟨b, off + j * 2, none⟩ (.int .i64 (k + (totP ps j : Int)))).cell? ⟨b, o, none⟩ = some v → w'.cell? ⟨b, o, none⟩ = some v := by
    intro o v hv
    rw [h2.cell (World.block_lt_of_cell? _ _ hv) (by rintro ⟨e, hne'⟩; exact (h.free j hj hne').1 e.symm)]
    exact hv
  have setb : ∀ o v, o ≠ off + j * 2 → wr.cell? ⟨b, o, none⟩ = some v → w'.cell? ⟨b, o, none⟩ = some v := by
    intro o v ho hv
    exact keepb o v (by rw [World.cell?_setCell_other _ _ _ _ (by intro e; exact ho (congrArg Addr.off e).symm)]; exact hv)
  have seta : w'.cell? ⟨b, off + j * 2, none⟩ = some (.int .i64 (k + (totP ps j : Int))) := by
    obtain ⟨x, hx⟩ := h.there j hj
    exact keepb _ _ (World.cell?_setCell_same _ _ _ hx)
  have other : ∀ i, i < ps.length → i ≠ j → ∀ {xs : List Int}, (xs ≠ [] → (ps.getD i (0, [])).2 ≠ []) → RdI (· = B i) wr (V i) xs → RdI (· = B i) w' (V i) xs := by
    intro i hi hij xs hxs hr
    obtain ⟨ao, c, e1, e2, e3⟩ := hr.setOther (o := off + j * 2) (u := .int .i64 (k + (totP ps j : Int))) (fun hn => (h.free i hi (hxs hn)).1)
    refine ⟨ao, c, e1, e2, fun hne => ?_⟩
    obtain ⟨b', off', f1, f2, f3⟩ := e3 hne
    refine ⟨b', off', f1, f2, fun t ht => ?_⟩
    rw [h2.cell (World.block_lt_of_cell? _ _ (f3 t ht)) (by rintro ⟨e, hne'⟩; exact hij ((h.free j hj hne').2.2 i hi (hxs hne) (f2.symm.trans e)))]
    exact f3 t ht
  have hsz : (wr.setCell ⟨b, off + j * 2, none⟩ (.int .i64 (k + (totP ps j : Int)))).heap.size = wr.heap.size := by simp
  refine ⟨fun i hi => setb _ _ (by omega) (h.cell i hi), fun i hi => ?_, fun i hi hi' => ?_, fun i hi hi' => ?_, fun i hi hi' => other i hi' (by omega) id (h.todo i (by omega) hi'), fun o => ?_, fun i hi hne => ?_, ?_⟩
  · by_cases e : i = j
    · subst e; exact ⟨_, seta⟩
    · obtain ⟨x, hx⟩ := h.there i hi
      exact ⟨x, setb _ _ (by omega) hx⟩
  · by_cases e : i = j
    · subst e; exact seta
    · exact setb _ _ (by omega) (h.num i (by omega) hi')
  · by_cases e : i = j
    · subst e; exact h1
    · exact other i hi' e (fun hne => by rw [mkI_ne] at hne; intro e0; rw [e0] at hne; exact hne rfl) (h.done i (by omega) hi')
  · obtain ⟨x, hx⟩ := h.there j hj
    rw [h2.frz _ _ (by rw [hsz]; exact World.block_lt_of_cell? _ _ hx), World.frozen?_setCell]; exact h.own o
  · obtain ⟨f1, f2, f3⟩ := h.free i hi hne
    refine ⟨f1, fun o => ?_, f3⟩
    have hlt : B i < wr.heap.size := by
      by_cases e : i < j
      · obtain ⟨b', hb, hl⟩ := (h.done i e hi).lt (mkI_ne.2 (fun e0 => hne (List.eq_nil_of_length_eq_zero e0)))
        exact hb ▸ hl
      · obtain ⟨b', hb, hl⟩ := (h.todo i (by omega) hi).lt hne
        exact hb ▸ hl
    rw [h2.frz _ _ (by rw [hsz]; exact hlt), World.frozen?_setCell]; exact f2 o
  · exact (h.wr.setCell (p := ⟨b, off + j * 2, none⟩) (Or.inl rfl) _).trans (h2.mono fun x ⟨e, hne⟩ => Or.inr ⟨j, hj, hne, e⟩)

end Go.Proofs.YtcmdgnemkjfckaaGreatDoor
/- The walks of the laws' functions that ask whether marks still stand. -/
namespace Go.Proofs.YtcmdgnemkjfckaaGreatDoor
open Go.RowKit

theorem heldI_cells (n b off c : Nat) (k : Int) (w : World) (hm : n ≤ 9223372036854775807) (hk0 : 0 ≤ k) (hk : k + (n : Int) ≤ 9223372036854775807)
    (hx : ∀ i, i < n → w.cell? ⟨b, off + i, none⟩ = some (.int .i64 (k + (i : Int)))) :
    Calls Tryz.prog 66 #[.slice (some ⟨b, off, none⟩) n c, .int .i64 k] w fun e w' =>
      e = .returned (.int .i64 (k + (n : Int))) ∧ ∃ q, w' = w.drewN q := by
  go_enter Tryz.func66, Tryz.ntmps66
  go_wp2
  go_loopw [1, 5] (fun t i wr => ∃ j q : Nat, j ≤ n ∧ t = .int .i64 (k + (j : Int)) ∧ i = .int .i64 j ∧ wr = w.drewN q) (fun _ i _ => n - (intOf i).toNat)
  case atStart => exact ⟨0, 0, Nat.zero_le _, by simp, rfl, rfl⟩
  case round =>
    obtain ⟨j, q, hj, rfl, rfl, rfl⟩ := hrel
    by_cases hlt : j < n
    · have g1 := hx j hlt
      go_wp2
      go_roundw
      case rel => exact ⟨j + 1, _, by omega, by go_num, by go_num, rfl⟩
      case measure => simp [intOf]; omega
    · have : j = n := by omega
      subst this
      go_wp2
      go_ret
      exact ⟨rfl, _, rfl⟩

theorem heldI_none (ao : Option Addr) (c : Nat) (k : Int) (w : World) :
    Calls Tryz.prog 66 #[.slice ao 0 c, .int .i64 k] w fun e w' => e = .returned (.int .i64 k) ∧ ∃ q, w' = w.drewN q := by
  go_enter Tryz.func66, Tryz.ntmps66
  go_wp2
  go_loopw [1, 5] (fun t i wr => t = .int .i64 k ∧ i = .int .i64 0 ∧ wr = w) (fun _ _ _ => 0)
  case atStart => exact ⟨rfl, rfl, rfl⟩
  case round =>
    obtain ⟨rfl, rfl, rfl⟩ := hrel
    go_wp2
    go_ret
    exact ⟨rfl, 0, rfl⟩

/-- 'heldInt64S' of a slice whose marks stand. -/
theorem heldI {S : Nat → Prop} {w : World} {v : Value} {n : Nat} {k : Int} (hv : RdI S w v (mkI k n)) (hk0 : 0 ≤ k) (hk : k + (n : Int) ≤ 9223372036854775807) :
    Calls Tryz.prog 66 #[v, .int .i64 k] w fun e w' =>
      e = .returned (.int .i64 (k + (n : Int))) ∧ ∃ q, w' = w.drewN q := by
  obtain ⟨ao, c, rfl, hm, h⟩ := hv
  rw [mkI_len] at hm h ⊢
  cases n with
  | zero => exact (heldI_none _ _ _ _).mono fun e w' ⟨he, hw⟩ => ⟨by simpa using he, hw⟩
  | succ n =>
    obtain ⟨b, off, rfl, _, hc⟩ := h (by simp [mkI, List.range_succ])
    exact heldI_cells _ b off _ k w hm hk0 hk (fun i hi => by rw [hc i hi, mkI_at _ _ _ hi])

end Go.Proofs.YtcmdgnemkjfckaaGreatDoor
/- What lies in an interval of blocks, and how it is carried from world to world; the laws' functions over a code with a list. -/
namespace Go.Proofs.YtcmdgnemkjfckaaGreatDoor
open Go.RowKit

/-- Numbers in one block of [lo, hi), not frozen. -/
def IvI (lo hi : Nat) (w : World) (v : Value) (xs : List Int) : Prop :=
  ∃ b, RdI (· = b) w v xs ∧ (xs ≠ [] → lo ≤ b ∧ b < hi ∧ b < w.heap.size ∧ ∀ o, w.frozen? ⟨b, o, none⟩ = false)
theorem OwI.iv {B : Nat} {w : World} {v : Value} {xs : List Int} (h : OwI B w v xs) : IvI B w.heap.size w v xs := by
  obtain ⟨b, h1, h2⟩ := h
  exact ⟨b, h1, fun hne => ⟨(h2 hne).1, (h2 hne).2.1, (h2 hne).2.1, (h2 hne).2.2⟩⟩
theorem IvI.wr {lo hi : Nat} {T : Nat → Prop} {w w' : World} {v : Value} {xs : List Int} (h : IvI lo hi w v xs) (hw : Wr T w w') (hd : ∀ b, lo ≤ b → b < hi → ¬ T b) : IvI lo hi w' v xs := by
  obtain ⟨b, h1, h2⟩ := h
  refine ⟨b, h1.wr hw (fun hne x hx => by subst hx; exact hd _ (h2 hne).1 (h2 hne).2.1), fun hne => ?_⟩
  obtain ⟨k1, k2, k3, k4⟩ := h2 hne
  exact ⟨k1, k2, Nat.lt_of_lt_of_le k3 hw.size, fun o => by rw [hw.frz _ _ k3]; exact k4 o⟩
theorem IvI.later {lo hi : Nat} {w w' : World} {v : Value} {xs : List Int} (h : IvI lo hi w v xs) (hb : Below w.heap.size w w') : IvI lo hi w' v xs :=
  h.wr (Wr.of_below hb fun _ => False) fun _ _ _ => id
theorem IvI.rd {lo hi : Nat} {w : World} {v : Value} {xs : List Int} (h : IvI lo hi w v xs) : RdI (fun b => lo ≤ b ∧ b < hi) w v xs := by
  obtain ⟨b, h1, h2⟩ := h
  exact h1.narrow fun hne x hx => hx ▸ ⟨(h2 hne).1, (h2 hne).2.1⟩

/-- A disk in [lo, hi). -/
def IvD (lo hi : Nat) (w : World) (u v : Value) (xss : List (List Int)) (ps : List (Int × List Int)) : Prop :=
  ∃ S T : Nat → Prop, hi ≤ w.heap.size ∧ (∀ b, S b → lo ≤ b ∧ b < hi) ∧ (∀ b, T b → lo ≤ b ∧ b < hi) ∧ (∀ b, S b → ¬ T b) ∧ OwII S w u xss ∧ OwP T w v ps
theorem OwD.iv {B : Nat} {w : World} {u v : Value} {xss : List (List Int)} {ps : List (Int × List Int)} (h : OwD B w u v xss ps) : IvD B w.heap.size w u v xss ps := by
  obtain ⟨S, T, h1, h2, h3, h4, h5⟩ := h
  exact ⟨S, T, Nat.le_refl _, h1, h2, h3, h4, h5⟩
theorem IvD.wr {lo hi : Nat} {V : Nat → Prop} {w w' : World} {u v : Value} {xss : List (List Int)} {ps : List (Int × List Int)} (h : IvD lo hi w u v xss ps) (hw : Wr V w w') (hd : ∀ b, lo ≤ b → b < hi → ¬ V b) : IvD lo hi w' u v xss ps := by
  obtain ⟨S, T, h0, h1, h2, h3, h4, h5⟩ := h
  exact ⟨S, T, Nat.le_trans h0 hw.size, h1, h2, h3, h4.wr hw fun b hb => hd b (h1 b hb).1 (h1 b hb).2, h5.wr hw fun b hb => hd b (h2 b hb).1 (h2 b hb).2⟩
theorem IvD.later {lo hi : Nat} {w w' : World} {u v : Value} {xss : List (List Int)} {ps : List (Int × List Int)} (h : IvD lo hi w u v xss ps) (hb : Below w.heap.size w w') : IvD lo hi w' u v xss ps :=
  h.wr (Wr.of_below hb fun _ => False) fun _ _ _ => id
theorem IvD.rdII {lo hi : Nat} {w : World} {u v : Value} {xss : List (List Int)} {ps : List (Int × List Int)} (h : IvD lo hi w u v xss ps) : RdII (fun b => lo ≤ b ∧ b < hi) w u xss := by
  obtain ⟨S, T, h0, h1, h2, h3, h4, h5⟩ := h
  exact (h4.mono h1).rd
theorem IvD.rdP {lo hi : Nat} {w : World} {u v : Value} {xss : List (List Int)} {ps : List (Int × List Int)} (h : IvD lo hi w u v xss ps) : RdP (fun b => lo ≤ b ∧ b < hi) w v ps := by
  obtain ⟨S, T, h0, h1, h2, h3, h4, h5⟩ := h
  exact (h5.mono h2).rd

/-- A disk in [lo, hi) whose marks stand from k on. -/
def MkD (k : Int) (lo hi : Nat) (w : World) (u v : Value) (xss : List (List Int)) (ps : List (Int × List Int)) : Prop :=
  ∃ S T : Nat → Prop, (∀ b, S b → lo ≤ b ∧ b < hi) ∧ (∀ b, T b → lo ≤ b ∧ b < hi) ∧ RdII S w u (mkII k xss) ∧ RdP T w v (mkP (k + (tot xss xss.length : Int)) ps)
theorem MkD.wr {k : Int} {lo hi : Nat} {V : Nat → Prop} {w w' : World} {u v : Value} {xss : List (List Int)} {ps : List (Int × List Int)} (h : MkD k lo hi w u v xss ps) (hw : Wr V w w') (hd : ∀ b, lo ≤ b → b < hi → ¬ V b) : MkD k lo hi w' u v xss ps := by
  obtain ⟨S, T, h1, h2, hr, hp⟩ := h
  exact ⟨S, T, h1, h2, hr.wr hw fun b hb => hd b (h1 b hb).1 (h1 b hb).2, hp.wr hw fun b hb => hd b (h2 b hb).1 (h2 b hb).2⟩
theorem MkD.later {k : Int} {lo hi : Nat} {w w' : World} {u v : Value} {xss : List (List Int)} {ps : List (Int × List Int)} (h : MkD k lo hi w u v xss ps) (hb : Below w.heap.size w w') : MkD k lo hi w' u v xss ps :=
  h.wr (Wr.of_below hb fun _ => False) fun _ _ _ => id

/-- Numbers in [lo, hi) whose marks stand from k on. -/
def MkI (k : Int) (lo hi : Nat) (w : World) (v : Value) (n : Nat) : Prop := RdI (fun b => lo ≤ b ∧ b < hi) w v (mkI k n)
theorem MkI.wr {k : Int} {lo hi : Nat} {V : Nat → Prop} {w w' : World} {v : Value} {n : Nat} (h : MkI k lo hi w v n) (hw : Wr V w w') (hd : ∀ b, lo ≤ b → b < hi → ¬ V b) : MkI k lo hi w' v n :=
  RdI.wr h hw fun _ b hb => hd b hb.1 hb.2
theorem MkI.later {k : Int} {lo hi : Nat} {w w' : World} {v : Value} {n : Nat} (h : MkI k lo hi w v n) (hb : Below w.heap.size w w') : MkI k lo hi w' v n := RdI.later h hb

/-- Two cells of a variable. -/
def Var2 (w : World) (b : Nat) (x y : Value) : Prop := w.cell? ⟨b, 0, none⟩ = some x ∧ w.cell? ⟨b, 1, none⟩ = some y
theorem Var2.later {w w' : World} {b : Nat} {x y : Value} (h : Var2 w b x y) (hb : Below w.heap.size w w') : Var2 w' b x y := ⟨cell_later hb h.1, cell_later hb h.2⟩
theorem Var2.wr {S : Nat → Prop} {w w' : World} {b : Nat} {x y : Value} (h : Var2 w b x y) (hb : Wr S w w') (hd : ¬ S b) : Var2 w' b x y := ⟨cell_wr hb h.1 hd, cell_wr hb h.2 hd⟩
theorem Var2.lt {w : World} {b : Nat} {x y : Value} (h : Var2 w b x y) : b < w.heap.size := World.block_lt_of_cell? _ _ h.1
theorem Var2_new (w : World) (x y : Value) (t : TypeId) : Var2 (w.alloc (.cells #[x, y] t)) w.heap.size x y := by
  refine ⟨?_, ?_⟩ <;> simp [go_sem]

/-- Three cells of a variable. -/
def Var3 (w : World) (b : Nat) (x y z : Value) : Prop := w.cell? ⟨b, 0, none⟩ = some x ∧ w.cell? ⟨b, 1, none⟩ = some y ∧ w.cell? ⟨b, 2, none⟩ = some z
theorem Var3.later {w w' : World} {b : Nat} {x y z : Value} (h : Var3 w b x y z) (hb : Below w.heap.size w w') : Var3 w' b x y z :=
  ⟨cell_later hb h.1, cell_later hb h.2.1, cell_later hb h.2.2⟩
theorem Var3.wr {S : Nat → Prop} {w w' : World} {b : Nat} {x y z : Value} (h : Var3 w b x y z) (hb : Wr S w w') (hd : ¬ S b) : Var3 w' b x y z :=
  ⟨cell_wr hb h.1 hd, cell_wr hb h.2.1 hd, cell_wr hb h.2.2 hd⟩
theorem Var3.lt {w : World} {b : Nat} {x y z : Value} (h : Var3 w b x y z) : b < w.heap.size := World.block_lt_of_cell? _ _ h.1
theorem Var3_new (w : World) (x y z : Value) (t : TypeId) : Var3 (w.alloc (.cells #[x, y, z] t)) w.heap.size x y z := by
  refine ⟨?_, ?_, ?_⟩ <;> simp [go_sem]

/-- 'toInt64S', 'eqInt64S', 'markInt64S', in the forms of the others. -/
theorem toI' {S : Nat → Prop} {w : World} {v : Value} {xs : List Int} (hv : RdI S w v xs) (hm : xs.length ≤ 1048576) :
    Calls Tryz.prog 29 #[v] w fun e w' => ∃ z, e = .returned z ∧ Below w.heap.size w w' ∧ OwI w.heap.size w' z xs :=
  (toI hv hm).mono fun e w' ⟨he, h⟩ => ⟨_, he, h.below, _, rd_row h.full (by omega), fun _ => ⟨Nat.le_refl _, by rw [h.size]; omega, fun o => h.row.frozen o⟩⟩
theorem eqI' {S T : Nat → Prop} {w : World} {u v : Value} {xs : List Int} (hu : RdI S w u xs) (hv : RdI T w v xs) :
    Calls Tryz.prog 36 #[u, v] w fun e w' => e = .returned (.bool true) ∧ Below w.heap.size w w' :=
  (eqI hu hv).mono (by rintro e w' ⟨he, q, rfl⟩; exact ⟨he, below_drewN _ _⟩)
theorem markIIv {lo hi : Nat} {w : World} {v : Value} {xs : List Int} {k : Int} (h : IvI lo hi w v xs) (hk0 : 0 ≤ k) (hk : k + (xs.length : Int) ≤ 9223372036854775807) :
    Calls Tryz.prog 40 #[v, .int .i64 k] w fun e w' => e = .returned (.int .i64 (k + (xs.length : Int))) ∧ Wr (fun b => lo ≤ b ∧ b < hi) w w' := by
  obtain ⟨b, h1, h2⟩ := h
  exact (markI h1 (fun hne => (h2 hne).2.2.2) hk0 hk).mono fun e w' ⟨he, _, hw⟩ => ⟨he, hw.mono fun y ⟨e, hne⟩ => e ▸ ⟨(h2 hne).1, (h2 hne).2.1⟩⟩

/-- What a call that ends in a code and a disk is to leave. -/
def EndsD (x : Int) (xss : List (List Int)) (ps : List (Int × List Int)) (w : World) (e : Ending) (w' : World) : Prop :=
  ∃ u v, e = .returned (.agg #[.int .i64 x, u, v]) ∧ Below w.heap.size w w' ∧ OwD w.heap.size w' u v xss ps

/-- What a call that ends in a code and a list is to leave. -/
def EndsI (x : Int) (xs : List Int) (w : World) (e : Ending) (w' : World) : Prop :=
  ∃ z, e = .returned (.agg #[.int .i64 x, z]) ∧ Below w.heap.size w w' ∧ OwI w.heap.size w' z xs
end Go.Proofs.YtcmdgnemkjfckaaGreatDoor
/- The laws' helpers over Header and HeaderResult. Made by program (genflat.py). -/
namespace Go.Proofs.YtcmdgnemkjfckaaGreatDoor
open Go.RowKit

theorem markIMk {lo hi : Nat} {w : World} {u : Value} {xs : List Int} {k : Int} (hu : IvI lo hi w u xs) (hk0 : 0 ≤ k) (hk : k + (xs.length : Int) ≤ 9223372036854775807) :
    Calls Tryz.prog 40 #[u, .int .i64 k] w fun e w' => e = .returned (.int .i64 (k + (xs.length : Int))) ∧ MkI k lo hi w' u xs.length ∧ Wr (fun b => lo ≤ b ∧ b < hi) w w' := by
  obtain ⟨b, h1, h2⟩ := hu
  refine (markI h1 (fun hne => (h2 hne).2.2.2) hk0 hk).mono fun e w' ⟨he, hr, hw⟩ => ⟨he, RdI.narrow hr (fun hne y hy => ?_), hw.mono fun y ⟨e, hne⟩ => e ▸ ⟨(h2 hne).1, (h2 hne).2.1⟩⟩
  subst hy
  have hne' : xs ≠ [] := by rintro rfl; exact hne rfl
  exact ⟨(h2 hne').1, (h2 hne').2.1⟩
theorem heldI' {lo hi : Nat} {w : World} {u : Value} {n : Nat} {k : Int} (hu : MkI k lo hi w u n) (hk0 : 0 ≤ k) (hk : k + (n : Int) ≤ 9223372036854775807) :
    Calls Tryz.prog 66 #[u, .int .i64 k] w fun e w' => e = .returned (.int .i64 (k + (n : Int))) ∧ Below w.heap.size w w' :=
  (heldI hu hk0 hk).mono (by rintro e w' ⟨he, q, rfl⟩; exact ⟨he, below_drewN _ _⟩)

end Go.Proofs.YtcmdgnemkjfckaaGreatDoor
/- The laws' helpers over Object. Made by program (genobj.py). -/
namespace Go.Proofs.YtcmdgnemkjfckaaGreatDoor
open Go.RowKit
end Go.Proofs.YtcmdgnemkjfckaaGreatDoor
