/- Ap6 in one text: what each says stands at its head below. -/
import Derived.Test.YtncgpfapepminaaGreatDoorG07
import Derived.Test.YtncgpfapepminaaGreatDoorG27
import Derived.ArgAppend
import Derived.Deep.AppendLies
/- An entry more behind a list of whatever memory of the call's own: in place where there is room, else in a new row. -/
namespace Go.Proofs.YtncgpfapepminaaGreatDoor
open Go.RowKit

theorem getD_snoc_lt {ps : List Oj} {p : Oj} {i : Nat} (h : i < ps.length) : (ps ++ [p]).getD i oj0 = ps.getD i oj0 := by simp [List.getD, List.getElem?_append_left h]
theorem getD_snoc_eq {ps : List Oj} {p : Oj} : (ps ++ [p]).getD ps.length oj0 = p := by simp [List.getD]
theorem setCell_some {w : World} {a b : Addr} {x v : Value} (h : w.cell? a = some x) : ∃ y, (w.setCell b v).cell? a = some y := by
  by_cases e : b = a
  · subst e; exact ⟨_, World.cell?_setCell_same _ _ _ h⟩
  · exact ⟨x, (World.cell?_setCell_other _ _ _ _ e).trans h⟩
/-- An append at a step of a region that draws, out of its run. -/
theorem step_append_run {P : Program} (w : World) {ops : Array Oper} {o : Oper} {a : Act} {K : Act → World → Prop} {Q : Exit → Act → World → Prop} {E : Prop} (hgd : o.guard = none) (s x : Operand) (t : TypeId)
    (ho : o.op = .call { callee := .builtin .append, args := #[s, x], argTypes := #[t, t] }) {v u v' : Value} {w' : World} (hs : a.eval s = v) (hx : a.eval x = u)
    (hrun : (Builtin.append_ #[t, t] o.type #[v, u]).run P w = .ok v' w') (h : K (a.put o.dst v') w') :
    if Region.wanted o (yielded ops a.tmps) = true then Oper.wp P o a w K Q else E := by
  have hw : Region.wanted o (yielded ops a.tmps) = true := by simp [Region.wanted, hgd]
  rw [if_pos hw]
  unfold Oper.wp execOp
  simp only [ho, resolve, invoke, builtin, Sem.run_bind, Sem.run_pure, Result.andThen_ok, List.map_toArray, List.map_cons, List.map_nil, hs, hx, hrun]
  exact h

/-- The list with one more, in what memory. -/
theorem OwJ.push {S : Nat → Prop} {M g2 : Nat} {w : World} {z ze : Value} {ps : List Oj} {p : Oj} (ty : TypeId) (h : OwJ S w z ps) (hS : ∀ b, S b → b < M) (hlen : ps.length ≤ 1000)
    (hze : OwI M w ze p.2.2) (hMw : M ≤ w.heap.size) (h0 : w.cell? ⟨g2, 0, none⟩ = some (.int .i64 p.1)) (h1 : w.cell? ⟨g2, 1, none⟩ = some (.int .i64 p.2.1)) (h2 : w.cell? ⟨g2, 2, none⟩ = some ze) :
    ∃ v' w', (Builtin.append_ #[25, 25] ty #[z, .slice (some ⟨g2, 0, none⟩) 1 1]).run Tryz.prog w = .ok v' w' ∧ Wr S w w' ∧ OwJ (fun b => S b ∨ (M ≤ b ∧ b < w'.heap.size)) w' v' (ps ++ [p]) := by
  obtain ⟨i0, hi, hz0, hz1, hz2⟩ := info_parts Tryz.infoEn
  obtain ⟨ao, c, b, off, V, B, rfl, ⟨hm, hc, hroom⟩, h3, h4⟩ := h
  obtain ⟨be, k1, k2⟩ := hze
  obtain ⟨ae, ce, rfl⟩ := k1.shape
  obtain ⟨n, hn⟩ : ∃ n, ps.length = n := ⟨_, rfl⟩
  have hel : (ps ++ [p]).length = n + 1 := by simp [hn]
  have hone : ∀ u ∈ ([.int .i64 p.1, .int .i64 p.2.1, .slice ae p.2.2.length ce] : List Value), u.oneCell' = true := cellsEn_one
  have hnews : ∀ j u, ([.int .i64 p.1, .int .i64 p.2.1, .slice ae p.2.2.length ce] : List Value)[j]? = some u → w.cell? ((⟨g2, 0, none⟩ : Addr).add j) = some u := by
    intro j u hj
    rw [Addr.add_lit, Nat.zero_add]
    rcases j with _ | _ | _ | j
    · simpa using hj ▸ h0
    · simpa using hj ▸ h1
    · simpa using hj ▸ h2
    · simp at hj
  have hlt : ∀ i, i < (ps ++ [p]).length → i ≠ n → i < n := fun i hi hne => by rw [hel] at hi; omega
  have hBS : ∀ i, i < n → (ps.getD i oj0).2.2 ≠ [] → B i < M := fun i hi hne => hS _ ((h4 i (by omega)).2.2.2.2 hne).1
  have uniq : ∀ (B' : Nat → Nat), (∀ i, i ≠ n → B' i = B i) → B' n = be → ∀ i, i < n + 1 → ((ps ++ [p]).getD i oj0).2.2 ≠ [] → ∀ j, j < n + 1 → ((ps ++ [p]).getD j oj0).2.2 ≠ [] → B' j = B' i → j = i := by
    intro B' e1 e2 i hi hin j hj hjn e
    by_cases ei : i = n
    · by_cases ej : j = n
      · omega
      · exfalso
        rw [getD_snoc_lt (by omega)] at hjn
        rw [ei, ← hn, getD_snoc_eq] at hin
        rw [e1 j ej, ei, e2] at e
        have := hBS j (by omega) hjn
        have := (k2 hin).1
        omega
    · by_cases ej : j = n
      · exfalso
        rw [getD_snoc_lt (by omega)] at hin
        rw [ej, ← hn, getD_snoc_eq] at hjn
        rw [e1 i ei, ej, e2] at e
        have := hBS i (by omega) hin
        have := (k2 hjn).1
        omega
      · rw [getD_snoc_lt (by omega)] at hin hjn
        rw [e1 i ei, e1 j ej] at e
        exact (h4 i (by omega)).2.2.2.2 hin |>.2.2.2 j (by omega) hjn e
  by_cases hcap : n + 1 ≤ c
  · obtain ⟨rfl, hSb, hfb, _⟩ := hroom (n * 3) (by omega)
    have hthere : ∀ o, o < c * 3 → ∃ x, w.cell? ⟨b, off + o, none⟩ = some x := fun o ho => (hroom o ho).2.2.2
    have hrun := run_append_room_cells (P := Tryz.prog) w 25 ty 55 i0 Tryz.underlying25 hi b off n c ⟨g2, 0, none⟩ 1 1 [.int .i64 p.1, .int .i64 p.2.1, .slice ae p.2.2.length ce] (by rw [hz1]; rfl) hnews hone hcap
      (fun j hj => by rw [hz1]; obtain ⟨x, hx⟩ := hthere (n * 3 + j) (by simp at hj; omega); rw [Nat.add_assoc, hx]; rfl) (fun j hj => hfb _)
    rw [hz1] at hrun
    rw [hn]
    refine ⟨_, _, hrun, ?_⟩
    have hw : Wr (· = b) w (w.setCells b (off + n * 3) [.int .i64 p.1, .int .i64 p.2.1, .slice ae p.2.2.length ce]) :=
      (((Wr.refl (· = b) w).setCell (p := ⟨b, off + n * 3, none⟩) rfl _).setCell (p := ⟨b, off + n * 3 + 1, none⟩) rfl _).setCell (p := ⟨b, off + n * 3 + 1 + 1, none⟩) rfl _
    have hout : ∀ o x, o < n * 3 → w.cell? ⟨b, off + o, none⟩ = some x → (w.setCells b (off + n * 3) [.int .i64 p.1, .int .i64 p.2.1, .slice ae p.2.2.length ce]).cell? ⟨b, off + o, none⟩ = some x := fun o x ho hx => by
      rw [World.cell?_setCells_out b _ _ _ _ (fun _ _ => Or.inl (by show off + o < off + n * 3; omega))]; exact hx
    have hin := World.cell?_setCells_in b [.int .i64 p.1, .int .i64 p.2.1, .slice ae p.2.2.length ce] (off + n * 3) w (fun j hj => by obtain ⟨x, hx⟩ := hthere (n * 3 + j) (by simp at hj; omega); rw [Nat.add_assoc, hx]; rfl)
    have hin0 := hin 0 (by simp)
    have hin1 := hin 1 (by simp)
    have hin2 := hin 2 (by simp)
    have hsome : ∀ o, o < c * 3 → ∃ x, (w.setCells b (off + n * 3) [.int .i64 p.1, .int .i64 p.2.1, .slice ae p.2.2.length ce]).cell? ⟨b, off + o, none⟩ = some x := fun o ho => by
      obtain ⟨x, hx⟩ := hthere o ho
      obtain ⟨y1, e1⟩ := setCell_some (b := ⟨b, off + n * 3, none⟩) (v := .int .i64 p.1) hx
      obtain ⟨y2, e2⟩ := setCell_some (b := ⟨b, off + n * 3 + 1, none⟩) (v := .int .i64 p.2.1) e1
      exact setCell_some (b := ⟨b, off + n * 3 + 1 + 1, none⟩) (v := .slice ae p.2.2.length ce) e2
    generalize w.setCells b (off + n * 3) [.int .i64 p.1, .int .i64 p.2.1, .slice ae p.2.2.length ce] = w' at hw hout hin0 hin1 hin2 hsome ⊢
    have hbl : b < w.heap.size := by obtain ⟨x, hx⟩ := hthere (n * 3) (by omega); exact World.block_lt_of_cell? _ _ hx
    have hfr : ∀ q, w'.frozen? ⟨b, q, none⟩ = false := fun q => (hw.frz _ _ hbl).trans (hfb q)
    refine ⟨hw.mono fun x e => e ▸ hSb, some ⟨b, off, none⟩, c, b, off, fun i => if i = n then .slice ae p.2.2.length ce else V i, fun i => if i = n then be else B i, by rw [hel], ⟨by rw [hel]; omega, by rw [hel]; exact hcap, fun o ho => ⟨rfl, Or.inl hSb, hfr, hsome o ho⟩⟩, fun _ => ⟨rfl, Or.inl hSb, hfr⟩, fun i hi => ?_⟩
    by_cases e : i = n
    · subst e
      simp only [if_true]
      have eg : ((ps ++ [p]).getD i oj0) = p := by rw [← hn]; exact getD_snoc_eq
      rw [eg]
      refine ⟨by simpa using hin0, by simpa [Nat.add_assoc] using hin1, by simpa [Nat.add_assoc] using hin2, k1.wr hw (fun hne x hx ex => ?_), fun hne => ?_⟩
      · have hx' : x = be := hx
        have := (k2 hne).1
        have := hS _ hSb
        omega
      · obtain ⟨q1, q2, q3⟩ := k2 hne
        refine ⟨Or.inr ⟨q1, Nat.lt_of_lt_of_le q2 hw.size⟩, fun ex => by have := hS _ hSb; omega, fun o => (hw.frz _ _ q2).trans (q3 o), fun j hj hjn ej => ?_⟩
        exact uniq (fun i' => if i' = i then be else B i') (fun i' hi' => if_neg hi') (if_pos rfl) i (Nat.lt_succ_self _) (by rw [eg]; exact hne) j (by rw [hel] at hj; exact hj) hjn (by rw [if_pos rfl]; exact ej)
    · have hin' := hlt i hi e
      simp only [if_neg e]
      obtain ⟨f0, f1, f2, f3, f4⟩ := h4 i (by omega)
      rw [getD_snoc_lt (by omega)]
      refine ⟨hout _ _ (by omega) f0, by have := hout (i * 3 + 1) _ (by omega) (by rw [← Nat.add_assoc]; exact f1); rw [← Nat.add_assoc] at this; exact this, by have := hout (i * 3 + 2) _ (by omega) (by rw [← Nat.add_assoc]; exact f2); rw [← Nat.add_assoc] at this; exact this, f3.wr hw (fun hne x hx ex => (f4 hne).2.1 (hx ▸ ex)), fun hne => ?_⟩
      obtain ⟨q1, q2, q3, q4⟩ := f4 hne
      obtain ⟨x, rfl, hl⟩ := f3.lt hne
      refine ⟨Or.inl q1, q2, fun o => (hw.frz _ _ hl).trans (q3 o), fun j hj hjn ej => ?_⟩
      exact uniq (fun i' => if i' = n then be else B i') (fun i' hi' => if_neg hi') (if_pos rfl) i (by omega) (by rw [getD_snoc_lt (by omega)]; exact hne) j (by rw [hel] at hj; exact hj) hjn (by rw [if_neg e]; exact ej)
  · have hcn : ps ≠ [] → c = n := fun _ => by omega
    have hrun : ∃ v' w', (Builtin.append_ #[25, 25] ty #[.slice ao n c, .slice (some ⟨g2, 0, none⟩) 1 1]).run Tryz.prog w = .ok v' w' ∧
        w'.ownsRow w.heap.size 55 3 v' (n + 1) (cellsEn ps n V ++ [.int .i64 p.1, .int .i64 p.2.1, .slice ae p.2.2.length ce]) ∧ w.grownBy w' none := by
      by_cases hne : ps = []
      · have e0 : n = 0 := by rw [← hn, hne]; rfl
        have ec : c = 0 := by omega
        subst e0 ec
        cases ao with
        | some x =>
          exact run_append_arg_grows (P := Tryz.prog) w 25 ty 55 i0 (.agg #[.int .i64 0, .int .i64 0, .slice none 0 0]) 3 40 Tryz.underlying25 hi hz0 hz1 hz2 rfl (by omega) x 0 0 (cellsEn ps 0 V) (by rw [cellsEn_len]) (fun j u hj => by simp [cellsEn] at hj) ⟨g2, 0, none⟩ 1 1 _ rfl hnews (by omega) (by unfold maxLen; omega) (by omega)
        | none =>
          obtain ⟨g, cap, w', q1, q2, q3, _⟩ := run_append_lies (P := Tryz.prog) w 25 ty w.heap.size 55 i0 (.agg #[.int .i64 0, .int .i64 0, .slice none 0 0]) 3 40 Tryz.underlying25 hi hz0 hz1 hz2 rfl (by omega) (.slice none 0 0) 0 [] (World.ownsRow_nil _ _ _ _) ⟨g2, 0, none⟩ 1 1 _ rfl hnews hone (by omega) (by unfold maxLen; omega) (by omega) (Nat.le_refl _) _ rfl
          exact ⟨_, w', q1, q2, q3⟩
      · obtain ⟨rfl, _⟩ := h3 hne
        exact run_append_arg_grows (P := Tryz.prog) w 25 ty 55 i0 (.agg #[.int .i64 0, .int .i64 0, .slice none 0 0]) 3 40 Tryz.underlying25 hi hz0 hz1 hz2 rfl (by omega) ⟨b, off, none⟩ n c (cellsEn ps n V) (by rw [cellsEn_len]) (hn ▸ cellsEn_atC fun i hi => ⟨(h4 i hi).1, (h4 i hi).2.1, (h4 i hi).2.2.1⟩) ⟨g2, 0, none⟩ 1 1 _ rfl hnews (by omega) (by unfold maxLen; omega) (by omega)
    rw [hn]
    obtain ⟨v', w', hrun, hown, hg⟩ := hrun
    refine ⟨v', w', hrun, ?_⟩
    have hb : Below w.heap.size w w' := (Below.refl w.heap.size w).grown hg (Nat.le_refl _) fun k e => by cases e
    refine ⟨Wr.of_below hb S, ?_⟩
    have hcell : cellsEn ps n V = cellsEn (ps ++ [p]) n (fun i => if i = n then .slice ae p.2.2.length ce else V i) := by
      rw [cellsEn_congr ps n V (fun i => if i = n then .slice ae p.2.2.length ce else V i) (fun i hi => by rw [if_neg (by omega)])]
      exact cellsEn_ext _ _ _ _ fun i hi => by rw [getD_snoc_lt (by omega)]
    have hcells : cellsEn ps n V ++ [.int .i64 p.1, .int .i64 p.2.1, .slice ae p.2.2.length ce] = cellsEn (ps ++ [p]) (n + 1) (fun i => if i = n then .slice ae p.2.2.length ce else V i) := by
      rw [cellsEn_next]
      have e1 : ((ps ++ [p]).getD n oj0) = p := by rw [← hn]; exact getD_snoc_eq
      rw [e1, if_pos rfl, ← hcell]
    rw [hcells] at hown
    rcases hown.2 with ⟨_, e⟩ | ⟨g, cap, cur, rfl, hgB, hh, hnc, _, hcs, _⟩
    · omega
    have hgl : g < w'.heap.size := (Array.getElem?_eq_some_iff.1 hh).1
    have hMg : M ≤ g := Nat.le_trans hMw hgB
    refine ⟨_, cap, g, 0, fun i => if i = n then .slice ae p.2.2.length ce else V i, fun i => if i = n then be else B i, by rw [hel], ⟨by rw [hel]; omega, by rw [hel]; exact hnc, RoomJ_row (Or.inr ⟨hMg, hgl⟩) hh hcs⟩, fun _ => ⟨rfl, Or.inr ⟨hMg, hgl⟩, fun o => hown.frozenAt o⟩, fun i hi => ⟨?_, ?_, ?_, ?_⟩⟩
    · rw [hel] at hi
      rw [Nat.zero_add, hown.cellAt (i * 3) (by omega)]
      exact cellsEn_flg _ _ _ _ hi
    · rw [hel] at hi
      rw [Nat.zero_add, hown.cellAt (i * 3 + 1) (by omega)]
      exact cellsEn_num _ _ _ _ hi
    · rw [hel] at hi
      rw [Nat.zero_add, hown.cellAt (i * 3 + 2) (by omega)]
      exact cellsEn_words _ _ _ _ hi
    · have hbk : ∀ x, x < w.heap.size → x ≠ g := fun x hx e => by omega
      by_cases e : i = n
      · subst e
        have eg : ((ps ++ [p]).getD i oj0) = p := by rw [← hn]; exact getD_snoc_eq
        simp only [if_true]
        rw [eg]
        refine ⟨k1.later hb, fun hne => ?_⟩
        obtain ⟨q1, q2, q3⟩ := k2 hne
        refine ⟨Or.inr ⟨q1, Nat.lt_of_lt_of_le q2 hb.size⟩, hbk _ q2, fun o => (hb.frozen (p := ⟨be, o, none⟩) q2).trans (q3 o), fun j hj hjn ej => ?_⟩
        exact uniq (fun i' => if i' = i then be else B i') (fun i' hi' => if_neg hi') (if_pos rfl) i (Nat.lt_succ_self _) (by rw [eg]; exact hne) j (by rw [hel] at hj; exact hj) hjn (by rw [if_pos rfl]; exact ej)
      · have hin' := hlt i hi e
        simp only [if_neg e]
        obtain ⟨f0, f1, f2, f3, f4⟩ := h4 i (by omega)
        rw [getD_snoc_lt (by omega)]
        refine ⟨f3.later hb, fun hne => ?_⟩
        obtain ⟨q1, q2, q3, q4⟩ := f4 hne
        obtain ⟨x, rfl, hl⟩ := f3.lt hne
        refine ⟨Or.inl q1, hbk _ hl, fun o => (hb.frozen (p := ⟨B i, o, none⟩) hl).trans (q3 o), fun j hj hjn ej => ?_⟩
        exact uniq (fun i' => if i' = n then be else B i') (fun i' hi' => if_neg hi') (if_pos rfl) i (by omega) (by rw [getD_snoc_lt (by omega)]; exact hne) j (by rw [hel] at hj; exact hj) hjn (by rw [if_neg e]; exact ej)
end Go.Proofs.YtncgpfapepminaaGreatDoor
