/- Ap6 Bg1 in one text: what each says stands at its head below. -/
import Derived.Test.YtlliggfggadidaaGreatDoorG02
import Derived.Test.YtlliggfggadidaaGreatDoorG17
import Derived.ArgAppend
import Derived.Deep.AppendLies
import Derived.Test.YtlliggfggadidaaGreatDoorG23
namespace Go.Proofs.YtlliggfggadidaaGreatDoor
open Go.RowKit
theorem getD_snoc_lt {ps : List Oj} {p : Oj} {i : Nat} (h : i < ps.length) : (ps ++ [p]).getD i oj0 = ps.getD i oj0 := by simp [List.getD, List.getElem?_append_left h]
theorem getD_snoc_eq {ps : List Oj} {p : Oj} : (ps ++ [p]).getD ps.length oj0 = p := by simp [List.getD]
theorem setCell_some {w : World} {a b : Addr} {x v : Value} (h : w.cell? a = some x) : ∃ y, (w.setCell b v).cell? a = some y := by
  by_cases e : b = a
  · subst e; exact ⟨_, World.cell?_setCell_same _ _ _ h⟩
  · exact ⟨x, (World.cell?_setCell_other _ _ _ _ e).trans h⟩
theorem step_append_run {P : Program} (w : World) {ops : Array Oper} {o : Oper} {a : Act} {K : Act → World → Prop} {Q : Exit → Act → World → Prop} {E : Prop} (hgd : o.guard = none) (s x : Operand) (t : TypeId)
    (ho : o.op = .call { callee := .builtin .append, args := #[s, x], argTypes := #[t, t] }) {v u v' : Value} {w' : World} (hs : a.eval s = v) (hx : a.eval x = u)
    (hrun : (Builtin.append_ #[t, t] o.type #[v, u]).run P w = .ok v' w') (h : K (a.put o.dst v') w') :
    if Region.wanted o (yielded ops a.tmps) = true then Oper.wp P o a w K Q else E := by
  have hw : Region.wanted o (yielded ops a.tmps) = true := by simp [Region.wanted, hgd]
  rw [if_pos hw]
  unfold Oper.wp execOp
  simp only [ho, resolve, invoke, builtin, Sem.run_bind, Sem.run_pure, Result.andThen_ok, List.map_toArray, List.map_cons, List.map_nil, hs, hx, hrun]
  exact h
theorem OwJ.push {S : Nat → Prop} {M g2 : Nat} {w : World} {z ze : Value} {ps : List Oj} {p : Oj} (ty : TypeId) (h : OwJ S w z ps) (hS : ∀ b, S b → b < M) (hlen : ps.length ≤ 1000)
    (hze : OwI M w ze p.2.2) (hMw : M ≤ w.heap.size) (h0 : w.cell? ⟨g2, 0, none⟩ = some (.int .i64 p.1)) (h1 : w.cell? ⟨g2, 1, none⟩ = some (.int .i64 p.2.1)) (h2 : w.cell? ⟨g2, 2, none⟩ = some ze) :
    ∃ v' w', (Builtin.append_ #[25, 25] ty #[z, .slice (some ⟨g2, 0, none⟩) 1 1]).run Tryz.prog w = .ok v' w' ∧ Wr S w w' ∧ OwJ (fun b => S b ∨ (M ≤ b ∧ b < w'.heap.size)) w' v' (ps ++ [p]) := by
  obtain ⟨i0, hi, hz0, hz1, hz2⟩ := info_parts Tryz.infoEn
  obtain ⟨ao, c, b, off, V, B, rfl, ⟨hm, hc, hroom⟩, h3, h4⟩ := h
  obtain ⟨be, k1, k2⟩ := hze
  obtain ⟨ae, ce, rfl⟩ := k1.shape
  obtain ⟨n, hn⟩ : ∃ n, ps.length = n := ⟨_, rfl⟩
  have hel : (ps ++ [p]).length = n + 1 := by simp [hn]
  have hone : ∀ u ∈ ([.int .i64 p.1, .int .i64 p.2.1, .slice ae p.2.2.length ce] : List Value), u.oneCell' = true := cellsEn_one
  have hnews : ∀ j u, ([.int .i64 p.1, .int .i64 p.2.1, .slice ae p.2.2.length ce] : List Value)[j]? = some u → w.cell? ((⟨g2, 0, none⟩ : Addr).add j) = some u := by
    intro j u hj
    rw [Addr.add_lit, Nat.zero_add]
    rcases j with _ | _ | _ | j
    · simpa using hj ▸ h0
    · simpa using hj ▸ h1
    · simpa using hj ▸ h2
    · simp at hj
  have hlt : ∀ i, i < (ps ++ [p]).length → i ≠ n → i < n := fun i hi hne => by rw [hel] at hi; omega
  have hBS : ∀ i, i < n → (ps.getD i oj0).2.2 ≠ [] → B i < M := fun i hi hne => hS _ ((h4 i (by omega)).2.2.2.2 hne).1
  have uniq : ∀ (B' : Nat → Nat), (∀ i, i ≠ n → B' i = B i) → B' n = be → ∀ i, i < n + 1 → ((ps ++ [p]).getD i oj0).2.2 ≠ [] → ∀ j, j < n + 1 → ((ps ++ [p]).getD j oj0).2.2 ≠ [] → B' j = B' i → j = i := by
    intro B' e1 e2 i hi hin j hj hjn e
    by_cases ei : i = n
    · by_cases ej : j = n
      · omega
      · exfalso
        rw [getD_snoc_lt (by omega)] at hjn
        rw [ei, ← hn, getD_snoc_eq] at hin
        rw [e1 j ej, ei, e2] at e
        have := hBS j (by omega) hjn
        have := (k2 hin).1
        omega
    · by_cases ej : j = n
      · exfalso
        rw [getD_snoc_lt (by omega)] at hin
        rw [ej, ← hn, getD_snoc_eq] at hjn
        rw [e1 i ei, ej, e2] at e
        have := hBS i (by omega) hin
        have := (k2 hjn).1
        omega
      · rw [getD_snoc_lt (by omega)] at hin hjn
        rw [e1 i ei, e1 j ej] at e
        exact (h4 i (by omega)).2.2.2.2 hin |>.2.2.2 j (by omega) hjn e
  by_cases hcap : n + 1 ≤ c
  · obtain ⟨rfl, hSb, hfb, _⟩ := hroom (n * 3) (by omega)
    have hthere : ∀ o, o < c * 3 → ∃ x, w.cell? ⟨b, off + o, none⟩ = some x := fun o ho => (hroom o ho).2.2.2
    have hrun := run_append_room_cells (P := Tryz.prog) w 25 ty 58 i0 Tryz.underlying25 hi b off n c ⟨g2, 0, none⟩ 1 1 [.int .i64 p.1, .int .i64 p.2.1, .slice ae p.2.2.length ce] (by rw [hz1]; rfl) hnews hone hcap
      (fun j hj => by rw [hz1]; obtain ⟨x, hx⟩ := hthere (n * 3 + j) (by simp at hj; omega); rw [Nat.add_assoc, hx]; rfl) (fun j hj => hfb _)
    rw [hz1] at hrun
    rw [hn]
    refine ⟨_, _, hrun, ?_⟩
    have hw : Wr (· = b) w (w.setCells b (off + n * 3) [.int .i64 p.1, .int .i64 p.2.1, .slice ae p.2.2.length ce]) :=
      (((Wr.refl (· = b) w).setCell (p := ⟨b, off + n * 3, none⟩) rfl _).setCell (p := ⟨b, off + n * 3 + 1, none⟩) rfl _).setCell (p := ⟨b, off + n * 3 + 1 + 1, none⟩) rfl _
    have hout : ∀ o x, o < n * 3 → w.cell? ⟨b, off + o, none⟩ = some x → (w.setCells b (off + n * 3) [.int .i64 p.1, .int .i64 p.2.1, .slice ae p.2.2.length ce]).cell? ⟨b, off + o, none⟩ = some x := fun o x ho hx => by
      rw [World.cell?_setCells_out b _ _ _ _ (fun _ _ => Or.inl (by show off + o < off + n * 3; omega))]; exact hx
    have hin := World.cell?_setCells_in b [.int .i64 p.1, .int .i64 p.2.1, .slice ae p.2.2.length ce] (off + n * 3) w (fun j hj => by obtain ⟨x, hx⟩ := hthere (n * 3 + j) (by simp at hj; omega); rw [Nat.add_assoc, hx]; rfl)
    have hin0 := hin 0 (by simp)
    have hin1 := hin 1 (by simp)
    have hin2 := hin 2 (by simp)
    have hsome : ∀ o, o < c * 3 → ∃ x, (w.setCells b (off + n * 3) [.int .i64 p.1, .int .i64 p.2.1, .slice ae p.2.2.length ce]).cell? ⟨b, off + o, none⟩ = some x := fun o ho => by
      obtain ⟨x, hx⟩ := hthere o ho
      obtain ⟨y1, e1⟩ := setCell_some (b := ⟨b, off + n * 3, none⟩) (v := .int .i64 p.1) hx
      obtain ⟨y2, e2⟩ := setCell_some (b := ⟨b, off + n * 3 + 1, none⟩) (v := .int .i64 p.2.1) e1
      exact setCell_some (b := ⟨b, off + n * 3 + 1 + 1, none⟩) (v := .slice ae p.2.2.length ce) e2
    generalize w.setCells b (off + n * 3) [.int .i64 p.1, .int .i64 p.2.1, .slice ae p.2.2.length ce] = w' at hw hout hin0 hin1 hin2 hsome ⊢
    have hbl : b < w.heap.size := by obtain ⟨x, hx⟩ := hthere (n * 3) (by omega); exact World.block_lt_of_cell? _ _ hx
    have hfr : ∀ q, w'.frozen? ⟨b, q, none⟩ = false := fun q => (hw.frz _ _ hbl).trans (hfb q)
    refine ⟨hw.mono fun x e => e ▸ hSb, some ⟨b, off, none⟩, c, b, off, fun i => if i = n then .slice ae p.2.2.length ce else V i, fun i => if i = n then be else B i, by rw [hel], ⟨by rw [hel]; omega, by rw [hel]; exact hcap, fun o ho => ⟨rfl, Or.inl hSb, hfr, hsome o ho⟩⟩, fun _ => ⟨rfl, Or.inl hSb, hfr⟩, fun i hi => ?_⟩
    by_cases e : i = n
    · subst e
      simp only [if_true]
      have eg : ((ps ++ [p]).getD i oj0) = p := by rw [← hn]; exact getD_snoc_eq
      rw [eg]
      refine ⟨by simpa using hin0, by simpa [Nat.add_assoc] using hin1, by simpa [Nat.add_assoc] using hin2, k1.wr hw (fun hne x hx ex => ?_), fun hne => ?_⟩
      · have hx' : x = be := hx
        have := (k2 hne).1
        have := hS _ hSb
        omega
      · obtain ⟨q1, q2, q3⟩ := k2 hne
        refine ⟨Or.inr ⟨q1, Nat.lt_of_lt_of_le q2 hw.size⟩, fun ex => by have := hS _ hSb; omega, fun o => (hw.frz _ _ q2).trans (q3 o), fun j hj hjn ej => ?_⟩
        exact uniq (fun i' => if i' = i then be else B i') (fun i' hi' => if_neg hi') (if_pos rfl) i (Nat.lt_succ_self _) (by rw [eg]; exact hne) j (by rw [hel] at hj; exact hj) hjn (by rw [if_pos rfl]; exact ej)
    · have hin' := hlt i hi e
      simp only [if_neg e]
      obtain ⟨f0, f1, f2, f3, f4⟩ := h4 i (by omega)
      rw [getD_snoc_lt (by omega)]
      refine ⟨hout _ _ (by omega) f0, by have := hout (i * 3 + 1) _ (by omega) (by rw [← Nat.add_assoc]; exact f1); rw [← Nat.add_assoc] at this; exact this, by have := hout (i * 3 + 2) _ (by omega) (by rw [← Nat.add_assoc]; exact f2); rw [← Nat.add_assoc] at this; exact this, f3.wr hw (fun hne x hx ex => (f4 hne).2.1 (hx ▸ ex)), fun hne => ?_⟩
      obtain ⟨q1, q2, q3, q4⟩ := f4 hne
      obtain ⟨x, rfl, hl⟩ := f3.lt hne
      refine ⟨Or.inl q1, q2, fun o => (hw.frz _ _ hl).trans (q3 o), fun j hj hjn ej => ?_⟩
      exact uniq (fun i' => if i' = n then be else B i') (fun i' hi' => if_neg hi') (if_pos rfl) i (by omega) (by rw [getD_snoc_lt (by omega)]; exact hne) j (by rw [hel] at hj; exact hj) hjn (by rw [if_neg e]; exact ej)
  · have hcn : ps ≠ [] → c = n := fun _ => by omega
    have hrun : ∃ v' w', (Builtin.append_ #[25, 25] ty #[.slice ao n c, .slice (some ⟨g2, 0, none⟩) 1 1]).run Tryz.prog w = .ok v' w' ∧
        w'.ownsRow w.heap.size 58 3 v' (n + 1) (cellsEn ps n V ++ [.int .i64 p.1, .int .i64 p.2.1, .slice ae p.2.2.length ce]) ∧ w.grownBy w' none := by
      by_cases hne : ps = []
      · have e0 : n = 0 := by rw [← hn, hne]; rfl
        have ec : c = 0 := by omega
        subst e0 ec
        cases ao with
        | some x =>
          exact run_append_arg_grows (P := Tryz.prog) w 25 ty 58 i0 (.agg #[.int .i64 0, .int .i64 0, .slice none 0 0]) 3 40 Tryz.underlying25 hi hz0 hz1 hz2 rfl (by omega) x 0 0 (cellsEn ps 0 V) (by rw [cellsEn_len]) (fun j u hj => by simp [cellsEn] at hj) ⟨g2, 0, none⟩ 1 1 _ rfl hnews (by omega) (by unfold maxLen; omega) (by omega)
        | none =>
          obtain ⟨g, cap, w', q1, q2, q3, _⟩ := run_append_lies (P := Tryz.prog) w 25 ty w.heap.size 58 i0 (.agg #[.int .i64 0, .int .i64 0, .slice none 0 0]) 3 40 Tryz.underlying25 hi hz0 hz1 hz2 rfl (by omega) (.slice none 0 0) 0 [] (World.ownsRow_nil _ _ _ _) ⟨g2, 0, none⟩ 1 1 _ rfl hnews hone (by omega) (by unfold maxLen; omega) (by omega) (Nat.le_refl _) _ rfl
          exact ⟨_, w', q1, q2, q3⟩
      · obtain ⟨rfl, _⟩ := h3 hne
        exact run_append_arg_grows (P := Tryz.prog) w 25 ty 58 i0 (.agg #[.int .i64 0, .int .i64 0, .slice none 0 0]) 3 40 Tryz.underlying25 hi hz0 hz1 hz2 rfl (by omega) ⟨b, off, none⟩ n c (cellsEn ps n V) (by rw [cellsEn_len]) (hn ▸ cellsEn_atC fun i hi => ⟨(h4 i hi).1, (h4 i hi).2.1, (h4 i hi).2.2.1⟩) ⟨g2, 0, none⟩ 1 1 _ rfl hnews (by omega) (by unfold maxLen; omega) (by omega)
    rw [hn]
    obtain ⟨v', w', hrun, hown, hg⟩ := hrun
    refine ⟨v', w', hrun, ?_⟩
    have hb : Below w.heap.size w w' := (Below.refl w.heap.size w).grown hg (Nat.le_refl _) fun k e => by cases e
    refine ⟨Wr.of_below hb S, ?_⟩
    have hcell : cellsEn ps n V = cellsEn (ps ++ [p]) n (fun i => if i = n then .slice ae p.2.2.length ce else V i) := by
      rw [cellsEn_congr ps n V (fun i => if i = n then .slice ae p.2.2.length ce else V i) (fun i hi => by rw [if_neg (by omega)])]
      exact cellsEn_ext _ _ _ _ fun i hi => by rw [getD_snoc_lt (by omega)]
    have hcells : cellsEn ps n V ++ [.int .i64 p.1, .int .i64 p.2.1, .slice ae p.2.2.length ce] = cellsEn (ps ++ [p]) (n + 1) (fun i => if i = n then .slice ae p.2.2.length ce else V i) := by
      rw [cellsEn_next]
      have e1 : ((ps ++ [p]).getD n oj0) = p := by rw [← hn]; exact getD_snoc_eq
      rw [e1, if_pos rfl, ← hcell]
    rw [hcells] at hown
    rcases hown.2 with ⟨_, e⟩ | ⟨g, cap, cur, rfl, hgB, hh, hnc, _, hcs, _⟩
    · omega
    have hgl : g < w'.heap.size := (Array.getElem?_eq_some_iff.1 hh).1
    have hMg : M ≤ g := Nat.le_trans hMw hgB
    refine ⟨_, cap, g, 0, fun i => if i = n then .slice ae p.2.2.length ce else V i, fun i => if i = n then be else B i, by rw [hel], ⟨by rw [hel]; omega, by rw [hel]; exact hnc, RoomJ_row (Or.inr ⟨hMg, hgl⟩) hh hcs⟩, fun _ => ⟨rfl, Or.inr ⟨hMg, hgl⟩, fun o => hown.frozenAt o⟩, fun i hi => ⟨?_, ?_, ?_, ?_⟩⟩
    · rw [hel] at hi
      rw [Nat.zero_add, hown.cellAt (i * 3) (by omega)]
      exact cellsEn_flg _ _ _ _ hi
    · rw [hel] at hi
      rw [Nat.zero_add, hown.cellAt (i * 3 + 1) (by omega)]
      exact cellsEn_num _ _ _ _ hi
    · rw [hel] at hi
      rw [Nat.zero_add, hown.cellAt (i * 3 + 2) (by omega)]
      exact cellsEn_words _ _ _ _ hi
    · have hbk : ∀ x, x < w.heap.size → x ≠ g := fun x hx e => by omega
      by_cases e : i = n
      · subst e
        have eg : ((ps ++ [p]).getD i oj0) = p := by rw [← hn]; exact getD_snoc_eq
        simp only [if_true]
        rw [eg]
        refine ⟨k1.later hb, fun hne => ?_⟩
        obtain ⟨q1, q2, q3⟩ := k2 hne
        refine ⟨Or.inr ⟨q1, Nat.lt_of_lt_of_le q2 hb.size⟩, hbk _ q2, fun o => (hb.frozen (p := ⟨be, o, none⟩) q2).trans (q3 o), fun j hj hjn ej => ?_⟩
        exact uniq (fun i' => if i' = i then be else B i') (fun i' hi' => if_neg hi') (if_pos rfl) i (Nat.lt_succ_self _) (by rw [eg]; exact hne) j (by rw [hel] at hj; exact hj) hjn (by rw [if_pos rfl]; exact ej)
      · have hin' := hlt i hi e
        simp only [if_neg e]
        obtain ⟨f0, f1, f2, f3, f4⟩ := h4 i (by omega)
        rw [getD_snoc_lt (by omega)]
        refine ⟨f3.later hb, fun hne => ?_⟩
        obtain ⟨q1, q2, q3, q4⟩ := f4 hne
        obtain ⟨x, rfl, hl⟩ := f3.lt hne
        refine ⟨Or.inl q1, hbk _ hl, fun o => (hb.frozen (p := ⟨B i, o, none⟩) hl).trans (q3 o), fun j hj hjn ej => ?_⟩
        exact uniq (fun i' => if i' = n then be else B i') (fun i' hi' => if_neg hi') (if_pos rfl) i (by omega) (by rw [getD_snoc_lt (by omega)]; exact hne) j (by rw [hel] at hj; exact hj) hjn (by rw [if_neg e]; exact ej)
end Go.Proofs.YtlliggfggadidaaGreatDoor
namespace Go.Proofs.YtlliggfggadidaaGreatDoor
open Go.RowKit
theorem OwJ.later {S : Nat → Prop} {w w' : World} {v : Value} {ts : List Oj} (h : OwJ S w v ts) (hb : Below w.heap.size w w') : OwJ S w' v ts :=
  h.wr (Wr.of_below hb fun _ => False) fun _ _ => id
def MemG (B RR : Nat) (w : World) (y z : Value) (xs : List Int) (ps : List Oj) : Prop :=
  ∃ (b : Nat) (S : Nat → Prop), RdI (· = b) w y xs ∧ (xs ≠ [] → B < b ∧ b < w.heap.size ∧ b ≠ RR ∧ ¬ S b ∧ ∀ o, w.frozen? ⟨b, o, none⟩ = false) ∧ (∀ x, S x → B < x ∧ x < w.heap.size ∧ x ≠ RR) ∧ OwJ S w z ps
theorem MemG.wr {B RR : Nat} {T : Nat → Prop} {w w' : World} {y z : Value} {xs : List Int} {ps : List Oj} (h : MemG B RR w y z xs ps) (hw : Wr T w w') (hd : ∀ b, B < b → b ≠ RR → ¬ T b) : MemG B RR w' y z xs ps := by
  obtain ⟨b, S, h1, h2, h3, h4⟩ := h
  exact ⟨b, S, h1.wr hw (fun hn x hx => hx ▸ hd _ (h2 hn).1 (h2 hn).2.2.1), fun hn => ⟨(h2 hn).1, Nat.lt_of_lt_of_le (h2 hn).2.1 hw.size, (h2 hn).2.2.1, (h2 hn).2.2.2.1, fun o => (hw.frz _ _ (h2 hn).2.1).trans ((h2 hn).2.2.2.2 o)⟩, fun x hx => ⟨(h3 x hx).1, Nat.lt_of_lt_of_le (h3 x hx).2.1 hw.size, (h3 x hx).2.2⟩, h4.wr hw fun x hx => hd x (h3 x hx).1 (h3 x hx).2.2⟩
theorem MemG.later {B RR : Nat} {w w' : World} {y z : Value} {xs : List Int} {ps : List Oj} (h : MemG B RR w y z xs ps) (hb : Below w.heap.size w w') : MemG B RR w' y z xs ps :=
  h.wr (Wr.of_below hb fun _ => False) fun _ _ _ => id
theorem MemG.of {B RR lo hi : Nat} {w : World} {y z : Value} {xs : List Int} {ps : List Oj} (h : IvR lo hi w y z xs ps) (hB : B < lo) (hR : hi ≤ RR ∨ RR < lo) : MemG B RR w y z xs ps := by
  obtain ⟨b, S, h1, h2, h3, h4, h5⟩ := h
  exact ⟨b, S, h1, fun hn => ⟨by have := (h2 hn).1; omega, by have := (h2 hn).2.1; omega, by have := (h2 hn).1; have := (h2 hn).2.1; omega, (h2 hn).2.2⟩, fun x hx => by have := h4 x hx; omega, h5⟩
theorem MemG.iv {B RR : Nat} {w : World} {y z : Value} {xs : List Int} {ps : List Oj} (h : MemG B RR w y z xs ps) : IvR B w.heap.size w y z xs ps := by
  obtain ⟨b, S, h1, h2, h3, h4⟩ := h
  exact ⟨b, S, h1, fun hn => ⟨by have := (h2 hn).1; omega, (h2 hn).2.1, (h2 hn).2.2.2⟩, Nat.le_refl _, fun x hx => by have := h3 x hx; omega, h4⟩
theorem MemG.shape {B RR : Nat} {w : World} {y z : Value} {xs : List Int} {ps : List Oj} (h : MemG B RR w y z xs ps) : ∃ ao c bo d, y = .slice ao xs.length c ∧ z = .slice bo ps.length d := h.iv.shape
theorem MemG.words {B RR M : Nat} {w : World} {y y' z : Value} {xs xs' : List Int} {ps : List Oj} (h : MemG B RR w y z xs ps) {w' : World} (hb : Below w.heap.size w w') (ho : OwI M w' y' xs') (hM : w.heap.size ≤ M) (hB : B < M) (hR : RR < M) : MemG B RR w' y' z xs' ps := by
  obtain ⟨b, S, _, _, h3, h4⟩ := h
  obtain ⟨c, k1, k2⟩ := ho
  have hz := hb.size
  exact ⟨c, S, k1, fun hn => ⟨by have := (k2 hn).1; omega, (k2 hn).2.1, by have := (k2 hn).1; omega, fun e => by have := (h3 c e).2.1; have := (k2 hn).1; omega, (k2 hn).2.2⟩, fun x hx => ⟨(h3 x hx).1, Nat.lt_of_lt_of_le (h3 x hx).2.1 hz, (h3 x hx).2.2⟩, h4.later hb⟩
structure BdR (Q : Rf) : Prop where
  tm : -1 ≤ Q.tm ∧ Q.tm ≤ 1000
  vt : -1 ≤ Q.vt ∧ Q.vt ≤ 10
  si : 0 ≤ Q.si ∧ Q.si ≤ 9999
  st : 0 ≤ Q.st ∧ Q.st ≤ 1000
  sn : Q.sn.length ≤ 41
  lg : Q.lg.length ≤ 15
  da : ∀ p ∈ Q.lg, p.2.2.length ≤ 8
theorem BdR.of {Q : Rf} (h : rfF Q = 0) : BdR Q := by
  obtain ⟨a, b, c, d, e, f⟩ := rf_nums h
  refine ⟨by omega, by omega, by omega, by omega, by omega, by omega, fun p hp => ?_⟩
  obtain ⟨i, hi, rfl⟩ := List.getElem_of_mem hp
  have := (entF_zero ((logF_iff.1 (rfF_iff.1 h).lo).2.1 i hi)).2.1
  simp [List.getD, hi] at this
  omega
structure BgI (w : World) (s : Nat) (v : Value) (bs : List Nat) (t N RR : Nat) (Q : Rf) (y z : Value) (t5 : Nat) (wr : World) : Prop where
  dr : Drawn N s v bs t t5 w wr
  res : Var6 wr w.heap.size (.int .i64 0) (.int .i64 0) (.int .i64 0) (.int .i64 0) (.slice none 0 0) (.slice none 0 0)
  rfz : ∀ o, wr.frozen? ⟨w.heap.size, o, none⟩ = false
  var : Var6 wr RR (.int .i64 Q.tm) (.int .i64 Q.vt) (.int .i64 Q.si) (.int .i64 Q.st) y z
  vfz : ∀ o, wr.frozen? ⟨RR, o, none⟩ = false
  mem : MemG w.heap.size RR wr y z Q.sn Q.lg
  ge : w.heap.size < RR
  old : s < w.heap.size
section
variable {w : World} {s : Nat} {v : Value} {bs : List Nat} {t N M RR : Nat} {Q : Rf} {y z : Value} {t5 t6 : Nat} {wr w1 : World}
theorem BgI.lt (h : BgI w s v bs t N RR Q y z t5 wr) : RR < wr.heap.size := h.var.lt
theorem BgI.on (h : BgI w s v bs t N RR Q y z t5 wr) (hd : Drawn M s v bs t5 t6 wr w1) : BgI w s v bs t (N + M) RR Q y z t6 w1 := by
  have ho := h.old
  have hg := h.ge
  have hr := h.res.lt
  exact ⟨h.dr.on hd, h.res.wr hd.2.1 (by show ¬ w.heap.size = s; omega), fun o => (hd.2.1.frz _ _ hr).trans (h.rfz o), h.var.wr hd.2.1 (by show ¬ RR = s; omega), fun o => (hd.2.1.frz _ _ h.lt).trans (h.vfz o), h.mem.wr hd.2.1 (fun b k1 _ e => by have e : b = s := e; omega), hg, ho⟩
theorem BgI.later (h : BgI w s v bs t N RR Q y z t5 wr) (hb : Below wr.heap.size wr w1) : BgI w s v bs t N RR Q y z t5 w1 :=
  ⟨h.dr.later hb, h.res.later hb, fun o => ((bcell hb).2 _ _ h.res.lt).trans (h.rfz o), h.var.later hb, fun o => ((bcell hb).2 _ _ h.lt).trans (h.vfz o), h.mem.later hb, h.ge, h.old⟩
theorem BgI.mono (h : BgI w s v bs t N RR Q y z t5 wr) (hN : N ≤ M) : BgI w s v bs t M RR Q y z t5 wr :=
  ⟨h.dr.mono hN, h.res, h.rfz, h.var, h.vfz, h.mem, h.ge, h.old⟩
theorem BgI.set {Q' : Rf} {y' z' : Value} (HS : Src s v bs w t) (h : BgI w s v bs t N RR Q y z t5 wr) (hw : Wr (· = RR) wr w1) (hv : Var6 w1 RR (.int .i64 Q'.tm) (.int .i64 Q'.vt) (.int .i64 Q'.si) (.int .i64 Q'.st) y' z') (hm : MemG w.heap.size RR wr y' z' Q'.sn Q'.lg) : BgI w s v bs t N RR Q' y' z' t5 w1 := by
  have hg := h.ge
  have hr := h.res.lt
  exact ⟨Drawn.onBelow HS h.dr (hw.below (by omega) (fun b e => by omega)), h.res.wr hw (by show ¬ w.heap.size = RR; omega), fun o => (hw.frz _ _ hr).trans (h.rfz o), hv, fun o => (hw.frz _ _ h.lt).trans (h.vfz o), hm.wr hw (fun b _ k e => k e), hg, h.old⟩
theorem BgI.fin (HS : Src s v bs w t) (h : BgI w s v bs t N RR Q y z t5 wr) (hw : Wr (· = w.heap.size) wr w1) : IvR w.heap.size w1.heap.size w1 y z Q.sn Q.lg ∧ Drawn N s v bs t t5 w w1 := by
  have hg := h.ge
  have hr := h.res.lt
  exact ⟨(h.mem.wr hw (fun b k _ e => by have e : b = w.heap.size := e; omega)).iv, Drawn.onBelow HS h.dr (hw.below (by omega) (fun b e => by omega))⟩
theorem BgI.push {a b : Int} {ze : Value} {xs : List Int} {w3 : World} (HS : Src s v bs w t) (h : BgI w s v bs t N RR Q y z t5 wr) (hd : Drawn M s v bs t5 t6 wr w3) (hz : OwI wr.heap.size w3 ze xs) (hlen : Q.lg.length ≤ 1000) (ty : TypeId) :
    ∃ ao c w5, (Builtin.append_ #[25, 25] ty #[z, .slice (some ⟨w3.heap.size, 0, none⟩) 1 1]).run Tryz.prog (w3.alloc (.cells #[.int .i64 a, .int .i64 b, ze] 58)) = .ok (.slice ao (Q.lg.length + 1) c) w5 ∧
      Var6 w5 RR (.int .i64 Q.tm) (.int .i64 Q.vt) (.int .i64 Q.si) (.int .i64 Q.st) y z ∧ (∀ o, w5.frozen? ⟨RR, o, none⟩ = false) ∧ BgI w s v bs t (N + M) RR { Q with lg := Q.lg ++ [(a, b, xs)] } y (.slice ao (Q.lg.length + 1) c) t6 (w5.setCell ⟨RR, 5, none⟩ (.slice ao (Q.lg.length + 1) c)) := by
  have H3 := h.on hd
  have hb4 := below_alloc w3 (.cells #[.int .i64 a, .int .i64 b, ze] 58)
  have H4 := H3.later hb4
  obtain ⟨w4, hw4⟩ : ∃ x, w3.alloc (.cells #[.int .i64 a, .int .i64 b, ze] 58) = x := ⟨_, rfl⟩
  have c0 : w4.cell? ⟨w3.heap.size, 0, none⟩ = some (.int .i64 a) := by rw [← hw4]; simp [go_sem]
  have c1 : w4.cell? ⟨w3.heap.size, 1, none⟩ = some (.int .i64 b) := by rw [← hw4]; simp [go_sem]
  have c2 : w4.cell? ⟨w3.heap.size, 2, none⟩ = some ze := by rw [← hw4]; simp [go_sem]
  rw [hw4] at hb4 H4 ⊢
  have hz4 := hz.later hb4
  have hs3 := hd.2.1.size
  have hs4 := hb4.size
  have hRl := h.lt
  have hg := h.ge
  obtain ⟨b0, S0, m1, m2, m3, m4⟩ := h.mem
  have hsS : ∀ x, S0 x → ¬ x = s := fun x hx e => by have := (m3 x hx).1; have := h.old; omega
  have m4' := (m4.wr hd.2.1 hsS).later hb4
  obtain ⟨v', w5, hrun, hwr, how⟩ := OwJ.push (M := wr.heap.size) (g2 := w3.heap.size) (p := (a, b, xs)) ty m4' (fun x hx => (m3 x hx).2.1) hlen hz4 (by omega) c0 c1 c2
  obtain ⟨ao, c, rfl⟩ := how.shape
  rw [show (Q.lg ++ [(a, b, xs)]).length = Q.lg.length + 1 by simp] at hrun how
  have hB : Below w.heap.size w4 w5 := hwr.below (by omega) (fun x hx => by have := (m3 x hx).1; omega)
  have hs5 := hwr.size
  have nS : ∀ x, x = w.heap.size ∨ x = RR → ¬ S0 x := fun x e hx => by have := m3 x hx; omega
  have k1 := (m1.wr hd.2.1 (fun hn x hx e => by have e : x = s := e; have hx : x = b0 := hx; have := (m2 hn).1; have := h.old; omega)).later hb4
  have k1' := k1.wr hwr (fun hn x hx e => (m2 hn).2.2.2.1 (by have hx : x = b0 := hx; exact hx ▸ e))
  have kf : Q.sn ≠ [] → ∀ o, w5.frozen? ⟨b0, o, none⟩ = false := fun hn o => by
    have := (m2 hn).2.1
    exact (hwr.frz _ _ (by omega)).trans (((bcell hb4).2 _ _ (by omega)).trans ((hd.2.1.frz _ _ (by omega)).trans ((m2 hn).2.2.2.2 o)))
  have hv5 := H4.var.wr hwr (nS _ (Or.inr rfl))
  have hf5 : ∀ o, w5.frozen? ⟨RR, o, none⟩ = false := fun o => (hwr.frz _ _ H4.lt).trans (H4.vfz o)
  refine ⟨ao, c, w5, hrun, hv5, hf5, ?_⟩
  have hw6 : Wr (· = RR) w5 (w5.setCell ⟨RR, 5, none⟩ (.slice ao (Q.lg.length + 1) c)) := (Wr.refl (· = RR) w5).setCell (p := ⟨RR, 5, none⟩) rfl _
  obtain ⟨r0, r1, r2, r3, r4, r5⟩ := hv5
  have e5 := hf5 5
  have hv6 : Var6 (w5.setCell ⟨RR, 5, none⟩ (.slice ao (Q.lg.length + 1) c)) RR (.int .i64 Q.tm) (.int .i64 Q.vt) (.int .i64 Q.si) (.int .i64 Q.st) y (.slice ao (Q.lg.length + 1) c) := ⟨by simp [go_sem, r0], by simp [go_sem, r1], by simp [go_sem, r2], by simp [go_sem, r3], by simp [go_sem, r4], by simp [go_sem, r5]⟩
  have hr5 : w.heap.size < w5.heap.size := by omega
  refine ⟨Drawn.onBelow HS (Drawn.onBelow HS H4.dr hB) (hw6.below (by omega) (fun x e => by omega)), (H4.res.wr hwr (nS _ (Or.inl rfl))).wr hw6 (by show ¬ w.heap.size = RR; omega), fun o => (hw6.frz _ _ hr5).trans ((hwr.frz _ _ H4.res.lt).trans (H4.rfz o)), hv6, fun o => (hw6.frz _ _ (by omega)).trans (hf5 o), ?_, hg, h.old⟩
  refine ⟨b0, fun x => S0 x ∨ (wr.heap.size ≤ x ∧ x < w5.heap.size), k1'.wr hw6 (fun hn x hx e => (m2 hn).2.2.1 (by have hx : x = b0 := hx; have e : x = RR := e; omega)), fun hn => ⟨(m2 hn).1, by have := (m2 hn).2.1; have := hw6.size; omega, (m2 hn).2.2.1, fun e => ?_, fun o => (hw6.frz _ _ (by have := (m2 hn).2.1; omega)).trans (kf hn o)⟩, fun x hx => ?_, how.wr hw6 fun x hx e => ?_⟩
  · rcases e with e | e
    · exact (m2 hn).2.2.2.1 e
    · have := (m2 hn).2.1; omega
  · have hz6 := hw6.size
    rcases hx with hx | hx
    · have := m3 x hx; omega
    · omega
  · have e : x = RR := e
    rcases hx with hx | hx
    · exact (m3 x hx).2.2 e
    · omega
end
end Go.Proofs.YtlliggfggadidaaGreatDoor
