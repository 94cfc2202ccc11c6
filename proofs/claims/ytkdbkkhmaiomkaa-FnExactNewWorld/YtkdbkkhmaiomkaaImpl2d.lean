/- Chapter 2, the program's side: 'impl.halfFrom', walked; two halves held against each other; a scope with many labels. -/
import Derived.Test.YtkdbkkhmaiomkaaImpl2b
import Derived.Test.YtkdbkkhmaiomkaaZero
import Derived.ScopeJumps
import Derived.ChangeKeysEq
namespace Go.Proofs.Ytkdbkkhmaiomkaa
open Go.RowKit

/-- k words of a half are laid. -/
def fromTo (ws : List Int) (f k : Nat) : List Int := (ws.drop f).take k ++ List.replicate (32 - k) 0
theorem fromTo_len {ws : List Int} {f k : Nat} (h : f + 32 ≤ ws.length) (hk : k ≤ 32) : (fromTo ws f k).length = 32 := by simp [fromTo]; omega
theorem fromTo_step {ws : List Int} {f k : Nat} (h : f + 32 ≤ ws.length) (hk : k < 32) : (fromTo ws f k).set k (ws.getD (f + k) 0) = fromTo ws f (k + 1) := by
  unfold fromTo
  have hl : ((ws.drop f).take k).length = k := by simp; omega
  have hd : k < (ws.drop f).length := by simp; omega
  rw [show 32 - k = (32 - (k + 1)) + 1 by omega, List.replicate_succ, List.set_append_right _ _ (by rw [hl]; exact Nat.le_refl _), hl, Nat.sub_self, List.set_cons_zero, List.take_succ_eq_append_getElem hd]
  simp only [List.getD, List.getElem?_eq_getElem (show f + k < ws.length by omega), Option.getD_some, List.append_assoc, List.cons_append, List.nil_append, List.getElem_drop]
theorem fromTo_end (ws : List Int) (f : Nat) : fromTo ws f 32 = (ws.drop f).take 32 := by simp [fromTo]
theorem fromTo_zero (ws : List Int) (f : Nat) : fromTo ws f 0 = List.replicate 32 0 := by simp [fromTo]

theorem list_eq_of_at' {xs ys : List Int} (hl : xs.length = ys.length) (h : ∀ i, i < xs.length → xs.getD i 0 = ys.getD i 0) : xs = ys := by
  refine List.ext_getElem hl fun i h1 h2 => ?_
  have := h i h1
  simpa [List.getD, h1, h2] using this

theorem eqItems_u16 (d : Nat) (L M : List Int) (w : World) : ∀ is : List Nat, (∀ i ∈ is, i < L.length ∧ i < M.length) → (Op.eqItems (d + 1) 58 1 (u16s L).toArray (u16s M).toArray is).run Try.prog w = .ok (decide (∀ i ∈ is, L.getD i 0 = M.getD i 0)) w
  | [], _ => by simp [Op.eqItems]
  | i :: is, h => by
    have ih := eqItems_u16 d L M w is (fun j hj => h j (by simp [hj]))
    obtain ⟨hl, hm⟩ := h i (by simp)
    have p1 : (part 58 (u16s L).toArray i).run Try.prog w = .ok (.int .u16 (L.getD i 0)) w := by
      have h3 : (u16s L)[i]? = some (.int .u16 (L.getD i 0)) := u16s_at hl
      simp [part, isAgg, run_underlying Try.underlying58, h3]
    have p2 : (part 58 (u16s M).toArray i).run Try.prog w = .ok (.int .u16 (M.getD i 0)) w := by
      have h3 : (u16s M)[i]? = some (.int .u16 (M.getD i 0)) := u16s_at hm
      simp [part, isAgg, run_underlying Try.underlying58, h3]
    have p3 := run_equalIn_int (P := Try.prog) w d 58 .u16 .u16 (L.getD i 0) (M.getD i 0) Try.underlying58
    simp only [Op.eqItems, Sem.run_bind, Nat.mul_one, p1, p2, p3, Result.andThen_ok]
    by_cases e : L.getD i 0 = M.getD i 0
    · have hb : (L.getD i 0 == M.getD i 0) = true := beq_iff_eq.2 e
      have hd : decide (∀ j ∈ is, L.getD j 0 = M.getD j 0) = decide (∀ j ∈ i :: is, L.getD j 0 = M.getD j 0) := decide_eq_decide.2 ⟨fun h j hj => by
        rcases List.mem_cons.1 hj with rfl | hj
        · exact e
        · exact h j hj, fun h j hj => h j (List.mem_cons_of_mem _ hj)⟩
      rw [hb, ← hd, ← ih]
      rfl
    · have hb : (L.getD i 0 == M.getD i 0) = false := beq_eq_false_iff_ne.2 e
      rw [hb, decide_eq_false (fun h => e (h i (List.mem_cons_self ..)))]
      rfl

theorem neq_u16 {L M : List Int} (hL : L.length = 32) (hM : M.length = 32) (w : World) : (binOp .neq 60 (.agg (u16s L).toArray) (.agg (u16s M).toArray)).run Try.prog w = .ok (.bool (!decide (L = M))) w := by
  obtain ⟨i1, h1⟩ := info_of_underlying Try.underlying58
  have hc : Try.prog.cellsOf 58 = 1 := by kernel_rfl
  have he : (Op.equal 60 (.agg (u16s L).toArray) (.agg (u16s M).toArray)).run Try.prog w = .ok (decide (L = M)) w := by
    unfold Op.equal
    obtain ⟨d, hd⟩ : ∃ d, Op.maxDepth = (d + 1) + 1 := ⟨9998, rfl⟩
    rw [hd, run_equalIn_array w _ _ _ Try.underlying60 h1, hc, eqItems_u16 _ _ _ _ _ (fun i hi => by have := List.mem_range.1 hi; omega)]
    have hiff : (∀ i ∈ List.range 32, L.getD i 0 = M.getD i 0) ↔ L = M := ⟨fun h => list_eq_of_at' (by omega) (fun i hi => h i (List.mem_range.2 (by omega))), fun e i _ => by rw [e]⟩
    rw [decide_eq_decide.2 hiff]
  simp [binOp, he]

theorem guard_u16 (x y : Operand) (A B : Array Value) (w : World) : (eqGuard .neq 60 x y (.agg A) (.agg B)).run Try.prog w = .ok () w :=
  run_eqGuard_agg (P := Try.prog) w .neq 60 x y A B (by kernel_rfl)

/-- As Q; by a goto to label l: J l. -/
def jumps (J : Nat → Act → World → Prop) (Q : Exit → Act → World → Prop) : Exit → Act → World → Prop
  | .goto l, a, w => J l a w
  | e, a, w => Q e a w

theorem scope_labels {P : Program} {a : Act} {w : World} {Q : Exit → Act → World → Prop} {c : Code} (J : Nat → Act → World → Prop) (μ : Nat → Act → World → Nat)
    (first : c.wp P (jumps J Q) a w)
    (pass : ∀ l a w, J l a w → ∃ rest, findLabel c l = some rest ∧ rest.wp P (jumps (fun l' a' w' => J l' a' w' ∧ μ l' a' w' < μ l a w) Q) a w) : (Code.scope c).wp P Q a w := by
  intro b k cs
  have key : ∀ n l a w, μ l a w = n → J l a w → ∃ rest, findLabel c l = some rest ∧ ∃ e a' w', Q e a' w' ∧ Arrives P (lone (b.at a (.code rest :: .inScope c :: k)) cs w) b k cs e a' w' := by
    intro n
    induction n using Nat.strongRecOn with
    | _ n ih =>
      intro l a w hn hJ
      obtain ⟨rest, hf, hwp⟩ := pass l a w hJ
      refine ⟨rest, hf, ?_⟩
      obtain ⟨e, a₁, w₁, hq, harr⟩ := hwp b (.inScope c :: k) cs
      cases e with
      | normal => exact ⟨.normal, a₁, w₁, hq, Steps.trans harr (.one step_inScope)⟩
      | exit id => exact ⟨.exit id, a₁, w₁, hq, fun k' hk => harr k' (by simp [exitTo, hk])⟩
      | goto l' =>
        obtain ⟨hJ', hlt⟩ := hq
        obtain ⟨rest₂, hf₂, e₂, a₂, w₂, hq₂, harr₂⟩ := ih _ (by omega) l' a₁ w₁ rfl hJ'
        have hg : gotoIn l' (.inScope c :: k) = some (.code rest₂ :: .inScope c :: k) := by simp [gotoIn, hf₂]
        exact ⟨e₂, a₂, w₂, hq₂, .of_steps (harr _ hg) harr₂⟩
      | ret => exact ⟨_, a₁, w₁, hq, harr⟩
      | panic ch => exact ⟨_, a₁, w₁, hq, harr⟩
      | outgrown => exact ⟨_, a₁, w₁, hq, harr⟩
  obtain ⟨e, a₁, w₁, hq, harr⟩ := first b (.inScope c :: k) cs
  cases e with
  | normal => exact ⟨.normal, a₁, w₁, hq, .head step_scope (Steps.trans harr (.one step_inScope))⟩
  | exit id => exact ⟨.exit id, a₁, w₁, hq, fun k' hk => .head step_scope (harr k' (by simp [exitTo, hk]))⟩
  | goto l' =>
    obtain ⟨rest₂, hf₂, e₂, a₂, w₂, hq₂, harr₂⟩ := key _ l' a₁ w₁ rfl hq
    have hg : gotoIn l' (.inScope c :: k) = some (.code rest₂ :: .inScope c :: k) := by simp [gotoIn, hf₂]
    exact ⟨e₂, a₂, w₂, hq₂, .of_steps (.head step_scope (harr _ hg)) harr₂⟩
  | ret => exact ⟨_, a₁, w₁, hq, .of_steps (.one step_scope) harr⟩
  | panic ch => exact ⟨_, a₁, w₁, hq, .of_steps (.one step_scope) harr⟩
  | outgrown => exact ⟨_, a₁, w₁, hq, .of_steps (.one step_scope) harr⟩
end Go.Proofs.Ytkdbkkhmaiomkaa
