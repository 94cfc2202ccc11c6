/- Chapter 2, the program's side: 'impl.halfFrom', walked; two halves held against each other; a scope with many labels. -/
import Derived.Test.YtbjmmhcbjcngcaaImpl2b
import Derived.Test.YtbjmmhcbjcngcaaZero
import Derived.ScopeJumps
import Derived.ChangeKeysEq
namespace Go.Proofs.Ytbjmmhcbjcngcaa
open Go.RowKit

/-- k words of a half are laid. -/
def fromTo (ws : List Int) (f k : Nat) : List Int := (ws.drop f).take k ++ List.replicate (32 - k) 0
theorem fromTo_len {ws : List Int} {f k : Nat} (h : f + 32 ≤ ws.length) (hk : k ≤ 32) : (fromTo ws f k).length = 32 := by simp [fromTo]; omega
theorem fromTo_step {ws : List Int} {f k : Nat} (h : f + 32 ≤ ws.length) (hk : k < 32) : (fromTo ws f k).set k (ws.getD (f + k) 0) = fromTo ws f (k + 1) := by
  unfold fromTo
  have hl : ((ws.drop f).take k).length = k := by simp; omega
  have hd : k < (ws.drop f).length := by simp; omega
  rw [show 32 - k = (32 - (k + 1)) + 1 by omega, List.replicate_succ, List.set_append_right _ _ (by rw [hl]; exact Nat.le_refl _), hl, Nat.sub_self, List.set_cons_zero, List.take_succ_eq_append_getElem hd]
  simp only [List.getD, List.getElem?_eq_getElem (show f + k < ws.length by omega), Option.getD_some, List.append_assoc, List.cons_append, List.nil_append, List.getElem_drop]
theorem fromTo_end (ws : List Int) (f : Nat) : fromTo ws f 32 = (ws.drop f).take 32 := by simp [fromTo]
theorem fromTo_zero (ws : List Int) (f : Nat) : fromTo ws f 0 = List.replicate 32 0 := by simp [fromTo]

set_option maxHeartbeats 2000000 in
set_option maxRecDepth 4000 in
theorem halfFrom {S : Nat → Prop} {w : World} {y : Value} {ws : List Int} {f : Nat} (hy : RdI S w y ws) (hw : wordsF ws = 0) (hf : f + 32 ≤ ws.length) :
    Calls Try.prog 77 #[y, .int .i64 (f : Int)] w fun e w' => e = .returned (.agg (u16s ((ws.drop f).take 32)).toArray) ∧ Below w.heap.size w w' := by
  obtain ⟨hwl, hwr⟩ := wordsF_zero hw
  have HX := hide hwr
  have HY := hide hy
  obtain ⟨ay, cy, rfl⟩ := hy.shape
  obtain ⟨n, hn⟩ : ∃ n, ws.length = n := ⟨_, rfl⟩
  have HN := hide hn
  have HF := hide hf
  rw [hn] at HY hwl hf ⊢
  clear hy hn hwr hw
  have HA0 : Hid (ArrAt w w.heap.size (w.heap.size + 1) 32 (u16s (fromTo ws f 0)) ((w.alloc (.cells (List.replicate 32 (Value.int .u16 0)).toArray 107)).alloc (.cells (List.replicate 32 (Value.int .u16 0)).toArray 107))) := by
    rw [fromTo_zero]
    refine ⟨below_on (below_alloc _ _) (below_alloc _ _), World.there_alloc (there_new w (List.replicate 32 (Value.int .u16 0)) _ 32 rfl) _, fun o => by simp [go_sem], ?_⟩
    have := range_new (w.alloc (.cells (List.replicate 32 (Value.int .u16 0)).toArray 107)) (List.replicate 32 (Value.int .u16 0)) 107
    rw [World.size_alloc] at this
    rw [u16s, List.map_replicate]
    exact this
  go_enter Try.func77, Try.ntmps77
  go_upto_region 2 with fail
  refine forget (fun wx => ArrAt w w.heap.size (w.heap.size + 1) 32 (u16s (fromTo ws f 0)) wx) HA0.out ?_
  clear HA0
  intro W0 hA0
  have HA0 := hide hA0
  clear hA0
  go_wp2
  go_loopw [7] (fun i wr => ∃ k : Nat, k ≤ 32 ∧ i = .int .i64 k ∧ Hid (ArrAt w w.heap.size (w.heap.size + 1) 32 (u16s (fromTo ws f k)) wr)) (fun i _ => 32 - (intOf i).toNat)
  case atStart => exact ⟨0, Nat.zero_le _, rfl, HA0.out⟩
  case round =>
    obtain ⟨k, hk, rfl, HC⟩ := hrel
    by_cases hlt : k < 32
    · have hkx : f + k < ws.length := by rw [HN.out]; omega
      obtain ⟨b, off, rfl, q1⟩ := HY.out.at hkx
      have g1 := cell_later HC.out.below q1
      have hr := HX.out (f + k) hkx
      have HSt := hide (HC.out.step (by omega) (by omega) k (.int .u16 (ws.getD (f + k) 0)))
      rw [u16s_set, fromTo_step HF.out hlt] at HSt
      have cz := HC.out.cells k _ (u16s_at (by rw [fromTo_len HF.out (by omega)]; omega))
      have fz := HC.out.free k
      rw [Nat.zero_add] at cz
      obtain ⟨x0, hx0⟩ : ∃ x0, (fromTo ws f k).getD k 0 = x0 := ⟨_, rfl⟩
      rw [hx0] at cz
      obtain ⟨x, hx⟩ : ∃ x, ws.getD (f + k) 0 = x := ⟨_, rfl⟩
      rw [hx] at g1 hr HSt
      have wx : IntKind.u16.wrap x = x := wrap_u16 (by omega) (by omega)
      clear q1 hx0 hx
      go_wp2
      go_roundw
      case rel => exact ⟨k + 1, hlt, by go_num, HSt.out⟩
      case measure => simp [intOf]; omega
    · have hkn : k = 32 := by omega
      subst hkn
      rw [fromTo_end] at HC
      have hl32 : (u16s ((ws.drop f).take 32)).length = 32 := by rw [u16s_len]; simp [HN.out]; omega
      have hone := hide (all_oneCell_toArray (u16s_one ((ws.drop f).take 32)))
      obtain ⟨C, hC⟩ : ∃ C, u16s ((ws.drop f).take 32) = C := ⟨_, rfl⟩
      rw [hC] at HC hl32 hone
      have HCe := hide hC
      have hth := hide (show wr.there w.heap.size 0 C.toArray.size by simpa [hl32] using HC.out.res)
      have hsz := hide (show (Try.prog.info? 107).map (·.size) = some C.toArray.size by rw [List.size_toArray, hl32]; exact Try.sizeHHalf)
      clear hC hl32
      go_wp2_with (first | (refine wpList_load_mid rfl 107 _ rfl (w.heap.size + 1) 0 (by rfl) C _ HC.out.cells Try.underlying107 rfl hsz.out ?_) | (refine wpList_store_mid rfl 107 _ _ rfl w.heap.size 0 C.toArray (by rfl) (by rfl) hth.out hsz.out hone.out ?_))
      have hres := run_loadVar_mid (P := Try.prog) (wr.setCells w.heap.size 0 C) w.heap.size 0 107 C _ (World.rangeAt_setCells_same _ _ _ _ (by simpa using hth.out)) Try.underlying107 rfl (by simpa using hsz.out)
      refine bodyPost_ret (v := .agg C.toArray) ?_ rfl ⟨by rw [HCe.out], Below.setCells HC.out.below (by omega) _ _⟩
      simp [results, Try.results77, Act.put]
      simp only [asAddr, Sem.run_pure, Result.andThen_ok]
      exact hres

theorem list_eq_of_at' {xs ys : List Int} (hl : xs.length = ys.length) (h : ∀ i, i < xs.length → xs.getD i 0 = ys.getD i 0) : xs = ys := by
  refine List.ext_getElem hl fun i h1 h2 => ?_
  have := h i h1
  simpa [List.getD, h1, h2] using this

theorem eqItems_u16 (d : Nat) (L M : List Int) (w : World) : ∀ is : List Nat, (∀ i ∈ is, i < L.length ∧ i < M.length) → (Op.eqItems (d + 1) 105 1 (u16s L).toArray (u16s M).toArray is).run Try.prog w = .ok (decide (∀ i ∈ is, L.getD i 0 = M.getD i 0)) w
  | [], _ => by simp [Op.eqItems]
  | i :: is, h => by
    have ih := eqItems_u16 d L M w is (fun j hj => h j (by simp [hj]))
    obtain ⟨hl, hm⟩ := h i (by simp)
    have p1 : (part 105 (u16s L).toArray i).run Try.prog w = .ok (.int .u16 (L.getD i 0)) w := by
      have h3 : (u16s L)[i]? = some (.int .u16 (L.getD i 0)) := u16s_at hl
      simp [part, isAgg, run_underlying Try.underlying105, h3]
    have p2 : (part 105 (u16s M).toArray i).run Try.prog w = .ok (.int .u16 (M.getD i 0)) w := by
      have h3 : (u16s M)[i]? = some (.int .u16 (M.getD i 0)) := u16s_at hm
      simp [part, isAgg, run_underlying Try.underlying105, h3]
    have p3 := run_equalIn_int (P := Try.prog) w d 105 .u16 .u16 (L.getD i 0) (M.getD i 0) Try.underlying105
    simp only [Op.eqItems, Sem.run_bind, Nat.mul_one, p1, p2, p3, Result.andThen_ok]
    by_cases e : L.getD i 0 = M.getD i 0
    · have hb : (L.getD i 0 == M.getD i 0) = true := beq_iff_eq.2 e
      have hd : decide (∀ j ∈ is, L.getD j 0 = M.getD j 0) = decide (∀ j ∈ i :: is, L.getD j 0 = M.getD j 0) := decide_eq_decide.2 ⟨fun h j hj => by
        rcases List.mem_cons.1 hj with rfl | hj
        · exact e
        · exact h j hj, fun h j hj => h j (List.mem_cons_of_mem _ hj)⟩
      rw [hb, ← hd, ← ih]
      rfl
    · have hb : (L.getD i 0 == M.getD i 0) = false := beq_eq_false_iff_ne.2 e
      rw [hb, decide_eq_false (fun h => e (h i (List.mem_cons_self ..)))]
      rfl

theorem neq_u16 {L M : List Int} (hL : L.length = 32) (hM : M.length = 32) (w : World) : (binOp .neq 107 (.agg (u16s L).toArray) (.agg (u16s M).toArray)).run Try.prog w = .ok (.bool (!decide (L = M))) w := by
  obtain ⟨i1, h1⟩ := info_of_underlying Try.underlying105
  have hc : Try.prog.cellsOf 105 = 1 := by kernel_rfl
  have he : (Op.equal 107 (.agg (u16s L).toArray) (.agg (u16s M).toArray)).run Try.prog w = .ok (decide (L = M)) w := by
    unfold Op.equal
    obtain ⟨d, hd⟩ : ∃ d, Op.maxDepth = (d + 1) + 1 := ⟨9998, rfl⟩
    rw [hd, run_equalIn_array w _ _ _ Try.underlying107 h1, hc, eqItems_u16 _ _ _ _ _ (fun i hi => by have := List.mem_range.1 hi; omega)]
    have hiff : (∀ i ∈ List.range 32, L.getD i 0 = M.getD i 0) ↔ L = M := ⟨fun h => list_eq_of_at' (by omega) (fun i hi => h i (List.mem_range.2 (by omega))), fun e i _ => by rw [e]⟩
    rw [decide_eq_decide.2 hiff]
  simp [binOp, he]

theorem guard_u16 (x y : Operand) (A B : Array Value) (w : World) : (eqGuard .neq 107 x y (.agg A) (.agg B)).run Try.prog w = .ok () w :=
  run_eqGuard_agg (P := Try.prog) w .neq 107 x y A B (by kernel_rfl)

/-- As Q; by a goto to label l: J l. -/
def jumps (J : Nat → Act → World → Prop) (Q : Exit → Act → World → Prop) : Exit → Act → World → Prop
  | .goto l, a, w => J l a w
  | e, a, w => Q e a w

theorem scope_labels {P : Program} {a : Act} {w : World} {Q : Exit → Act → World → Prop} {c : Code} (J : Nat → Act → World → Prop) (μ : Nat → Act → World → Nat)
    (first : c.wp P (jumps J Q) a w)
    (pass : ∀ l a w, J l a w → ∃ rest, findLabel c l = some rest ∧ rest.wp P (jumps (fun l' a' w' => J l' a' w' ∧ μ l' a' w' < μ l a w) Q) a w) : (Code.scope c).wp P Q a w := by
  intro b k cs
  have key : ∀ n l a w, μ l a w = n → J l a w → ∃ rest, findLabel c l = some rest ∧ ∃ e a' w', Q e a' w' ∧ Arrives P (lone (b.at a (.code rest :: .inScope c :: k)) cs w) b k cs e a' w' := by
    intro n
    induction n using Nat.strongRecOn with
    | _ n ih =>
      intro l a w hn hJ
      obtain ⟨rest, hf, hwp⟩ := pass l a w hJ
      refine ⟨rest, hf, ?_⟩
      obtain ⟨e, a₁, w₁, hq, harr⟩ := hwp b (.inScope c :: k) cs
      cases e with
      | normal => exact ⟨.normal, a₁, w₁, hq, Steps.trans harr (.one step_inScope)⟩
      | exit id => exact ⟨.exit id, a₁, w₁, hq, fun k' hk => harr k' (by simp [exitTo, hk])⟩
      | goto l' =>
        obtain ⟨hJ', hlt⟩ := hq
        obtain ⟨rest₂, hf₂, e₂, a₂, w₂, hq₂, harr₂⟩ := ih _ (by omega) l' a₁ w₁ rfl hJ'
        have hg : gotoIn l' (.inScope c :: k) = some (.code rest₂ :: .inScope c :: k) := by simp [gotoIn, hf₂]
        exact ⟨e₂, a₂, w₂, hq₂, .of_steps (harr _ hg) harr₂⟩
      | ret => exact ⟨_, a₁, w₁, hq, harr⟩
      | panic ch => exact ⟨_, a₁, w₁, hq, harr⟩
      | outgrown => exact ⟨_, a₁, w₁, hq, harr⟩
  obtain ⟨e, a₁, w₁, hq, harr⟩ := first b (.inScope c :: k) cs
  cases e with
  | normal => exact ⟨.normal, a₁, w₁, hq, .head step_scope (Steps.trans harr (.one step_inScope))⟩
  | exit id => exact ⟨.exit id, a₁, w₁, hq, fun k' hk => .head step_scope (harr k' (by simp [exitTo, hk]))⟩
  | goto l' =>
    obtain ⟨rest₂, hf₂, e₂, a₂, w₂, hq₂, harr₂⟩ := key _ l' a₁ w₁ rfl hq
    have hg : gotoIn l' (.inScope c :: k) = some (.code rest₂ :: .inScope c :: k) := by simp [gotoIn, hf₂]
    exact ⟨e₂, a₂, w₂, hq₂, .of_steps (.head step_scope (harr _ hg)) harr₂⟩
  | ret => exact ⟨_, a₁, w₁, hq, .of_steps (.one step_scope) harr⟩
  | panic ch => exact ⟨_, a₁, w₁, hq, .of_steps (.one step_scope) harr⟩
  | outgrown => exact ⟨_, a₁, w₁, hq, .of_steps (.one step_scope) harr⟩
end Go.Proofs.Ytbjmmhcbjcngcaa
