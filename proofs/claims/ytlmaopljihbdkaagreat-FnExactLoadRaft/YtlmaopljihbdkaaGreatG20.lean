/- Sg in one text: what each says stands at its head below. -/
import Derived.Test.YtlmaopljihbdkaaGreatG05
import Derived.RangeFuncNested
import Derived.RangeFuncBound
import Derived.RangeFuncCalls
import Derived.RangeFuncLeaves
import Derived.RangeFuncBox
/- A range over a function whose items have words: what an iterator promises ('SeqG'), and the law of the loop over it. The caller's blocks (D) and the iterator's own lie apart; what the iterator does between two rounds leaves all older blocks as they were. -/
namespace Go.Proofs.YtlmaopljihbdkaaGreat
open Go.RowKit

/-- All blocks but those of D are as they were. -/
structure Ku (D : Nat → Prop) (w w' : World) : Prop where
  os : w'.os = w.os
  tape : w'.tape = w.tape
  output : w'.output = w.output
  size : w.heap.size ≤ w'.heap.size
  block : ∀ k, k < w.heap.size → ¬ D k → w'.heap[k]? = w.heap[k]?
theorem Ku.refl (D : Nat → Prop) (w : World) : Ku D w w := ⟨rfl, rfl, rfl, Nat.le_refl _, fun _ _ _ => rfl⟩
theorem Ku.trans {D : Nat → Prop} {a b c : World} (h : Ku D a b) (k : Ku D b c) : Ku D a c :=
  ⟨k.os.trans h.os, k.tape.trans h.tape, k.output.trans h.output, Nat.le_trans h.size k.size, fun i hi hd => (k.block i (Nat.lt_of_lt_of_le hi h.size) hd).trans (h.block i hi hd)⟩
theorem Ku.mono {D E : Nat → Prop} {a b : World} (h : Ku D a b) (hd : ∀ b, D b → E b) : Ku E a b := ⟨h.os, h.tape, h.output, h.size, fun i hi hn => h.block i hi (fun e => hn (hd i e))⟩
theorem Ku.of_wr {D : Nat → Prop} {a b : World} (h : Wr D a b) : Ku D a b := ⟨h.os, h.tape, h.output, h.size, h.block⟩
theorem Ku.of_below {D : Nat → Prop} {a b : World} (h : Below a.heap.size a b) : Ku D a b := ⟨h.os, h.tape, h.output, h.size, fun i hi _ => h.block i hi⟩
theorem Ku.of_grown {a b : World} {row : Option Nat} (h : a.grownBy b row) : Ku (fun x => row = some x) a b := ⟨h.os, h.tape, h.output, h.size, fun i hi hn => h.block i hi (fun e => hn e.symm)⟩
theorem Ku.cell {D : Nat → Prop} {a b : World} (h : Ku D a b) {k o : Nat} {v : Value} (hc : a.cell? ⟨k, o, none⟩ = some v) (hd : ¬ D k) : b.cell? ⟨k, o, none⟩ = some v := by
  have hk : k < a.heap.size := World.block_lt_of_cell? _ _ hc
  have e := h.block k hk hd
  simp only [World.cell?] at hc ⊢
  rw [e]
  exact hc
theorem Ku.frozen {D : Nat → Prop} {a b : World} (h : Ku D a b) {k o : Nat} (hk : k < a.heap.size) (hd : ¬ D k) : b.frozen? ⟨k, o, none⟩ = a.frozen? ⟨k, o, none⟩ := by
  have e := h.block k hk hd
  simp only [World.frozen?]
  rw [e]
theorem RdI.ku {S D : Nat → Prop} {w w' : World} {v : Value} {xs : List Int} (h : RdI S w v xs) (hw : Ku D w w') (hd : xs ≠ [] → ∀ b, S b → ¬ D b) : RdI S w' v xs := by
  obtain ⟨ao, c, e1, e2, e3⟩ := h
  refine ⟨ao, c, e1, e2, fun hne => ?_⟩
  obtain ⟨b, off, f1, f2, f3⟩ := e3 hne
  exact ⟨b, off, f1, f2, fun t ht => hw.cell (f3 t ht) (hd hne b f2)⟩
theorem RdP.ku {S D : Nat → Prop} {w w' : World} {v : Value} {ps : List (Int × List Int)} (h : RdP S w v ps) (hw : Ku D w w') (hd : ∀ b, S b → ¬ D b) : RdP S w' v ps := by
  obtain ⟨ao, c, e1, e2, e3⟩ := h
  refine ⟨ao, c, e1, e2, fun hne => ?_⟩
  obtain ⟨b, off, V, f1, f2, f3⟩ := e3 hne
  exact ⟨b, off, V, f1, f2, fun t ht => ⟨hw.cell (f3 t ht).1 (hd b f2), hw.cell (f3 t ht).2.1 (hd b f2), (f3 t ht).2.2.ku hw (fun _ => hd)⟩⟩

/-- An item as it is handed to a round. -/
def encP (x : Int) (v : Value) : Array Value := #[.agg #[.int .i64 x, v]]
/-- A loop's record, or a block for deferred calls. -/
def isMark : Obj → Bool
  | .loop _ => true
  | .deferred _ => true
  | _ => false
theorem wr_mark {W : World} {l : Nat} {o o' : Obj} (h : W.heap[l]? = some o) (ho : isMark o = true) (ho' : isMark o' = true) : Wr (fun b => b = l) W (W.putObj l o') := by
  have hl : l < W.heap.size := (Array.getElem?_eq_some_iff.1 h).1
  refine ⟨rfl, rfl, rfl, by simp [World.putObj], fun k _ hk => World.putObj_heap_other hk, fun b q hb => ?_⟩
  by_cases e : b = l
  · subst e
    have h1 := World.putObj_heap_same (w := W) (o := o') hl
    cases o <;> cases o' <;> simp [isMark] at ho ho' <;> simp [World.frozen?, h1, h]
  · have h2 : (W.putObj l o').heap[b]? = W.heap[b]? := World.putObj_heap_other e
    simp [World.frozen?, h2]
/-- The iterator g with what it has captured tells the items qs, one by one, the words of each in new memory; it reads R. -/
def SeqG (m : Nat) (P : Program) (g : Nat) (lb : Array Value) (R : Nat → Prop) (qs : List (Int × List Int)) (w : World) : Prop :=
  ∀ (l : Nat) (J : (Nat → Prop) → Nat → World → Prop) (Jx : World → Prop) (D0 : Nat → Prop) (W : World), Below w.heap.size w W → (∀ b, D0 b → ¬ R b) →
    (∀ D k A B, J D k A → Below A.heap.size A B → J D k B) → (∀ A B, Jx A → Below A.heap.size A B → Jx B) →
    (∀ D k A l' o o', W.heap.size ≤ l' → J D k A → A.heap[l']? = some o → isMark o = true → isMark o' = true → J D k (A.putObj l' o')) → (∀ A l' o o', W.heap.size ≤ l' → Jx A → A.heap[l']? = some o → isMark o = true → isMark o' = true → Jx (A.putObj l' o')) → (∀ D k A, J D k A → ∀ b, D b → b < A.heap.size) →
    (∀ D k x v A B, J D k A → Below A.heap.size A B → k < qs.length → x = (qs.getD k (0, [])).1 → OwI A.heap.size B v (qs.getD k (0, [])).2 →
      YieldAt Fence.wide (m - 1) P l (encP x v) B fun e W' =>
        (e = .returned (.bool true) ∧ ∃ D', J D' (k + 1) W' ∧ Ku D B W' ∧ ∀ b, D' b → D b ∨ B.heap.size ≤ b) ∨ (e = .returned (.bool false) ∧ Jx W' ∧ Ku D B W')) →
    J D0 0 W →
    CallsIn Fence.wide m P g (#[.func (.yield l) #[] #[]] ++ lb) W fun e W' => (∃ v, e = .returned v) ∧ ((∃ D, J D qs.length W') ∨ Jx W')

/-- How the body of a round may be left. -/
def gPost (I : (Nat → Prop) → Nat → World → Prop) (Ix : Code → World → Prop) (D : Nat → Prop) (k : Nat) (W : World) : Exit → Act → World → Prop
  | .normal, _, W' => ∃ D', I D' (k + 1) W' ∧ Ku D W W' ∧ ∀ b, D' b → D b ∨ W.heap.size ≤ b
  | .ret, _, W' => Ku D W W' ∧ Ix .ret W'
  | .exit id, _, W' => Ku D W W' ∧ Ix (.exit id) W'
  | .goto t, _, W' => Ku D W W' ∧ Ix (.goto t) W'
  | .panic _, _, _ => False
  | .outgrown, _, _ => False

theorem wr_put {W : World} {l : Nat} {r r' : Loop} (h : W.heap[l]? = some (.loop r)) : Wr (fun b => b = l) W (W.putObj l (.loop r')) := by
  have hl : l < W.heap.size := (Array.getElem?_eq_some_iff.1 h).1
  refine ⟨rfl, rfl, rfl, by simp [World.putObj], fun k _ hk => World.putObj_heap_other hk, fun b o hb => ?_⟩
  by_cases e : b = l
  · subst e
    simp [World.frozen?, World.putObj_heap_same hl, h]
  · have h2 : (W.putObj l (.loop r')).heap[b]? = W.heap[b]? := World.putObj_heap_other e
    simp [World.frozen?, h2]

theorem wr_none {W : World} {l : Nat} {d d' : Option (List Deferred)} (h : W.heap[l]? = some (.deferred d)) : Wr (fun b => b = l) W (W.putObj l (.deferred d')) := by
  have hl : l < W.heap.size := (Array.getElem?_eq_some_iff.1 h).1
  refine ⟨rfl, rfl, rfl, by simp [World.putObj], fun k _ hk => World.putObj_heap_other hk, fun b o hb => ?_⟩
  by_cases e : b = l
  · subst e
    simp [World.frozen?, World.putObj_heap_same hl, h]
  · have h2 : (W.putObj l (.deferred d')).heap[b]? = W.heap[b]? := World.putObj_heap_other e
    simp [World.frozen?, h2]

/-- The law of a loop over such an iterator: the loop's variable is a put in a block of its own. -/
theorem wpIn_rangeFunc_G {n : Nat} {P : Program} {g : Operand} {ps : Array Tmp} {assign body : Code} {Q : Exit → Act → World → Prop} {a : Act} {w : World} (T : TypeId)
    {gf : Nat} {lb : Array Value} (hg : a.eval g = .func (.func gf) #[] lb) (eg : ∀ args w, (callFunc gf args).run P w = .ok (.enter gf args) w)
    {R : Nat → Prop} {qs : List (Int × List Int)} {w0 : World} (hseq : SeqG (n - 1) P gf lb R qs w0) (hb0 : Below w0.heap.size w0 w) (hps : ps.size = 1)
    (I : (Nat → Prop) → Nat → World → Prop) (Ix : Code → World → Prop) (D0 : Nat → Prop)
    (hI : ∀ D k A B, I D k A → Below A.heap.size A B → I D k B) (hIo : ∀ D k A l' o o', w.heap.size ≤ l' → I D k A → A.heap[l']? = some o → isMark o = true → isMark o' = true → I D k (A.putObj l' o'))
    (hIx : ∀ c A B, Ix c A → Below A.heap.size A B → Ix c B) (hIxo : ∀ c A l' o o', w.heap.size ≤ l' → Ix c A → A.heap[l']? = some o → isMark o = true → isMark o' = true → Ix c (A.putObj l' o'))
    (hD : ∀ D k A, I D k A → ∀ b, D b → b < A.heap.size ∧ b ≠ w.heap.size ∧ b ≠ w.heap.size + 1) (hR : ∀ b, D0 b → ¬ R b) (hRw : ∀ b, R b → b < w.heap.size) (h0 : I D0 0 w)
    (a₁ : Int → Value → Nat → Act)
    (hassign : ∀ (x : Int) (v : Value) (B : World) (K : Act → World → Prop), (∃ ao n c, v = .slice ao n c) → K (a₁ x v B.heap.size) (B.alloc (.cells #[.int .i64 x, v] T)) →
      assign.wpIn (Fence.wide.inRound (w.heap.size + 1)) (n - 1 - 1) P (Exit.then K (fun _ _ _ => False)) { tmps := (ps.zip (encP x v)).foldl (fun t (p, v) => t.setIfInBounds p v) a.tmps, defers := [] } B)
    (hbody : ∀ D k x v A B W, I D k A → Below A.heap.size A B → k < qs.length → x = (qs.getD k (0, [])).1 → OwI A.heap.size B v (qs.getD k (0, [])).2 → Wr (fun b => b = w.heap.size + 1) (B.alloc (.cells #[.int .i64 x, v] T)) W → W.heap.size = B.heap.size + 1 → w.heap.size + 2 ≤ A.heap.size → I D k W → (∃ r r', A.heap[w.heap.size + 1]? = some (.loop r) ∧ W = (B.alloc (.cells #[.int .i64 x, v] T)).putObj (w.heap.size + 1) (.loop r')) →
      body.wpIn (Fence.wide.inRound (w.heap.size + 1)) (n - 1 - 1) P (gPost I Ix D k W) (a₁ x v B.heap.size) W)
    (hdone : ∀ D W, I D qs.length W → W.heap[w.heap.size]? = some (.deferred (some [])) → Q .normal { a with defers := { target := .collected w.heap.size, args := #[] } :: a.defers } W)
    (hstop : ∀ c W, Ix c W → W.heap[w.heap.size]? = some (.deferred (some [])) → c.wpIn Fence.wide n P Q { a with defers := { target := .collected w.heap.size, args := #[] } :: a.defers } W) :
    (Code.rangeFunc g ps assign body).wpIn Fence.wide n P Q a w := by
  refine wpIn_rangeFunc ?_
  intro fn hfn
  rw [show Fence.wide.round = none from rfl]
  obtain ⟨rec, hrec⟩ : ∃ rec : LoopState → Option Code → Loop, rec = fun st pe => { state := st, pending := pe, fn, tmps := a.tmps, params := ps, assign, body, defers := w.heap.size } := ⟨_, rfl⟩
  obtain ⟨W1, hW1⟩ : ∃ W1, (w.alloc (.deferred (some []))).alloc (.loop (rec .ready none)) = W1 := ⟨_, rfl⟩
  have hL1 : W1.heap[w.heap.size + 1]? = some (.loop (rec .ready none)) := by
    rw [← hW1]; have := World.alloc_heap_new (w.alloc (.deferred (some []))) (.loop (rec .ready none)); rwa [World.size_alloc] at this
  have hK1 : W1.heap[w.heap.size]? = some (.deferred (some [])) := by
    rw [← hW1]; exact (Below.heap_alloc _ _ _ (by simp)).trans (World.alloc_heap_new w _)
  have hI1 : I D0 0 W1 := by rw [← hW1]; exact hI _ _ _ _ (hI _ _ _ _ h0 (below_alloc _ _)) (below_alloc _ _)
  have hb1 : Below w0.heap.size w0 W1 := by
    rw [← hW1]; exact hb0.trans ((((Below.refl _ w).alloc (Nat.le_refl _) _).alloc (by simp) _).mono hb0.size)
  refine ⟨w.heap.size + 1, [{ target := .collected w.heap.size, args := #[] }], W1, { target := .fn (.func gf) lb, args := #[.func (.yield (w.heap.size + 1)) #[] #[]] }, W1, gf,
    #[.func (.yield (w.heap.size + 1)) #[] #[]] ++ lb, W1, ?_, ?_, ?_, ?_, fun h => (by simp [Fence.wide] at h), ?_⟩
  · rw [← hW1, hrec]; exact run_enterLoop_outer _ _ _ _ _
  · simp only [resolve, hg]
    simp [go_sem]
  · intro f' hf'; trivial
  · simp [invoke, go_sem, eg]
  · refine (hseq (w.heap.size + 1)
      (fun D2 k W => ∃ D, (∀ b, D2 b ↔ D b ∨ b = w.heap.size + 1) ∧ I D k W ∧ W.heap[w.heap.size + 1]? = some (.loop (rec .ready none)) ∧ W.heap[w.heap.size]? = some (.deferred (some [])))
      (fun W => ∃ c, Ix c W ∧ W.heap[w.heap.size + 1]? = some (.loop (rec .done (some c))) ∧ W.heap[w.heap.size]? = some (.deferred (some [])))
      (fun b => D0 b ∨ b = w.heap.size + 1) W1 hb1 (fun b hb hr => by rcases hb with hb | hb; exact hR b hb hr; have := hRw b hr; omega) ?_ ?_ ?_ ?_ ?_ ?_ ⟨D0, fun _ => Iff.rfl, hI1, hL1, hK1⟩).mono ?_
    · rintro D2 k A B ⟨D, hd, hi, hl, hk⟩ hb
      exact ⟨D, hd, hI _ _ _ _ hi hb, (hb.block _ (Array.getElem?_eq_some_iff.1 hl).1).trans hl, (hb.block _ (Array.getElem?_eq_some_iff.1 hk).1).trans hk⟩
    · rintro A B ⟨c, hi, hl, hk⟩ hb
      exact ⟨c, hIx _ _ _ hi hb, (hb.block _ (Array.getElem?_eq_some_iff.1 hl).1).trans hl, (hb.block _ (Array.getElem?_eq_some_iff.1 hk).1).trans hk⟩
    · rintro D2 k A l' o o' hl' ⟨D, hd, hi, hl, hk⟩ hr ho ho'
      have hsW1 : W1.heap.size = w.heap.size + 2 := by rw [← hW1]; simp
      exact ⟨D, hd, hIo _ _ _ _ _ _ (by omega) hi hr ho ho', (World.putObj_heap_other (by omega)).trans hl, (World.putObj_heap_other (by omega)).trans hk⟩
    · rintro A l' o o' hl' ⟨c, hi, hl, hk⟩ hr ho ho'
      have hsW1 : W1.heap.size = w.heap.size + 2 := by rw [← hW1]; simp
      exact ⟨c, hIxo _ _ _ _ _ (by omega) hi hr ho ho', (World.putObj_heap_other (by omega)).trans hl, (World.putObj_heap_other (by omega)).trans hk⟩
    · rintro D2 k A ⟨D, hd, hi, hl, hk⟩ b hb
      rcases (hd b).1 hb with hb | hb
      · exact (hD _ _ _ hi b hb).1
      · subst hb; exact (Array.getElem?_eq_some_iff.1 hl).1
    · -- one round
      rintro D2 k x v A B ⟨D, hd, hi, hl, hk⟩ hAB hlen hx hv
      have hlA : w.heap.size + 1 < A.heap.size := (Array.getElem?_eq_some_iff.1 hl).1
      have hlB := (hAB.block _ hlA).trans hl
      have hkB := (hAB.block _ (by omega)).trans hk
      have hsAB := hAB.size
      have hy := run_yield (P := P) (args := encP x v) hlB (by rw [hrec]; simp [encP, hps])
      rw [hrec] at hy
      have hvs : ∃ ao n c, v = .slice ao n c := by obtain ⟨a1, c1, e1⟩ := hv.shape; exact ⟨_, _, _, e1⟩
      refine ⟨fn, _, assign, body, hy, roundIn_of_wpIn hfn (hassign x v B _ hvs ?_)⟩
      have hBa : Below B.heap.size B (B.alloc (.cells #[.int .i64 x, v] T)) := below_alloc _ _
      have hla := (hBa.block _ (by omega)).trans hlB
      have hka := (hBa.block _ (by omega)).trans hkB
      refine ⟨_, run_beginRound hla (by rw [hrec]), ?_⟩
      have hwp := wr_put (r' := { rec .ready none with state := .busy }) hla
      obtain ⟨W, hW⟩ : ∃ W, (B.alloc (.cells #[.int .i64 x, v] T)).putObj (w.heap.size + 1) (.loop { rec .ready none with state := .busy }) = W := ⟨_, rfl⟩
      have hl2 : W.heap[w.heap.size + 1]? = some (.loop { rec .ready none with state := .busy }) := by rw [← hW]; exact World.putObj_heap_same (by simp; omega)
      have hk2 : W.heap[w.heap.size]? = some (.deferred (some [])) := by rw [← hW]; exact (World.putObj_heap_other (by omega)).trans hka
      have hsW : W.heap.size = B.heap.size + 1 := by rw [← hW]; simp [World.putObj]
      have hbr : { rec .ready none with state := .busy } = rec .busy none := by rw [hrec]
      rw [hbr] at hl2
      have hwp0 := hwp
      rw [hW] at hwp
      have hi2 : I D k W := by rw [← hW]; exact hIo _ _ _ _ _ _ (by omega) (hI _ _ _ _ (hI _ _ _ _ hi hAB) hBa) hla rfl rfl
      rw [hW]
      refine wpIn_mono (hbody D k x v A B W hi hAB hlen hx hv hwp hsW (by omega) hi2 ⟨_, _, hl, hW.symm⟩) ?_
      have hWB : Ku D2 B W := (Ku.of_below hBa).trans ((Ku.of_wr hwp).mono (fun b hb => (hd b).2 (.inr hb)))
      have fin : ∀ (jump : Option Code) (W3 : World), Ku D W W3 →
          (Instr.endRound (w.heap.size + 1) jump).run P W3 = .ok (.bool jump.isNone) (W3.putObj (w.heap.size + 1) (.loop (rec (if jump.isNone then .ready else .done) jump))) ∧
          Wr (fun b => b = w.heap.size + 1) W3 (W3.putObj (w.heap.size + 1) (.loop (rec (if jump.isNone then .ready else .done) jump))) ∧ (∃ r, W3.heap[w.heap.size + 1]? = some (.loop r)) ∧
          (W3.putObj (w.heap.size + 1) (.loop (rec (if jump.isNone then .ready else .done) jump))).heap[w.heap.size + 1]? = some (.loop (rec (if jump.isNone then .ready else .done) jump)) ∧
          (W3.putObj (w.heap.size + 1) (.loop (rec (if jump.isNone then .ready else .done) jump))).heap[w.heap.size]? = some (.deferred (some [])) := fun jump W3 hw3 => by
        have hn1 : ¬ D (w.heap.size + 1) := fun h => (hD _ _ _ hi _ h).2.2 rfl
        have hn0 : ¬ D w.heap.size := fun h => (hD _ _ _ hi _ h).2.1 rfl
        have hl3 := (hw3.block _ (Array.getElem?_eq_some_iff.1 hl2).1 hn1).trans hl2
        have hk3 := (hw3.block _ (Array.getElem?_eq_some_iff.1 hk2).1 hn0).trans hk2
        have := run_endRound (P := P) jump hl3
        have hh := wr_put (r' := rec (if jump.isNone then .ready else .done) jump) hl3
        rw [hrec] at this hh ⊢
        exact ⟨this, hh, ⟨_, hl3⟩, World.putObj_heap_same (Array.getElem?_eq_some_iff.1 hl3).1, (World.putObj_heap_other (by omega)).trans hk3⟩
      rintro e a3 W3 hp
      cases e with
      | normal =>
        obtain ⟨D', hi3, hw3, hd3⟩ := hp
        obtain ⟨hr, hh, ⟨rr, hrr⟩, hl4, hk4⟩ := fin none W3 hw3
        refine ⟨_, _, hr, .inl ⟨rfl, fun b => D' b ∨ b = w.heap.size + 1, ⟨D', fun _ => Iff.rfl, hIo _ _ _ _ _ _ (by omega) hi3 hrr rfl rfl, hl4, hk4⟩, (hWB.trans (hw3.mono (fun b hb => (hd b).2 (.inl hb)))).trans ((Ku.of_wr hh).mono (fun b hb => (hd b).2 (.inr hb))), fun b hb => ?_⟩⟩
        rcases hb with hb | hb
        · rcases hd3 b hb with h | h
          · exact .inl ((hd b).2 (.inl h))
          · exact .inr (by omega)
        · exact .inl ((hd b).2 (.inr hb))
      | ret =>
        obtain ⟨hw3, hi3⟩ := hp
        obtain ⟨hr, hh, ⟨rr, hrr⟩, hl4, hk4⟩ := fin (some .ret) W3 hw3
        exact ⟨_, _, hr, .inr ⟨rfl, ⟨.ret, hIxo _ _ _ _ _ (by omega) hi3 hrr rfl rfl, hl4, hk4⟩, (hWB.trans (hw3.mono (fun b hb => (hd b).2 (.inl hb)))).trans ((Ku.of_wr hh).mono (fun b hb => (hd b).2 (.inr hb)))⟩⟩
      | exit id =>
        obtain ⟨hw3, hi3⟩ := hp
        obtain ⟨hr, hh, ⟨rr, hrr⟩, hl4, hk4⟩ := fin (some (.exit id)) W3 hw3
        exact ⟨_, _, hr, .inr ⟨rfl, ⟨.exit id, hIxo _ _ _ _ _ (by omega) hi3 hrr rfl rfl, hl4, hk4⟩, (hWB.trans (hw3.mono (fun b hb => (hd b).2 (.inl hb)))).trans ((Ku.of_wr hh).mono (fun b hb => (hd b).2 (.inr hb)))⟩⟩
      | goto t =>
        obtain ⟨hw3, hi3⟩ := hp
        obtain ⟨hr, hh, ⟨rr, hrr⟩, hl4, hk4⟩ := fin (some (.goto t)) W3 hw3
        exact ⟨_, _, hr, .inr ⟨rfl, ⟨.goto t, hIxo _ _ _ _ _ (by omega) hi3 hrr rfl rfl, hl4, hk4⟩, (hWB.trans (hw3.mono (fun b hb => (hd b).2 (.inl hb)))).trans ((Ku.of_wr hh).mono (fun b hb => (hd b).2 (.inr hb)))⟩⟩
      | panic ch => exact hp.elim
      | outgrown => exact hp.elim
    · rintro e W2 ⟨⟨v, rfl⟩, (⟨D2, D, hd, hi, hl, hk⟩ | ⟨c, hi, hl, hk⟩)⟩
      · exact ⟨none, _, by have := run_endLoop (P := P) hl (by rw [hrec]; simp); rw [hrec] at this; exact this, hdone D _ (hIo _ _ _ _ _ _ (by omega) hi hl rfl rfl) ((World.putObj_heap_other (by omega)).trans hk)⟩
      · exact ⟨some c, _, by have := run_endLoop (P := P) hl (by rw [hrec]; simp); rw [hrec] at this; exact this, hstop c _ (hIxo _ _ _ _ _ (by omega) hi hl rfl rfl) ((World.putObj_heap_other (by omega)).trans hk)⟩
end Go.Proofs.YtlmaopljihbdkaaGreat
