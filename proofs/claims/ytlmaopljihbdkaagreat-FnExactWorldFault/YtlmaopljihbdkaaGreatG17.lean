/- Sg Sg2 Cutw Ef0 En3 En6 in one text: what each says stands at its head below. -/
import Derived.Test.YtlmaopljihbdkaaGreatG04
import Derived.RangeFuncNested
import Derived.RangeFuncBound
import Derived.RangeFuncCalls
import Derived.RangeFuncLeaves
import Derived.RangeFuncBox
import Derived.Test.YtlmaopljihbdkaaGreatG12
import Derived.Shelf.Abstract
import Derived.Shelf.RegionOpen
import Derived.WalkKit
import Derived.OwnWalkIn
import Derived.TacticsInMore
import Derived.LoopNIn
import Derived.LoopIn
import Derived.Maps.OwnIn
import Derived.Test.YtlmaopljihbdkaaGreatG01
import Derived.Test.YtlmaopljihbdkaaGreatG07
import Derived.Test.YtlmaopljihbdkaaGreatG09
import Derived.Test.YtlmaopljihbdkaaGreatG16
namespace Go.Proofs.YtlmaopljihbdkaaGreat
open Go.RowKit
structure Ku (D : Nat → Prop) (w w' : World) : Prop where
  os : w'.os = w.os
  tape : w'.tape = w.tape
  output : w'.output = w.output
  size : w.heap.size ≤ w'.heap.size
  block : ∀ k, k < w.heap.size → ¬ D k → w'.heap[k]? = w.heap[k]?
theorem Ku.refl (D : Nat → Prop) (w : World) : Ku D w w := ⟨rfl, rfl, rfl, Nat.le_refl _, fun _ _ _ => rfl⟩
theorem Ku.trans {D : Nat → Prop} {a b c : World} (h : Ku D a b) (k : Ku D b c) : Ku D a c :=
  ⟨k.os.trans h.os, k.tape.trans h.tape, k.output.trans h.output, Nat.le_trans h.size k.size, fun i hi hd => (k.block i (Nat.lt_of_lt_of_le hi h.size) hd).trans (h.block i hi hd)⟩
theorem Ku.mono {D E : Nat → Prop} {a b : World} (h : Ku D a b) (hd : ∀ b, D b → E b) : Ku E a b := ⟨h.os, h.tape, h.output, h.size, fun i hi hn => h.block i hi (fun e => hn (hd i e))⟩
theorem Ku.of_wr {D : Nat → Prop} {a b : World} (h : Wr D a b) : Ku D a b := ⟨h.os, h.tape, h.output, h.size, h.block⟩
theorem Ku.of_below {D : Nat → Prop} {a b : World} (h : Below a.heap.size a b) : Ku D a b := ⟨h.os, h.tape, h.output, h.size, fun i hi _ => h.block i hi⟩
theorem Ku.of_grown {a b : World} {row : Option Nat} (h : a.grownBy b row) : Ku (fun x => row = some x) a b := ⟨h.os, h.tape, h.output, h.size, fun i hi hn => h.block i hi (fun e => hn e.symm)⟩
theorem Ku.cell {D : Nat → Prop} {a b : World} (h : Ku D a b) {k o : Nat} {v : Value} (hc : a.cell? ⟨k, o, none⟩ = some v) (hd : ¬ D k) : b.cell? ⟨k, o, none⟩ = some v := by
  have hk : k < a.heap.size := World.block_lt_of_cell? _ _ hc
  have e := h.block k hk hd
  simp only [World.cell?] at hc ⊢
  rw [e]
  exact hc
theorem Ku.frozen {D : Nat → Prop} {a b : World} (h : Ku D a b) {k o : Nat} (hk : k < a.heap.size) (hd : ¬ D k) : b.frozen? ⟨k, o, none⟩ = a.frozen? ⟨k, o, none⟩ := by
  have e := h.block k hk hd
  simp only [World.frozen?]
  rw [e]
theorem RdI.ku {S D : Nat → Prop} {w w' : World} {v : Value} {xs : List Int} (h : RdI S w v xs) (hw : Ku D w w') (hd : xs ≠ [] → ∀ b, S b → ¬ D b) : RdI S w' v xs := by
  obtain ⟨ao, c, e1, e2, e3⟩ := h
  refine ⟨ao, c, e1, e2, fun hne => ?_⟩
  obtain ⟨b, off, f1, f2, f3⟩ := e3 hne
  exact ⟨b, off, f1, f2, fun t ht => hw.cell (f3 t ht) (hd hne b f2)⟩
theorem RdP.ku {S D : Nat → Prop} {w w' : World} {v : Value} {ps : List (Int × List Int)} (h : RdP S w v ps) (hw : Ku D w w') (hd : ∀ b, S b → ¬ D b) : RdP S w' v ps := by
  obtain ⟨ao, c, e1, e2, e3⟩ := h
  refine ⟨ao, c, e1, e2, fun hne => ?_⟩
  obtain ⟨b, off, V, f1, f2, f3⟩ := e3 hne
  exact ⟨b, off, V, f1, f2, fun t ht => ⟨hw.cell (f3 t ht).1 (hd b f2), hw.cell (f3 t ht).2.1 (hd b f2), (f3 t ht).2.2.ku hw (fun _ => hd)⟩⟩
def encP (x : Int) (v : Value) : Array Value := #[.agg #[.int .i64 x, v]]
def isMark : Obj → Bool
  | .loop _ => true
  | .deferred _ => true
  | _ => false
theorem wr_mark {W : World} {l : Nat} {o o' : Obj} (h : W.heap[l]? = some o) (ho : isMark o = true) (ho' : isMark o' = true) : Wr (fun b => b = l) W (W.putObj l o') := by
  have hl : l < W.heap.size := (Array.getElem?_eq_some_iff.1 h).1
  refine ⟨rfl, rfl, rfl, by simp [World.putObj], fun k _ hk => World.putObj_heap_other hk, fun b q hb => ?_⟩
  by_cases e : b = l
  · subst e
    have h1 := World.putObj_heap_same (w := W) (o := o') hl
    cases o <;> cases o' <;> simp [isMark] at ho ho' <;> simp [World.frozen?, h1, h]
  · have h2 : (W.putObj l o').heap[b]? = W.heap[b]? := World.putObj_heap_other e
    simp [World.frozen?, h2]
def SeqG (m : Nat) (P : Program) (g : Nat) (lb : Array Value) (R : Nat → Prop) (qs : List (Int × List Int)) (w : World) : Prop :=
  ∀ (l : Nat) (J : (Nat → Prop) → Nat → World → Prop) (Jx : World → Prop) (D0 : Nat → Prop) (W : World), Below w.heap.size w W → (∀ b, D0 b → ¬ R b) →
    (∀ D k A B, J D k A → Below A.heap.size A B → J D k B) → (∀ A B, Jx A → Below A.heap.size A B → Jx B) →
    (∀ D k A l' o o', W.heap.size ≤ l' → J D k A → A.heap[l']? = some o → isMark o = true → isMark o' = true → J D k (A.putObj l' o')) → (∀ A l' o o', W.heap.size ≤ l' → Jx A → A.heap[l']? = some o → isMark o = true → isMark o' = true → Jx (A.putObj l' o')) → (∀ D k A, J D k A → ∀ b, D b → b < A.heap.size) →
    (∀ D k x v A B, J D k A → Below A.heap.size A B → k < qs.length → x = (qs.getD k (0, [])).1 → OwI A.heap.size B v (qs.getD k (0, [])).2 →
      YieldAt Fence.wide (m - 1) P l (encP x v) B fun e W' =>
        (e = .returned (.bool true) ∧ ∃ D', J D' (k + 1) W' ∧ Ku D B W' ∧ ∀ b, D' b → D b ∨ B.heap.size ≤ b) ∨ (e = .returned (.bool false) ∧ Jx W' ∧ Ku D B W')) →
    J D0 0 W →
    CallsIn Fence.wide m P g (#[.func (.yield l) #[] #[]] ++ lb) W fun e W' => (∃ v, e = .returned v) ∧ ((∃ D, J D qs.length W') ∨ Jx W')
def gPost (I : (Nat → Prop) → Nat → World → Prop) (Ix : Code → World → Prop) (D : Nat → Prop) (k : Nat) (W : World) : Exit → Act → World → Prop
  | .normal, _, W' => ∃ D', I D' (k + 1) W' ∧ Ku D W W' ∧ ∀ b, D' b → D b ∨ W.heap.size ≤ b
  | .ret, _, W' => Ku D W W' ∧ Ix .ret W'
  | .exit id, _, W' => Ku D W W' ∧ Ix (.exit id) W'
  | .goto t, _, W' => Ku D W W' ∧ Ix (.goto t) W'
  | .panic _, _, _ => False
  | .outgrown, _, _ => False
theorem wr_put {W : World} {l : Nat} {r r' : Loop} (h : W.heap[l]? = some (.loop r)) : Wr (fun b => b = l) W (W.putObj l (.loop r')) := by
  have hl : l < W.heap.size := (Array.getElem?_eq_some_iff.1 h).1
  refine ⟨rfl, rfl, rfl, by simp [World.putObj], fun k _ hk => World.putObj_heap_other hk, fun b o hb => ?_⟩
  by_cases e : b = l
  · subst e
    simp [World.frozen?, World.putObj_heap_same hl, h]
  · have h2 : (W.putObj l (.loop r')).heap[b]? = W.heap[b]? := World.putObj_heap_other e
    simp [World.frozen?, h2]
theorem wr_none {W : World} {l : Nat} {d d' : Option (List Deferred)} (h : W.heap[l]? = some (.deferred d)) : Wr (fun b => b = l) W (W.putObj l (.deferred d')) := by
  have hl : l < W.heap.size := (Array.getElem?_eq_some_iff.1 h).1
  refine ⟨rfl, rfl, rfl, by simp [World.putObj], fun k _ hk => World.putObj_heap_other hk, fun b o hb => ?_⟩
  by_cases e : b = l
  · subst e
    simp [World.frozen?, World.putObj_heap_same hl, h]
  · have h2 : (W.putObj l (.deferred d')).heap[b]? = W.heap[b]? := World.putObj_heap_other e
    simp [World.frozen?, h2]
theorem wpIn_rangeFunc_G {n : Nat} {P : Program} {g : Operand} {ps : Array Tmp} {assign body : Code} {Q : Exit → Act → World → Prop} {a : Act} {w : World} (T : TypeId)
    {gf : Nat} {lb : Array Value} (hg : a.eval g = .func (.func gf) #[] lb) (eg : ∀ args w, (callFunc gf args).run P w = .ok (.enter gf args) w)
    {R : Nat → Prop} {qs : List (Int × List Int)} {w0 : World} (hseq : SeqG (n - 1) P gf lb R qs w0) (hb0 : Below w0.heap.size w0 w) (hps : ps.size = 1)
    (I : (Nat → Prop) → Nat → World → Prop) (Ix : Code → World → Prop) (D0 : Nat → Prop)
    (hI : ∀ D k A B, I D k A → Below A.heap.size A B → I D k B) (hIo : ∀ D k A l' o o', w.heap.size ≤ l' → I D k A → A.heap[l']? = some o → isMark o = true → isMark o' = true → I D k (A.putObj l' o'))
    (hIx : ∀ c A B, Ix c A → Below A.heap.size A B → Ix c B) (hIxo : ∀ c A l' o o', w.heap.size ≤ l' → Ix c A → A.heap[l']? = some o → isMark o = true → isMark o' = true → Ix c (A.putObj l' o'))
    (hD : ∀ D k A, I D k A → ∀ b, D b → b < A.heap.size ∧ b ≠ w.heap.size ∧ b ≠ w.heap.size + 1) (hR : ∀ b, D0 b → ¬ R b) (hRw : ∀ b, R b → b < w.heap.size) (h0 : I D0 0 w)
    (a₁ : Int → Value → Nat → Act)
    (hassign : ∀ (x : Int) (v : Value) (B : World) (K : Act → World → Prop), (∃ ao n c, v = .slice ao n c) → K (a₁ x v B.heap.size) (B.alloc (.cells #[.int .i64 x, v] T)) →
      assign.wpIn (Fence.wide.inRound (w.heap.size + 1)) (n - 1 - 1) P (Exit.then K (fun _ _ _ => False)) { tmps := (ps.zip (encP x v)).foldl (fun t (p, v) => t.setIfInBounds p v) a.tmps, defers := [] } B)
    (hbody : ∀ D k x v A B W, I D k A → Below A.heap.size A B → k < qs.length → x = (qs.getD k (0, [])).1 → OwI A.heap.size B v (qs.getD k (0, [])).2 → Wr (fun b => b = w.heap.size + 1) (B.alloc (.cells #[.int .i64 x, v] T)) W → W.heap.size = B.heap.size + 1 → w.heap.size + 2 ≤ A.heap.size → I D k W → (∃ r r', A.heap[w.heap.size + 1]? = some (.loop r) ∧ W = (B.alloc (.cells #[.int .i64 x, v] T)).putObj (w.heap.size + 1) (.loop r')) →
      body.wpIn (Fence.wide.inRound (w.heap.size + 1)) (n - 1 - 1) P (gPost I Ix D k W) (a₁ x v B.heap.size) W)
    (hdone : ∀ D W, I D qs.length W → W.heap[w.heap.size]? = some (.deferred (some [])) → Q .normal { a with defers := { target := .collected w.heap.size, args := #[] } :: a.defers } W)
    (hstop : ∀ c W, Ix c W → W.heap[w.heap.size]? = some (.deferred (some [])) → c.wpIn Fence.wide n P Q { a with defers := { target := .collected w.heap.size, args := #[] } :: a.defers } W) :
    (Code.rangeFunc g ps assign body).wpIn Fence.wide n P Q a w := by
  refine wpIn_rangeFunc ?_
  intro fn hfn
  rw [show Fence.wide.round = none from rfl]
  obtain ⟨rec, hrec⟩ : ∃ rec : LoopState → Option Code → Loop, rec = fun st pe => { state := st, pending := pe, fn, tmps := a.tmps, params := ps, assign, body, defers := w.heap.size } := ⟨_, rfl⟩
  obtain ⟨W1, hW1⟩ : ∃ W1, (w.alloc (.deferred (some []))).alloc (.loop (rec .ready none)) = W1 := ⟨_, rfl⟩
  have hL1 : W1.heap[w.heap.size + 1]? = some (.loop (rec .ready none)) := by
    rw [← hW1]; have := World.alloc_heap_new (w.alloc (.deferred (some []))) (.loop (rec .ready none)); rwa [World.size_alloc] at this
  have hK1 : W1.heap[w.heap.size]? = some (.deferred (some [])) := by
    rw [← hW1]; exact (Below.heap_alloc _ _ _ (by simp)).trans (World.alloc_heap_new w _)
  have hI1 : I D0 0 W1 := by rw [← hW1]; exact hI _ _ _ _ (hI _ _ _ _ h0 (below_alloc _ _)) (below_alloc _ _)
  have hb1 : Below w0.heap.size w0 W1 := by
    rw [← hW1]; exact hb0.trans ((((Below.refl _ w).alloc (Nat.le_refl _) _).alloc (by simp) _).mono hb0.size)
  refine ⟨w.heap.size + 1, [{ target := .collected w.heap.size, args := #[] }], W1, { target := .fn (.func gf) lb, args := #[.func (.yield (w.heap.size + 1)) #[] #[]] }, W1, gf,
    #[.func (.yield (w.heap.size + 1)) #[] #[]] ++ lb, W1, ?_, ?_, ?_, ?_, fun h => (by simp [Fence.wide] at h), ?_⟩
  · rw [← hW1, hrec]; exact run_enterLoop_outer _ _ _ _ _
  · simp only [resolve, hg]
    simp [go_sem]
  · intro f' hf'; trivial
  · simp [invoke, go_sem, eg]
  · refine (hseq (w.heap.size + 1)
      (fun D2 k W => ∃ D, (∀ b, D2 b ↔ D b ∨ b = w.heap.size + 1) ∧ I D k W ∧ W.heap[w.heap.size + 1]? = some (.loop (rec .ready none)) ∧ W.heap[w.heap.size]? = some (.deferred (some [])))
      (fun W => ∃ c, Ix c W ∧ W.heap[w.heap.size + 1]? = some (.loop (rec .done (some c))) ∧ W.heap[w.heap.size]? = some (.deferred (some [])))
      (fun b => D0 b ∨ b = w.heap.size + 1) W1 hb1 (fun b hb hr => by rcases hb with hb | hb; exact hR b hb hr; have := hRw b hr; omega) ?_ ?_ ?_ ?_ ?_ ?_ ⟨D0, fun _ => Iff.rfl, hI1, hL1, hK1⟩).mono ?_
    · rintro D2 k A B ⟨D, hd, hi, hl, hk⟩ hb
      exact ⟨D, hd, hI _ _ _ _ hi hb, (hb.block _ (Array.getElem?_eq_some_iff.1 hl).1).trans hl, (hb.block _ (Array.getElem?_eq_some_iff.1 hk).1).trans hk⟩
    · rintro A B ⟨c, hi, hl, hk⟩ hb
      exact ⟨c, hIx _ _ _ hi hb, (hb.block _ (Array.getElem?_eq_some_iff.1 hl).1).trans hl, (hb.block _ (Array.getElem?_eq_some_iff.1 hk).1).trans hk⟩
    · rintro D2 k A l' o o' hl' ⟨D, hd, hi, hl, hk⟩ hr ho ho'
      have hsW1 : W1.heap.size = w.heap.size + 2 := by rw [← hW1]; simp
      exact ⟨D, hd, hIo _ _ _ _ _ _ (by omega) hi hr ho ho', (World.putObj_heap_other (by omega)).trans hl, (World.putObj_heap_other (by omega)).trans hk⟩
    · rintro A l' o o' hl' ⟨c, hi, hl, hk⟩ hr ho ho'
      have hsW1 : W1.heap.size = w.heap.size + 2 := by rw [← hW1]; simp
      exact ⟨c, hIxo _ _ _ _ _ (by omega) hi hr ho ho', (World.putObj_heap_other (by omega)).trans hl, (World.putObj_heap_other (by omega)).trans hk⟩
    · rintro D2 k A ⟨D, hd, hi, hl, hk⟩ b hb
      rcases (hd b).1 hb with hb | hb
      · exact (hD _ _ _ hi b hb).1
      · subst hb; exact (Array.getElem?_eq_some_iff.1 hl).1
    · -- one round
      rintro D2 k x v A B ⟨D, hd, hi, hl, hk⟩ hAB hlen hx hv
      have hlA : w.heap.size + 1 < A.heap.size := (Array.getElem?_eq_some_iff.1 hl).1
      have hlB := (hAB.block _ hlA).trans hl
      have hkB := (hAB.block _ (by omega)).trans hk
      have hsAB := hAB.size
      have hy := run_yield (P := P) (args := encP x v) hlB (by rw [hrec]; simp [encP, hps])
      rw [hrec] at hy
      have hvs : ∃ ao n c, v = .slice ao n c := by obtain ⟨a1, c1, e1⟩ := hv.shape; exact ⟨_, _, _, e1⟩
      refine ⟨fn, _, assign, body, hy, roundIn_of_wpIn hfn (hassign x v B _ hvs ?_)⟩
      have hBa : Below B.heap.size B (B.alloc (.cells #[.int .i64 x, v] T)) := below_alloc _ _
      have hla := (hBa.block _ (by omega)).trans hlB
      have hka := (hBa.block _ (by omega)).trans hkB
      refine ⟨_, run_beginRound hla (by rw [hrec]), ?_⟩
      have hwp := wr_put (r' := { rec .ready none with state := .busy }) hla
      obtain ⟨W, hW⟩ : ∃ W, (B.alloc (.cells #[.int .i64 x, v] T)).putObj (w.heap.size + 1) (.loop { rec .ready none with state := .busy }) = W := ⟨_, rfl⟩
      have hl2 : W.heap[w.heap.size + 1]? = some (.loop { rec .ready none with state := .busy }) := by rw [← hW]; exact World.putObj_heap_same (by simp; omega)
      have hk2 : W.heap[w.heap.size]? = some (.deferred (some [])) := by rw [← hW]; exact (World.putObj_heap_other (by omega)).trans hka
      have hsW : W.heap.size = B.heap.size + 1 := by rw [← hW]; simp [World.putObj]
      have hbr : { rec .ready none with state := .busy } = rec .busy none := by rw [hrec]
      rw [hbr] at hl2
      have hwp0 := hwp
      rw [hW] at hwp
      have hi2 : I D k W := by rw [← hW]; exact hIo _ _ _ _ _ _ (by omega) (hI _ _ _ _ (hI _ _ _ _ hi hAB) hBa) hla rfl rfl
      rw [hW]
      refine wpIn_mono (hbody D k x v A B W hi hAB hlen hx hv hwp hsW (by omega) hi2 ⟨_, _, hl, hW.symm⟩) ?_
      have hWB : Ku D2 B W := (Ku.of_below hBa).trans ((Ku.of_wr hwp).mono (fun b hb => (hd b).2 (.inr hb)))
      have fin : ∀ (jump : Option Code) (W3 : World), Ku D W W3 →
          (Instr.endRound (w.heap.size + 1) jump).run P W3 = .ok (.bool jump.isNone) (W3.putObj (w.heap.size + 1) (.loop (rec (if jump.isNone then .ready else .done) jump))) ∧
          Wr (fun b => b = w.heap.size + 1) W3 (W3.putObj (w.heap.size + 1) (.loop (rec (if jump.isNone then .ready else .done) jump))) ∧ (∃ r, W3.heap[w.heap.size + 1]? = some (.loop r)) ∧
          (W3.putObj (w.heap.size + 1) (.loop (rec (if jump.isNone then .ready else .done) jump))).heap[w.heap.size + 1]? = some (.loop (rec (if jump.isNone then .ready else .done) jump)) ∧
          (W3.putObj (w.heap.size + 1) (.loop (rec (if jump.isNone then .ready else .done) jump))).heap[w.heap.size]? = some (.deferred (some [])) := fun jump W3 hw3 => by
        have hn1 : ¬ D (w.heap.size + 1) := fun h => (hD _ _ _ hi _ h).2.2 rfl
        have hn0 : ¬ D w.heap.size := fun h => (hD _ _ _ hi _ h).2.1 rfl
        have hl3 := (hw3.block _ (Array.getElem?_eq_some_iff.1 hl2).1 hn1).trans hl2
        have hk3 := (hw3.block _ (Array.getElem?_eq_some_iff.1 hk2).1 hn0).trans hk2
        have := run_endRound (P := P) jump hl3
        have hh := wr_put (r' := rec (if jump.isNone then .ready else .done) jump) hl3
        rw [hrec] at this hh ⊢
        exact ⟨this, hh, ⟨_, hl3⟩, World.putObj_heap_same (Array.getElem?_eq_some_iff.1 hl3).1, (World.putObj_heap_other (by omega)).trans hk3⟩
      rintro e a3 W3 hp
      cases e with
      | normal =>
        obtain ⟨D', hi3, hw3, hd3⟩ := hp
        obtain ⟨hr, hh, ⟨rr, hrr⟩, hl4, hk4⟩ := fin none W3 hw3
        refine ⟨_, _, hr, .inl ⟨rfl, fun b => D' b ∨ b = w.heap.size + 1, ⟨D', fun _ => Iff.rfl, hIo _ _ _ _ _ _ (by omega) hi3 hrr rfl rfl, hl4, hk4⟩, (hWB.trans (hw3.mono (fun b hb => (hd b).2 (.inl hb)))).trans ((Ku.of_wr hh).mono (fun b hb => (hd b).2 (.inr hb))), fun b hb => ?_⟩⟩
        rcases hb with hb | hb
        · rcases hd3 b hb with h | h
          · exact .inl ((hd b).2 (.inl h))
          · exact .inr (by omega)
        · exact .inl ((hd b).2 (.inr hb))
      | ret =>
        obtain ⟨hw3, hi3⟩ := hp
        obtain ⟨hr, hh, ⟨rr, hrr⟩, hl4, hk4⟩ := fin (some .ret) W3 hw3
        exact ⟨_, _, hr, .inr ⟨rfl, ⟨.ret, hIxo _ _ _ _ _ (by omega) hi3 hrr rfl rfl, hl4, hk4⟩, (hWB.trans (hw3.mono (fun b hb => (hd b).2 (.inl hb)))).trans ((Ku.of_wr hh).mono (fun b hb => (hd b).2 (.inr hb)))⟩⟩
      | exit id =>
        obtain ⟨hw3, hi3⟩ := hp
        obtain ⟨hr, hh, ⟨rr, hrr⟩, hl4, hk4⟩ := fin (some (.exit id)) W3 hw3
        exact ⟨_, _, hr, .inr ⟨rfl, ⟨.exit id, hIxo _ _ _ _ _ (by omega) hi3 hrr rfl rfl, hl4, hk4⟩, (hWB.trans (hw3.mono (fun b hb => (hd b).2 (.inl hb)))).trans ((Ku.of_wr hh).mono (fun b hb => (hd b).2 (.inr hb)))⟩⟩
      | goto t =>
        obtain ⟨hw3, hi3⟩ := hp
        obtain ⟨hr, hh, ⟨rr, hrr⟩, hl4, hk4⟩ := fin (some (.goto t)) W3 hw3
        exact ⟨_, _, hr, .inr ⟨rfl, ⟨.goto t, hIxo _ _ _ _ _ (by omega) hi3 hrr rfl rfl, hl4, hk4⟩, (hWB.trans (hw3.mono (fun b hb => (hd b).2 (.inl hb)))).trans ((Ku.of_wr hh).mono (fun b hb => (hd b).2 (.inr hb)))⟩⟩
      | panic ch => exact hp.elim
      | outgrown => exact hp.elim
    · rintro e W2 ⟨⟨v, rfl⟩, (⟨D2, D, hd, hi, hl, hk⟩ | ⟨c, hi, hl, hk⟩)⟩
      · exact ⟨none, _, by have := run_endLoop (P := P) hl (by rw [hrec]; simp); rw [hrec] at this; exact this, hdone D _ (hIo _ _ _ _ _ _ (by omega) hi hl rfl rfl) ((World.putObj_heap_other (by omega)).trans hk)⟩
      · exact ⟨some c, _, by have := run_endLoop (P := P) hl (by rw [hrec]; simp); rw [hrec] at this; exact this, hstop c _ (hIxo _ _ _ _ _ (by omega) hi hl rfl rfl) ((World.putObj_heap_other (by omega)).trans hk)⟩
end Go.Proofs.YtlmaopljihbdkaaGreat
namespace Go.Proofs.YtlmaopljihbdkaaGreat
open Go.RowKit Go.Shelf
attribute [local go_sem] Oper.semAt_some
theorem Ku.below {D : Nat → Prop} {a b : World} {n : Nat} (h : Ku D a b) (hn : n ≤ a.heap.size) (hd : ∀ b, D b → n ≤ b) : Below n a b := ⟨h.os, h.tape, h.output, h.size, fun k hk => h.block k (by omega) (fun e => by have := hd k e; omega)⟩
theorem Inner.ku {P D : Nat → Prop} {w w' : World} {row : Option Nat} {k : Nat} {V : Nat → Value} {Bk : Nat → Nat} {X : Nat → List Int} (h : Inner P w row k V Bk X) (hw : Ku D w w') (hd : ∀ i, i < k → X i ≠ [] → ¬ D (Bk i)) : Inner P w' row k V Bk X :=
  ⟨fun i hi => (h.rd i hi).ku hw (fun hn b hb => hb ▸ hd i hi hn), fun i hi hn => by
    obtain ⟨h1, h2, h3, h4, h5⟩ := h.own i hi hn
    exact ⟨h1, Nat.lt_of_lt_of_le h2 hw.size, fun o => (hw.frozen h2 (hd i hi hn)).trans (h3 o), h4, h5⟩⟩
theorem ownsRow_ku {D : Nat → Prop} {w w' : World} {B e s : Nat} {v : Value} {n : Nat} {xs : List Value} (h : w.ownsRow B e s v n xs) (hw : Ku D w w') (hd : ∀ r, v.ownBlock = some r → ¬ D r) : w'.ownsRow B e s v n xs := by
  obtain ⟨h1, h2⟩ := h
  refine ⟨h1, ?_⟩
  rcases h2 with h2 | ⟨g, cap, cur, hv, hg, hh, r⟩
  · exact Or.inl h2
  · exact Or.inr ⟨g, cap, cur, hv, hg, by rw [hw.block g (Array.getElem?_eq_some_iff.1 hh).1 (hd g (by rw [hv]; rfl))]; exact hh, r⟩
theorem BuiltP.ku {P D : Nat → Prop} {w w' : World} {v : Value} {k : Nat} {ps : List (Int × List Int)} (h : BuiltP P w v k ps) (hw : Ku D w w') (hd : ∀ b, P b → ¬ D b) : BuiltP P w' v k ps := by
  obtain ⟨V, Bk, h1, h2, h3⟩ := h
  exact ⟨V, Bk, ownsRow_ku h1 hw (fun r hr => hd r (h2 r hr)), h2, h3.ku hw (fun i hi hn => hd _ (h3.own i hi hn).1)⟩
theorem cell_no_loop {A : World} {b o : Nat} {v : Value} {q : Obj} (h : A.cell? ⟨b, o, none⟩ = some v) (hl : A.heap[b]? = some q) (hq : isMark q = true) : False := by
  cases q <;> simp [isMark] at hq <;> simp [World.cell?, hl] at h
theorem RdI.noloop {S : Nat → Prop} {w : World} {v : Value} {xs : List Int} {l : Nat} {q q' : Obj} (h : RdI S w v xs) (hl : w.heap[l]? = some q) (hq : isMark q = true) (hq' : isMark q' = true) : RdI S (w.putObj l q') v xs := by
  obtain ⟨ao, c, e1, e2, e3⟩ := h
  refine ⟨ao, c, e1, e2, fun hne => ?_⟩
  obtain ⟨b, off, f1, f2, f3⟩ := e3 hne
  exact ⟨b, off, f1, f2, fun t ht => (Ku.of_wr (wr_mark hl hq hq')).cell (f3 t ht) (fun e => by subst e; exact cell_no_loop (f3 t ht) hl hq)⟩
theorem BuiltP.noloop {P : Nat → Prop} {w : World} {v : Value} {k : Nat} {ps : List (Int × List Int)} {l : Nat} {q q' : Obj} (h : BuiltP P w v k ps) (hl : w.heap[l]? = some q) (hq : isMark q = true) (hq' : isMark q' = true) : BuiltP P (w.putObj l q') v k ps := by
  obtain ⟨V, Bk, h1, h2, h3⟩ := h
  refine ⟨V, Bk, ownsRow_ku h1 (Ku.of_wr (wr_mark hl hq hq')) (fun g hg e => ?_), h2, h3.ku (Ku.of_wr (wr_mark hl hq hq')) (fun i hi hn e => ?_)⟩
  · subst e
    rcases h1.2 with ⟨rfl, _⟩ | ⟨g', cap, cur, rfl, _, hh, _⟩
    · cases hg
    · have : g' = g := by simpa [Value.ownBlock] using hg
      subst this
      rw [hl] at hh
      cases hh
      cases hq
  · obtain ⟨ao, c, e1, e2, e3⟩ := h3.rd i hi
    obtain ⟨b, off, f1, f2, f3⟩ := e3 hn
    subst f2
    subst e
    exact cell_no_loop (f3 0 (List.length_pos_iff.2 hn)) hl hq
end Go.Proofs.YtlmaopljihbdkaaGreat
namespace Go.Proofs.YtlmaopljihbdkaaGreat
open Go.RowKit
def slA (ao : Option Addr) (c i : Nat) : Option Addr := if c = i then ao else ao.map (fun x => x.add i)
theorem RdI.from {S : Nat → Prop} {w : World} {ao : Option Addr} {n c : Nat} {xs : List Int} (h : RdI S w (.slice ao n c) xs) (i : Nat) (hi : i ≤ n) : RdI S w (.slice (slA ao c i) (n - i) (c - i)) (xs.drop i) := by
  obtain ⟨ao', c', e1, e2, e3⟩ := h
  injection e1 with e1 e4 e5
  subst e1 e4
  have hl : (xs.drop i).length = xs.length - i := by simp
  refine ⟨slA ao c i, c', by rw [hl]; congr 1; omega, by rw [hl]; omega, fun hne => ?_⟩
  have hlt : i < xs.length := by
    have := List.length_pos_iff.2 hne
    rw [hl] at this; omega
  obtain ⟨b, off, f1, f2, f3⟩ := e3 (by rintro rfl; simp at hlt)
  refine ⟨b, off + i, ?_, f2, fun j hj => ?_⟩
  · unfold slA
    rw [if_neg (by omega), f1]
    simp [Addr.add_lit]
  · rw [hl] at hj
    rw [Nat.add_assoc, f3 (i + j) (by omega)]
    congr 2
    simp [List.getD, List.getElem?_drop]
theorem RdI.upto {S : Nat → Prop} {w : World} {ao : Option Addr} {n c : Nat} {xs : List Int} (h : RdI S w (.slice ao n c) xs) (m : Nat) (hm : m ≤ n) : RdI S w (.slice ao m c) (xs.take m) := by
  obtain ⟨ao', c', e1, e2, e3⟩ := h
  injection e1 with e1 e4 e5
  subst e1 e4
  have hl : (xs.take m).length = m := by simp; omega
  refine ⟨ao, c' + (xs.length - m), by rw [hl]; congr 1; omega, by rw [hl]; omega, fun hne => ?_⟩
  obtain ⟨b, off, f1, f2, f3⟩ := e3 (by rintro rfl; simp at hne)
  refine ⟨b, off, f1, f2, fun j hj => ?_⟩
  rw [hl] at hj
  rw [f3 j (by omega)]
  congr 2
  simp [List.getD, hj]
end Go.Proofs.YtlmaopljihbdkaaGreat
namespace Go.Proofs.YtlmaopljihbdkaaGreat
open Go.RowKit
def capE : Value → Prop
  | .slice _ n c => n ≤ c
  | _ => True
theorem OwJ.capE {S : Nat → Prop} {w : World} {v : Value} {ts : List Oj} (h : OwJ S w v ts) : capE v := by
  obtain ⟨ao, c, rfl, hc⟩ := h.caps
  exact hc
theorem IvR.capE {lo hi : Nat} {w : World} {y z : Value} {xs : List Int} {ps : List Oj} (h : IvR lo hi w y z xs ps) : capE z := by
  obtain ⟨b, S, _, _, _, _, h5⟩ := h
  exact h5.capE
end Go.Proofs.YtlmaopljihbdkaaGreat
namespace Go.Proofs.YtlmaopljihbdkaaGreat
open Go.RowKit
def pkE (p : Oj) : List Int := [p.1, p.2.1, (p.2.2.length : Int)] ++ p.2.2
def peR (p : Oj) : List Int := if entF p = 0 then pkE p else []
set_option maxHeartbeats 4000000 in
set_option maxRecDepth 4000 in
theorem implPackEntry {S : Nat → Prop} {w : World} {y : Value} {xs : List Int} (a t : Int) (hy : RdI S w y xs) :
    Calls Tryz.prog 136 #[.agg #[.int .i64 a, .int .i64 t, y]] w (EndsI (entF (a, t, xs)) (peR (a, t, xs)) w) := by
  obtain ⟨ay, cy, rfl⟩ := hy.shape
  have HY := hide hy
  obtain ⟨n, hn⟩ : ∃ n, xs.length = n := ⟨_, rfl⟩
  have HN := hide hn
  rw [hn] at HY ⊢
  clear hy hn
  unfold peR
  obtain ⟨z, hz⟩ : ∃ z, entF (a, t, xs) = z := ⟨_, rfl⟩
  have HZ := hide hz
  rw [hz]
  clear hz
  have bA := hide (below_on (below_alloc w (.cells #[.int .i64 a, .int .i64 t, .slice ay n cy] 110)) (below_alloc _ (.cells #[.int .i64 0, .slice none 0 0] 166)))
  have HC := hide (implEntryFault a t (HY.out.later bA.out))
  rw [HZ.out] at HC
  by_cases h0 : z = 0
  · subst h0
    rw [if_pos rfl]
    have hn6 : n ≤ 6 := by have := (entF_zero HZ.out).2.1; dsimp only at this; rw [HN.out] at this; exact this
    obtain ⟨i0, hi, hz0, hz1, hz2⟩ := info_parts Tryz.infoInt
    have HPk : Hid (pkE (a, t, xs) = [a, t, (n : Int)] ++ xs) := by rw [Hid]; unfold pkE; dsimp only; rw [HN.out]
    go_enter Tryz.func136, Tryz.ntmps136
    go_wp2_with fail
    refine HC.out.mono ?_
    rintro e w1 ⟨rfl, hb⟩
    have B1 := hide (below_on bA.out hb)
    obtain ⟨c0, c1, c2⟩ := ((Var3_new w (.int .i64 a) (.int .i64 t) (.slice ay n cy) 110).later (below_alloc _ (.cells #[.int .i64 0, .slice none 0 0] 166))).later hb
    have r0 : w1.cell? ⟨w.heap.size + 1, 0, none⟩ = some (.int .i64 0) := cell_later hb (by simp [go_sem])
    have r1 : w1.cell? ⟨w.heap.size + 1, 1, none⟩ = some (.slice none 0 0) := cell_later hb (by simp [go_sem])
    have f0 : w1.frozen? ⟨w.heap.size + 1, 0, none⟩ = false := ((bcell hb).2 _ _ (by simp)).trans (by simp [go_sem])
    have f1 : w1.frozen? ⟨w.heap.size + 1, 1, none⟩ = false := ((bcell hb).2 _ _ (by simp)).trans (by simp [go_sem])
    have hz1' : w.heap.size + 1 < w1.heap.size := World.block_lt_of_cell? _ _ r0
    have hz0' : w.heap.size < w1.heap.size := by omega
    clear hb HC bA
    have HRow : Hid ((w1.alloc (.cells #[.int .i64 a, .int .i64 t, .int .i64 (n : Int)] 2)).ownsRow w1.heap.size 2 1 (.slice (some ⟨w1.heap.size, 0, none⟩) 3 3) 3 ([a, t, (n : Int)].map (Value.int .i64))) :=
      ownsRow_fullF w1 [.int .i64 a, .int .i64 t, .int .i64 (n : Int)] 2 (by simp)
    have bB := below_alloc w1 (.cells #[.int .i64 a, .int .i64 t, .int .i64 (n : Int)] 2)
    have HS : Hid (n ≠ 0 → ∃ ad, ay = some ad ∧ ∀ j u, (xs.map (Value.int .i64))[j]? = some u → (w1.alloc (.cells #[.int .i64 a, .int .i64 t, .int .i64 (n : Int)] 2)).cell? (ad.add j) = some u) := by
      obtain ⟨a4, c4, e4, hsrc⟩ := (HY.out.later (below_on B1.out bB)).src
      injection e4 with e5 _ e6
      subst e5
      rw [HN.out] at hsrc
      exact hsrc
    have BB := hide bB
    clear bB
    have HPre : Hid (∀ (w5 : World), (w1.alloc (.cells #[.int .i64 a, .int .i64 t, .int .i64 (n : Int)] 2)).grownBy w5 (Value.ownBlock (.slice (some ⟨w1.heap.size, 0, none⟩) 3 3)) → Below w1.heap.size w1 w5 ∧ w5.cell? ⟨w.heap.size + 1, 0, none⟩ = some (.int .i64 0) ∧ w5.cell? ⟨w.heap.size + 1, 1, none⟩ = some (.slice none 0 0) ∧ w5.frozen? ⟨w.heap.size + 1, 0, none⟩ = false ∧ w5.frozen? ⟨w.heap.size + 1, 1, none⟩ = false) := by
      intro w5 hgrow
      have hB5 := BB.out.grown hgrow (by simp) (fun r hr => (HRow.out.lt r hr).1)
      exact ⟨hB5, cell_later hB5 r0, cell_later hB5 r1, ((bcell hB5).2 _ _ hz1').trans f0, ((bcell hB5).2 _ _ hz1').trans f1⟩
    go_wp2_with (at_builtin; refine wpList_append_any _ rfl _ _ 22 rfl w1.heap.size 2 i0 (.int .i64 0) 1 8 Tryz.underlying22 hi hz0 hz1 hz2 rfl (by decide) _ 3 _ (by rfl) HRow.out ay n cy (xs.map (Value.int .i64)) (by rfl) (by simp [HN.out]) HS.out (ints_oneCell _ _) (by unfold maxLen; omega) (by omega) (by simp) ?_; intro v' w5 hown hgrow; obtain ⟨az, cz, hv'⟩ := owns_shapeR hown; subst hv'; obtain ⟨hB5, e0, e1, F0, F1⟩ := HPre.out _ hgrow; have HO := hide hown; have HB5 := hide hB5; clear hown hgrow hB5)
    have HFn := hide (ret_ints (x := .int .i64 0) (below_on B1.out HB5.out) (Nat.le_succ w.heap.size) (ow_of_owns (n := 3 + n) (xs := [a, t, (n : Int)] ++ xs) (by simp [HN.out]; omega) (by rw [List.map_append]; exact HO.out) (by simp [HN.out]; omega)) hz1')
    rw [HPk.out]
    refine bodyPost_ret (v := .agg #[.int .i64 0, .slice az (3 + n) cz]) (by simp [results, Tryz.results136, go_sem, e0, e1]) rfl ⟨_, rfl, HFn.out.1, HFn.out.2⟩
  · rw [if_neg h0]
    have h0b : (z == 0) = false := by simpa using h0
    go_enter Tryz.func136, Tryz.ntmps136
    go_wp2_with fail
    refine HC.out.mono ?_
    rintro e w1 ⟨rfl, hb⟩
    have B1 := hide (below_on bA.out hb)
    have r0 : w1.cell? ⟨w.heap.size + 1, 0, none⟩ = some (.int .i64 0) := cell_later hb (by simp [go_sem])
    have r1 : w1.cell? ⟨w.heap.size + 1, 1, none⟩ = some (.slice none 0 0) := cell_later hb (by simp [go_sem])
    have f0 : w1.frozen? ⟨w.heap.size + 1, 0, none⟩ = false := ((bcell hb).2 _ _ (by simp)).trans (by simp [go_sem])
    have f1 : w1.frozen? ⟨w.heap.size + 1, 1, none⟩ = false := ((bcell hb).2 _ _ (by simp)).trans (by simp [go_sem])
    clear hb
    go_wp2
    refine bodyPost_ret (v := .agg #[.int .i64 z, .slice none 0 0]) (by simp [results, Tryz.results136, go_sem, r0, r1]) rfl ⟨_, rfl, (B1.out.setCell (Nat.le_succ _) _).setCell (Nat.le_succ _) _, OwI_nil _ _⟩
set_option maxHeartbeats 4000000 in
set_option maxRecDepth 4000 in
theorem l9Pack {S : Nat → Prop} {w : World} {b off : Nat} {p : Oj} (hp : RdFp S w b off p) (hm : p.2.2.length ≤ 1048576) :
    Calls Tryz.prog 71 #[.pointer (some ⟨b, off, none⟩)] w fun e w' => ∃ z, e = .returned z ∧ Below w.heap.size w w' ∧ w'.ownsRow w.heap.size 2 1 z (3 + p.2.2.length) ((pkE p).map (Value.int .i64)) := by
  obtain ⟨y, g0, g1, g2, hy⟩ := hp
  obtain ⟨a, t, xs⟩ := p
  dsimp only at g0 g1 hy hm ⊢
  obtain ⟨ay, cy, rfl⟩ := hy.shape
  have HY := hide hy
  obtain ⟨n, hn⟩ : ∃ n, xs.length = n := ⟨_, rfl⟩
  have HN := hide hn
  rw [hn] at HY hm g2 ⊢
  clear hy hn
  obtain ⟨i0, hi, hz0, hz1, hz2⟩ := info_parts Tryz.infoInt
  have HPk : Hid (pkE (a, t, xs) = [a, t, (n : Int)] ++ xs) := by rw [Hid]; unfold pkE; dsimp only; rw [HN.out]
  rw [HPk.out]
  have HRow : Hid ((w.drew.alloc (.cells #[.int .i64 a, .int .i64 t, .int .i64 (n : Int)] 2)).ownsRow w.heap.size 2 1 (.slice (some ⟨w.heap.size, 0, none⟩) 3 3) 3 ([a, t, (n : Int)].map (Value.int .i64))) :=
    ownsRow_fullF w.drew [.int .i64 a, .int .i64 t, .int .i64 (n : Int)] 2 (by simp)
  have bB := below_on (below_drewN w 1) (below_alloc (w.drewN 1) (.cells #[.int .i64 a, .int .i64 t, .int .i64 (n : Int)] 2))
  have HS : Hid (n ≠ 0 → ∃ ad, ay = some ad ∧ ∀ j u, (xs.map (Value.int .i64))[j]? = some u → (w.drew.alloc (.cells #[.int .i64 a, .int .i64 t, .int .i64 (n : Int)] 2)).cell? (ad.add j) = some u) := by
    obtain ⟨a4, c4, e4, hsrc⟩ := (HY.out.later bB).src
    injection e4 with e5 _ e6
    subst e5
    rw [HN.out] at hsrc
    exact hsrc
  have BB := hide bB
  have hbl : b < w.heap.size := World.block_lt_of_cell? _ _ g0
  clear bB
  go_enter Tryz.func71, Tryz.ntmps71
  go_wp2_with fail
  go_region_law (refine step_append_fi _ (by rfl) _ _ _ (by rfl) w.heap.size 2 i0 (.int .i64 0) 1 8 Tryz.underlying22 hi hz0 hz1 hz2 rfl (by decide) (.slice (some ⟨w.heap.size, 0, none⟩) 3 3) 3 _ (by rfl) HRow.out ay n cy (xs.map (Value.int .i64)) (by rfl) (by simp [HN.out]) HS.out (ints_oneCell _ _) (by unfold maxLen; omega) (by omega) (by simp) ?_; intro v' w5 hown hgrow)
  all_goals
    have hB5 := BB.out.grown hgrow (by simp) (fun r hr => (HRow.out.lt r hr).1)
    have HB5 := hide hB5
    have HO : Hid (w5.ownsRow w.heap.size 2 1 v' (3 + n) (([a, t, (n : Int)] ++ xs).map (Value.int .i64))) := by rw [Hid, List.map_append]; exact hown
    clear hown hgrow hB5
    go_wp2
    go_ret
    exact ⟨_, rfl, HB5.out, HO.out⟩
end Go.Proofs.YtlmaopljihbdkaaGreat
namespace Go.Proofs.YtlmaopljihbdkaaGreat
open Go.RowKit
def sfC (i : Int) : Int := if 1 ≤ i ∧ i ≤ 9999 then 0 else 3
def sfV (i : Int) : Int := if 1 ≤ i ∧ i ≤ 9999 then 24 + i % 14 else 0
theorem sf_mod {i : Int} (h : 1 ≤ i) : Int.tmod i 14 = i % 14 := Int.tmod_eq_emod_of_nonneg (by omega)
set_option maxRecDepth 4000 in
theorem implSlotFor (i : Int) (w : World) :
    Calls Tryz.prog 99 #[.int .i64 i] w fun e w' => e = .returned (.agg #[.int .i64 (sfC i), .int .i64 (sfV i)]) ∧ Below w.heap.size w w' := by
  unfold sfC sfV
  have A0 := hide (below_alloc w (.cells #[.int .i64 0, .int .i64 0] 142))
  by_cases h : 1 ≤ i ∧ i ≤ 9999
  · rw [if_pos h, if_pos h]
    have HI := hide h
    have hm := sf_mod h.1
    have hr : 0 ≤ i % 14 ∧ i % 14 < 14 := ⟨Int.emod_nonneg _ (by decide), Int.emod_lt_of_pos _ (by decide)⟩
    generalize i % 14 = r at hm hr ⊢
    clear h
    go_enter Tryz.func99, Tryz.ntmps99
    go_wp2_with fail
    refine (isIndexY i HI.out.1 HI.out.2 _).mono ?_
    rintro e w1 ⟨rfl, hw⟩
    have hw := hw.symm
    subst hw
    go_wp2
    refine bodyPost_ret (v := .agg #[.int .i64 0, .int .i64 (24 + r)]) (by simp [results, Tryz.results99, go_sem]) rfl ⟨rfl, ?_⟩
    repeat (first | exact A0.out | exact below_alloc _ _ | refine Below.setCell ?_ (by first | (simp; done) | (simp; omega) | omega) _)
  · rw [if_neg h, if_neg h]
    have HI := hide h
    clear h
    go_enter Tryz.func99, Tryz.ntmps99
    go_wp2_with fail
    refine (isIndexN i HI.out _).mono ?_
    rintro e w1 ⟨rfl, hw⟩
    have hw := hw.symm
    subst hw
    go_wp2
    refine bodyPost_ret (v := .agg #[.int .i64 3, .int .i64 0]) (by simp [results, Tryz.results99, go_sem]) rfl ⟨rfl, ?_⟩
    repeat (first | exact A0.out | exact below_alloc _ _ | refine Below.setCell ?_ (by first | (simp; done) | (simp; omega) | omega) _)
theorem l9Slot (i : Int) (h : 1 ≤ i) (w : World) : Calls Tryz.prog 70 #[.int .i64 i] w fun e w' => e = .returned (.int .i64 (24 + i % 14)) ∧ w' = w := by
  have hm := sf_mod h
  have hr : 0 ≤ i % 14 ∧ i % 14 < 14 := ⟨Int.emod_nonneg _ (by decide), Int.emod_lt_of_pos _ (by decide)⟩
  generalize i % 14 = r at hm hr ⊢
  go_enter Tryz.func70, Tryz.ntmps70
  go_wp2
  go_ret
  exact ⟨by go_num, rfl⟩
end Go.Proofs.YtlmaopljihbdkaaGreat
