/- Chapter 6, the program's side: who has what, as a map of maps with structs as keys: '(heldLocks).put', 'heldIn', walked. -/
import Derived.Test.YtkpkoapcmnapoabLk3
import Derived.Maps.OwnOps
import Derived.Maps.OwnSet
import Derived.Maps.Views
import Derived.Maps.RangeWalk
import Derived.DeepKeys4
namespace Go.Proofs.Ytkpkoapcmnapoab
open Go.RowKit Go.Maps

/-- What a struct of one number reads as, where it is a key. -/
def kS (x : Int) : Lit := .string (keyBytes [.int .i64 x])
theorem Try.laid6 : laidOutB Try.prog = true := by kernel_rfl
theorem lawH : Keyed Try.prog 54 := Keyed.of_law (deep_law_laid (m := 3) Try.laid6 (by decide) (of_decide_eq_true (by kernel_rfl)) (by kernel_rfl) (by kernel_rfl))
theorem lawL : Keyed Try.prog 63 := Keyed.of_law (deep_law_laid (m := 3) Try.laid6 (by decide) (of_decide_eq_true (by kernel_rfl)) (by kernel_rfl) (by kernel_rfl))
theorem Try.many6 : ∃ m, Try.prog.types.size = m + 1 := by
  have h : 0 < Try.prog.types.size := of_decide_eq_true (by kernel_rfl)
  exact ⟨Try.prog.types.size - 1, by omega⟩
theorem keyH {x : Int} (hw : (Lit.int .i64 x).wf = true) : keyOf Try.prog 54 (.agg #[.int .i64 x]) = some (kS x) := by
  obtain ⟨m, hm⟩ := Try.many6
  have hkt : Try.prog.keyType 54 = true := by kernel_rfl
  have hc : Try.prog.cellsOf 54 = 1 := by kernel_rfl
  have hi : Try.prog.cellsOf 2 = 1 := by kernel_rfl
  unfold keyOf
  simp only [Try.underlying54]
  rw [if_pos (by simp [hkt, Value.formed, Try.underlying54, hc]), hm]
  unfold Program.keyLits
  simp only [Try.underlying54, Value.cells]
  rw [if_pos (by rw [hc]; exact ⟨rfl, by simp⟩)]
  simp [Program.keyLits, hi, Try.underlying2, hw, kS]
theorem keyL {x : Int} (hw : (Lit.int .i64 x).wf = true) : keyOf Try.prog 63 (.agg #[.int .i64 x]) = some (kS x) := by
  obtain ⟨m, hm⟩ := Try.many6
  have hkt : Try.prog.keyType 63 = true := by kernel_rfl
  have hc : Try.prog.cellsOf 63 = 1 := by kernel_rfl
  have hi : Try.prog.cellsOf 2 = 1 := by kernel_rfl
  unfold keyOf
  simp only [Try.underlying63]
  rw [if_pos (by simp [hkt, Value.formed, Try.underlying63, hc]), hm]
  unfold Program.keyLits
  simp only [Try.underlying63, Value.cells]
  rw [if_pos (by rw [hc]; exact ⟨rfl, by simp⟩)]
  simp [Program.keyLits, hi, Try.underlying2, hw, kS]
theorem one_cell {P : Program} {m : Nat} {xs : List Value} {L : List Lit} {t : TypeId} (ht : P.underlying t = some (.int .i64)) (hx : xs.length = 1) (h : P.keyLits (m + 1) t (xs.take 1) = some L) : ∃ x, xs = [.int .i64 x] ∧ (Lit.int .i64 x).wf = true ∧ L = [.int .i64 x] := by
  match xs, hx with
  | [v], _ =>
    unfold Program.keyLits at h
    simp only [ht] at h
    cases v <;> simp at h
    obtain ⟨⟨rfl, h2⟩, rfl⟩ := h
    exact ⟨_, rfl, h2, rfl⟩
theorem keyH_inv {v : Value} {l : Lit} (h : keyOf Try.prog 54 v = some l) : ∃ x, v = .agg #[.int .i64 x] ∧ (Lit.int .i64 x).wf = true ∧ l = kS x := by
  obtain ⟨m, hm⟩ := Try.many6
  have hc : Try.prog.cellsOf 54 = 1 := by kernel_rfl
  have hi : Try.prog.cellsOf 2 = 1 := by kernel_rfl
  have hu2 := Try.underlying2
  obtain ⟨xs, L, rfl, h1, rfl⟩ := keyOf_top (by rw [Try.underlying54]) h
  rw [hm] at h1
  unfold Program.keyLits at h1
  simp only [Try.underlying54] at h1
  split at h1
  · rename_i hl
    rw [hc] at hl
    simp [hi] at h1
    obtain ⟨L', hk1, hL⟩ := Option.bind_eq_some_iff.1 h1
    clear h1 h
    obtain rfl : L' = L := by simpa using hL
    obtain ⟨x, e1, e2, e3⟩ := one_cell (m := m) hu2 hl.1 hk1
    refine ⟨x, ?_, e2, ?_⟩
    · exact congrArg Value.agg (Array.ext' e1)
    · rw [e3]; rfl
  · cases h1
theorem keyL_inv {v : Value} {l : Lit} (h : keyOf Try.prog 63 v = some l) : ∃ x, v = .agg #[.int .i64 x] ∧ (Lit.int .i64 x).wf = true ∧ l = kS x := by
  obtain ⟨m, hm⟩ := Try.many6
  have hc : Try.prog.cellsOf 63 = 1 := by kernel_rfl
  have hi : Try.prog.cellsOf 2 = 1 := by kernel_rfl
  have hu2 := Try.underlying2
  obtain ⟨xs, L, rfl, h1, rfl⟩ := keyOf_top (by rw [Try.underlying63]) h
  rw [hm] at h1
  unfold Program.keyLits at h1
  simp only [Try.underlying63] at h1
  split at h1
  · rename_i hl
    rw [hc] at hl
    simp [hi] at h1
    obtain ⟨L', hk1, hL⟩ := Option.bind_eq_some_iff.1 h1
    clear h1 h
    obtain rfl : L' = L := by simpa using hL
    obtain ⟨x, e1, e2, e3⟩ := one_cell (m := m) hu2 hl.1 hk1
    refine ⟨x, ?_, e2, ?_⟩
    · exact congrArg Value.agg (Array.ext' e1)
    · rw [e3]; rfl
  · cases h1
theorem kS_inj {x y : Int} (hx : (Lit.int .i64 x).wf = true) (hy : (Lit.int .i64 y).wf = true) (h : kS x = kS y) : x = y := by
  have := lawH.inj (keyH hx) (by rw [h]; exact keyH hy)
  injection this with e
  injection e with e
  injection e with e
  injection e
theorem kS_key (x : Int) : WideAt.IsKeyLit (kS x) := by trivial

/-- An element of a map, as it stands. -/
def asV (v : Value) : Option (DataW Value × List MemPlace) := some (.held v, [])
theorem zeroSet (w : World) : (zeroValue 52).run Try.prog w = .ok (.map none) w := by kernel_rfl
theorem zeroOwner (w : World) : (zeroValue 40).run Try.prog w = .ok (.agg #[.int .i64 0, .int .i64 0]) w := by kernel_rfl
def wfI (x : Int) : Prop := (Lit.int .i64 x).wf = true
theorem wfI_of {x : Int} (h1 : -9223372036854775808 ≤ x) (h2 : x ≤ 9223372036854775807) : wfI x := WalkArith.wf_i64 (by omega)

/-- Block b is a map of the locks at which p holds, each with its owner t. -/
def LocksD (w : World) (b n : Nat) (t : Int) (p : Int → Prop) (D : DataW Value) : Prop :=
  w.ownsMap Try.prog 63 asV b n D ∧ (∀ a, wfI a → (Maps.has D (kS a) = true ↔ p a)) ∧ ∀ a, p a → ∀ z, D.atKey (kS a) z = .held (.agg #[.int .i64 a, .int .i64 t])
def LocksAt (w : World) (b n : Nat) (t : Int) (p : Int → Prop) : Prop := ∃ D, LocksD w b n t p D
/-- Block h is a map of maps: at each of K the locks that f gives it. -/
structure HeldD (w : World) (base h n : Nat) (f : Int → Int) (K : Int → Prop) (D : DataW Value) (B : Int → Nat) : Prop where
  own : w.ownsMap Try.prog 54 asV h n D
  has : ∀ t, wfI t → (Maps.has D (kS t) = true ↔ K t)
  at_ : ∀ t, K t → ∀ z, D.atKey (kS t) z = .held (.map (some (B t)))
  locks : ∀ t, K t → B t ≠ h ∧ base ≤ B t ∧ LocksAt w (B t) n t (fun a => f a = t)
  apart : ∀ t t', K t → K t' → B t = B t' → t = t'
  txn : ∀ t, K t → 0 < t ∧ t ≤ 99
  low : base ≤ h
  some_ : ∀ a, f a ≠ 0 → K (f a) ∧ 0 ≤ a ∧ a < 40
def HeldAt (w : World) (base h n : Nat) (f : Int → Int) (K : Int → Prop) : Prop := ∃ D B, HeldD w base h n f K D B

theorem LocksAt.kept {w w' : World} {b n : Nat} {t : Int} {p : Int → Prop} {row : Option Nat} (h : LocksAt w b n t p) (hg : w.grownBy w' row) (hr : some b ≠ row) : LocksAt w' b n t p := by
  obtain ⟨D, h1, h2, h3⟩ := h
  exact ⟨D, h1.kept hg hr, h2, h3⟩
theorem LocksAt.lt {w : World} {b n : Nat} {t : Int} {p : Int → Prop} (h : LocksAt w b n t p) : b < w.heap.size := by
  obtain ⟨D, h1, _⟩ := h
  exact h1.lt
theorem LocksAt.mono {w : World} {b n n' : Nat} {t : Int} {p : Int → Prop} (h : LocksAt w b n t p) (hn : n ≤ n') : LocksAt w b n' t p := by
  obtain ⟨D, h1, h2, h3⟩ := h
  exact ⟨D, h1.mono hn, h2, h3⟩
theorem LocksAt.congr {w : World} {b n : Nat} {t : Int} {p p' : Int → Prop} (h : LocksAt w b n t p) (hp : ∀ a, p a ↔ p' a) : LocksAt w b n t p' := by
  obtain ⟨D, h1, h2, h3⟩ := h
  exact ⟨D, h1, fun a ha => (h2 a ha).trans (hp a), fun a ha => h3 a ((hp a).2 ha)⟩
theorem HeldD.kept {w w' : World} {base h n : Nat} {f : Int → Int} {K : Int → Prop} {D : DataW Value} {B : Int → Nat} {row : Option Nat} (H : HeldD w base h n f K D B) (hg : w.grownBy w' row) (hr : ∀ r, row = some r → w.heap.size ≤ r ∨ r < base) : HeldD w' base h n f K D B := by
  have hne : ∀ b, b < w.heap.size → base ≤ b → some b ≠ row := fun b hb hl e => by
    rcases hr b e.symm with h | h <;> omega
  exact ⟨H.own.kept hg (hne _ H.own.lt H.low), H.has, H.at_, fun t ht => ⟨(H.locks t ht).1, (H.locks t ht).2.1, (H.locks t ht).2.2.kept hg (hne _ (H.locks t ht).2.2.lt (H.locks t ht).2.1)⟩, H.apart, H.txn, H.low, H.some_⟩
theorem grown_belowW {w w' : World} {row : Option Nat} (hb : Below w.heap.size w w') : w.grownBy w' row := ⟨hb.os, hb.tape, hb.output, hb.size, fun b h _ => hb.block b h⟩
theorem HeldD.later {w w' : World} {base h n : Nat} {f : Int → Int} {K : Int → Prop} {D : DataW Value} {B : Int → Nat} (H : HeldD w base h n f K D B) (hb : Below w.heap.size w w') : HeldD w' base h n f K D B :=
  H.kept (grown_belowW (row := none) hb) (by intro r hr; cases hr)
theorem HeldD.mono {w : World} {base h n n' : Nat} {f : Int → Int} {K : Int → Prop} {D : DataW Value} {B : Int → Nat} (H : HeldD w base h n f K D B) (hn : n ≤ n') : HeldD w base h n' f K D B :=
  ⟨H.own.mono hn, H.has, H.at_, fun t ht => ⟨(H.locks t ht).1, (H.locks t ht).2.1, (H.locks t ht).2.2.mono hn⟩, H.apart, H.txn, H.low, H.some_⟩

/-- A new holder with an empty map of locks. -/
theorem HeldD.fresh {w w' : World} {base h n B' : Nat} {f : Int → Int} {K : Int → Prop} {D : DataW Value} {B : Int → Nat} {t : Int} (H : HeldD w base h n f K D B) (ht : 0 < t ∧ t ≤ 99) (hK : ¬ K t)
    (hB : base ≤ B') (hBh : B' ≠ h) (hBn : ∀ t, K t → B t ≠ B') (hm : w.ownsMap Try.prog 63 asV B' 0 (.map []))
    (hown : w'.ownsMap Try.prog 54 asV h (n + 1) (D.put (kS t) (.held (.map (some B'))))) (hg : w.grownBy w' (some h)) :
    HeldD w' base h (n + 1) f (fun x => K x ∨ x = t) (D.put (kS t) (.held (.map (some B')))) (fun x => if x = t then B' else B x) := by
  have wt : wfI t := wfI_of (by omega) (by omega)
  have nf : ∀ a, f a ≠ t := fun a e => hK (e ▸ (H.some_ a (by omega)).1)
  have kept : ∀ b m u p, LocksAt w b m u p → b ≠ h → LocksAt w' b m u p := fun b m u p hl hb => hl.kept hg (fun e => hb (Option.some.inj e))
  refine ⟨hown, fun x hx => ?_, fun x hx z => ?_, fun x hx => ?_, fun x y hx hy e => ?_, fun x hx => ?_, H.low, fun a ha => ⟨Or.inl (H.some_ a ha).1, (H.some_ a ha).2⟩⟩
  · by_cases e : x = t
    · subst e
      exact ⟨fun _ => Or.inr rfl, fun _ => has_put_same H.own.isMap (kS_key x) _⟩
    · rw [has_put_other (fun h => e (kS_inj hx wt h)), H.has x hx]
      exact ⟨Or.inl, fun h => h.resolve_right e⟩
  · by_cases e : x = t
    · subst e
      simp only [if_true]
      exact atKey_put_same H.own.isMap (kS_key x) _ _
    · have hk := hx.resolve_right e
      simp only [if_neg e]
      rw [atKey_put_other (fun h => e (kS_inj (wfI_of (by have := H.txn x hk; omega) (by have := H.txn x hk; omega)) wt h)), H.at_ x hk]
  · by_cases e : x = t
    · subst e
      simp only [if_true]
      exact ⟨hBh, hB, (kept _ _ _ _ ⟨_, hm, fun a _ => ⟨fun h => absurd h (by simp [has_eq]), fun h => absurd h (nf a)⟩, fun a ha => absurd ha (nf a)⟩ hBh).mono (by omega)⟩
    · have hk := hx.resolve_right e
      simp only [if_neg e]
      exact ⟨(H.locks x hk).1, (H.locks x hk).2.1, (kept _ _ _ _ (H.locks x hk).2.2 (H.locks x hk).1).mono (by omega)⟩
  · by_cases e1 : x = t
    · by_cases e2 : y = t
      · rw [e1, e2]
      · simp only [if_pos e1, if_neg e2] at e
        exact absurd e.symm (hBn y (hy.resolve_right e2))
    · by_cases e2 : y = t
      · simp only [if_neg e1, if_pos e2] at e
        exact absurd e (hBn x (hx.resolve_right e1))
      · simp only [if_neg e1, if_neg e2] at e
        exact H.apart x y (hx.resolve_right e1) (hy.resolve_right e2) e
  · rcases hx with hx | rfl
    · exact H.txn x hx
    · exact ht
/-- One lock more. -/
def updO (f : Int → Int) (a t : Int) : Int → Int := fun x => if x = a then t else f x
theorem HeldD.put {w w' : World} {base h n : Nat} {f : Int → Int} {K : Int → Prop} {D D2 : DataW Value} {B : Int → Nat} {t a : Int} (H : HeldD w base h n f K D B) (hK : K t) (ha : 0 ≤ a ∧ a < 40) (hf : f a = 0 ∨ f a = t)
    (h2 : LocksD w (B t) n t (fun a => f a = t) D2) (hown : w'.ownsMap Try.prog 63 asV (B t) (n + 1) (D2.put (kS a) (.held (.agg #[.int .i64 a, .int .i64 t])))) (hg : w.grownBy w' (some (B t))) :
    HeldD w' base h (n + 1) (updO f a t) K D B := by
  have ht := H.txn t hK
  have wa : wfI a := wfI_of (by omega) (by omega)
  refine ⟨(H.own.kept hg (fun e => (H.locks t hK).1 (Option.some.inj e).symm)).mono (by omega), H.has, H.at_, fun x hx => ⟨(H.locks x hx).1, (H.locks x hx).2.1, ?_⟩, H.apart, H.txn, H.low, fun x hx => ?_⟩
  · by_cases e : x = t
    · subst e
      refine ⟨_, hown, fun y hy => ?_, fun y hy z => ?_⟩
      · unfold updO
        by_cases e1 : y = a
        · subst e1
          simp only [if_true]
          exact ⟨fun _ => trivial, fun _ => has_put_same h2.1.isMap (kS_key y) _⟩
        · simp only [if_neg e1]
          rw [has_put_other (fun h => e1 (kS_inj hy wa h))]
          exact h2.2.1 y hy
      · unfold updO at hy
        by_cases e1 : y = a
        · subst e1
          exact atKey_put_same h2.1.isMap (kS_key y) _ _
        · simp only [if_neg e1] at hy
          have hb := (H.some_ y (by omega)).2
          rw [atKey_put_other (fun h => e1 (kS_inj (wfI_of (by omega) (by omega)) wa h)), h2.2.2 y hy]
    · refine (((H.locks x hx).2.2.kept hg (fun e1 => e (H.apart x t hx hK (Option.some.inj e1)))).mono (by omega)).congr fun y => ?_
      unfold updO
      by_cases e1 : y = a
      · subst e1
        simp only [if_true]
        have := H.txn x hx
        constructor
        · intro h; rcases hf with h' | h' <;> omega
        · intro h; omega
      · simp only [if_neg e1]
  · unfold updO at hx ⊢
    by_cases e1 : x = a
    · subst e1
      simp only [if_true]
      exact ⟨hK, ha⟩
    · simp only [if_neg e1] at hx ⊢
      exact H.some_ x hx
end Go.Proofs.Ytkpkoapcmnapoab
