/- Mark Held Iv Fault2 Fault3 Built Built2 Ret Built3 Built4 Draw4 Draw8 Hd1 Hd Ob IvP ObS BuiltEn Fp3 Spec2 Impl2 Spec2b Flt Cells in one text: what each says stands at its head below. -/
import Derived.Test.YtlliggfggadidaaGreatDoorG01
import Derived.Deep.AppendLies
import Derived.Deep.RegionLaw
import Derived.Deep.MidRow
namespace Go.Proofs.YtlliggfggadidaaGreatDoor
open Go.RowKit
theorem RdI.setOther {b b' o : Nat} {w : World} {v u : Value} {xs : List Int} (h : RdI (· = b) w v xs) (hne : xs ≠ [] → b ≠ b') : RdI (· = b) (w.setCell ⟨b', o, none⟩ u) v xs := by
  obtain ⟨ao, c, e1, e2, e3⟩ := h
  refine ⟨ao, c, e1, e2, fun hn => ?_⟩
  obtain ⟨b1, off', f1, f2, f3⟩ := e3 hn
  refine ⟨b1, off', f1, f2, fun t ht => ?_⟩
  rw [World.cell?_setCell_other _ _ _ _ (by intro e; exact hne hn (f2.symm.trans (congrArg Addr.block e).symm))]
  exact f3 t ht
end Go.Proofs.YtlliggfggadidaaGreatDoor
namespace Go.Proofs.YtlliggfggadidaaGreatDoor
open Go.RowKit
end Go.Proofs.YtlliggfggadidaaGreatDoor
namespace Go.Proofs.YtlliggfggadidaaGreatDoor
open Go.RowKit
def IvI (lo hi : Nat) (w : World) (v : Value) (xs : List Int) : Prop :=
  ∃ b, RdI (· = b) w v xs ∧ (xs ≠ [] → lo ≤ b ∧ b < hi ∧ b < w.heap.size ∧ ∀ o, w.frozen? ⟨b, o, none⟩ = false)
theorem OwI.iv {B : Nat} {w : World} {v : Value} {xs : List Int} (h : OwI B w v xs) : IvI B w.heap.size w v xs := by
  obtain ⟨b, h1, h2⟩ := h
  exact ⟨b, h1, fun hne => ⟨(h2 hne).1, (h2 hne).2.1, (h2 hne).2.1, (h2 hne).2.2⟩⟩
theorem IvI.wr {lo hi : Nat} {T : Nat → Prop} {w w' : World} {v : Value} {xs : List Int} (h : IvI lo hi w v xs) (hw : Wr T w w') (hd : ∀ b, lo ≤ b → b < hi → ¬ T b) : IvI lo hi w' v xs := by
  obtain ⟨b, h1, h2⟩ := h
  refine ⟨b, h1.wr hw (fun hne x hx => by subst hx; exact hd _ (h2 hne).1 (h2 hne).2.1), fun hne => ?_⟩
  obtain ⟨k1, k2, k3, k4⟩ := h2 hne
  exact ⟨k1, k2, Nat.lt_of_lt_of_le k3 hw.size, fun o => by rw [hw.frz _ _ k3]; exact k4 o⟩
theorem IvI.later {lo hi : Nat} {w w' : World} {v : Value} {xs : List Int} (h : IvI lo hi w v xs) (hb : Below w.heap.size w w') : IvI lo hi w' v xs :=
  h.wr (Wr.of_below hb fun _ => False) fun _ _ _ => id
theorem IvI.rd {lo hi : Nat} {w : World} {v : Value} {xs : List Int} (h : IvI lo hi w v xs) : RdI (fun b => lo ≤ b ∧ b < hi) w v xs := by
  obtain ⟨b, h1, h2⟩ := h
  exact h1.narrow fun hne x hx => hx ▸ ⟨(h2 hne).1, (h2 hne).2.1⟩
def Var2 (w : World) (b : Nat) (x y : Value) : Prop := w.cell? ⟨b, 0, none⟩ = some x ∧ w.cell? ⟨b, 1, none⟩ = some y
theorem Var2.later {w w' : World} {b : Nat} {x y : Value} (h : Var2 w b x y) (hb : Below w.heap.size w w') : Var2 w' b x y := ⟨cell_later hb h.1, cell_later hb h.2⟩
theorem Var2.wr {S : Nat → Prop} {w w' : World} {b : Nat} {x y : Value} (h : Var2 w b x y) (hb : Wr S w w') (hd : ¬ S b) : Var2 w' b x y := ⟨cell_wr hb h.1 hd, cell_wr hb h.2 hd⟩
theorem Var2.lt {w : World} {b : Nat} {x y : Value} (h : Var2 w b x y) : b < w.heap.size := World.block_lt_of_cell? _ _ h.1
theorem Var2_new (w : World) (x y : Value) (t : TypeId) : Var2 (w.alloc (.cells #[x, y] t)) w.heap.size x y := by
  refine ⟨?_, ?_⟩ <;> simp [go_sem]
def Var3 (w : World) (b : Nat) (x y z : Value) : Prop := w.cell? ⟨b, 0, none⟩ = some x ∧ w.cell? ⟨b, 1, none⟩ = some y ∧ w.cell? ⟨b, 2, none⟩ = some z
theorem Var3.later {w w' : World} {b : Nat} {x y z : Value} (h : Var3 w b x y z) (hb : Below w.heap.size w w') : Var3 w' b x y z :=
  ⟨cell_later hb h.1, cell_later hb h.2.1, cell_later hb h.2.2⟩
theorem Var3.wr {S : Nat → Prop} {w w' : World} {b : Nat} {x y z : Value} (h : Var3 w b x y z) (hb : Wr S w w') (hd : ¬ S b) : Var3 w' b x y z :=
  ⟨cell_wr hb h.1 hd, cell_wr hb h.2.1 hd, cell_wr hb h.2.2 hd⟩
theorem Var3.lt {w : World} {b : Nat} {x y z : Value} (h : Var3 w b x y z) : b < w.heap.size := World.block_lt_of_cell? _ _ h.1
theorem Var3_new (w : World) (x y z : Value) (t : TypeId) : Var3 (w.alloc (.cells #[x, y, z] t)) w.heap.size x y z := by
  refine ⟨?_, ?_, ?_⟩ <;> simp [go_sem]
def EndsI (x : Int) (xs : List Int) (w : World) (e : Ending) (w' : World) : Prop :=
  ∃ z, e = .returned (.agg #[.int .i64 x, z]) ∧ Below w.heap.size w w' ∧ OwI w.heap.size w' z xs
end Go.Proofs.YtlliggfggadidaaGreatDoor
namespace Go.Proofs.YtlliggfggadidaaGreatDoor
open Go.RowKit
end Go.Proofs.YtlliggfggadidaaGreatDoor
namespace Go.Proofs.YtlliggfggadidaaGreatDoor
open Go.RowKit
end Go.Proofs.YtlliggfggadidaaGreatDoor
namespace Go.Proofs.YtlliggfggadidaaGreatDoor
open Go.RowKit
structure Inner (P : Nat → Prop) (w : World) (row : Option Nat) (k : Nat) (V : Nat → Value) (Bk : Nat → Nat) (X : Nat → List Int) : Prop where
  rd : ∀ i, i < k → RdI (· = Bk i) w (V i) (X i)
  own : ∀ i, i < k → X i ≠ [] → P (Bk i) ∧ Bk i < w.heap.size ∧ (∀ o, w.frozen? ⟨Bk i, o, none⟩ = false) ∧ row ≠ some (Bk i) ∧ ∀ j, j < k → X j ≠ [] → Bk j = Bk i → j = i
theorem Inner.zero (P : Nat → Prop) (w : World) (row : Option Nat) (V : Nat → Value) (Bk : Nat → Nat) (X : Nat → List Int) : Inner P w row 0 V Bk X :=
  ⟨fun _ h => absurd h (Nat.not_lt_zero _), fun _ h => absurd h (Nat.not_lt_zero _)⟩
theorem Inner.later {P : Nat → Prop} {w w' : World} {row : Option Nat} {k : Nat} {V : Nat → Value} {Bk : Nat → Nat} {X : Nat → List Int} (h : Inner P w row k V Bk X) (hb : Below w.heap.size w w') : Inner P w' row k V Bk X :=
  ⟨fun i hi => (h.rd i hi).later hb, fun i hi hn => by
    obtain ⟨h1, h2, h3, h4, h5⟩ := h.own i hi hn
    exact ⟨h1, Nat.lt_of_lt_of_le h2 hb.size, fun o => ((bcell hb).2 _ _ h2).trans (h3 o), h4, h5⟩⟩
theorem Inner.step {P P' : Nat → Prop} {w w1 w2 w3 : World} {row : Option Nat} {k g : Nat} {V : Nat → Value} {Bk : Nat → Nat} {X : Nat → List Int} {z : Value}
    (h : Inner P w row k V Bk X) (hP : ∀ b, P b → P' b) (hN : ∀ b, w.heap.size ≤ b → P' b) (hrow : ∀ r, row = some r → r < w.heap.size) (hb1 : Below w.heap.size w w1) (hz : OwI w.heap.size w1 z (X k)) (hb2 : Below w1.heap.size w1 w2)
    (hg : w2.grownBy w3 row) (hat : row = some g ∨ g = w2.heap.size) :
    ∃ Bk', Inner P' w3 (some g) (k + 1) (fun i => if i = k then z else V i) Bk' X := by
  obtain ⟨bz, hz1, hz2⟩ := hz
  have hs1 := hb1.size
  have hs2 := hb2.size
  have keep : ∀ b o, b < w2.heap.size → some b ≠ row → w3.cell? ⟨b, o, none⟩ = w2.cell? ⟨b, o, none⟩ := fun b o hl hne => hg.cell_far ⟨b, o, none⟩ hl hne
  have keepf : ∀ b o, b < w2.heap.size → some b ≠ row → w3.frozen? ⟨b, o, none⟩ = w2.frozen? ⟨b, o, none⟩ := fun b o hl hne => hg.frozen_far ⟨b, o, none⟩ hl hne
  have h2 := (h.later hb1).later hb2
  have hz1' := hz1.later hb2
  refine ⟨fun i => if i = k then bz else Bk i, fun i hi => ?_, fun i hi hn => ?_⟩
  · by_cases e : i = k
    · subst e
      simp only [if_true]
      obtain ⟨ao, c, e1, e2, e3⟩ := hz1'
      refine ⟨ao, c, e1, e2, fun hne => ?_⟩
      obtain ⟨b, off, f1, f2, f3⟩ := e3 hne
      subst f2
      refine ⟨b, off, f1, rfl, fun t ht => ?_⟩
      rw [keep _ _ (World.block_lt_of_cell? _ _ (f3 t ht)) (fun e => by have := hrow b e.symm; have := (hz2 hne).1; omega)]
      exact f3 t ht
    · simp only [if_neg e]
      obtain ⟨ao, c, e1, e2, e3⟩ := h2.rd i (by omega)
      refine ⟨ao, c, e1, e2, fun hne => ?_⟩
      obtain ⟨b, off, f1, f2, f3⟩ := e3 hne
      subst f2
      refine ⟨Bk i, off, f1, rfl, fun t ht => ?_⟩
      rw [keep _ _ (World.block_lt_of_cell? _ _ (f3 t ht)) (fun e => (h2.own i (by omega) hne).2.2.2.1 e.symm)]
      exact f3 t ht
  · have hsz3 := hg.size
    by_cases e : i = k
    · subst e
      simp only [if_true]
      obtain ⟨k1, k2, k3⟩ := hz2 hn
      refine ⟨hN _ k1, by omega, fun o => ?_, ?_, fun j hj hj' ej => ?_⟩
      · rw [keepf _ _ (by omega) (fun e => by have := hrow bz e.symm; omega)]
        exact ((bcell hb2).2 _ _ k2).trans (k3 o)
      · intro e
        injection e with e
        rcases hat with hat | hat
        · have := hrow g hat; omega
        · omega
      · by_cases e2 : j = i
        · exact e2
        · simp only [if_neg e2] at ej
          have := (h.own j (by omega) hj').2.1
          omega
    · simp only [if_neg e]
      obtain ⟨k1, k2, k3, k4, k5⟩ := h.own i (by omega) hn
      obtain ⟨_, q2, q3, _, _⟩ := h2.own i (by omega) hn
      refine ⟨hP _ k1, by omega, fun o => ?_, ?_, fun j hj hj' ej => ?_⟩
      · rw [keepf _ _ q2 (fun e => k4 e.symm)]
        exact q3 o
      · intro e
        injection e with e
        rcases hat with hat | hat
        · exact k4 (by rw [hat, e])
        · omega
      · by_cases e2 : j = k
        · subst e2
          simp only [if_true] at ej
          have := (hz2 hj').1
          omega
        · simp only [if_neg e2] at ej
          exact k5 j (by omega) hj' ej
theorem ownsRow_later {w w' : World} {B e s : Nat} {v : Value} {n : Nat} {xs : List Value} (h : w.ownsRow B e s v n xs) (hb : Below w.heap.size w w') : w'.ownsRow B e s v n xs := by
  obtain ⟨h1, h2⟩ := h
  refine ⟨h1, ?_⟩
  rcases h2 with h2 | ⟨g, cap, cur, hv, hg, hh, r⟩
  · exact Or.inl h2
  · exact Or.inr ⟨g, cap, cur, hv, hg, by rw [hb.block g (Array.getElem?_eq_some_iff.1 hh).1]; exact hh, r⟩
theorem Inner.mono {P P' : Nat → Prop} {w : World} {row : Option Nat} {k : Nat} {V : Nat → Value} {Bk : Nat → Nat} {X : Nat → List Int} (h : Inner P w row k V Bk X) (hP : ∀ b, P b → b < w.heap.size → P' b) : Inner P' w row k V Bk X :=
  ⟨h.rd, fun i hi hn => ⟨hP _ (h.own i hi hn).1 (h.own i hi hn).2.1, (h.own i hi hn).2⟩⟩
end Go.Proofs.YtlliggfggadidaaGreatDoor
namespace Go.Proofs.YtlliggfggadidaaGreatDoor
open Go.RowKit
end Go.Proofs.YtlliggfggadidaaGreatDoor
namespace Go.Proofs.YtlliggfggadidaaGreatDoor
open Go.RowKit
theorem ret_ints {w w3 : World} {B r : Nat} {z : Value} {xs : List Int} {x : Value} (hb : Below w.heap.size w w3) (hr : w.heap.size ≤ r) (ho : OwI B w3 z xs) (hB : r < B) :
    Below w.heap.size w ((w3.setCell ⟨r, 0, none⟩ x).setCell ⟨r, 1, none⟩ z) ∧ OwI w.heap.size ((w3.setCell ⟨r, 0, none⟩ x).setCell ⟨r, 1, none⟩ z) z xs := by
  have hw : Wr (fun y => y = r) w3 ((w3.setCell ⟨r, 0, none⟩ x).setCell ⟨r, 1, none⟩ z) := ((Wr.refl (fun y => y = r) _).setCell (p := ⟨r, 0, none⟩) rfl _).setCell (p := ⟨r, 1, none⟩) rfl _
  exact ⟨(hb.setCell (p := ⟨r, 0, none⟩) hr _).setCell (p := ⟨r, 1, none⟩) hr _, (ho.wr hw (fun b h1 _ e => by omega)).mono (by omega)⟩
end Go.Proofs.YtlliggfggadidaaGreatDoor
namespace Go.Proofs.YtlliggfggadidaaGreatDoor
open Go.RowKit
end Go.Proofs.YtlliggfggadidaaGreatDoor
namespace Go.Proofs.YtlliggfggadidaaGreatDoor
open Go.RowKit
theorem Inner.set {P : Nat → Prop} {w : World} {row : Option Nat} {k : Nat} {V : Nat → Value} {Bk : Nat → Nat} {X : Nat → List Int} (h : Inner P w row k V Bk X) {r o : Nat} {x : Value} (hr : ∀ b, P b → b ≠ r) : Inner P (w.setCell ⟨r, o, none⟩ x) row k V Bk X := by
  refine ⟨fun i hi => (h.rd i hi).setOther fun hn => hr _ (h.own i hi hn).1, fun i hi hn => ?_⟩
  obtain ⟨h1, h2, h3, h4, h5⟩ := h.own i hi hn
  exact ⟨h1, by simpa using h2, fun o => by rw [World.frozen?_setCell]; exact h3 o, h4, h5⟩
theorem ownsRow_set {w : World} {B e s r o : Nat} {v x : Value} {n : Nat} {xs : List Value} (h : w.ownsRow B e s v n xs) (hr : v.ownBlock ≠ some r) : (w.setCell ⟨r, o, none⟩ x).ownsRow B e s v n xs := by
  obtain ⟨h1, h2⟩ := h
  refine ⟨h1, ?_⟩
  rcases h2 with h2 | ⟨g, cap, cur, rfl, hg, hh, t⟩
  · exact Or.inl h2
  · exact Or.inr ⟨g, cap, cur, rfl, hg, by rw [Below.heap_setCell _ _ _ _ (fun e => hr (congrArg some e))]; exact hh, t⟩
end Go.Proofs.YtlliggfggadidaaGreatDoor
namespace Go.Proofs.YtlliggfggadidaaGreatDoor
open Go.RowKit
end Go.Proofs.YtlliggfggadidaaGreatDoor
namespace Go.Proofs.YtlliggfggadidaaGreatDoor
open Go.RowKit
end Go.Proofs.YtlliggfggadidaaGreatDoor
namespace Go.Proofs.YtlliggfggadidaaGreatDoor
open Go.RowKit
set_option maxHeartbeats 4000000 in
set_option maxRecDepth 4000 in
theorem l10DrawDataW {s : Nat} {v : Value} {bs : List Nat} {w : World} {t : Nat} (hS : Src s v bs w t) (ht : t ≤ 1000000000) :
    Calls Tryz.prog 47 #[.pointer (some ⟨s, 0, none⟩)] w fun e w' => ∃ (ao : Option Addr) (n c : Nat) (xs : List Int), e = .returned (.slice ao n c) ∧ xs.length = n ∧ n ≤ 20 ∧ w'.ownsRow w.heap.size 2 1 (.slice ao n c) n (xs.map (Value.int .i64)) ∧ ∃ t', Drawn 32 s v bs t t' w w' := by
  have HS := hide hS
  have hsl := hS.lt
  obtain ⟨i0, hi, hz0, hz1, hz2⟩ := info_parts Tryz.infoInt
  clear hS
  have D0 := hide ((Drawn.refl HS.out).later (below_alloc w (.cells #[] 2)))
  have O0 := hide (World.ownsRow_made (base := w.heap.size) (e := 2) (size := 1) w #[] 0 (Nat.le_refl _) (by unfold maxLen; omega) (by simp))
  have hs0 : w.heap.size + 1 = (w.alloc (.cells #[] 2)).heap.size := by simp
  obtain ⟨W0, hW0⟩ : ∃ x, w.alloc (.cells #[] 2) = x := ⟨_, rfl⟩
  rw [hW0] at D0 O0 hs0
  go_enter Tryz.func47, Tryz.ntmps47
  go_wp2_with fail
  (try rw [hW0])
  clear hW0
  refine (l1Next 20 D0.out.1 (by omega) (by omega) (by omega)).mono ?_
  rintro e w1 ⟨m0, rfl, a0, b0, t1, hd1⟩
  obtain ⟨m, rfl⟩ := Int.eq_ofNat_of_zero_le a0
  have hm : m < 20 := by have := b0 (by omega); omega
  have D1 := hide ((D0.out.on hd1).mono (show 0 + 1 ≤ 1 by omega))
  have O1 := hide (ownsRow_wr O0.out hd1.2.1 (ownBlock_ne O0.out hsl))
  clear hd1 D0 O0 a0 b0
  go_wp2
  go_loopw [3, 4] (fun v' k wr => ∃ (n K : Nat) (ao : Option Addr) (c : Nat) (xs : List Int) (t5 : Nat), n + K = m ∧ k = .int .i64 K ∧ v' = .slice ao n c ∧ Hid (xs.length = n) ∧ Hid (wr.ownsRow w.heap.size 2 1 (.slice ao n c) n (xs.map (Value.int .i64))) ∧ Hid (Drawn (1 + n) s v bs t t5 w wr)) (fun _ k _ => (intOf k).toNat)
  case atStart => exact ⟨0, m, _, _, [], t1, by omega, rfl, rfl, rfl, O1.out, D1.out⟩
  case round =>
    obtain ⟨n, K, ao, c, xs, t5, hnK, rfl, rfl, HL, HO, HD⟩ := hrel
    have hz := HD.out.2.1.size
    by_cases hK0 : 0 < K
    · have HnK := hide hnK
      clear hnK
      go_wp2_with fail
      refine (l1Next 99 HD.out.1 (by have := HD.out.2.2; have := HnK.out; omega) (by omega) (by omega)).mono ?_
      rintro e w6 ⟨r, rfl, ar, br, t6, hd6⟩
      have D6 := hide (HD.out.on hd6)
      have O6 := hide (ownsRow_wr HO.out hd6.2.1 (ownBlock_ne HO.out hsl))
      have hz6 := hd6.2.1.size
      have hn1 : n ≤ 1000 := by have := HnK.out; omega
      have hK1 : K ≤ 1000 := by have := HnK.out; omega
      clear hd6 br
      go_wp2_with (at_builtin; refine wpList_append_lies _ rfl _ _ _ rfl w.heap.size 2 i0 (.int .i64 0) 1 8 Tryz.underlying24 hi hz0 hz1 hz2 rfl (by omega) _ n _ (by rfl) (O6.out.alloc _) ⟨w6.heap.size, 0, none⟩ 1 1 [.int .i64 r] (by rfl) (by rfl) (World.news_of_block (cs := #[.int .i64 r]) (t := 2) (fr := (0, 0)) (heap_alloc_new w6 _)) (by simp [Value.oneCell']) (by omega) (by unfold maxLen; omega) (by omega) (by simp; omega) (w6.heap.size + 1) (by simp) ?_)
      intro g cap w7 hown hgrow hat hlt7
      have HB7 := hide ((Below.mono (below_alloc w6 (.cells #[.int .i64 r] 2)) (show w.heap.size ≤ w6.heap.size by omega)).grown hgrow (by simp; omega) (fun r hr => (O6.out.lt r hr).1))
      have D7 := hide ((D6.out.onBelow HS.out HB7.out).mono (show 1 + n + 1 ≤ 1 + (n + 1) by omega))
      have O7 : Hid (w7.ownsRow w.heap.size 2 1 (.slice (some ⟨g, 0, none⟩) (n + 1) cap) (n + 1) ((xs ++ [r]).map (Value.int .i64))) := by rw [Hid, List.map_append]; exact hown
      have HL7 : Hid ((xs ++ [r]).length = n + 1) := by unfold Hid; rw [List.length_append, HL.out]; rfl
      clear hown hgrow hat hlt7 HB7 O6 D6
      obtain ⟨K', rfl⟩ : ∃ K', K = K' + 1 := ⟨K - 1, by omega⟩
      go_wp2
      go_roundw
      case rel => exact ⟨n + 1, K', _, _, xs ++ [r], t6, by have := HnK.out; omega, by go_num, rfl, HL7.out, O7.out, D7.out⟩
      case measure => simp [intOf]
    · have hKz : K = 0 := by omega
      have hnm : n = m := by omega
      subst hKz hnm
      have hn20 : n ≤ 20 := by omega
      go_wp2
      go_ret
      exact ⟨_, _, _, xs, rfl, HL.out, hn20, HO.out, t5, HD.out.mono (by omega)⟩
theorem l10DrawData {s : Nat} {v : Value} {bs : List Nat} {w : World} {t : Nat} (hS : Src s v bs w t) (ht : t ≤ 1000000000) :
    Calls Tryz.prog 47 #[.pointer (some ⟨s, 0, none⟩)] w fun e w' => ∃ (z : Value) (xs : List Int), e = .returned z ∧ xs.length ≤ 20 ∧ OwI w.heap.size w' z xs ∧ ∃ t', Drawn 32 s v bs t t' w w' := by
  refine (l10DrawDataW hS ht).mono ?_
  rintro e w' ⟨ao, n, c, xs, rfl, hn, hl, ho, hd⟩
  exact ⟨_, xs, rfl, by omega, ow_of_owns hn ho (by omega), hd⟩
end Go.Proofs.YtlliggfggadidaaGreatDoor
namespace Go.Proofs.YtlliggfggadidaaGreatDoor
open Go.RowKit
end Go.Proofs.YtlliggfggadidaaGreatDoor
namespace Go.Proofs.YtlliggfggadidaaGreatDoor
open Go.RowKit
end Go.Proofs.YtlliggfggadidaaGreatDoor
namespace Go.Proofs.YtlliggfggadidaaGreatDoor
open Go.RowKit
end Go.Proofs.YtlliggfggadidaaGreatDoor
namespace Go.Proofs.YtlliggfggadidaaGreatDoor
open Go.RowKit
abbrev Oj := Int × Int × List Int
def oj0 : Oj := (0, 0, [])
def RdJ (S : Nat → Prop) (w : World) (v : Value) (ts : List Oj) : Prop :=
  ∃ (ao : Option Addr) (c : Nat), v = .slice ao ts.length c ∧ ts.length ≤ 9223372036854775807 ∧
    (ts ≠ [] → ∃ (b off : Nat) (V : Nat → Value), ao = some ⟨b, off, none⟩ ∧ S b ∧
      ∀ i, i < ts.length → w.cell? ⟨b, off + i * 3, none⟩ = some (.int .i64 (ts.getD i oj0).1) ∧ w.cell? ⟨b, off + i * 3 + 1, none⟩ = some (.int .i64 (ts.getD i oj0).2.1) ∧ w.cell? ⟨b, off + i * 3 + 2, none⟩ = some (V i) ∧ RdI S w (V i) (ts.getD i oj0).2.2)
theorem RdJ.shape {S : Nat → Prop} {w : World} {v : Value} {ts : List Oj} (h : RdJ S w v ts) : ∃ ao c, v = .slice ao ts.length c ∧ ts.length ≤ 9223372036854775807 := by
  obtain ⟨ao, c, h1, h2, _⟩ := h
  exact ⟨ao, c, h1, h2⟩
theorem RdJ.later {S : Nat → Prop} {w w' : World} {v : Value} {ts : List Oj} (h : RdJ S w v ts) (hb : Below w.heap.size w w') : RdJ S w' v ts := by
  obtain ⟨ao, c, h1, h2, h3⟩ := h
  refine ⟨ao, c, h1, h2, fun hne => ?_⟩
  obtain ⟨b, off, V, e, hs, hc⟩ := h3 hne
  exact ⟨b, off, V, e, hs, fun i hi => ⟨cell_later hb (hc i hi).1, cell_later hb (hc i hi).2.1, cell_later hb (hc i hi).2.2.1, (hc i hi).2.2.2.later hb⟩⟩
theorem RdJ.wr {S T : Nat → Prop} {w w' : World} {v : Value} {ts : List Oj} (h : RdJ S w v ts) (hw : Wr T w w') (hd : ∀ b, S b → ¬ T b) : RdJ S w' v ts := by
  obtain ⟨ao, c, h1, h2, h3⟩ := h
  refine ⟨ao, c, h1, h2, fun hne => ?_⟩
  obtain ⟨b, off, V, e, hs, hc⟩ := h3 hne
  exact ⟨b, off, V, e, hs, fun i hi => ⟨cell_wr hw (hc i hi).1 (hd b hs), cell_wr hw (hc i hi).2.1 (hd b hs), cell_wr hw (hc i hi).2.2.1 (hd b hs), (hc i hi).2.2.2.wr hw (fun _ => hd)⟩⟩
def RoomJ (S : Nat → Prop) (w : World) (ao : Option Addr) (b off c : Nat) : Prop :=
  ∀ o, o < c * 3 → ao = some ⟨b, off, none⟩ ∧ S b ∧ (∀ q, w.frozen? ⟨b, q, none⟩ = false) ∧ ∃ x, w.cell? ⟨b, off + o, none⟩ = some x
theorem RoomJ.wr {S T : Nat → Prop} {w w' : World} {ao : Option Addr} {b off c : Nat} (h : RoomJ S w ao b off c) (hw : Wr T w w') (hd : ∀ b, S b → ¬ T b) : RoomJ S w' ao b off c := fun o ho => by
  obtain ⟨h1, h2, h3, x, h4⟩ := h o ho
  exact ⟨h1, h2, fun q => (hw.frz _ _ (World.block_lt_of_cell? _ _ h4)).trans (h3 q), x, cell_wr hw h4 (hd _ h2)⟩
theorem RoomJ.mono {S T : Nat → Prop} {w : World} {ao : Option Addr} {b off c : Nat} (h : RoomJ S w ao b off c) (hT : ∀ b, S b → T b) : RoomJ T w ao b off c := fun o ho => by
  obtain ⟨h1, h2, h3⟩ := h o ho
  exact ⟨h1, hT _ h2, h3⟩
theorem RoomJ_row {S : Nat → Prop} {w : World} {g c : Nat} {cur : Array Value} {t : TypeId} (hS : S g) (hh : w.heap[g]? = some (.cells cur t (0, 0))) (hc : cur.size = c * 3) : RoomJ S w (some ⟨g, 0, none⟩) g 0 c := fun o ho =>
  ⟨rfl, hS, fun q => by simp [World.frozen?, hh], cur[o]'(by omega), by
    have hlt : o < cur.size := by omega
    rw [Nat.zero_add]
    simp [World.cell?, hh, hlt]⟩
def OwJ (S : Nat → Prop) (w : World) (v : Value) (ts : List Oj) : Prop :=
  ∃ (ao : Option Addr) (c b off : Nat) (V : Nat → Value) (B : Nat → Nat), v = .slice ao ts.length c ∧ (ts.length ≤ 9223372036854775807 ∧ ts.length ≤ c ∧ RoomJ S w ao b off c) ∧
    (ts ≠ [] → ao = some ⟨b, off, none⟩ ∧ S b ∧ ∀ o, w.frozen? ⟨b, o, none⟩ = false) ∧
    ∀ i, i < ts.length → w.cell? ⟨b, off + i * 3, none⟩ = some (.int .i64 (ts.getD i oj0).1) ∧ w.cell? ⟨b, off + i * 3 + 1, none⟩ = some (.int .i64 (ts.getD i oj0).2.1) ∧ w.cell? ⟨b, off + i * 3 + 2, none⟩ = some (V i) ∧ RdI (· = B i) w (V i) (ts.getD i oj0).2.2 ∧
      ((ts.getD i oj0).2.2 ≠ [] → S (B i) ∧ B i ≠ b ∧ (∀ o, w.frozen? ⟨B i, o, none⟩ = false) ∧ ∀ j, j < ts.length → (ts.getD j oj0).2.2 ≠ [] → B j = B i → j = i)
theorem OwJ.rd {S : Nat → Prop} {w : World} {v : Value} {ts : List Oj} (h : OwJ S w v ts) : RdJ S w v ts := by
  obtain ⟨ao, c, b, off, V, B, h1, h2, h3, h4⟩ := h
  refine ⟨ao, c, h1, h2.1, fun hne => ?_⟩
  obtain ⟨e, hb, _⟩ := h3 hne
  exact ⟨b, off, V, e, hb, fun i hi => ⟨(h4 i hi).1, (h4 i hi).2.1, (h4 i hi).2.2.1, (h4 i hi).2.2.2.1.narrow fun hn x hx => hx ▸ ((h4 i hi).2.2.2.2 hn).1⟩⟩
theorem OwJ.wr {S T : Nat → Prop} {w w' : World} {v : Value} {ts : List Oj} (h : OwJ S w v ts) (hw : Wr T w w') (hd : ∀ b, S b → ¬ T b) : OwJ S w' v ts := by
  obtain ⟨ao, c, b, off, V, B, h1, h2, h3, h4⟩ := h
  refine ⟨ao, c, b, off, V, B, h1, ⟨h2.1, h2.2.1, h2.2.2.wr hw hd⟩, fun hne => ?_, fun i hi => ?_⟩
  · obtain ⟨q1, q2, q3⟩ := h3 hne
    have hl := World.block_lt_of_cell? _ _ (h4 0 (List.length_pos_iff.2 hne)).1
    exact ⟨q1, q2, fun o => by rw [hw.frz _ _ hl]; exact q3 o⟩
  · obtain ⟨f0, f1, f2, f2', f3⟩ := h4 i hi
    have hne : ts ≠ [] := by rintro rfl; exact absurd hi (Nat.not_lt_zero _)
    refine ⟨cell_wr hw f0 (hd b (h3 hne).2.1), cell_wr hw f1 (hd b (h3 hne).2.1), cell_wr hw f2 (hd b (h3 hne).2.1), f2'.wr hw (fun hn x hx => hx ▸ hd _ (f3 hn).1), fun hn => ?_⟩
    obtain ⟨q1, q2, q3, q4⟩ := f3 hn
    obtain ⟨x, rfl, hl⟩ := f2'.lt hn
    exact ⟨q1, q2, fun o => by rw [hw.frz _ _ hl]; exact q3 o, q4⟩
theorem OwJ.mono {S T : Nat → Prop} {w : World} {v : Value} {ts : List Oj} (h : OwJ S w v ts) (hT : ∀ b, S b → T b) : OwJ T w v ts := by
  obtain ⟨ao, c, b, off, V, B, h1, h2, h3, h4⟩ := h
  exact ⟨ao, c, b, off, V, B, h1, ⟨h2.1, h2.2.1, h2.2.2.mono hT⟩, fun hne => ⟨(h3 hne).1, hT _ (h3 hne).2.1, (h3 hne).2.2⟩, fun i hi => ⟨(h4 i hi).1, (h4 i hi).2.1, (h4 i hi).2.2.1, (h4 i hi).2.2.2.1, fun hn => ⟨hT _ ((h4 i hi).2.2.2.2 hn).1, ((h4 i hi).2.2.2.2 hn).2⟩⟩⟩
theorem OwJ.shape {S : Nat → Prop} {w : World} {v : Value} {ts : List Oj} (h : OwJ S w v ts) : ∃ ao c, v = .slice ao ts.length c := by
  obtain ⟨ao, c, _, _, _, _, h1, _⟩ := h
  exact ⟨ao, c, h1⟩
theorem OwJ.caps {S : Nat → Prop} {w : World} {v : Value} {ts : List Oj} (h : OwJ S w v ts) : ∃ ao c, v = .slice ao ts.length c ∧ ts.length ≤ c := by
  obtain ⟨ao, c, _, _, _, _, h1, h2, _⟩ := h
  exact ⟨ao, c, h1, h2.2.1⟩
theorem OwJ_nil (S : Nat → Prop) (w : World) : OwJ S w (.slice none 0 0) [] :=
  ⟨none, 0, 0, 0, fun _ => .bool false, fun _ => 0, rfl, ⟨by simp, by simp, fun o ho => absurd ho (Nat.not_lt_zero _)⟩, fun h => absurd rfl h, fun i hi => absurd hi (Nat.not_lt_zero _)⟩
def totJ (ts : List Oj) (i : Nat) : Nat := ((ts.take i).map fun p => p.2.2.length + 2).sum
theorem totJ_succ (ts : List Oj) (i : Nat) (h : i < ts.length) : totJ ts (i + 1) = totJ ts i + ((ts.getD i oj0).2.2.length + 2) := by
  unfold totJ
  rw [List.take_succ_eq_append_getElem h]
  simp only [List.map_append, List.sum_append, List.map_cons, List.map_nil, List.sum_cons, List.sum_nil]
  simp [List.getD, h]
theorem totJ_le (ts : List Oj) : ∀ (i j : Nat), i ≤ j → totJ ts i ≤ totJ ts j := by
  intro i j h
  unfold totJ
  have : ts.take j = ts.take i ++ (ts.drop i).take (j - i) := by
    rw [← List.take_add]; congr 1; omega
  rw [this]; simp
end Go.Proofs.YtlliggfggadidaaGreatDoor
namespace Go.Proofs.YtlliggfggadidaaGreatDoor
open Go.RowKit
def cellsEn (ts : List Oj) (k : Nat) (V : Nat → Value) : List Value :=
  (List.range (k * 3)).map fun t => if t % 3 = 0 then .int .i64 (ts.getD (t / 3) oj0).1 else if t % 3 = 1 then .int .i64 (ts.getD (t / 3) oj0).2.1 else V (t / 3)
theorem cellsEn_len (ts : List Oj) (k : Nat) (V : Nat → Value) : (cellsEn ts k V).length = k * 3 := by simp [cellsEn]
theorem cellsEn_flg (ts : List Oj) (k : Nat) (V : Nat → Value) (i : Nat) (h : i < k) : (cellsEn ts k V)[i * 3]? = some (.int .i64 (ts.getD i oj0).1) := by
  unfold cellsEn
  rw [List.getElem?_map, List.getElem?_range (by omega)]
  simp only [Option.map_some]
  rw [if_pos (by omega), show i * 3 / 3 = i by omega]
theorem cellsEn_num (ts : List Oj) (k : Nat) (V : Nat → Value) (i : Nat) (h : i < k) : (cellsEn ts k V)[i * 3 + 1]? = some (.int .i64 (ts.getD i oj0).2.1) := by
  unfold cellsEn
  rw [List.getElem?_map, List.getElem?_range (by omega)]
  simp only [Option.map_some]
  rw [if_neg (by omega), if_pos (by omega), show (i * 3 + 1) / 3 = i by omega]
theorem cellsEn_words (ts : List Oj) (k : Nat) (V : Nat → Value) (i : Nat) (h : i < k) : (cellsEn ts k V)[i * 3 + 2]? = some (V i) := by
  unfold cellsEn
  rw [List.getElem?_map, List.getElem?_range (by omega)]
  simp only [Option.map_some]
  rw [if_neg (by omega), if_neg (by omega), show (i * 3 + 2) / 3 = i by omega]
theorem cellsEn_next (ts : List Oj) (k : Nat) (V : Nat → Value) : cellsEn ts (k + 1) V = cellsEn ts k V ++ [.int .i64 (ts.getD k oj0).1, .int .i64 (ts.getD k oj0).2.1, V k] := by
  unfold cellsEn
  rw [show (k + 1) * 3 = k * 3 + 1 + 1 + 1 by omega, List.range_succ, List.range_succ, List.range_succ]
  simp only [List.map_append, List.append_assoc, List.map_cons, List.map_nil, List.singleton_append]
  congr 1
  rw [if_pos (by omega), if_neg (by omega), if_pos (by omega), if_neg (by omega), if_neg (by omega), show k * 3 / 3 = k by omega, show (k * 3 + 1) / 3 = k by omega, show (k * 3 + 1 + 1) / 3 = k by omega]
  rfl
theorem cellsEn_congr (ts : List Oj) (k : Nat) (V V' : Nat → Value) (h : ∀ i, i < k → V i = V' i) : cellsEn ts k V = cellsEn ts k V' := by
  unfold cellsEn
  refine List.map_congr_left fun t ht => ?_
  have := List.mem_range.1 ht
  rw [h (t / 3) (by omega)]
theorem cellsEn_ext (ts ts' : List Oj) (k : Nat) (V : Nat → Value) (h : ∀ i, i < k → ts.getD i oj0 = ts'.getD i oj0) : cellsEn ts k V = cellsEn ts' k V := by
  unfold cellsEn
  refine List.map_congr_left fun t ht => ?_
  have := List.mem_range.1 ht
  rw [h (t / 3) (by omega)]
def BuiltEn (P : Nat → Prop) (w : World) (v : Value) (k : Nat) (ts : List Oj) : Prop :=
  ∃ V Bk, w.ownsRow 0 58 3 v k (cellsEn ts k V) ∧ (∀ r, v.ownBlock = some r → P r) ∧ Inner P w v.ownBlock k V Bk (fun i => (ts.getD i oj0).2.2)
theorem BuiltEn.nil (P : Nat → Prop) (w : World) (ts : List Oj) : BuiltEn P w (.slice none 0 0) 0 ts :=
  ⟨fun _ => .bool false, fun _ => 0, World.ownsRow_nil _ _ _ _, fun _ h => (by cases h), Inner.zero _ _ _ _ _ _⟩
theorem BuiltEn.empty (w : World) (P : Nat → Prop) (hP : P w.heap.size) (ts : List Oj) : BuiltEn P (w.alloc (.cells #[] 58)) (.slice (some ⟨w.heap.size, 0, none⟩) 0 0) 0 ts :=
  ⟨fun _ => .bool false, fun _ => 0, World.ownsRow_made w #[] 0 (Nat.zero_le _) (by unfold maxLen; omega) (by simp), fun r h => by injection h with h; subst h; exact hP, Inner.zero _ _ _ _ _ _⟩
theorem BuiltEn.later {P : Nat → Prop} {w w' : World} {v : Value} {k : Nat} {ts : List Oj} (h : BuiltEn P w v k ts) (hb : Below w.heap.size w w') : BuiltEn P w' v k ts := by
  obtain ⟨V, Bk, h1, h2, h3⟩ := h
  exact ⟨V, Bk, ownsRow_later h1 hb, h2, h3.later hb⟩
theorem BuiltEn.mono {P P' : Nat → Prop} {w : World} {v : Value} {k : Nat} {ts : List Oj} (h : BuiltEn P w v k ts) (hP : ∀ b, P b → b < w.heap.size → P' b) : BuiltEn P' w v k ts := by
  obtain ⟨V, Bk, h1, h2, h3⟩ := h
  exact ⟨V, Bk, h1, fun r hr => hP r (h2 r hr) (h1.lt r hr).2, h3.mono hP⟩
theorem BuiltEn.shape {P : Nat → Prop} {w : World} {v : Value} {k : Nat} {ts : List Oj} (h : BuiltEn P w v k ts) : ∃ ao c, v = .slice ao k c := by
  obtain ⟨V, Bk, h1, _⟩ := h
  rcases h1.2 with ⟨rfl, e⟩ | ⟨g, cap, cur, rfl, _⟩
  · exact ⟨none, 0, by rw [e]⟩
  · exact ⟨_, _, rfl⟩
theorem BuiltEn.step {P P' : Nat → Prop} {w w1 w2 w3 : World} {v z : Value} {k g cap : Nat} {V : Nat → Value} {Bk : Nat → Nat} {ts : List Oj} (hi : Inner P w v.ownBlock k V Bk (fun i => (ts.getD i oj0).2.2)) (hr : w.ownsRow 0 58 3 v k (cellsEn ts k V)) (hpr : ∀ r, v.ownBlock = some r → P r)
    (hP : ∀ b, P b → P' b) (hN : ∀ b, w.heap.size ≤ b → P' b) (hb1 : Below w.heap.size w w1) (hz : OwI w.heap.size w1 z (ts.getD k oj0).2.2) (hb2 : Below w1.heap.size w1 w2)
    (hown : w3.ownsRow 0 58 3 (.slice (some ⟨g, 0, none⟩) (k + 1) cap) (k + 1) (cellsEn ts k V ++ [.int .i64 (ts.getD k oj0).1, .int .i64 (ts.getD k oj0).2.1, z])) (hg : w2.grownBy w3 v.ownBlock) (hat : v.ownBlock = some g ∨ g = w2.heap.size) :
    BuiltEn P' w3 (.slice (some ⟨g, 0, none⟩) (k + 1) cap) (k + 1) ts := by
  obtain ⟨Bk', h⟩ := hi.step hP hN (fun r hr' => (hr.lt r hr').2) hb1 hz hb2 hg hat
  refine ⟨_, Bk', ?_, fun r hr' => ?_, h⟩
  · rw [cellsEn_next, cellsEn_congr ts k _ V (fun i hi => by rw [if_neg (by omega)]), if_pos rfl]
    exact hown
  · injection hr' with hr'
    subst hr'
    rcases hat with hat | hat
    · exact hP _ (hpr _ hat)
    · have h1 := hb1.size
      have h2 := hb2.size
      exact hN _ (by dsimp only; omega)
theorem BuiltEn.ow {P : Nat → Prop} {w : World} {v : Value} {k : Nat} {ts : List Oj} (h : BuiltEn P w v k ts) (hk : ts.length = k) (hm : k ≤ 9223372036854775807) : OwJ (fun b => P b ∧ b < w.heap.size) w v ts := by
  obtain ⟨V, Bk, h1, hpr, h2⟩ := h
  subst hk
  rcases h1.2 with ⟨rfl, e⟩ | ⟨g, cap, cur, rfl, hg, hh, hnc, _, hcs, _⟩
  · have : ts = [] := List.eq_nil_of_length_eq_zero e
    subst this
    exact OwJ_nil _ _
  · refine ⟨_, cap, g, 0, V, Bk, rfl, ⟨hm, hnc, RoomJ_row ⟨hpr g rfl, (Array.getElem?_eq_some_iff.1 hh).1⟩ hh hcs⟩, fun _ => ⟨rfl, ⟨hpr g rfl, (Array.getElem?_eq_some_iff.1 hh).1⟩, fun o => h1.frozenAt o⟩, fun i hi => ⟨?_, ?_, ?_, h2.rd i hi, fun hn => ?_⟩⟩
    · rw [Nat.zero_add, h1.cellAt (i * 3) (by omega)]
      exact cellsEn_flg _ _ _ _ hi
    · rw [Nat.zero_add, h1.cellAt (i * 3 + 1) (by omega)]
      exact cellsEn_num _ _ _ _ hi
    · rw [Nat.zero_add, h1.cellAt (i * 3 + 2) (by omega)]
      exact cellsEn_words _ _ _ _ hi
    · obtain ⟨k1, k2, k3, k4, k5⟩ := h2.own i hi hn
      exact ⟨⟨k1, k2⟩, fun e => k4 (by rw [e]; rfl), k3, k5⟩
theorem cellsEn_one {x y : Int} {ao : Option Addr} {n c : Nat} : ∀ u ∈ ([.int .i64 x, .int .i64 y, .slice ao n c] : List Value), u.oneCell' = true := by
  intro u hu
  simp at hu
  rcases hu with rfl | rfl | rfl <;> rfl
theorem Tryz.infoEn : (Tryz.prog.info? 58).map (fun i => (i.zero, i.size, i.bytes)) = some (some (.agg #[.int .i64 0, .int .i64 0, .slice none 0 0]), 3, 40) := by kernel_rfl
end Go.Proofs.YtlliggfggadidaaGreatDoor
namespace Go.Proofs.YtlliggfggadidaaGreatDoor
open Go.RowKit
def RdFp (S : Nat → Prop) (w : World) (b off : Nat) (p : Oj) : Prop :=
  ∃ y, w.cell? ⟨b, off, none⟩ = some (.int .i64 p.1) ∧ w.cell? ⟨b, off + 1, none⟩ = some (.int .i64 p.2.1) ∧ w.cell? ⟨b, off + 2, none⟩ = some y ∧ RdI S w y p.2.2
theorem RdFp.later {S : Nat → Prop} {w w' : World} {b off : Nat} {p : Oj} (h : RdFp S w b off p) (hb : Below w.heap.size w w') : RdFp S w' b off p := by
  obtain ⟨y, h0, h1, h2, h3⟩ := h
  exact ⟨y, cell_later hb h0, cell_later hb h1, cell_later hb h2, h3.later hb⟩
theorem RdJ.file {S : Nat → Prop} {w : World} {ao : Option Addr} {n c : Nat} {fs : List Oj} (h : RdJ S w (.slice ao n c) fs) {k : Nat} (hk : k < fs.length) : ∃ b off, ao = some ⟨b, off, none⟩ ∧ RdFp S w b (off + k * 3) (fs.getD k oj0) := by
  obtain ⟨ao', c', e, hm, h⟩ := h
  injection e with e1 e2 e3
  obtain ⟨b, off, V, e4, _, hc⟩ := h (by rintro rfl; exact absurd hk (Nat.not_lt_zero _))
  obtain ⟨q0, q1, q2, q3⟩ := hc k hk
  exact ⟨b, off, e1.trans e4, V k, q0, q1, q2, q3⟩
theorem ret_intF {a b : Int} (h : a = b) : Ending.returned (.int .i64 a) = .returned (.int .i64 b) := by rw [h]
end Go.Proofs.YtlliggfggadidaaGreatDoor
namespace Go.Proofs.YtlliggfggadidaaGreatDoor
open Go.RowKit
end Go.Proofs.YtlliggfggadidaaGreatDoor
namespace Go.Proofs.YtlliggfggadidaaGreatDoor
open Go.RowKit
end Go.Proofs.YtlliggfggadidaaGreatDoor
namespace Go.Proofs.YtlliggfggadidaaGreatDoor
open Go.RowKit
end Go.Proofs.YtlliggfggadidaaGreatDoor
namespace Go.Proofs.YtlliggfggadidaaGreatDoor
open Go.RowKit
def fl (n : Nat) : Nat := FloatKind.f64.nearest (n : Int)
end Go.Proofs.YtlliggfggadidaaGreatDoor
namespace Go.Proofs.YtlliggfggadidaaGreatDoor
open Go.RowKit
@[go_sem] theorem run_store_complex (P : Program) (w : World) (a : Addr) (m : Mode) (k : FloatKind) (x y : Nat) : (store a (.complex k x y) m).run P w = stored P w a (.complex k x y) m := run_store P w a _ m rfl
def zc : Value := .complex .f64 0 0
theorem Below.setCells {B b : Nat} {a w : World} (h : Below B a w) (hb : B ≤ b) : ∀ (o : Nat) (vs : List Value), Below B a (w.setCells b o vs) := by
  intro o vs
  induction vs generalizing o w with
  | nil => exact h
  | cons v r ih => exact ih (h.setCell (p := ⟨b, o, none⟩) hb v) (o + 1)
end Go.Proofs.YtlliggfggadidaaGreatDoor
