/- Rowi DrawE1 DrawE2 in one text: what each says stands at its head below. -/
import Derived.Test.YtlliggfggadidaaGreatDoorG01
import Derived.Test.YtlliggfggadidaaGreatDoorG02
import Derived.Test.YtlliggfggadidaaGreatDoorG07
import Derived.Deep.CutRange
namespace Go.Proofs.YtlliggfggadidaaGreatDoor
open Go.RowKit
def RowsI (P : Nat → Prop) (w : World) (row : Option Nat) (k : Nat) (V : Nat → Value) (X : Nat → List Int) : Prop :=
  (∀ i, i < k → w.ownsRow 0 2 1 (V i) (X i).length ((X i).map (Value.int .i64)) ∧ ∀ r, (V i).ownBlock = some r → P r ∧ row ≠ some r) ∧
    ∀ i j, i < k → j < k → i ≠ j → ∀ r, (V i).ownBlock = some r → (V j).ownBlock ≠ some r
theorem ownsRow_zero {w : World} {B e s : Nat} {v : Value} {n : Nat} {xs : List Value} (h : w.ownsRow B e s v n xs) : w.ownsRow 0 e s v n xs := by
  refine ⟨h.1, ?_⟩
  rcases h.2 with h | ⟨g, cap, cur, h1, _, h3⟩
  · exact Or.inl h
  · exact Or.inr ⟨g, cap, cur, h1, Nat.zero_le _, h3⟩
theorem RowsI.keep {P : Nat → Prop} {w w' : World} {row : Option Nat} {k : Nat} {V : Nat → Value} {X : Nat → List Int} (h : RowsI P w row k V X) (hk : ∀ i, i < k → w'.ownsRow 0 2 1 (V i) (X i).length ((X i).map (Value.int .i64))) : RowsI P w' row k V X :=
  ⟨fun i hi => ⟨hk i hi, (h.1 i hi).2⟩, h.2⟩
theorem ownsRow_under {w w' : World} {M B e s : Nat} {v : Value} {n : Nat} {xs : List Value} (h : w.ownsRow B e s v n xs) (hb : Below M w w') (hv : ∀ r, v.ownBlock = some r → r < M) : w'.ownsRow B e s v n xs := by
  refine ⟨h.1, ?_⟩
  rcases h.2 with h | ⟨g, cap, cur, h1, h2, h3, h4⟩
  · exact Or.inl h
  · subst h1
    exact Or.inr ⟨g, cap, cur, rfl, h2, (hb.block g (hv g rfl)).trans h3, h4⟩
end Go.Proofs.YtlliggfggadidaaGreatDoor
namespace Go.Proofs.YtlliggfggadidaaGreatDoor
open Go.RowKit
def EoRow (P : Nat → Prop) (w : World) (v : Value) (k : Nat) (gs : List Oj) : Prop :=
  ∃ V, w.ownsRow 0 58 3 v k (cellsEn gs k V) ∧ (∀ r, v.ownBlock = some r → P r) ∧ RowsI P w v.ownBlock k V (fun i => (gs.getD i oj0).2.2)
theorem EoRow.empty (w : World) (P : Nat → Prop) (hP : P w.heap.size) (gs : List Oj) : EoRow P (w.alloc (.cells #[] 58)) (.slice (some ⟨w.heap.size, 0, none⟩) 0 0) 0 gs :=
  ⟨fun _ => .bool false, World.ownsRow_made w #[] 0 (Nat.zero_le _) (by unfold maxLen; omega) (by simp), fun r h => by injection h with h; subst h; exact hP, fun i hi => absurd hi (Nat.not_lt_zero _), fun i j hi => absurd hi (Nat.not_lt_zero _)⟩
theorem EoRow.later {P : Nat → Prop} {w w' : World} {v : Value} {k : Nat} {gs : List Oj} (h : EoRow P w v k gs) (hb : Below w.heap.size w w') : EoRow P w' v k gs := by
  obtain ⟨V, h1, h2, h3⟩ := h
  exact ⟨V, ownsRow_later h1 hb, h2, h3.keep fun i hi => ownsRow_later (h3.1 i hi).1 hb⟩
theorem EoRow.drawn {P : Nat → Prop} {w w' : World} {s : Nat} {v : Value} {k : Nat} {gs : List Oj} (h : EoRow P w v k gs) (hw : Wr (· = s) w w') (hs : ¬ P s) : EoRow P w' v k gs := by
  obtain ⟨V, h1, h2, h3⟩ := h
  exact ⟨V, ownsRow_wr h1 hw (fun e => hs (h2 s e)), h2, h3.keep fun i hi => ownsRow_wr (h3.1 i hi).1 hw (fun e => hs ((h3.1 i hi).2 s e).1)⟩
theorem EoRow.mono {P P' : Nat → Prop} {w : World} {v : Value} {k : Nat} {gs : List Oj} (h : EoRow P w v k gs) (hP : ∀ b, P b → P' b) : EoRow P' w v k gs := by
  obtain ⟨V, h1, h2, h3⟩ := h
  exact ⟨V, h1, fun r hr => hP r (h2 r hr), fun i hi => ⟨(h3.1 i hi).1, fun r hr => ⟨hP r ((h3.1 i hi).2 r hr).1, ((h3.1 i hi).2 r hr).2⟩⟩, h3.2⟩
theorem EoRow.shape {P : Nat → Prop} {w : World} {v : Value} {k : Nat} {gs : List Oj} (h : EoRow P w v k gs) : ∃ ao c, v = .slice ao k c := by
  obtain ⟨V, h1, _⟩ := h
  rcases h1.2 with ⟨rfl, e⟩ | ⟨g, cap, cur, rfl, _⟩
  · exact ⟨none, 0, by rw [e]⟩
  · exact ⟨_, _, rfl⟩
theorem EoRow.step {P : Nat → Prop} {w w1 w2 w3 : World} {v z : Value} {k g cap : Nat} {V : Nat → Value} {gs : List Oj} (hi : RowsI P w v.ownBlock k V (fun i => (gs.getD i oj0).2.2)) (hr : w.ownsRow 0 58 3 v k (cellsEn gs k V)) (hpr : ∀ r, v.ownBlock = some r → P r)
    (hN : ∀ b, w.heap.size ≤ b → P b) (hb1 : Below w.heap.size w w1) (hz : w1.ownsRow w.heap.size 2 1 z (gs.getD k oj0).2.2.length ((gs.getD k oj0).2.2.map (Value.int .i64))) (hb2 : Below w1.heap.size w1 w2)
    (hown : w3.ownsRow 0 58 3 (.slice (some ⟨g, 0, none⟩) (k + 1) cap) (k + 1) (cellsEn gs k V ++ [.int .i64 (gs.getD k oj0).1, .int .i64 (gs.getD k oj0).2.1, z])) (hg : w2.grownBy w3 v.ownBlock) (hat : v.ownBlock = some g ∨ g = w2.heap.size) :
    EoRow P w3 (.slice (some ⟨g, 0, none⟩) (k + 1) cap) (k + 1) gs := by
  have hs1 := hb1.size
  have hs2 := hb2.size
  have hzb : ∀ r, z.ownBlock = some r → w.heap.size ≤ r ∧ r < w1.heap.size := fun r hr => hz.lt r hr
  have hvb : ∀ r, v.ownBlock = some r → r < w.heap.size := fun r h => (hr.lt r h).2
  have hVb : ∀ i, i < k → ∀ r, (V i).ownBlock = some r → r < w.heap.size := fun i hik r h => ((hi.1 i hik).1.lt r h).2
  have hkp : ∀ u : Value, (∀ q, u.ownBlock = some q → v.ownBlock ≠ some q) → u.ownBlock = none ∨ u.ownBlock ≠ v.ownBlock := fun u h => by
    cases e : u.ownBlock with
    | none => exact Or.inl rfl
    | some q => exact Or.inr (fun e2 => h q e e2.symm)
  have hgne : ∀ r, r < w2.heap.size → (∀ q, v.ownBlock = some q → q ≠ r) → some g ≠ some r := fun r hr h e => by
    injection e with e
    rcases hat with hat | hat
    · exact h g hat e
    · omega
  refine ⟨fun i => if i = k then z else V i, ?_, fun r hr' => ?_, fun i hik => ?_, fun i j hik hjk hij r hr' => ?_⟩
  · rw [cellsEn_next, cellsEn_congr gs k _ V (fun i hi => by rw [if_neg (by omega)]), if_pos rfl]
    exact hown
  · injection hr' with hr'
    subst hr'
    rcases hat with hat | hat
    · exact hpr _ hat
    · exact hN _ (by dsimp only; omega)
  · by_cases e : i = k
    · subst e
      simp only [if_true]
      refine ⟨(ownsRow_later (ownsRow_zero hz) hb2).kept hg (hkp z (fun q hq e => by have h1 := hvb q e; have h2 := (hzb q hq).1; omega)), fun r hr' => ⟨hN r (hzb r hr').1, hgne r (by have := (hzb r hr').2; omega) (fun q hq e => by have := hvb q hq; have := (hzb r hr').1; omega)⟩⟩
    · simp only [if_neg e]
      obtain ⟨k1, k2⟩ := hi.1 i (by omega)
      refine ⟨(ownsRow_later (ownsRow_later k1 hb1) hb2).kept hg (hkp (V i) (fun q hq => (k2 q hq).2)), fun r hr' => ⟨(k2 r hr').1, hgne r (by have := hVb i (by omega) r hr'; omega) (fun q hq e => (k2 r hr').2 (by rw [hq, e]))⟩⟩
  · by_cases e : i = k
    · subst e
      simp only [if_true] at hr'
      simp only [if_neg (show j ≠ i by omega)]
      intro e2
      have h1 := hVb j (by omega) r e2
      have h2 := (hzb r hr').1
      omega
    · simp only [if_neg e] at hr'
      by_cases e2 : j = k
      · subst e2
        simp only [if_true]
        intro e3
        have h1 := hVb i (by omega) r hr'
        have h2 := (hzb r e3).1
        omega
      · simp only [if_neg e2]
        exact hi.2 i j (by omega) (by omega) hij r hr'
theorem EoRow.rd {P : Nat → Prop} {w : World} {v : Value} {k : Nat} {gs : List Oj} (h : EoRow P w v k gs) (hk : gs.length = k) (hm : k ≤ 1048576) (hl : ∀ i, i < gs.length → (gs.getD i oj0).2.2.length ≤ 1048576) : RdJ (fun _ => True) w v gs := by
  obtain ⟨V, h1, _, h3⟩ := h
  subst hk
  rcases h1.2 with ⟨rfl, e⟩ | ⟨g, cap, cur, rfl, hg, hh, _⟩
  · have : gs = [] := List.eq_nil_of_length_eq_zero e
    subst this
    exact ⟨none, 0, rfl, by simp, fun h => absurd rfl h⟩
  · refine ⟨_, cap, rfl, by omega, fun _ => ⟨g, 0, V, rfl, trivial, fun i hi => ⟨?_, ?_, ?_, (ow_of_owns rfl (h3.1 i hi).1 (by have := hl i hi; dsimp only; omega)).rd.narrow (fun _ _ _ => trivial)⟩⟩⟩
    · rw [Nat.zero_add, h1.cellAt (i * 3) (by omega)]
      exact cellsEn_flg _ _ _ _ hi
    · rw [Nat.zero_add, h1.cellAt (i * 3 + 1) (by omega)]
      exact cellsEn_num _ _ _ _ hi
    · rw [Nat.zero_add, h1.cellAt (i * 3 + 2) (by omega)]
      exact cellsEn_words _ _ _ _ hi
theorem EoRow.one {P : Nat → Prop} {w2 w3 : World} {v z : Value} {k g cap : Nat} {V : Nat → Value} {gs : List Oj} {o : Obj} (hi : RowsI P w2 v.ownBlock k V (fun i => (gs.getD i oj0).2.2)) (hr : w2.ownsRow 0 58 3 v k (cellsEn gs k V)) (hpr : ∀ r, v.ownBlock = some r → P r)
    (hN : P (w2.heap.size + 1)) (hz : w2.ownsRow 0 2 1 z (gs.getD k oj0).2.2.length ((gs.getD k oj0).2.2.map (Value.int .i64))) (hzd : ∀ r, z.ownBlock = some r → P r ∧ v.ownBlock ≠ some r ∧ ∀ i, i < k → (V i).ownBlock ≠ some r)
    (hown : w3.ownsRow 0 58 3 (.slice (some ⟨g, 0, none⟩) (k + 1) cap) (k + 1) (cellsEn gs k V ++ [.int .i64 (gs.getD k oj0).1, .int .i64 (gs.getD k oj0).2.1, z])) (hg : (w2.alloc o).grownBy w3 v.ownBlock) (hat : v.ownBlock = some g ∨ g = w2.heap.size + 1) :
    EoRow P w3 (.slice (some ⟨g, 0, none⟩) (k + 1) cap) (k + 1) gs := by
  have hb2 := below_alloc w2 o
  have hkp : ∀ u : Value, (∀ q, u.ownBlock = some q → v.ownBlock ≠ some q) → u.ownBlock = none ∨ u.ownBlock ≠ v.ownBlock := fun u h => by
    cases e : u.ownBlock with
    | none => exact Or.inl rfl
    | some q => exact Or.inr (fun e2 => h q e e2.symm)
  have hgne : ∀ r, r < w2.heap.size → v.ownBlock ≠ some r → some g ≠ some r := fun r hr h e => by
    injection e with e
    rcases hat with hat | hat
    · exact h (by rw [hat, e])
    · omega
  refine ⟨fun i => if i = k then z else V i, ?_, fun r hr' => ?_, fun i hik => ?_, fun i j hik hjk hij r hr' => ?_⟩
  · rw [cellsEn_next, cellsEn_congr gs k _ V (fun i hi => by rw [if_neg (by omega)]), if_pos rfl]
    exact hown
  · injection hr' with hr'
    subst hr'
    rcases hat with hat | hat
    · exact hpr _ hat
    · rw [hat]; exact hN
  · by_cases e : i = k
    · subst e
      simp only [if_true]
      exact ⟨(ownsRow_later hz hb2).kept hg (hkp z (fun q hq => (hzd q hq).2.1)), fun r hr' => ⟨(hzd r hr').1, hgne r (hz.lt r hr').2 (hzd r hr').2.1⟩⟩
    · simp only [if_neg e]
      obtain ⟨k1, k2⟩ := hi.1 i (by omega)
      exact ⟨(ownsRow_later k1 hb2).kept hg (hkp (V i) (fun q hq => (k2 q hq).2)), fun r hr' => ⟨(k2 r hr').1, hgne r (k1.lt r hr').2 (k2 r hr').2⟩⟩
  · by_cases e : i = k
    · subst e
      simp only [if_true] at hr'
      simp only [if_neg (show j ≠ i by omega)]
      exact (hzd r hr').2.2 j (by omega)
    · simp only [if_neg e] at hr'
      by_cases e2 : j = k
      · subst e2
        simp only [if_true]
        intro e3
        exact (hzd r e3).2.2 i (by omega) hr'
      · simp only [if_neg e2]
        exact hi.2 i j (by omega) (by omega) hij r hr'
theorem EoRow.under {P : Nat → Prop} {M : Nat} {w w' : World} {v : Value} {k : Nat} {gs : List Oj} (h : EoRow P w v k gs) (hP : ∀ b, P b → b < M) (hb : Below M w w') : EoRow P w' v k gs := by
  obtain ⟨V, h1, h2, h3⟩ := h
  exact ⟨V, ownsRow_under h1 hb (fun r hr => hP r (h2 r hr)), h2, h3.keep fun i hi => ownsRow_under (h3.1 i hi).1 hb (fun r hr => hP r ((h3.1 i hi).2 r hr).1)⟩
theorem EoRow.rdP {P : Nat → Prop} {w : World} {v : Value} {k : Nat} {gs : List Oj} (h : EoRow P w v k gs) (hk : gs.length = k) (hm : k ≤ 1048576) (hl : ∀ i, i < gs.length → (gs.getD i oj0).2.2.length ≤ 1048576) : RdJ P w v gs := by
  obtain ⟨V, h1, hp, h3⟩ := h
  subst hk
  rcases h1.2 with ⟨rfl, e⟩ | ⟨g, cap, cur, rfl, hg, hh, _⟩
  · have : gs = [] := List.eq_nil_of_length_eq_zero e
    subst this
    exact ⟨none, 0, rfl, by simp, fun h => absurd rfl h⟩
  · refine ⟨_, cap, rfl, by omega, fun _ => ⟨g, 0, V, rfl, hp g rfl, fun i hi => ⟨?_, ?_, ?_, ?_⟩⟩⟩
    · rw [Nat.zero_add, h1.cellAt (i * 3) (by omega)]
      exact cellsEn_flg _ _ _ _ hi
    · rw [Nat.zero_add, h1.cellAt (i * 3 + 1) (by omega)]
      exact cellsEn_num _ _ _ _ hi
    · rw [Nat.zero_add, h1.cellAt (i * 3 + 2) (by omega)]
      exact cellsEn_words _ _ _ _ hi
    · have hx := (h3.1 i hi)
      rcases hx.1.2 with ⟨e1, e2⟩ | ⟨g2, cap2, cur2, e1, _, hh2, hc2, _⟩
      · rw [e1]
        exact ⟨none, 0, by rw [e2], by rw [e2]; omega, fun hne => absurd (List.eq_nil_of_length_eq_zero e2) hne⟩
      · have hO := (ow_of_owns rfl hx.1 (by have := hl i hi; dsimp only; omega))
        obtain ⟨b, q1, q2⟩ := hO
        refine q1.narrow fun hne x hxb => ?_
        subst hxb
        obtain ⟨ao', c', f1, f2, f3⟩ := q1
        obtain ⟨b', off', f4, f5, f6⟩ := f3 hne
        rw [e1] at f1
        injection f1 with f1 _ _
        rw [f4] at f1
        injection f1 with f1
        injection f1 with f1 _
        have := (hx.2 g2 (by rw [e1]; rfl)).1
        rw [← f5, ← f1]
        exact this
end Go.Proofs.YtlliggfggadidaaGreatDoor
namespace Go.Proofs.YtlliggfggadidaaGreatDoor
open Go.RowKit
theorem l1ChanceE {s : Nat} {v : Value} {bs : List Nat} {w : World} {t : Nat} (n : Int) (hS : Src s v bs w t) (ht : t ≤ 1073741824) (hn : n ≤ 1073741824) (hn1 : -1073741824 ≤ n) :
    Calls Tryz.prog 22 #[.pointer (some ⟨s, 0, none⟩), .int .i64 n] w fun e w' => ∃ ch : Bool, e = .returned (.bool ch) ∧ ∃ t', Drawn 1 s v bs t t' w w' := by
  have HC := hide (l1Next n hS ht hn hn1)
  clear hS
  go_enter Tryz.func22, Tryz.ntmps22
  go_wp2_with fail
  refine HC.out.mono ?_
  rintro e w1 ⟨a, rfl, _, _, t1, hd1⟩
  have HD := hide hd1
  clear hd1
  go_wp2
  go_ret
  exact ⟨_, rfl, _, HD.out⟩
theorem EoRow.lt {P : Nat → Prop} {w : World} {v : Value} {k : Nat} {gs : List Oj} (h : EoRow P w v k gs) : EoRow (fun b => P b ∧ b < w.heap.size) w v k gs := by
  obtain ⟨V, h1, h2, h3⟩ := h
  exact ⟨V, h1, fun r hr => ⟨h2 r hr, (h1.lt r hr).2⟩, fun i hi => ⟨(h3.1 i hi).1, fun r hr => ⟨⟨((h3.1 i hi).2 r hr).1, ((h3.1 i hi).1.lt r hr).2⟩, ((h3.1 i hi).2 r hr).2⟩⟩, h3.2⟩
structure EdAt (w : World) (s : Nat) (v : Value) (bs : List Nat) (t : Nat) (h : Nat) (a b : Int) (xs : List Int) (ao : Option Addr) (n c N t5 : Nat) (ov : Value) (k : Nat) (gs : List Oj) (wr : World) : Prop where
  dr : Drawn N s v bs t t5 w wr
  hw : w.heap.size ≤ h
  hl : h < wr.heap.size
  h0 : wr.cell? ⟨h, 0, none⟩ = some (.int .i64 a)
  h1 : wr.cell? ⟨h, 1, none⟩ = some (.int .i64 b)
  h2 : wr.cell? ⟨h, 2, none⟩ = some (.slice ao n c)
  hf : ∀ o, wr.frozen? ⟨h, o, none⟩ = false
  own : wr.ownsRow (h + 1) 2 1 (.slice ao n c) n (xs.map (Value.int .i64))
  len : xs.length = n
  row : EoRow (fun b => w.heap.size ≤ b ∧ b < h) wr ov k gs
theorem EdAt.on {w : World} {s : Nat} {v : Value} {bs : List Nat} {t h : Nat} {a b : Int} {xs : List Int} {ao : Option Addr} {n c N t5 t6 M k : Nat} {ov : Value} {gs : List Oj} {wr w6 : World} (H : EdAt w s v bs t h a b xs ao n c N t5 ov k gs wr) (hs : s < w.heap.size) (hd : Drawn M s v bs t5 t6 wr w6) :
    EdAt w s v bs t h a b xs ao n c (N + M) t6 ov k gs w6 := by
  have hw := hd.2.1
  have h2 := H.hw
  have h3 := H.hl
  exact ⟨H.dr.on hd, H.hw, Nat.lt_of_lt_of_le H.hl hw.size, cell_wr hw H.h0 (by omega), cell_wr hw H.h1 (by omega), cell_wr hw H.h2 (by omega), fun o => (hw.frz _ _ (by omega)).trans (H.hf o), ownsRow_wr H.own hw (ownBlock_ne H.own (by omega)), H.len, H.row.drawn hw (by omega)⟩
theorem EdAt.later {w : World} {s : Nat} {v : Value} {bs : List Nat} {t h : Nat} {a b : Int} {xs : List Int} {ao : Option Addr} {n c N t5 k : Nat} {ov : Value} {gs : List Oj} {wr w6 : World} (H : EdAt w s v bs t h a b xs ao n c N t5 ov k gs wr) (hb : Below wr.heap.size wr w6) :
    EdAt w s v bs t h a b xs ao n c N t5 ov k gs w6 := by
  have h3 := H.hl
  exact ⟨H.dr.later hb, H.hw, Nat.lt_of_lt_of_le H.hl hb.size, cell_later hb H.h0, cell_later hb H.h1, cell_later hb H.h2, fun o => ((bcell hb).2 _ _ (by omega)).trans (H.hf o), ownsRow_later H.own hb, H.len, H.row.later hb⟩
theorem EdAt.step {w : World} {s : Nat} {v : Value} {bs : List Nat} {t h : Nat} {a b x : Int} {xs : List Int} {ao : Option Addr} {n c N t5 g cap k : Nat} {ov : Value} {gs : List Oj} {wr w3 : World} (hS : Src s v bs w t) (H : EdAt w s v bs t h a b xs ao n c N t5 ov k gs wr)
    (hown : w3.ownsRow (h + 1) 2 1 (.slice (some ⟨g, 0, none⟩) (n + 1) cap) (n + 1) ((xs ++ [x]).map (Value.int .i64)))
    (hgrow : (wr.alloc (.cells #[.int .i64 x] 2)).grownBy w3 (Value.slice ao n c).ownBlock) :
    EdAt w s v bs t h a b (xs ++ [x]) (some ⟨g, 0, none⟩) (n + 1) cap N t5 ov k gs (w3.setCell ⟨h, 2, none⟩ (.slice (some ⟨g, 0, none⟩) (n + 1) cap)) := by
  have k2 := H.hw
  have k3 := H.hl
  have hB : Below (h + 1) wr w3 := ((below_alloc wr (.cells #[.int .i64 x] 2)).mono (by omega)).grown hgrow (by simp; omega) (fun r hr => (H.own.lt r hr).1)
  have hc : ∀ b o, b < h + 1 → w3.cell? ⟨b, o, none⟩ = wr.cell? ⟨b, o, none⟩ := fun b o hb => hB.cell (p := ⟨b, o, none⟩) hb
  have hz : ∀ b o, b < h + 1 → w3.frozen? ⟨b, o, none⟩ = wr.frozen? ⟨b, o, none⟩ := fun b o hb => hB.frozen (p := ⟨b, o, none⟩) hb
  have hs := hB.size
  have hBh : Below h wr (w3.setCell ⟨h, 2, none⟩ (.slice (some ⟨g, 0, none⟩) (n + 1) cap)) := (hB.mono (by omega)).setCell (by simp) _
  refine ⟨H.dr.onBelow hS (hBh.mono (by omega)), H.hw, by simp; omega, ?_, ?_, ?_, fun o => ?_, ?_, by simp [H.len], H.row.under (fun b hb => hb.2) hBh⟩
  · rw [World.cell?_setCell_other _ _ _ _ (by intro e; injection e with _ e; omega), hc _ _ (by omega)]; exact H.h0
  · rw [World.cell?_setCell_other _ _ _ _ (by intro e; injection e with _ e; omega), hc _ _ (by omega)]; exact H.h1
  · exact World.cell?_setCell_same _ _ _ ((hc _ _ (by omega)).trans H.h2)
  · rw [World.frozen?_setCell, hz _ _ (by omega)]; exact H.hf o
  · exact ownsRow_set hown (fun e => by have := (hown.lt _ e).1; omega)
theorem EdAt.fin {w : World} {s : Nat} {v : Value} {bs : List Nat} {t h : Nat} {a b : Int} {xs : List Int} {ao : Option Addr} {n c N t5 g cap k : Nat} {ov : Value} {gs : List Oj} {V : Nat → Value} {wr w3 : World} (hS : Src s v bs w t) (H : EdAt w s v bs t h a b xs ao n c N t5 ov k gs wr) (hk : gs.length = k)
    (hr : wr.ownsRow 0 58 3 ov k (cellsEn gs k V)) (hpr : ∀ r, ov.ownBlock = some r → w.heap.size ≤ r ∧ r < h) (hi : RowsI (fun b => w.heap.size ≤ b ∧ b < h) wr ov.ownBlock k V (fun i => (gs.getD i oj0).2.2))
    (hown : w3.ownsRow 0 58 3 (.slice (some ⟨g, 0, none⟩) (k + 1) cap) (k + 1) (cellsEn gs k V ++ [.int .i64 a, .int .i64 b, .slice ao n c]))
    (hg : (wr.alloc (.cells #[.int .i64 a, .int .i64 b, .slice ao n c] 58)).grownBy w3 ov.ownBlock) (hat : ov.ownBlock = some g ∨ g = wr.heap.size + 1) :
    EoRow (w.heap.size ≤ ·) w3 (.slice (some ⟨g, 0, none⟩) (k + 1) cap) (k + 1) (gs ++ [(a, b, xs)]) ∧ Drawn N s v bs t t5 w w3 := by
  have h1 := H.hw
  have h2 := H.hl
  have he : ∀ i, i < k → gs.getD i oj0 = (gs ++ [(a, b, xs)]).getD i oj0 := fun i hi => by
    have : i < gs.length := by omega
    simp [List.getD, List.getElem?_append_left this]
  have hek : (gs ++ [(a, b, xs)]).getD k oj0 = (a, b, xs) := by subst hk; simp [List.getD]
  refine ⟨EoRow.one (P := (w.heap.size ≤ ·)) (w2 := wr) (V := V) (z := .slice ao n c) (o := .cells #[.int .i64 a, .int .i64 b, .slice ao n c] 58) ⟨fun i hik => ?_, hi.2⟩ (by rw [← cellsEn_ext gs _ k V he]; exact hr) (fun r hr => (hpr r hr).1) (by omega) (by rw [hek]; dsimp only; rw [H.len]; exact ownsRow_zero H.own) (fun r hr' => ?_) (by rw [hek, ← cellsEn_ext gs _ k V he]; exact hown) hg hat, ?_⟩
  · dsimp only
    rw [← he i hik]
    exact ⟨(hi.1 i hik).1, fun r hr' => ⟨((hi.1 i hik).2 r hr').1.1, ((hi.1 i hik).2 r hr').2⟩⟩
  · have h3 := (H.own.lt r hr').1
    exact ⟨by omega, fun e => by have := (hpr r e).2; omega, fun i hik e => by have := ((hi.1 i hik).2 r e).1.2; omega⟩
  · have hB : Below w.heap.size wr w3 := ((below_alloc wr _).mono (by omega)).grown hg (by simp; omega) (fun r hr => (hpr r hr).1)
    exact H.dr.onBelow hS hB
set_option maxHeartbeats 8000000 in
set_option maxRecDepth 4000 in
theorem l9Draw {s : Nat} {v : Value} {bs : List Nat} {w : World} {t : Nat} (hS : Src s v bs w t) (ht : t ≤ 900000000) (f tm : Int) (n : Nat) (hn : n ≤ 16) (hf0 : 0 ≤ f) (hf1 : f ≤ 100000) (ht0 : 0 ≤ tm) (ht1 : tm ≤ 100000) :
    Calls Tryz.prog 52 #[.pointer (some ⟨s, 0, none⟩), .int .i64 f, .int .i64 tm, .int .i64 (n : Int)] w fun e w' => ∃ z gs, e = .returned z ∧ gs.length = n ∧ (∀ p, p ∈ gs → p.2.2.length ≤ 4) ∧ EoRow (w.heap.size ≤ ·) w' z n gs ∧ ∃ t', Drawn 100 s v bs t t' w w' := by
  have HS := hide hS
  have hsl := hS.lt
  obtain ⟨i0, hi, hz0, hz1, hz2⟩ := info_parts Tryz.infoInt
  obtain ⟨j0, hj, jz0, jz1, jz2⟩ := info_parts Tryz.infoEn
  clear hS
  have HD0 := hide ((Drawn.refl HS.out).later (below_alloc w (.cells #[] 58)))
  go_enter Tryz.func52, Tryz.ntmps52
  go_wp2
  go_loopw [1, 2, 3, 9] (fun fv tv nv ov wr => ∃ (m k t5 : Nat) (f' tm' : Int) (gs : List Oj), k + m = n ∧ nv = .int .i64 (m : Int) ∧ fv = .int .i64 f' ∧ 0 ≤ f' ∧ f' ≤ f + k ∧ tv = .int .i64 tm' ∧ 0 ≤ tm' ∧ tm' ≤ tm + k ∧ gs.length = k ∧ Hid (∀ p, p ∈ gs → p.2.2.length ≤ 4) ∧ Hid (EoRow (w.heap.size ≤ ·) wr ov k gs) ∧ Hid (Drawn (5 * k) s v bs t t5 w wr)) (fun _ _ m _ _ => (intOf m).toNat)
  case atStart => exact ⟨n, 0, t, f, tm, [], by omega, rfl, rfl, hf0, by omega, rfl, ht0, by omega, rfl, fun p hp => absurd hp (by simp), EoRow.empty _ _ (Nat.le_refl _) _, HD0.out⟩
  case round =>
    clear HD0
    obtain ⟨m, k, t5, f', tm', gs, hkm, rfl, rfl, hf0', hf1', rfl, ht0', ht1', hgl, HPl, HRow, HDr⟩ := hrel
    have HGl := hide hgl
    clear hgl
    by_cases hm0 : 0 < m
    · obtain ⟨m', rfl⟩ : ∃ m', m = m' + 1 := ⟨m - 1, by omega⟩
      have hmi : (0 : Int) < ((m' + 1 : Nat) : Int) := by omega
      have ht5 := HDr.out.2.2
      go_upto_if 18 with (go_at_call 22; refine (l1ChanceE 4 HDr.out.1 (by omega) (by omega) (by omega)).mono ?_; rintro e w1 ⟨ch, rfl, t6, hd⟩; have HRow1 := hide (HRow.out.drawn hd.2.1 (by omega)); have HDr1 := hide (HDr.out.on hd); clear hd)
      go_cut [2] from 13 to 42 (fun tv wx => ∃ tn : Int, tv = .int .i64 tn ∧ 0 ≤ tn ∧ tn ≤ tm + k + 1 ∧ wx = w1)
      case first =>
        cases ch with
        | true =>
          go_wp2
          go_meet
          case rel => exact ⟨tm' + 1, by go_num, by omega, by omega, rfl⟩
        | false =>
          go_wp2
          go_meet
          case rel => exact ⟨tm', rfl, by omega, by omega, rfl⟩
      case rest =>
        obtain ⟨tn, rfl, htn0, htn1, hwc⟩ := hcut
        have hwc := hwc.symm
        subst hwc
        have HA : Hid (EdAt w s v bs t w1.heap.size f' tn [] none 0 0 (5 * k + 1) t6 u9 k gs (w1.alloc (.cells #[.int .i64 f', .int .i64 tn, .slice none 0 0] 58))) := by
          have hb := below_alloc w1 (.cells #[.int .i64 f', .int .i64 tn, .slice none 0 0] 58)
          exact ⟨HDr1.out.later hb, HDr1.out.2.1.size, by simp, by simp [go_sem], by simp [go_sem], by simp [go_sem], fun o => by simp [go_sem], World.ownsRow_nil _ _ _ _, rfl, HRow1.out.lt.later hb⟩
        have ht6 := HDr1.out.2.2
        go_wp2_with fail
        refine (l1Next 4 HA.out.dr.1 (by omega) (by omega) (by omega)).mono ?_
        rintro e w3 ⟨k1, rfl, k1a, k1b, t7, hd3⟩
        have k1c := k1b (by omega)
        obtain ⟨K, rfl⟩ : ∃ K : Nat, k1 = (K : Int) := ⟨k1.toNat, (Int.toNat_of_nonneg k1a).symm⟩
        have HA3 := hide (HA.out.on hsl hd3)
        clear hd3 k1b HA
        obtain ⟨hb, hhb⟩ : ∃ hb, w1.heap.size = hb := ⟨_, rfl⟩
        rw [hhb] at HA3 ⊢
        clear hhb
        go_wp2
        obtain ⟨wq, hwq⟩ : ∃ wq, wq = wr := ⟨_, rfl⟩
        subst hwq
        go_loopw [11] (fun kv wr => ∃ (l K : Nat) (ao : Option Addr) (c : Nat) (xs : List Int) (t8 : Nat), l + K ≤ 3 ∧ kv = .int .i64 (K : Int) ∧ Hid (EdAt w s v bs t hb f' tn xs ao l c (5 * k + 2 + l) t8 u9 k gs wr)) (fun k _ => (intOf k).toNat)
        case atStart => exact ⟨0, K, none, 0, [], t7, by omega, rfl, HA3.out⟩
        case round =>
          clear HA3
          obtain ⟨l, K, ao, c, xs, t8, hlK, rfl, HD⟩ := hrel
          have ht8 := HD.out.dr.2.2
          by_cases hK0 : 0 < K
          · have q2 := HD.out.h2
            have qf := HD.out.hf 2
            have hbl := HD.out.hl
            obtain ⟨K', rfl⟩ : ∃ K', K = K' + 1 := ⟨K - 1, by omega⟩
            have HNx := hide (l1Next 99 (HD.out.dr.1.drewN 1) (by omega) (by omega) (by omega))
            go_wp2_with fail
            go_region_law (first
              | (refine step_append_lies _ (by rfl) _ _ _ (by rfl) (hb + 1) 2 i0 (.int .i64 0) 1 8 Tryz.underlying24 hi hz0 hz1 hz2 rfl (by omega) (.slice ao l c) l _ (by rfl) (H6.out.own.alloc (.cells #[.int .i64 r] 2)) ⟨w6.heap.size, 0, none⟩ 1 1 [.int .i64 r] (by rfl) (by rfl) (World.news_of_block (cs := #[.int .i64 r]) (t := 2) (fr := (0, 0)) (heap_alloc_new w6 _)) (by simp [Value.oneCell']) (by omega) (by unfold maxLen; omega) (by omega) (by simp; have := H6.out.hl; omega) (w6.heap.size + 1) (by simp) ?_; intro g cap w7 hown hgrow hat hlt7; have s0 := (hgrow.cell_far ⟨hb, 2, none⟩ (by simp; have := H6.out.hl; omega) (fun e => by have := (H6.out.own.lt _ e.symm).1; dsimp only at this; omega)).trans e1; have s1 : w7.frozen? ⟨hb, 2, none⟩ = false := (hgrow.frozen_far ⟨hb, 2, none⟩ (by simp; have := H6.out.hl; omega) (fun e => by have := (H6.out.own.lt _ e.symm).1; dsimp only at this; omega)).trans (((bcell (below_alloc w6 _)).2 _ _ H6.out.hl).trans (H6.out.hf 2)))
              | (go_simp; go_at_call 40; refine HNx.out.mono ?_; rintro e w6 ⟨r, rfl, ra, rb, t9, hd6⟩; have H6 := hide ((HD.out.later (below_drewN wr 1)).on hsl hd6); have e0 := H6.out.h2; have e1 := cell_later (below_alloc w6 (.cells #[.int .i64 r] 2)) e0; clear hd6 rb))
            all_goals
              have HSt := hide (EdAt.step HS.out H6.out (by rw [List.map_append]; exact hown) hgrow)
              clear hown hgrow hat s0 s1 e0 e1
              go_wp2
              go_roundw
              case rel => exact ⟨l + 1, K', _, _, _, t9, by omega, by go_num, HSt.out⟩
              case measure => simp [intOf]
          · have hKz : K = 0 := by omega
            subst hKz
            have q0 := HD.out.h0
            have q1 := HD.out.h1
            have q2 := HD.out.h2
            have hbl := HD.out.hl
            have HLen := hide HD.out.len
            obtain ⟨V, hown0, hpr0, hin0⟩ := HD.out.row
            have HOw0 := hide hown0
            have HPr0 := hide hpr0
            have HIn0 := hide hin0
            clear hown0 hpr0 hin0
            go_wp2_with (at_builtin; refine wpList_append_lies _ rfl _ _ _ rfl 0 58 j0 (.agg #[.int .i64 0, .int .i64 0, .slice none 0 0]) 3 40 Tryz.underlying25 hj jz0 jz1 jz2 rfl (by omega) _ k _ (by rfl) (HOw0.out.alloc (.cells #[.int .i64 f', .int .i64 tn, .slice ao l c] 58)) ⟨wr.heap.size, 0, none⟩ 1 1 [.int .i64 f', .int .i64 tn, .slice ao l c] (by rfl) (by rfl) (World.news_of_block (cs := #[.int .i64 f', .int .i64 tn, .slice ao l c]) (t := 58) (fr := (0, 0)) (heap_alloc_new wr _)) cellsEn_one (by omega) (by unfold maxLen; omega) (by omega) (Nat.zero_le _) (wr.heap.size + 1) (by simp) ?_; intro g cap w4 hown hgrow hat hlt4)
            have HFn := hide (EdAt.fin HS.out HD.out HGl.out HOw0.out HPr0.out HIn0.out hown hgrow (by simpa using hat))
            have HGl2 : Hid ((gs ++ [(f', tn, xs)]).length = k + 1) := by rw [Hid, List.length_append, HGl.out]; rfl
            have HPl2 : Hid (∀ p, p ∈ gs ++ [(f', tn, xs)] → p.2.2.length ≤ 4) := by
              intro p hp
              rcases List.mem_append.1 hp with hp | hp
              · exact HPl.out p hp
              · rw [List.mem_singleton] at hp
                subst hp
                have := HLen.out
                dsimp only
                omega
            clear hown hgrow hat hlt4
            go_wp2
            go_roundw
            case rel => exact ⟨m', k + 1, t8, f' + 1, tn, gs ++ [(f', tn, xs)], by omega, by go_num, by go_num, by omega, by omega, rfl, by omega, by omega, HGl2.out, HPl2.out, HFn.out.1, HFn.out.2.mono (by omega)⟩
            case measure => simp [intOf]
    · have hmz : m = 0 := by omega
      subst hmz
      have hkn : k = n := by omega
      subst hkn
      go_wp2
      go_ret
      exact ⟨_, gs, rfl, HGl.out, HPl.out, HRow.out, t5, HDr.out.mono (by omega)⟩
end Go.Proofs.YtlliggfggadidaaGreatDoor
