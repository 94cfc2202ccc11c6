/- Rowi DrawE1 in one text: what each says stands at its head below. -/
import Derived.Test.YtncgpfapepminaaDoorG03
import Derived.Test.YtncgpfapepminaaDoorG04
import Derived.Test.YtncgpfapepminaaDoorG06
import Derived.Test.YtncgpfapepminaaDoorG14
/- Lists of numbers that may be appended to. -/
namespace Go.Proofs.YtncgpfapepminaaDoor
open Go.RowKit

/-- Lists of numbers, each in a block of its own that may be appended to. -/
def RowsI (P : Nat → Prop) (w : World) (row : Option Nat) (k : Nat) (V : Nat → Value) (X : Nat → List Int) : Prop :=
  (∀ i, i < k → w.ownsRow 0 2 1 (V i) (X i).length ((X i).map (Value.int .i64)) ∧ ∀ r, (V i).ownBlock = some r → P r ∧ row ≠ some r) ∧
    ∀ i j, i < k → j < k → i ≠ j → ∀ r, (V i).ownBlock = some r → (V j).ownBlock ≠ some r
theorem ownsRow_zero {w : World} {B e s : Nat} {v : Value} {n : Nat} {xs : List Value} (h : w.ownsRow B e s v n xs) : w.ownsRow 0 e s v n xs := by
  refine ⟨h.1, ?_⟩
  rcases h.2 with h | ⟨g, cap, cur, h1, _, h3⟩
  · exact Or.inl h
  · exact Or.inr ⟨g, cap, cur, h1, Nat.zero_le _, h3⟩
theorem RowsI.keep {P : Nat → Prop} {w w' : World} {row : Option Nat} {k : Nat} {V : Nat → Value} {X : Nat → List Int} (h : RowsI P w row k V X) (hk : ∀ i, i < k → w'.ownsRow 0 2 1 (V i) (X i).length ((X i).map (Value.int .i64))) : RowsI P w' row k V X :=
  ⟨fun i hi => ⟨hk i hi, (h.1 i hi).2⟩, h.2⟩
/-- A row whose block lies below M stays, whatever goes on from M on. -/
theorem ownsRow_under {w w' : World} {M B e s : Nat} {v : Value} {n : Nat} {xs : List Value} (h : w.ownsRow B e s v n xs) (hb : Below M w w') (hv : ∀ r, v.ownBlock = some r → r < M) : w'.ownsRow B e s v n xs := by
  refine ⟨h.1, ?_⟩
  rcases h.2 with h | ⟨g, cap, cur, h1, h2, h3, h4⟩
  · exact Or.inl h
  · subst h1
    exact Or.inr ⟨g, cap, cur, rfl, h2, (hb.block g (hv g rfl)).trans h3, h4⟩
end Go.Proofs.YtncgpfapepminaaDoor
/- Chapter 9, draws: entries in rows that may be appended to. Made by program (gendrawe1.py). -/
namespace Go.Proofs.YtncgpfapepminaaDoor
open Go.RowKit

/-- k entries, each with such a list, in a row that may be appended to. -/
def EoRow (P : Nat → Prop) (w : World) (v : Value) (k : Nat) (gs : List Oj) : Prop :=
  ∃ V, w.ownsRow 0 43 3 v k (cellsEn gs k V) ∧ (∀ r, v.ownBlock = some r → P r) ∧ RowsI P w v.ownBlock k V (fun i => (gs.getD i oj0).2.2)
theorem EoRow.empty (w : World) (P : Nat → Prop) (hP : P w.heap.size) (gs : List Oj) : EoRow P (w.alloc (.cells #[] 43)) (.slice (some ⟨w.heap.size, 0, none⟩) 0 0) 0 gs :=
  ⟨fun _ => .bool false, World.ownsRow_made w #[] 0 (Nat.zero_le _) (by unfold maxLen; omega) (by simp), fun r h => by injection h with h; subst h; exact hP, fun i hi => absurd hi (Nat.not_lt_zero _), fun i j hi => absurd hi (Nat.not_lt_zero _)⟩
theorem EoRow.later {P : Nat → Prop} {w w' : World} {v : Value} {k : Nat} {gs : List Oj} (h : EoRow P w v k gs) (hb : Below w.heap.size w w') : EoRow P w' v k gs := by
  obtain ⟨V, h1, h2, h3⟩ := h
  exact ⟨V, ownsRow_later h1 hb, h2, h3.keep fun i hi => ownsRow_later (h3.1 i hi).1 hb⟩
theorem EoRow.drawn {P : Nat → Prop} {w w' : World} {s : Nat} {v : Value} {k : Nat} {gs : List Oj} (h : EoRow P w v k gs) (hw : Wr (· = s) w w') (hs : ¬ P s) : EoRow P w' v k gs := by
  obtain ⟨V, h1, h2, h3⟩ := h
  exact ⟨V, ownsRow_wr h1 hw (fun e => hs (h2 s e)), h2, h3.keep fun i hi => ownsRow_wr (h3.1 i hi).1 hw (fun e => hs ((h3.1 i hi).2 s e).1)⟩
theorem EoRow.mono {P P' : Nat → Prop} {w : World} {v : Value} {k : Nat} {gs : List Oj} (h : EoRow P w v k gs) (hP : ∀ b, P b → P' b) : EoRow P' w v k gs := by
  obtain ⟨V, h1, h2, h3⟩ := h
  exact ⟨V, h1, fun r hr => hP r (h2 r hr), fun i hi => ⟨(h3.1 i hi).1, fun r hr => ⟨hP r ((h3.1 i hi).2 r hr).1, ((h3.1 i hi).2 r hr).2⟩⟩, h3.2⟩
theorem EoRow.shape {P : Nat → Prop} {w : World} {v : Value} {k : Nat} {gs : List Oj} (h : EoRow P w v k gs) : ∃ ao c, v = .slice ao k c := by
  obtain ⟨V, h1, _⟩ := h
  rcases h1.2 with ⟨rfl, e⟩ | ⟨g, cap, cur, rfl, _⟩
  · exact ⟨none, 0, by rw [e]⟩
  · exact ⟨_, _, rfl⟩
theorem EoRow.step {P : Nat → Prop} {w w1 w2 w3 : World} {v z : Value} {k g cap : Nat} {V : Nat → Value} {gs : List Oj} (hi : RowsI P w v.ownBlock k V (fun i => (gs.getD i oj0).2.2)) (hr : w.ownsRow 0 43 3 v k (cellsEn gs k V)) (hpr : ∀ r, v.ownBlock = some r → P r)
    (hN : ∀ b, w.heap.size ≤ b → P b) (hb1 : Below w.heap.size w w1) (hz : w1.ownsRow w.heap.size 2 1 z (gs.getD k oj0).2.2.length ((gs.getD k oj0).2.2.map (Value.int .i64))) (hb2 : Below w1.heap.size w1 w2)
    (hown : w3.ownsRow 0 43 3 (.slice (some ⟨g, 0, none⟩) (k + 1) cap) (k + 1) (cellsEn gs k V ++ [.int .i64 (gs.getD k oj0).1, .int .i64 (gs.getD k oj0).2.1, z])) (hg : w2.grownBy w3 v.ownBlock) (hat : v.ownBlock = some g ∨ g = w2.heap.size) :
    EoRow P w3 (.slice (some ⟨g, 0, none⟩) (k + 1) cap) (k + 1) gs := by
  have hs1 := hb1.size
  have hs2 := hb2.size
  have hzb : ∀ r, z.ownBlock = some r → w.heap.size ≤ r ∧ r < w1.heap.size := fun r hr => hz.lt r hr
  have hvb : ∀ r, v.ownBlock = some r → r < w.heap.size := fun r h => (hr.lt r h).2
  have hVb : ∀ i, i < k → ∀ r, (V i).ownBlock = some r → r < w.heap.size := fun i hik r h => ((hi.1 i hik).1.lt r h).2
  have hkp : ∀ u : Value, (∀ q, u.ownBlock = some q → v.ownBlock ≠ some q) → u.ownBlock = none ∨ u.ownBlock ≠ v.ownBlock := fun u h => by
    cases e : u.ownBlock with
    | none => exact Or.inl rfl
    | some q => exact Or.inr (fun e2 => h q e e2.symm)
  have hgne : ∀ r, r < w2.heap.size → (∀ q, v.ownBlock = some q → q ≠ r) → some g ≠ some r := fun r hr h e => by
    injection e with e
    rcases hat with hat | hat
    · exact h g hat e
    · omega
  refine ⟨fun i => if i = k then z else V i, ?_, fun r hr' => ?_, fun i hik => ?_, fun i j hik hjk hij r hr' => ?_⟩
  · rw [cellsEn_next, cellsEn_congr gs k _ V (fun i hi => by rw [if_neg (by omega)]), if_pos rfl]
    exact hown
  · injection hr' with hr'
    subst hr'
    rcases hat with hat | hat
    · exact hpr _ hat
    · exact hN _ (by dsimp only; omega)
  · by_cases e : i = k
    · subst e
      simp only [if_true]
      refine ⟨(ownsRow_later (ownsRow_zero hz) hb2).kept hg (hkp z (fun q hq e => by have h1 := hvb q e; have h2 := (hzb q hq).1; omega)), fun r hr' => ⟨hN r (hzb r hr').1, hgne r (by have := (hzb r hr').2; omega) (fun q hq e => by have := hvb q hq; have := (hzb r hr').1; omega)⟩⟩
    · simp only [if_neg e]
      obtain ⟨k1, k2⟩ := hi.1 i (by omega)
      refine ⟨(ownsRow_later (ownsRow_later k1 hb1) hb2).kept hg (hkp (V i) (fun q hq => (k2 q hq).2)), fun r hr' => ⟨(k2 r hr').1, hgne r (by have := hVb i (by omega) r hr'; omega) (fun q hq e => (k2 r hr').2 (by rw [hq, e]))⟩⟩
  · by_cases e : i = k
    · subst e
      simp only [if_true] at hr'
      simp only [if_neg (show j ≠ i by omega)]
      intro e2
      have h1 := hVb j (by omega) r e2
      have h2 := (hzb r hr').1
      omega
    · simp only [if_neg e] at hr'
      by_cases e2 : j = k
      · subst e2
        simp only [if_true]
        intro e3
        have h1 := hVb i (by omega) r hr'
        have h2 := (hzb r e3).1
        omega
      · simp only [if_neg e2]
        exact hi.2 i j (by omega) (by omega) hij r hr'
theorem EoRow.rd {P : Nat → Prop} {w : World} {v : Value} {k : Nat} {gs : List Oj} (h : EoRow P w v k gs) (hk : gs.length = k) (hm : k ≤ 1048576) (hl : ∀ i, i < gs.length → (gs.getD i oj0).2.2.length ≤ 1048576) : RdJ (fun _ => True) w v gs := by
  obtain ⟨V, h1, _, h3⟩ := h
  subst hk
  rcases h1.2 with ⟨rfl, e⟩ | ⟨g, cap, cur, rfl, hg, hh, _⟩
  · have : gs = [] := List.eq_nil_of_length_eq_zero e
    subst this
    exact ⟨none, 0, rfl, by simp, fun h => absurd rfl h⟩
  · refine ⟨_, cap, rfl, by omega, fun _ => ⟨g, 0, V, rfl, trivial, fun i hi => ⟨?_, ?_, ?_, (ow_of_owns rfl (h3.1 i hi).1 (by have := hl i hi; dsimp only; omega)).rd.narrow (fun _ _ _ => trivial)⟩⟩⟩
    · rw [Nat.zero_add, h1.cellAt (i * 3) (by omega)]
      exact cellsEn_flg _ _ _ _ hi
    · rw [Nat.zero_add, h1.cellAt (i * 3 + 1) (by omega)]
      exact cellsEn_num _ _ _ _ hi
    · rw [Nat.zero_add, h1.cellAt (i * 3 + 2) (by omega)]
      exact cellsEn_words _ _ _ _ hi

/-- One entry more, whose words lie apart from all others. -/
theorem EoRow.one {P : Nat → Prop} {w2 w3 : World} {v z : Value} {k g cap : Nat} {V : Nat → Value} {gs : List Oj} {o : Obj} (hi : RowsI P w2 v.ownBlock k V (fun i => (gs.getD i oj0).2.2)) (hr : w2.ownsRow 0 43 3 v k (cellsEn gs k V)) (hpr : ∀ r, v.ownBlock = some r → P r)
    (hN : P (w2.heap.size + 1)) (hz : w2.ownsRow 0 2 1 z (gs.getD k oj0).2.2.length ((gs.getD k oj0).2.2.map (Value.int .i64))) (hzd : ∀ r, z.ownBlock = some r → P r ∧ v.ownBlock ≠ some r ∧ ∀ i, i < k → (V i).ownBlock ≠ some r)
    (hown : w3.ownsRow 0 43 3 (.slice (some ⟨g, 0, none⟩) (k + 1) cap) (k + 1) (cellsEn gs k V ++ [.int .i64 (gs.getD k oj0).1, .int .i64 (gs.getD k oj0).2.1, z])) (hg : (w2.alloc o).grownBy w3 v.ownBlock) (hat : v.ownBlock = some g ∨ g = w2.heap.size + 1) :
    EoRow P w3 (.slice (some ⟨g, 0, none⟩) (k + 1) cap) (k + 1) gs := by
  have hb2 := below_alloc w2 o
  have hkp : ∀ u : Value, (∀ q, u.ownBlock = some q → v.ownBlock ≠ some q) → u.ownBlock = none ∨ u.ownBlock ≠ v.ownBlock := fun u h => by
    cases e : u.ownBlock with
    | none => exact Or.inl rfl
    | some q => exact Or.inr (fun e2 => h q e e2.symm)
  have hgne : ∀ r, r < w2.heap.size → v.ownBlock ≠ some r → some g ≠ some r := fun r hr h e => by
    injection e with e
    rcases hat with hat | hat
    · exact h (by rw [hat, e])
    · omega
  refine ⟨fun i => if i = k then z else V i, ?_, fun r hr' => ?_, fun i hik => ?_, fun i j hik hjk hij r hr' => ?_⟩
  · rw [cellsEn_next, cellsEn_congr gs k _ V (fun i hi => by rw [if_neg (by omega)]), if_pos rfl]
    exact hown
  · injection hr' with hr'
    subst hr'
    rcases hat with hat | hat
    · exact hpr _ hat
    · rw [hat]; exact hN
  · by_cases e : i = k
    · subst e
      simp only [if_true]
      exact ⟨(ownsRow_later hz hb2).kept hg (hkp z (fun q hq => (hzd q hq).2.1)), fun r hr' => ⟨(hzd r hr').1, hgne r (hz.lt r hr').2 (hzd r hr').2.1⟩⟩
    · simp only [if_neg e]
      obtain ⟨k1, k2⟩ := hi.1 i (by omega)
      exact ⟨(ownsRow_later k1 hb2).kept hg (hkp (V i) (fun q hq => (k2 q hq).2)), fun r hr' => ⟨(k2 r hr').1, hgne r (k1.lt r hr').2 (k2 r hr').2⟩⟩
  · by_cases e : i = k
    · subst e
      simp only [if_true] at hr'
      simp only [if_neg (show j ≠ i by omega)]
      exact (hzd r hr').2.2 j (by omega)
    · simp only [if_neg e] at hr'
      by_cases e2 : j = k
      · subst e2
        simp only [if_true]
        intro e3
        exact (hzd r e3).2.2 i (by omega) hr'
      · simp only [if_neg e2]
        exact hi.2 i j (by omega) (by omega) hij r hr'
/-- Rows below M stay, whatever goes on from M on. -/
theorem EoRow.under {P : Nat → Prop} {M : Nat} {w w' : World} {v : Value} {k : Nat} {gs : List Oj} (h : EoRow P w v k gs) (hP : ∀ b, P b → b < M) (hb : Below M w w') : EoRow P w' v k gs := by
  obtain ⟨V, h1, h2, h3⟩ := h
  exact ⟨V, ownsRow_under h1 hb (fun r hr => hP r (h2 r hr)), h2, h3.keep fun i hi => ownsRow_under (h3.1 i hi).1 hb (fun r hr => hP r ((h3.1 i hi).2 r hr).1)⟩
theorem EoRow.ext {P : Nat → Prop} {w : World} {v : Value} {k : Nat} {gs gs' : List Oj} (h : EoRow P w v k gs) (he : ∀ i, i < k → gs.getD i oj0 = gs'.getD i oj0) : EoRow P w v k gs' := by
  obtain ⟨V, h1, h2, h3⟩ := h
  refine ⟨V, by rw [← cellsEn_ext gs gs' k V he]; exact h1, h2, fun i hi => ?_, h3.2⟩
  dsimp only
  rw [← he i hi]
  exact h3.1 i hi
theorem EoRow.rdP {P : Nat → Prop} {w : World} {v : Value} {k : Nat} {gs : List Oj} (h : EoRow P w v k gs) (hk : gs.length = k) (hm : k ≤ 1048576) (hl : ∀ i, i < gs.length → (gs.getD i oj0).2.2.length ≤ 1048576) : RdJ P w v gs := by
  obtain ⟨V, h1, hp, h3⟩ := h
  subst hk
  rcases h1.2 with ⟨rfl, e⟩ | ⟨g, cap, cur, rfl, hg, hh, _⟩
  · have : gs = [] := List.eq_nil_of_length_eq_zero e
    subst this
    exact ⟨none, 0, rfl, by simp, fun h => absurd rfl h⟩
  · refine ⟨_, cap, rfl, by omega, fun _ => ⟨g, 0, V, rfl, hp g rfl, fun i hi => ⟨?_, ?_, ?_, ?_⟩⟩⟩
    · rw [Nat.zero_add, h1.cellAt (i * 3) (by omega)]
      exact cellsEn_flg _ _ _ _ hi
    · rw [Nat.zero_add, h1.cellAt (i * 3 + 1) (by omega)]
      exact cellsEn_num _ _ _ _ hi
    · rw [Nat.zero_add, h1.cellAt (i * 3 + 2) (by omega)]
      exact cellsEn_words _ _ _ _ hi
    · have hx := (h3.1 i hi)
      rcases hx.1.2 with ⟨e1, e2⟩ | ⟨g2, cap2, cur2, e1, _, hh2, hc2, _⟩
      · rw [e1]
        exact ⟨none, 0, by rw [e2], by rw [e2]; omega, fun hne => absurd (List.eq_nil_of_length_eq_zero e2) hne⟩
      · have hO := (ow_of_owns rfl hx.1 (by have := hl i hi; dsimp only; omega))
        obtain ⟨b, q1, q2⟩ := hO
        refine q1.narrow fun hne x hxb => ?_
        subst hxb
        obtain ⟨ao', c', f1, f2, f3⟩ := q1
        obtain ⟨b', off', f4, f5, f6⟩ := f3 hne
        rw [e1] at f1
        injection f1 with f1 _ _
        rw [f4] at f1
        injection f1 with f1
        injection f1 with f1 _
        have := (hx.2 g2 (by rw [e1]; rfl)).1
        rw [← f5, ← f1]
        exact this

set_option maxHeartbeats 1000000 in
set_option maxRecDepth 4000 in
/-- 'spec.l9Copy' of a reading: rows that may be appended to. -/
theorem l9CopyOwn {S : Nat → Prop} {w : World} {u : Value} {ps : List Oj} (hu : RdJ S w u ps) (hm : ps.length ≤ 1048576) (hl : ∀ i, i < ps.length → (ps.getD i oj0).2.2.length ≤ 1048576) :
    Calls Tryd.prog 47 #[u] w fun e w' => ∃ z, e = .returned z ∧ Below w.heap.size w w' ∧ EoRow (w.heap.size ≤ ·) w' z ps.length ps := by
  obtain ⟨ao, c, rfl, _⟩ := hu.shape
  obtain ⟨i0, hi, hz0, hz1, hz2⟩ := info_parts Tryd.infoEn
  have HU := hide hu
  have HL := hide hl
  obtain ⟨n, hn⟩ : ∃ n, ps.length = n := ⟨_, rfl⟩
  rw [hn] at hm ⊢
  have HN := hide hn
  rw [hn] at HU
  clear hu hl hn
  go_enter Tryd.func47, Tryd.ntmps47
  go_wp2
  go_loopw [3, 4] (fun v i wr => ∃ k : Nat, k ≤ n ∧ i = .int .i64 k ∧ Hid (EoRow (w.heap.size ≤ ·) wr v k ps) ∧ Hid (Below w.heap.size w wr)) (fun _ i _ => n - (intOf i).toNat)
  case atStart => exact ⟨0, Nat.zero_le _, rfl, EoRow.empty _ _ (Nat.le_refl _) _, below_alloc _ _⟩
  case round =>
    obtain ⟨k, hk, rfl, HBu, HB⟩ := hrel
    by_cases hlt : k < n
    · obtain ⟨b, off, rfl, y, q1, qs, q2, q3⟩ := HU.out.file (k := k) (by rw [HN.out]; exact hlt)
      obtain ⟨ao3, c3, rfl⟩ := q3.shape
      have g1 := cell_later HB.out q1
      have gs := cell_later HB.out qs
      have g2 := cell_later HB.out q2
      obtain ⟨x, hx⟩ : ∃ x, (ps.getD k oj0).1 = x := ⟨_, rfl⟩
      obtain ⟨s, hs⟩ : ∃ s, (ps.getD k oj0).2.1 = s := ⟨_, rfl⟩
      obtain ⟨l, hl⟩ : ∃ l, (ps.getD k oj0).2.2.length = l := ⟨_, rfl⟩
      have HX := hide hx
      have HSs := hide hs
      have HLen := hide hl
      have HLk := hide (HL.out k (by rw [HN.out]; exact hlt))
      have R := hide (q3.later HB.out)
      rw [hx] at g1
      rw [hs] at gs
      rw [hl] at g2 R
      have hbl := World.block_lt_of_cell? _ _ q1
      obtain ⟨V2, hown, hpr, hin⟩ := HBu.out
      have HOw0 := hide hown
      have HPr := hide hpr
      have HIn := hide hin
      have hz := HB.out.size
      have hk0 : (0 : Int) ≤ (k : Int) := Int.natCast_nonneg _
      have hk1 : (k : Int) < (n : Int) := by omega
      clear q1 qs q2 q3 hx hs hl hin hown hpr
      go_wp2_with fail
      go_region_held3 (fun w' => w'.cell? ⟨b, off + k * 3, none⟩ = some (.int .i64 x) ∧ w'.cell? ⟨b, off + k * 3 + 1, none⟩ = some (.int .i64 s) ∧ w'.cell? ⟨b, off + k * 3 + 2, none⟩ = some (.slice ao3 l c3)) (first | exact ⟨g1, gs, g2⟩ | exact ⟨e0, es, e1⟩ | exact ⟨cell_later (below_alloc _ _) e0, cell_later (below_alloc _ _) es, cell_later (below_alloc _ _) e1⟩ | exact ⟨s0, ss, s1⟩)
        (first
          | (go_at_call 63; refine (l1IntsOwn (R.out.drewN 1) HLk.out).mono ?_; rintro e w1 ⟨z, rfl, hb1, ho1⟩; obtain ⟨ao4, c4, rfl⟩ := owns_shapeR ho1; have e0 : w1.cell? ⟨b, off + k * 3, none⟩ = some (.int .i64 x) := cell_later hb1 g1; have es : w1.cell? ⟨b, off + k * 3 + 1, none⟩ = some (.int .i64 s) := cell_later hb1 gs; have e1 : w1.cell? ⟨b, off + k * 3 + 2, none⟩ = some (.slice ao3 l c3) := cell_later hb1 g2; have HB1 := hide (below_on (below_drewN wr 1) hb1); have HO1 := hide ho1; have hzz : wr.heap.size ≤ w1.heap.size := hb1.size; clear hb1 ho1)
          | (refine step_append_lies _ (by rfl) _ _ _ (by rfl) 0 43 i0 (.agg #[.int .i64 0, .int .i64 0, .slice none 0 0]) 3 40 Tryd.underlying25 hi hz0 hz1 hz2 rfl (by omega) _ k _ (by rfl) (ownsRow_later (ownsRow_later HOw0.out HB1.out) (below_alloc w1 (.cells #[.int .i64 x, .int .i64 s, .slice ao4 (ps.getD k oj0).2.2.length c4] 43))) ⟨w1.heap.size, 0, none⟩ 1 1 [.int .i64 x, .int .i64 s, .slice ao4 (ps.getD k oj0).2.2.length c4] (by rfl) (by rfl) (World.news_of_block (cs := #[.int .i64 x, .int .i64 s, .slice ao4 (ps.getD k oj0).2.2.length c4]) (t := 43) (fr := (0, 0)) (heap_alloc_new w1 _)) cellsEn_one (by omega) (by unfold maxLen; omega) (by omega) (Nat.zero_le _) (w1.heap.size + 1) (by simp) ?_; intro g cap w3 hown3 hgrow hat hlt3; have s0 : w3.cell? ⟨b, off + k * 3, none⟩ = some (.int .i64 x) := (hgrow.cell_far _ (by simp; omega) (fun e => by have := HPr.out _ e.symm; dsimp only at this; omega)).trans (cell_later (below_alloc _ _) e0); have ss : w3.cell? ⟨b, off + k * 3 + 1, none⟩ = some (.int .i64 s) := (hgrow.cell_far _ (by simp; omega) (fun e => by have := HPr.out _ e.symm; dsimp only at this; omega)).trans (cell_later (below_alloc _ _) es); have s1 : w3.cell? ⟨b, off + k * 3 + 2, none⟩ = some (.slice ao3 l c3) := (hgrow.cell_far _ (by simp; omega) (fun e => by have := HPr.out _ e.symm; dsimp only at this; omega)).trans (cell_later (below_alloc _ _) e1)))
      have HS := hide (EoRow.step HIn.out HOw0.out HPr.out (fun b hb => Nat.le_trans hz hb) HB1.out HO1.out (below_alloc w1 (.cells #[.int .i64 x, .int .i64 s, .slice ao4 (ps.getD k oj0).2.2.length c4] 43)) (by rw [HX.out, HSs.out]; exact hown3) hgrow (by simpa using hat))
      have HB3 := hide ((below_on (below_on HB.out HB1.out) (below_alloc w1 (.cells #[.int .i64 x, .int .i64 s, .slice ao4 (ps.getD k oj0).2.2.length c4] 43))).grown hgrow (by simp; omega) (fun r hr => HPr.out r hr))
      clear hown3 hgrow hat s0 ss s1 e0 es e1 hzz
      go_wp2
      go_roundw
      case rel => exact ⟨k + 1, hlt, by go_num, HS.out, HB3.out⟩
      case measure => simp [intOf]; omega
    · have hkn : k = n := by omega
      subst hkn
      go_wp2
      go_ret
      exact ⟨_, rfl, HB.out, HBu.out⟩

end Go.Proofs.YtncgpfapepminaaDoor
