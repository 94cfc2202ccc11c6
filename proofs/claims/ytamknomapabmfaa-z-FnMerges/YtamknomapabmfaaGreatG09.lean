/- Crash0 BlockAt BlockAt2 CopyPuts PutFin PutBlock Flush Draw in one text: what each says stands at its head below. -/
import Derived.Test.YtamknomapabmfaaGreatG07
import Derived.Test.YtamknomapabmfaaGreatG08
import Derived.Test.YtamknomapabmfaaGreatG04
import Derived.Test.YtamknomapabmfaaGreatG05
import Derived.Test.YtamknomapabmfaaGreatG02
import Derived.Test.YtamknomapabmfaaGreatG06
/- 'impl.picksFault', 'impl.pickAt' and 'impl.CrashDisk', walked. Made by program in part. -/
namespace Go.Proofs.YtamknomapabmfaaGreat
open Go.RowKit

/-- The fault of picks. -/
def picksF (qs : List Int) : Int := if 200 < qs.length then 2 else if (∀ i, i < qs.length → 0 ≤ qs.getD i 0 ∧ qs.getD i 0 ≤ 3) then 0 else 3
theorem picksF_many {qs : List Int} (h : 200 < qs.length) : picksF qs = 2 := by unfold picksF; rw [if_pos h]
theorem picksF_ok {qs : List Int} (h : ¬ 200 < qs.length) (h' : ∀ i, i < qs.length → 0 ≤ qs.getD i 0 ∧ qs.getD i 0 ≤ 3) : picksF qs = 0 := by unfold picksF; rw [if_neg h, if_pos h']
theorem picksF_range {qs : List Int} (h : ¬ 200 < qs.length) {i : Nat} (hi : i < qs.length) (h' : ¬ (0 ≤ qs.getD i 0 ∧ qs.getD i 0 ≤ 3)) : picksF qs = 3 := by
  unfold picksF; rw [if_neg h, if_neg (fun k => h' (k i hi))]
theorem picksF_zero {qs : List Int} (h : picksF qs = 0) : qs.length ≤ 200 ∧ ∀ i, i < qs.length → 0 ≤ qs.getD i 0 ∧ qs.getD i 0 ≤ 3 := by
  unfold picksF at h
  split at h
  · exact absurd h (by decide)
  · split at h
    · rename_i h1 h2; exact ⟨by omega, h2⟩
    · exact absurd h (by decide)
theorem picks_pk {qs : List Int} (h : picksF qs = 0) (k : Nat) : 0 ≤ pkOf false qs k ∧ pkOf false qs k ≤ 3 := by
  unfold pkOf
  rw [if_neg (by decide)]
  by_cases hk : k < qs.length
  · exact (picksF_zero h).2 k hk
  · simp [List.getD, List.getElem?_eq_none (Nat.le_of_not_lt hk)]

theorem wordsF_iff {xs : List Int} : wordsF xs = 0 ↔ xs.length ≤ 64 ∧ ∀ x ∈ xs, 0 ≤ x ∧ x ≤ 65535 := by
  constructor
  · intro h
    obtain ⟨h1, h2⟩ := wordsF_zero h
    refine ⟨h1, fun x hx => ?_⟩
    obtain ⟨i, hi, rfl⟩ := List.mem_iff_getElem.1 hx
    have := h2 i hi
    simpa [List.getD, hi] using this
  · rintro ⟨h1, h2⟩
    refine wF_ok h1 fun i hi => ?_
    have := h2 xs[i] (List.getElem_mem hi)
    simpa [List.getD, hi] using this

theorem tear_words {old next : List Int} {p : Int} (h1 : wordsF old = 0) (h2 : wordsF next = 0) : wordsF (tear old next p) = 0 := by
  refine wordsF_iff.2 ⟨tear_len (wordsF_zero h1).1 (wordsF_zero h2).1, fun x hx => ?_⟩
  have a1 := (wordsF_iff.1 h1).2
  have a2 := (wordsF_iff.1 h2).2
  have hA : ∀ x ∈ tearA old next p, 0 ≤ x ∧ x ≤ 65535 := by
    intro x hx
    unfold tearA at hx
    split at hx
    · exact a2 x (List.mem_of_mem_take hx)
    · exact a1 x (List.mem_of_mem_take hx)
  have hB : ∀ x ∈ tearB old next p, 0 ≤ x ∧ x ≤ 65535 := by
    intro x hx
    unfold tearB at hx
    split at hx
    · exact a2 x (List.mem_of_mem_drop hx)
    · exact a1 x (List.mem_of_mem_drop hx)
  unfold tear joinT at hx
  split at hx
  · exact hA x hx
  · rcases List.mem_append.1 hx with hx | hx
    · rcases List.mem_append.1 hx with hx | hx
      · exact hA x hx
      · have := (List.mem_replicate.1 hx).2
        omega
    · exact hB x hx

theorem keepTo_words {xss : List (List Int)} {ps : List (Int × List Int)} (h : Sound xss ps) (pk : Nat → Int) : ∀ k, k ≤ ps.length → ∀ i, wordsF ((keepTo xss ps pk k).getD i []) = 0 := by
  intro k
  have hnil : wordsF [] = 0 := wF_ok (by simp) (by simp)
  induction k with
  | zero =>
    intro _ i
    by_cases hi : i < xss.length
    · exact h.row i hi
    · have : (keepTo xss ps pk 0).getD i [] = [] := by simp only [keepTo, List.getD]; rw [List.getElem?_eq_none (by omega)]; rfl
      rw [this]; exact hnil
  | succ k ih =>
    intro hk i
    have ih := ih (by omega)
    unfold keepTo
    by_cases e : i = (ps.getD k (0, [])).1.toNat
    · by_cases hi : i < (keepTo xss ps pk k).length
      · rw [← e, getD_set_same _ _ _ hi]
        exact tear_words (ih _) (h.put k (by omega))
      · simp only [List.getD]
        rw [List.getElem?_eq_none (by rw [List.length_set]; omega)]
        exact hnil
    · rw [getD_set_other _ _ _ _ e]
      exact ih i

/-- The code of a crash. -/
def crashF (xss : List (List Int)) (ps : List (Int × List Int)) (qs : List Int) : Int := if diskF xss ps = 0 then picksF qs else diskF xss ps
/-- The rows behind a crash. -/
def crashXs (xss : List (List Int)) (ps : List (Int × List Int)) (qs : List Int) : List (List Int) := if crashF xss ps qs = 0 then keepTo xss ps (pkOf false qs) ps.length else []
theorem crash_bound (xss : List (List Int)) (ps : List (Int × List Int)) (qs : List Int) : tot (crashXs xss ps qs) (crashXs xss ps qs).length + totP [] ([] : List (Int × List Int)).length ≤ 16777216 := by
  unfold crashXs
  split
  · rename_i h
    unfold crashF at h
    split at h
    · rename_i h1
      exact keep_bound (diskF_zero h1) _
    · rename_i h1
      exact absurd h h1
  · simp [tot, totP]

end Go.Proofs.YtamknomapabmfaaGreat
/- 'BlockAt' of the program and of the model, walked. -/
namespace Go.Proofs.YtamknomapabmfaaGreat
open Go.RowKit

/-- The fault of a place on a disk. -/
def placeF (xss : List (List Int)) (ps : List (Int × List Int)) (at_ : Int) : Int :=
  if diskF xss ps = 0 then (if 0 ≤ at_ ∧ at_ < (xss.length : Int) then 0 else 3) else diskF xss ps
theorem placeF_disk {xss : List (List Int)} {ps : List (Int × List Int)} {at_ : Int} (h : diskF xss ps ≠ 0) : placeF xss ps at_ = diskF xss ps := by unfold placeF; rw [if_neg h]
theorem placeF_ok {xss : List (List Int)} {ps : List (Int × List Int)} {at_ : Int} (h : diskF xss ps = 0) (h' : 0 ≤ at_ ∧ at_ < (xss.length : Int)) : placeF xss ps at_ = 0 := by unfold placeF; rw [if_pos h, if_pos h']
theorem placeF_no {xss : List (List Int)} {ps : List (Int × List Int)} {at_ : Int} (h : diskF xss ps = 0) (h' : ¬ (0 ≤ at_ ∧ at_ < (xss.length : Int))) : placeF xss ps at_ = 3 := by unfold placeF; rw [if_pos h, if_neg h']

/-- What was put last at a place, of the first k puts. -/
def blkTo (xss : List (List Int)) (ps : List (Int × List Int)) (at_ : Int) : Nat → List Int
  | 0 => xss.getD at_.toNat []
  | k + 1 => if (ps.getD k (0, [])).1 = at_ then (ps.getD k (0, [])).2 else blkTo xss ps at_ k

theorem blkTo_len {xss : List (List Int)} {ps : List (Int × List Int)} (hs : Small xss ps) {at_ : Int} : ∀ k, k ≤ ps.length → 0 ≤ at_ → at_ < (xss.length : Int) → (blkTo xss ps at_ k).length ≤ 1048576 := by
  intro k
  induction k with
  | zero => intro _ h1 h2; exact hs.row _ (by omega)
  | succ k ih =>
    intro hk h1 h2
    unfold blkTo
    split
    · exact hs.put k (by omega)
    · exact ih (by omega) h1 h2

end Go.Proofs.YtamknomapabmfaaGreat
/- 'BlockAt' of the model, walked; and the laws' functions over a code with a list. -/
namespace Go.Proofs.YtamknomapabmfaaGreat
open Go.RowKit

theorem l1Place_yes (n c bd : Nat) (ao : Option Addr) (at_ : Int) (w : World) (h : w.cell? ⟨bd, 0, none⟩ = some (.slice ao n c)) (h1 : 0 ≤ at_) (h2 : at_ < (n : Int)) (hn : n ≤ 9223372036854775807) :
    Calls Tryz.prog 85 #[.pointer (some ⟨bd, 0, none⟩), .int .i64 at_] w fun e w' => e = .returned (.bool true) ∧ ∃ q, w' = w.drewN q := by
  have h3 : at_ ≤ (n : Int) - 1 := by omega
  go_enter Tryz.func85, Tryz.ntmps85
  go_wp2_with fail
  refine (l1In_yes _ _ _ h1 h3 _).mono ?_
  rintro e w' ⟨rfl, rfl⟩
  go_wp2
  go_ret
  exact ⟨rfl, 0, rfl⟩

theorem l1Place_no (n c bd : Nat) (ao : Option Addr) (at_ : Int) (w : World) (h : w.cell? ⟨bd, 0, none⟩ = some (.slice ao n c)) (ha : ¬ (0 ≤ at_ ∧ at_ < (n : Int))) (hn : n ≤ 9223372036854775807) :
    Calls Tryz.prog 85 #[.pointer (some ⟨bd, 0, none⟩), .int .i64 at_] w fun e w' => e = .returned (.bool false) ∧ ∃ q, w' = w.drewN q := by
  have HA := hide (show at_ < 0 ∨ (n : Int) - 1 < at_ by omega)
  clear ha
  go_enter Tryz.func85, Tryz.ntmps85
  go_wp2_with fail
  refine (l1In_no _ _ _ HA.out _).mono ?_
  rintro e w' ⟨rfl, rfl⟩
  go_wp2
  go_ret
  exact ⟨rfl, 0, rfl⟩

theorem l1At_cells {S T : Nat → Prop} (xss : List (List Int)) (ps : List (Int × List Int)) (n m bd : Nat) (ao ao' : Option Addr) (c c' : Nat) (w : World) (at_ : Int) (hn : xss.length = n) (hm : ps.length = m) (hm' : m ≤ 9223372036854775807)
    (hd0 : w.cell? ⟨bd, 0, none⟩ = some (.slice ao n c)) (hd1 : w.cell? ⟨bd, 1, none⟩ = some (.slice ao' m c'))
    (hu : RdII S w (.slice ao n c) xss) (hv : RdP T w (.slice ao' m c') ps) (ha1 : 0 ≤ at_) (ha2 : at_ < (n : Int)) :
    Calls Tryz.prog 64 #[.pointer (some ⟨bd, 0, none⟩), .int .i64 at_] w fun e w' => ∃ z, e = .returned z ∧ (∃ q, w' = w.drewN q) ∧ RdI (fun _ => True) w' z (blkTo xss ps at_ m) := by
  have HU := hide hu
  have HV := hide hv
  have HN := hide hn
  have HM := hide hm
  clear hu hv hn hm
  go_enter Tryz.func64, Tryz.ntmps64
  go_wp2
  go_loopw [5] (fun i wr => ∃ k : Nat, k ≤ m ∧ i = .int .i64 ((k : Int) - 1) ∧ Hid (blkTo xss ps at_ m = blkTo xss ps at_ k) ∧ wr = w) (fun i _ => (intOf i + 1).toNat)
  case atStart => exact ⟨m, Nat.le_refl _, rfl, rfl, rfl⟩
  case round =>
    obtain ⟨k, hk, rfl, HK, rfl⟩ := hrel
    cases k with
    | zero =>
      obtain ⟨b, off, V, rfl, g1, g2⟩ := HU.out.at (k := at_.toNat) (by rw [HN.out]; omega)
      have R := hide g2
      clear g2
      go_wp2
      go_ret
      exact ⟨V, rfl, ⟨0, rfl⟩, by rw [HK.out]; exact R.out.narrow fun _ _ _ => trivial⟩
    | succ k =>
      obtain ⟨b, off, V, rfl, g1, g2, gR⟩ := HV.out.at (k := k) (by rw [HM.out]; omega)
      have R := hide gR
      obtain ⟨x, hx⟩ : ∃ x, (ps.getD k (0, [])).1 = x := ⟨_, rfl⟩
      rw [hx] at g1
      have e : (((k + 1 : Nat) : Int) - 1) = (k : Int) := by omega
      rw [e]
      have hkl : k < m := by omega
      clear e gR hk
      by_cases hxa : x = at_
      · subst hxa
        have HK2 : Hid (blkTo xss ps x m = (ps.getD k (0, [])).2) := by rw [Hid, HK.out]; unfold blkTo; rw [if_pos hx]
        clear hx
        go_wp2
        go_ret
        exact ⟨V, rfl, ⟨0, rfl⟩, by rw [HK2.out]; exact R.out.narrow fun _ _ _ => trivial⟩
      · have HK2 : Hid (blkTo xss ps at_ m = blkTo xss ps at_ k) := by rw [Hid, HK.out]; show (if (ps.getD k (0, [])).1 = at_ then _ else _) = _; rw [if_neg (by rw [hx]; exact hxa)]
        clear hx
        go_wp2
        go_roundw
        case rel => exact ⟨k, by omega, by go_num, HK2.out, by simp⟩
        case measure => simp [intOf]

/-- What both functions answer: the list. -/
def blkOf (xss : List (List Int)) (ps : List (Int × List Int)) (at_ : Int) : List Int := if placeF xss ps at_ = 0 then blkTo xss ps at_ ps.length else []

theorem placeF_zero {xss : List (List Int)} {ps : List (Int × List Int)} {at_ : Int} (h : placeF xss ps at_ = 0) : diskF xss ps = 0 ∧ 0 ≤ at_ ∧ at_ < (xss.length : Int) := by
  unfold placeF at h
  split at h
  · rename_i h0
    split at h
    · rename_i h1; exact ⟨h0, h1⟩
    · cases h
  · rename_i h0; exact absurd h h0

theorem blkOf_len {xss : List (List Int)} {ps : List (Int × List Int)} {at_ : Int} (hs : Small xss ps) : (blkOf xss ps at_).length ≤ 1048576 := by
  unfold blkOf
  split
  · rename_i h
    obtain ⟨_, h1, h2⟩ := placeF_zero h
    exact blkTo_len hs _ (Nat.le_refl _) h1 h2
  · simp

end Go.Proofs.YtamknomapabmfaaGreat
/- 'impl.copyPuts', walked. -/
namespace Go.Proofs.YtamknomapabmfaaGreat
open Go.RowKit
end Go.Proofs.YtamknomapabmfaaGreat
/- 'impl.copyDisk', walked; how a put's disk is put together. -/
namespace Go.Proofs.YtamknomapabmfaaGreat
open Go.RowKit

theorem BuiltII.grown {P : Nat → Prop} {w w' : World} {row : Option Nat} {v : Value} {k : Nat} {xss : List (List Int)} (h : BuiltII P w v k xss) (hg : w.grownBy w' row) (hr : ∀ b, P b → some b ≠ row) : BuiltII P w' v k xss := by
  obtain ⟨V, Bk, h1, h2, h3⟩ := h
  refine ⟨V, Bk, ?_, h2, fun i hi => ?_, fun i hi hn => ?_⟩
  · exact h1.kept hg (by
      cases hv : v.ownBlock with
      | none => exact Or.inl rfl
      | some r => exact Or.inr (hr r (h2 r hv)))
  · obtain ⟨ao, c, e1, e2, e3⟩ := h3.rd i hi
    refine ⟨ao, c, e1, e2, fun hne => ?_⟩
    obtain ⟨b, off, f1, f2, f3⟩ := e3 hne
    refine ⟨b, off, f1, f2, fun t ht => ?_⟩
    rw [hg.cell_far ⟨b, off + t, none⟩ (World.block_lt_of_cell? _ _ (f3 t ht)) (by rw [f2]; exact hr _ (h3.own i hi hne).1)]
    exact f3 t ht
  · obtain ⟨q1, q2, q3, q4, q5⟩ := h3.own i hi hn
    exact ⟨q1, Nat.lt_of_lt_of_le q2 hg.size, fun o => (hg.frozen_far ⟨Bk i, o, none⟩ q2 (hr _ q1)).trans (q3 o), q4, q5⟩

/-- What is known behind 'out.Cache = append(out.Cache, ..)'; b: the block of out. -/

theorem set2_far {w : World} {b h o : Nat} {x y : Value} (hb : b ≠ h) : ((w.setCell ⟨h, 0, none⟩ x).setCell ⟨h, 1, none⟩ y).cell? ⟨b, o, none⟩ = w.cell? ⟨b, o, none⟩ := by
  rw [World.cell?_setCell_other _ _ _ _ (by intro e; injection e with e1 _; exact hb e1.symm), World.cell?_setCell_other _ _ _ _ (by intro e; injection e with e1 _; exact hb e1.symm)]

/-- A put's disk: its rows as they were copied, its puts with one more behind. -/
theorem put_fin2 {S P : Nat → Prop} {xss : List (List Int)} {ps : List (Int × List Int)} {at_ : Int} {xs : List Int} {B : Nat} {z1 v z : Value} {w1 w2 w3 : World} {g cap : Nat} {t : TypeId} {V : Nat → Value} {Bk : Nat → Nat} {o : Obj}
    (hII : BuiltII S w1 z1 xss.length xss) (hS : ∀ b, S b → B ≤ b ∧ b < w1.heap.size) (hP : ∀ b, P b → B ≤ b ∧ b < w1.heap.size) (hd : ∀ b, S b → ¬ P b) (hB : B ≤ w1.heap.size)
    (hi : Inner P (w1.alloc (.cells #[z1, v] t)) v.ownBlock ps.length V Bk (fun i => ((ps ++ [(at_, xs)]).getD i (0, [])).2)) (hr : (w1.alloc (.cells #[z1, v] t)).ownsRow 0 38 2 v ps.length (cellsP (ps ++ [(at_, xs)]) ps.length V)) (hpr : ∀ r, v.ownBlock = some r → P r)
    (hb2 : Below (w1.heap.size + 1) (w1.alloc (.cells #[z1, v] t)) w2) (hz : OwI (w1.heap.size + 1) w2 z xs) (hown : w3.ownsRow 0 38 2 (.slice (some ⟨g, 0, none⟩) (ps.length + 1) cap) (ps.length + 1) (cellsP (ps ++ [(at_, xs)]) ps.length V ++ [.int .i64 at_, z]))
    (hg : (w2.alloc o).grownBy w3 v.ownBlock) (hat : v.ownBlock = some g ∨ g = (w2.alloc o).heap.size) (hlen : xss.length ≤ 1048576 ∧ ps.length ≤ 1048576) :
    Below w1.heap.size w3 (w3.setCell ⟨w1.heap.size, 1, none⟩ (.slice (some ⟨g, 0, none⟩) (ps.length + 1) cap)) ∧
    OwD B (w3.setCell ⟨w1.heap.size, 1, none⟩ (.slice (some ⟨g, 0, none⟩) (ps.length + 1) cap)) z1 (.slice (some ⟨g, 0, none⟩) (ps.length + 1) cap) xss (ps ++ [(at_, xs)]) := by
  have hs2 := hb2.size
  have hs3 := hg.size
  simp only [World.size_alloc] at hs2 hs3
  have hb2' : Below (w1.alloc (.cells #[z1, v] t)).heap.size (w1.alloc (.cells #[z1, v] t)) w2 := by simpa using hb2
  refine ⟨Below.setCell (p := ⟨w1.heap.size, 1, none⟩) (Below.refl w1.heap.size w3) (Nat.le_refl _) _, S, fun b => (P b ∨ w1.heap.size + 1 ≤ b) ∧ b < w3.heap.size, fun b hb => ⟨(hS b hb).1, by have := (hS b hb).2; simp; omega⟩, fun b hb => ?_, fun b hb hb' => ?_, ?_, ?_⟩
  · refine ⟨?_, by simpa using hb.2⟩
    rcases hb.1 with h | h
    · exact (hP b h).1
    · omega
  · rcases hb'.1 with h | h
    · exact hd b hb h
    · have := hS b hb; omega
  · have h1 := ((hII.later (below_alloc w1 (.cells #[z1, v] t))).later hb2').later (below_alloc w2 o)
    have h2 := h1.grown hg (fun b hb e => hd b hb (hpr b e.symm))
    exact ((h2.set (r := w1.heap.size) (o := 1) (x := .slice (some ⟨g, 0, none⟩) (ps.length + 1) cap) (fun b hb => by have := hS b hb; omega)).ow rfl (by omega)).mono fun b hb => hb.1
  · have h1 := BuiltP.step (P' := fun b => P b ∨ w1.heap.size + 1 ≤ b) hi hr hpr (fun b h => Or.inl h) (fun b hb => Or.inr (by simpa using hb)) hb2' (by simpa using hz) (below_alloc w2 o) (by simpa using hown) hg hat
    have h2 := h1.set (r := w1.heap.size) (o := 1) (x := .slice (some ⟨g, 0, none⟩) (ps.length + 1) cap) (fun b hb => by
      rcases hb with hb | hb
      · have := hP b hb; omega
      · omega)
    exact (h2.ow (by simp) (by omega)).mono fun b hb => ⟨hb.1, by simpa using hb.2⟩

end Go.Proofs.YtamknomapabmfaaGreat
/- 'impl.PutBlock' walked. -/
namespace Go.Proofs.YtamknomapabmfaaGreat
open Go.RowKit

/-- The code of a put. -/
def putF (xss : List (List Int)) (ps : List (Int × List Int)) (at_ : Int) (xs : List Int) : Int :=
  if placeF xss ps at_ = 0 then (if wordsF xs = 0 then (if 200 ≤ ps.length then 2 else 0) else wordsF xs) else placeF xss ps at_
def putXs (xss : List (List Int)) (ps : List (Int × List Int)) (at_ : Int) (xs : List Int) : List (List Int) := if putF xss ps at_ xs = 0 then xss else []
def putPs (xss : List (List Int)) (ps : List (Int × List Int)) (at_ : Int) (xs : List Int) : List (Int × List Int) := if putF xss ps at_ xs = 0 then ps ++ [(at_, xs)] else []

end Go.Proofs.YtamknomapabmfaaGreat
/- 'impl.FlushDisk', walked. -/
namespace Go.Proofs.YtamknomapabmfaaGreat
open Go.RowKit

/-- The rows behind a flush. -/
def flushXs (xss : List (List Int)) (ps : List (Int × List Int)) : List (List Int) := if diskF xss ps = 0 then keepTo xss ps (fun _ => 1) ps.length else []

end Go.Proofs.YtamknomapabmfaaGreat
/- The model's draws: 'spec.l1Next', 'spec.l1Pick', 'spec.l1Source', walked: what they answer is some number in its bounds. -/
namespace Go.Proofs.YtamknomapabmfaaGreat
open Go.RowKit

/-- The slice value v reads as the bytes bs; none of them in block s. -/
def RdB (s : Nat) (w : World) (v : Value) (bs : List Nat) : Prop :=
  ∃ (ao : Option Addr) (c : Nat), v = .slice ao bs.length c ∧ bs.length ≤ 2097152 ∧
    (bs ≠ [] → ∃ b off, ao = some ⟨b, off, none⟩ ∧ b ≠ s ∧ ∀ i, i < bs.length → w.cell? ⟨b, off + i, none⟩ = some (.int .u8 ((bs.getD i 0 : Nat) : Int)) ∧ bs.getD i 0 ≤ 255)

/-- A source of draws in block s; t numbers have been drawn. -/
structure Src (s : Nat) (v : Value) (bs : List Nat) (w : World) (t : Nat) : Prop where
  code : w.cell? ⟨s, 0, none⟩ = some v
  at_ : w.cell? ⟨s, 1, none⟩ = some (.int .i64 (t : Int))
  free : ∀ o, w.frozen? ⟨s, o, none⟩ = false
  rd : RdB s w v bs

theorem RdB.wr {s : Nat} {w w' : World} {v : Value} {bs : List Nat} (h : RdB s w v bs) (hw : Wr (· = s) w w') : RdB s w' v bs := by
  obtain ⟨ao, c, e1, e2, e3⟩ := h
  refine ⟨ao, c, e1, e2, fun hne => ?_⟩
  obtain ⟨b, off, f1, f2, f3⟩ := e3 hne
  exact ⟨b, off, f1, f2, fun i hi => ⟨cell_wr hw (f3 i hi).1 f2, (f3 i hi).2⟩⟩

theorem Src.set {s : Nat} {v : Value} {bs : List Nat} {w : World} {t : Nat} (h : Src s v bs w t) : Src s v bs (w.setCell ⟨s, 1, none⟩ (.int .i64 ((t : Int) + 1))) (t + 1) := by
  refine ⟨?_, ?_, fun o => by rw [World.frozen?_setCell]; exact h.free o, h.rd.wr ((Wr.refl (· = s) w).setCell (p := ⟨s, 1, none⟩) rfl _)⟩
  · rw [World.cell?_setCell_other _ _ _ _ (by simp)]; exact h.code
  · rw [World.cell?_setCell_same _ _ _ h.at_]; simp

theorem Src.drewN {s : Nat} {v : Value} {bs : List Nat} {w : World} {t : Nat} (h : Src s v bs w t) (q : Nat) : Src s v bs (w.drewN q) t := ⟨h.code, h.at_, h.free, h.rd⟩
theorem Src.lt {s : Nat} {v : Value} {bs : List Nat} {w : World} {t : Nat} (h : Src s v bs w t) : s < w.heap.size := World.block_lt_of_cell? _ _ h.code
theorem Src.later {s : Nat} {v : Value} {bs : List Nat} {w w' : World} {t : Nat} (h : Src s v bs w t) (hb : Below w.heap.size w w') : Src s v bs w' t := by
  refine ⟨cell_later hb h.code, cell_later hb h.at_, fun o => ((bcell hb).2 _ _ h.lt).trans (h.free o), ?_⟩
  obtain ⟨ao, c, e1, e2, e3⟩ := h.rd
  refine ⟨ao, c, e1, e2, fun hne => ?_⟩
  obtain ⟨b, off, f1, f2, f3⟩ := e3 hne
  exact ⟨b, off, f1, f2, fun i hi => ⟨cell_later hb (f3 i hi).1, (f3 i hi).2⟩⟩

/-- What a draw leaves. -/
def Drawn (N s : Nat) (v : Value) (bs : List Nat) (t t' : Nat) (w w' : World) : Prop := Src s v bs w' t' ∧ Wr (· = s) w w' ∧ t' ≤ t + N

theorem drawn_one {s : Nat} {v : Value} {bs : List Nat} {w : World} {t : Nat} (h : Src s v bs w t) (q : Nat) : Drawn 1 s v bs t (t + 1) w ((w.setCell ⟨s, 1, none⟩ (.int .i64 ((t : Int) + 1))).drewN q) :=
  ⟨h.set.drewN q, ((Wr.refl (· = s) w).setCell (p := ⟨s, 1, none⟩) rfl _).drewN q, Nat.le_refl _⟩

set_option maxHeartbeats 2000000 in
set_option maxRecDepth 4000 in
/-- 'l1Next': some number below n. -/
theorem l1Next {s : Nat} {v : Value} {bs : List Nat} {w : World} {t : Nat} (n : Int) (hS : Src s v bs w t) (ht : t ≤ 1073741824) (hn : n ≤ 1073741824) (hn1 : -1073741824 ≤ n) :
    Calls Tryz.prog 24 #[.pointer (some ⟨s, 0, none⟩), .int .i64 n] w fun e w' => ∃ r : Int, e = .returned (.int .i64 r) ∧ 0 ≤ r ∧ (1 ≤ n → r < n) ∧ ∃ t', Drawn 1 s v bs t t' w w' := by
  have HS := hide hS
  have c1 := hS.at_
  have c0 := hS.code
  have f1 := hS.free 1
  obtain ⟨ao, c, rfl, hk, hrd⟩ := hS.rd
  have HR := hide hrd
  clear hrd hS
  obtain ⟨k, hk'⟩ : ∃ k, bs.length = k := ⟨_, rfl⟩
  have HK := hide hk'
  rw [hk'] at hk c0 HS ⊢
  clear hk'
  by_cases hlt : n < 1
  · go_enter Tryz.func24, Tryz.ntmps24
    go_wp2
    go_ret
    exact ⟨0, rfl, by omega, fun h => by omega, t + 1, drawn_one HS.out 0⟩
  · have hn0 : ¬ n = 0 := by omega
    by_cases hk0 : k = 0
    · subst hk0
      go_enter Tryz.func24, Tryz.ntmps24
      go_wp2
      go_ret
      exact ⟨_, rfl, Int.emod_nonneg _ hn0, Int.emod_lt_of_pos _ (by omega), t + 1, drawn_one HS.out 0⟩
    · obtain ⟨b, off, rfl, hbs, hc⟩ := HR.out (by rintro rfl; exact hk0 (by rw [← HK.out]; rfl))
      have hkz : ¬ (k : Int) = 0 := by omega
      have hj : t % k < k := Nat.mod_lt _ (by omega)
      have hj2 : (t + 1) % k < k := Nat.mod_lt _ (by omega)
      obtain ⟨g1, g1b⟩ := hc (t % k) (by rw [HK.out]; exact hj)
      obtain ⟨g2, g2b⟩ := hc ((t + 1) % k) (by rw [HK.out]; exact hj2)
      obtain ⟨j, hje⟩ : ∃ j, t % k = j := ⟨_, rfl⟩
      obtain ⟨j2, hje2⟩ : ∃ j, (t + 1) % k = j := ⟨_, rfl⟩
      obtain ⟨d, hde⟩ : ∃ d, t / k = d := ⟨_, rfl⟩
      have m1 : (t : Int) % (k : Int) = (j : Int) := by omega
      have m2 : ((t : Int) + 1) % (k : Int) = (j2 : Int) := by rw [← hje2]; simp
      have m3 : (t : Int) / (k : Int) = (d : Int) := by omega
      have hd : d ≤ 1073741824 := by rw [← hde]; exact Nat.le_trans (Nat.div_le_self _ _) ht
      rw [hje] at g1 g1b hj
      rw [hje2] at g2 g2b hj2
      obtain ⟨x, hx⟩ : ∃ x, bs.getD j 0 = x := ⟨_, rfl⟩
      obtain ⟨x2, hx2⟩ : ∃ x, bs.getD j2 0 = x := ⟨_, rfl⟩
      rw [hx] at g1 g1b
      rw [hx2] at g2 g2b
      clear hje hje2 hde hx hx2 hc HR
      have hsb : ¬ s = b := fun e => hbs e.symm
      have j1 : (j : Int) < (k : Int) := by omega
      have j3 : (j2 : Int) < (k : Int) := by omega
      by_cases h200 : 200 < n
      · go_enter Tryz.func24, Tryz.ntmps24
        go_wp2_with fail
        go_quiet (fail)
        go_wp2_with fail
        go_quiet (fail)
        go_wp2
        go_ret
        exact ⟨_, rfl, Int.emod_nonneg _ hn0, fun _ => Int.emod_lt_of_pos _ (by omega), t + 1, drawn_one HS.out _⟩
      · go_enter Tryz.func24, Tryz.ntmps24
        go_wp2_with fail
        go_quiet (fail)
        go_wp2
        go_ret
        exact ⟨_, rfl, Int.emod_nonneg _ hn0, fun _ => Int.emod_lt_of_pos _ (by omega), t + 1, drawn_one HS.out _⟩
end Go.Proofs.YtamknomapabmfaaGreat
