/- Math1 PutBlock2 Run0 Step in one text: what each says stands at its head below. -/
import Derived.Test.YtamknomapabmfaaGreatG09
import Derived.Test.YtamknomapabmfaaGreatG07
import Derived.Test.YtamknomapabmfaaGreatG11
import Derived.Test.YtamknomapabmfaaGreatG08
import Derived.Test.YtamknomapabmfaaGreatG04
import Derived.Test.YtamknomapabmfaaGreatG02
import Derived.Test.YtamknomapabmfaaGreatG10
/- What is told of a disk: torn, flushed, read, put. -/
namespace Go.Proofs.YtamknomapabmfaaGreat
open Go.RowKit

theorem tear_none (old next : List Int) : tear old next 0 = old := by
  unfold tear tearA tearB
  rw [if_neg (by decide), if_neg (by decide)]
  by_cases hd : old.drop 32 = []
  · rw [hd, joinT_none]
    exact List.take_of_length_le (by have := congrArg List.length hd; simp at this; omega)
  · rw [joinT_some hd]
    have hl : 32 < old.length := by
      apply Nat.lt_of_not_le
      intro hle
      exact hd (List.drop_eq_nil_of_le hle)
    have e : (old.take 32).length = 32 := by simp; omega
    rw [e]
    simp

/-- What the law reckons of block a behind k puts, as the picks tell. -/
def wantTo (xss : List (List Int)) (ps : List (Int × List Int)) (qs : List Int) (a : Nat) : Nat → List Int
  | 0 => xss.getD a []
  | k + 1 => if (ps.getD k (0, [])).1 = (a : Int) then (if k < qs.length then tearXs (wantTo xss ps qs a k) (ps.getD k (0, [])).2 (qs.getD k 0) else wantTo xss ps qs a k) else wantTo xss ps qs a k

theorem keep_want {xss : List (List Int)} {ps : List (Int × List Int)} {qs : List Int} (hS : Sound xss ps) (hq : picksF qs = 0) {a : Nat} (ha : a < xss.length) :
    ∀ k, k ≤ ps.length → (keepTo xss ps (pkOf false qs) k).getD a [] = wantTo xss ps qs a k ∧ wordsF (wantTo xss ps qs a k) = 0 := by
  intro k
  induction k with
  | zero => intro _; exact ⟨rfl, hS.row a ha⟩
  | succ k ih =>
    intro hk
    obtain ⟨h1, h2⟩ := ih (by omega)
    have hp := hS.put k (by omega)
    have h0 := hS.at0 k (by omega)
    have h01 := hS.at1 k (by omega)
    unfold keepTo wantTo
    by_cases e : (ps.getD k (0, [])).1 = (a : Int)
    · rw [if_pos e, e]
      simp only [Int.toNat_natCast]
      rw [getD_set_same _ _ _ (by rw [keepTo_len]; exact ha), h1]
      unfold pkOf
      rw [if_neg (by decide)]
      by_cases hkq : k < qs.length
      · rw [if_pos hkq]
        have hpk := (picksF_zero hq).2 k hkq
        have hf : tearF (wantTo xss ps qs a k) (ps.getD k (0, [])).2 (qs.getD k 0) = 0 := by unfold tearF; rw [if_pos h2, if_pos hp, if_pos hpk]
        unfold tearXs
        rw [if_pos hf]
        exact ⟨rfl, tear_words h2 hp⟩
      · rw [if_neg hkq]
        have e0 : qs.getD k 0 = 0 := by simp [List.getD, List.getElem?_eq_none (Nat.le_of_not_lt hkq)]
        rw [e0, tear_none]
        exact ⟨rfl, h2⟩
    · rw [if_neg e, getD_set_other _ _ _ _ (by omega)]
      exact ⟨h1, h2⟩

theorem keep_last {xss : List (List Int)} {ps : List (Int × List Int)} (hS : Sound xss ps) {a : Nat} (ha : a < xss.length) :
    ∀ k, k ≤ ps.length → (keepTo xss ps (fun _ => 1) k).getD a [] = blkTo xss ps (a : Int) k := by
  intro k
  induction k with
  | zero => intro _; unfold keepTo blkTo; rw [Int.toNat_natCast]
  | succ k ih =>
    intro hk
    have h1 := ih (by omega)
    have hp := wordsF_zero (hS.put k (by omega))
    have h0 := hS.at0 k (by omega)
    unfold keepTo blkTo
    by_cases e : (ps.getD k (0, [])).1 = (a : Int)
    · rw [if_pos e, e]
      simp only [Int.toNat_natCast]
      rw [getD_set_same _ _ _ (by rw [keepTo_len]; exact ha), tear_all hp.1]
    · rw [if_neg e, getD_set_other _ _ _ _ (by omega)]
      exact h1

theorem firstF_of {xss : List (List Int)} (h : ∀ i, i < xss.length → wordsF (xss.getD i []) = 0) : firstF xss = 0 := by
  induction xss with
  | nil => rfl
  | cons x r ih =>
    unfold firstF
    rw [if_pos (by simpa using h 0 (by simp))]
    exact ih (fun i hi => by simpa using h (i + 1) (by simpa using hi))
theorem firstP_of {n : Nat} {ps : List (Int × List Int)} (h : ∀ i, i < ps.length → (0 ≤ (ps.getD i (0, [])).1 ∧ (ps.getD i (0, [])).1 < (n : Int)) ∧ wordsF (ps.getD i (0, [])).2 = 0) : firstP n ps = 0 := by
  induction ps with
  | nil => rfl
  | cons x r ih =>
    have h0 := h 0 (by simp)
    simp at h0
    unfold firstP
    rw [if_pos h0.1, if_pos h0.2]
    exact ih (fun i hi => by simpa using h (i + 1) (by simpa using hi))
theorem diskF_of {xss : List (List Int)} {ps : List (Int × List Int)} (h : Sound xss ps) : diskF xss ps = 0 := by
  unfold diskF
  rw [if_neg (by have := h.rows; have := h.puts; omega), if_pos (firstF_of h.row)]
  exact firstP_of (fun i hi => ⟨⟨h.at0 i hi, h.at1 i hi⟩, h.put i hi⟩)

theorem snoc_at {α : Type} (ps : List α) (p d : α) (i : Nat) (hi : i < (ps ++ [p]).length) : (i < ps.length ∧ (ps ++ [p]).getD i d = ps.getD i d) ∨ (i = ps.length ∧ (ps ++ [p]).getD i d = p) := by
  by_cases e : i < ps.length
  · exact Or.inl ⟨e, by simp [List.getD, List.getElem?_append_left e]⟩
  · have : i = ps.length := by simp at hi; omega
    subst this
    exact Or.inr ⟨rfl, by simp⟩

theorem Sound.snoc {xss : List (List Int)} {ps : List (Int × List Int)} (h : Sound xss ps) (p : Int × List Int) (hl : ps.length < 200) (h0 : 0 ≤ p.1) (h1 : p.1 < (xss.length : Int)) (hw : wordsF p.2 = 0) : Sound xss (ps ++ [p]) := by
  refine ⟨h.rows, by simp; omega, h.row, fun i hi => ?_, fun i hi => ?_, fun i hi => ?_⟩
  · rcases snoc_at ps p (0, []) i hi with ⟨k, e⟩ | ⟨k, e⟩ <;> rw [e]
    · exact h.at0 i k
    · exact h0
  · rcases snoc_at ps p (0, []) i hi with ⟨k, e⟩ | ⟨k, e⟩ <;> rw [e]
    · exact h.at1 i k
    · exact h1
  · rcases snoc_at ps p (0, []) i hi with ⟨k, e⟩ | ⟨k, e⟩ <;> rw [e]
    · exact h.put i k
    · exact hw
theorem Sound.small {xss : List (List Int)} {ps : List (Int × List Int)} (h : Sound xss ps) : Small xss ps :=
  small_of (by have := h.rows; omega) (fun i => by have := h.len i; omega) (by have := h.puts; omega) (fun i hi => by have := (wordsF_zero (h.put i hi)).1; omega)

theorem words56 : wordsF [5, 6] = 0 := by
  unfold wordsF wF
  rw [if_neg (by simp), if_pos]
  intro i hi
  simp at hi
  have : i = 0 ∨ i = 1 := by omega
  rcases this with rfl | rfl <;> simp

/-- A put at block 0: its code. -/
theorem put56 {xss : List (List Int)} {ps : List (Int × List Int)} (h : Sound xss ps) :
    (putF xss ps 0 [5, 6] = 2 ∧ ps.length = 200) ∨ (putF xss ps 0 [5, 6] = 3 ∧ ps.length ≠ 200) ∨ (putF xss ps 0 [5, 6] = 0 ∧ ps.length < 200 ∧ 0 < xss.length) := by
  have hd := diskF_of h
  by_cases hx : 0 < xss.length
  · have hp := placeF_ok (xss := xss) (ps := ps) (at_ := 0) hd ⟨Int.le_refl _, by omega⟩
    unfold putF
    rw [if_pos hp, if_pos words56]
    by_cases h2 : 200 ≤ ps.length
    · rw [if_pos h2]
      exact Or.inl ⟨rfl, by have := h.puts; omega⟩
    · rw [if_neg h2]
      exact Or.inr (Or.inr ⟨rfl, by omega, hx⟩)
  · have hp := placeF_no (xss := xss) (ps := ps) (at_ := 0) hd (by omega)
    unfold putF
    rw [hp, if_neg (by decide)]
    refine Or.inr (Or.inl ⟨rfl, fun e => ?_⟩)
    have h1 := h.at0 0 (by omega)
    have h2 := h.at1 0 (by omega)
    omega
/-- .. and what is read there then. -/
theorem read56 {xss : List (List Int)} {ps : List (Int × List Int)} (h : Sound xss ps) (hl : ps.length < 200) (hx : 0 < xss.length) : Small xss (ps ++ [(0, [5, 6])]) ∧ blkOf xss (ps ++ [(0, [5, 6])]) 0 = [5, 6] := by
  have hs := h.snoc (0, [5, 6]) hl (Int.le_refl _) (by show (0 : Int) < _; omega) words56
  refine ⟨hs.small, ?_⟩
  unfold blkOf
  rw [if_pos (placeF_ok (diskF_of hs) ⟨Int.le_refl _, by omega⟩)]
  have e : (ps ++ [((0 : Int), ([5, 6] : List Int))]).length = ps.length + 1 := by simp
  rw [e]
  unfold blkTo
  have e2 : (ps ++ [((0 : Int), ([5, 6] : List Int))]).getD ps.length (0, []) = (0, [5, 6]) := by simp
  rw [e2, if_pos rfl]
end Go.Proofs.YtamknomapabmfaaGreat
/- 'spec.PutBlock', walked. -/
namespace Go.Proofs.YtamknomapabmfaaGreat
open Go.RowKit

theorem put_fin {P : Nat → Prop} {xss : List (List Int)} {ps : List (Int × List Int)} {at_ : Int} {xs : List Int} {B mm : Nat} {z1 v z : Value} {w1 w2 w3 : World} {g cap : Nat} {t : TypeId} {V : Nat → Value} {Bk : Nat → Nat} {o : Obj}
    (hII : BuiltII (fun b => mm ≤ b ∧ b < w1.heap.size) w1 z1 xss.length xss) (hBm : B ≤ mm) (hm1 : mm ≤ w1.heap.size) (hP : ∀ b, P b → B ≤ b ∧ b < mm)
    (hi : Inner P (w1.alloc (.cells #[z1, v] t)) v.ownBlock ps.length V Bk (fun i => ((ps ++ [(at_, xs)]).getD i (0, [])).2)) (hr : (w1.alloc (.cells #[z1, v] t)).ownsRow 0 38 2 v ps.length (cellsP (ps ++ [(at_, xs)]) ps.length V)) (hpr : ∀ r, v.ownBlock = some r → P r)
    (hb2 : Below (w1.heap.size + 1) (w1.alloc (.cells #[z1, v] t)) w2) (hz : OwI (w1.heap.size + 1) w2 z xs) (hown : w3.ownsRow 0 38 2 (.slice (some ⟨g, 0, none⟩) (ps.length + 1) cap) (ps.length + 1) (cellsP (ps ++ [(at_, xs)]) ps.length V ++ [.int .i64 at_, z]))
    (hg : (w2.alloc o).grownBy w3 v.ownBlock) (hat : v.ownBlock = some g ∨ g = (w2.alloc o).heap.size) (hlen : xss.length ≤ 1048576 ∧ ps.length ≤ 1048576) :
    Below w1.heap.size w3 (w3.setCell ⟨w1.heap.size, 1, none⟩ (.slice (some ⟨g, 0, none⟩) (ps.length + 1) cap)) ∧
    OwD B (w3.setCell ⟨w1.heap.size, 1, none⟩ (.slice (some ⟨g, 0, none⟩) (ps.length + 1) cap)) z1 (.slice (some ⟨g, 0, none⟩) (ps.length + 1) cap) xss (ps ++ [(at_, xs)]) := by
  have hs2 := hb2.size
  have hs3 := hg.size
  simp only [World.size_alloc] at hs2 hs3
  have hb2' : Below (w1.alloc (.cells #[z1, v] t)).heap.size (w1.alloc (.cells #[z1, v] t)) w2 := by simpa using hb2
  refine ⟨Below.setCell (p := ⟨w1.heap.size, 1, none⟩) (Below.refl w1.heap.size w3) (Nat.le_refl _) _, fun b => mm ≤ b ∧ b < w1.heap.size, fun b => (P b ∨ w1.heap.size + 1 ≤ b) ∧ b < w3.heap.size, fun b hb => ⟨by omega, by simp; omega⟩, fun b hb => ?_, fun b hb hb' => ?_, ?_, ?_⟩
  · refine ⟨?_, by simpa using hb.2⟩
    rcases hb.1 with h | h
    · exact (hP b h).1
    · omega
  · rcases hb'.1 with h | h
    · have := hP b h; omega
    · omega
  · have h1 := ((hII.later (below_alloc w1 (.cells #[z1, v] t))).later hb2').later (below_alloc w2 o)
    have h2 := h1.grown hg (fun b hb e => by have := hP _ (hpr b e.symm); omega)
    exact ((h2.set (r := w1.heap.size) (o := 1) (x := .slice (some ⟨g, 0, none⟩) (ps.length + 1) cap) (fun b hb => by omega)).ow rfl (by omega)).mono fun b hb => hb.1
  · have h1 := BuiltP.step (P' := fun b => P b ∨ w1.heap.size + 1 ≤ b) hi hr hpr (fun b h => Or.inl h) (fun b hb => Or.inr (by simpa using hb)) hb2' (by simpa using hz) (below_alloc w2 o) (by simpa using hown) hg hat
    have h2 := h1.set (r := w1.heap.size) (o := 1) (x := .slice (some ⟨g, 0, none⟩) (ps.length + 1) cap) (fun b hb => by
      rcases hb with hb | hb
      · have := hP b hb; omega
      · omega)
    exact (h2.ow (by simp) (by omega)).mono fun b hb => ⟨hb.1, by simpa using hb.2⟩

theorem totP_snoc (ps : List (Int × List Int)) (p : Int × List Int) : totP (ps ++ [p]) (ps ++ [p]).length = totP ps ps.length + (p.2.length + 1) := by
  unfold totP
  rw [List.take_of_length_le (Nat.le_refl _), List.take_of_length_le (Nat.le_refl _), List.map_append, List.sum_append]
  simp

theorem put_bound {xss : List (List Int)} {ps : List (Int × List Int)} {at_ : Int} {xs : List Int} (hs : Small xss ps) (hl : xs.length ≤ 1048576) :
    tot (putXs xss ps at_ xs) (putXs xss ps at_ xs).length + totP (putPs xss ps at_ xs) (putPs xss ps at_ xs).length ≤ 16777216 := by
  unfold putXs putPs
  have h1 := hs.all
  have h2 := hs.puts
  have h3 := totP_eq ps ps.length (Nat.le_refl _)
  split
  · rw [totP_snoc]
    dsimp only
    omega
  · simp [tot, totP]

set_option maxHeartbeats 4000000 in
set_option maxRecDepth 4000 in
theorem specPut {S T S2 : Nat → Prop} {w : World} {u v y : Value} {xss : List (List Int)} {ps : List (Int × List Int)} {xs : List Int} (at_ : Int) (hu : RdII S w u xss) (hv : RdP T w v ps) (hy : RdI S2 w y xs) (hs : Small xss ps) (hl : xs.length ≤ 1048576) :
    Calls Tryz.prog 73 #[.agg #[u, v], .int .i64 at_, y] w (EndsD (putF xss ps at_ xs) (putXs xss ps at_ xs) (putPs xss ps at_ xs) w) := by
  unfold EndsD putXs putPs
  have HU := hide hu
  have HV := hide hv
  have HY := hide hy
  have HS := hide hs
  obtain ⟨ao, c, rfl, hn⟩ := hu.shape
  obtain ⟨ao', c', rfl, hm⟩ := hv.shape
  obtain ⟨i0, hi, hz0, hz1, hz2⟩ := info_parts Tryz.infoPut
  clear hu hv hy hs
  obtain ⟨z, hz⟩ : ∃ z, diskF xss ps = z := ⟨_, rfl⟩
  by_cases h0 : z = 0
  · subst h0
    by_cases hat : 0 ≤ at_ ∧ at_ < (xss.length : Int)
    · have hpl := placeF_ok hz hat
      obtain ⟨ha1, ha2⟩ := hat
      obtain ⟨y1, hy1⟩ : ∃ y1, wordsF xs = y1 := ⟨_, rfl⟩
      by_cases h1 : y1 = 0
      · subst h1
        by_cases h2 : 200 ≤ ps.length
        · have hp : putF xss ps at_ xs = 2 := by unfold putF; rw [if_pos hpl, if_pos hy1, if_pos h2]
          rw [if_neg (by rw [hp]; decide), if_neg (by rw [hp]; decide), hp]
          have HZ := hide hz
          have HW := hide hy1
          clear hz hy1 hp hpl
          go_enter Tryz.func73, Tryz.ntmps73
          go_wp2_with fail
          refine (l1Fault (u := .slice ao xss.length c) (v := .slice ao' ps.length c') (by simp [go_sem]) (by simp [go_sem]) ((HU.out.later (below_alloc _ _)).later (below_alloc _ _)) ((HV.out.later (below_alloc _ _)).later (below_alloc _ _))).mono ?_
          rintro e w1 ⟨he, q, rfl⟩
          rw [HZ.out] at he
          subst he
          go_wp2_with fail
          refine (l1Place_yes xss.length c _ ao at_ _ (by simp [go_sem]) ha1 ha2 hn).mono ?_
          rintro e w1 ⟨rfl, q', rfl⟩
          go_wp2_with fail
          refine (l1Words ((HY.out.later (below_alloc _ _)).later (below_on (below_alloc _ _) (below_drewN _ _)))).mono ?_
          rintro e w1 ⟨he, q2, rfl⟩
          rw [HW.out] at he
          subst he
          go_wp2
          refine bodyPost_ret (v := .agg #[.int .i64 2, .slice none 0 0, .slice none 0 0]) (by simp [results, Tryz.results73, go_sem]) rfl ⟨_, _, rfl, ?_, OwD_nil _ _⟩
          exact (((below_on (below_on (below_alloc _ _) (below_alloc _ _)) (below_drewN _ _)).setCell (by simp) _).setCell (by simp) _).setCell (by simp) _
        · have hp : putF xss ps at_ xs = 0 := by unfold putF; rw [if_pos hpl, if_pos hy1, if_neg h2]
          rw [if_pos hp, if_pos hp, hp]
          have HZ := hide hz
          have HW := hide hy1
          clear hz hy1 hp hpl
          go_enter Tryz.func73, Tryz.ntmps73
          go_wp2_with fail
          refine (l1Fault (u := .slice ao xss.length c) (v := .slice ao' ps.length c') (by simp [go_sem]) (by simp [go_sem]) ((HU.out.later (below_alloc _ _)).later (below_alloc _ _)) ((HV.out.later (below_alloc _ _)).later (below_alloc _ _))).mono ?_
          rintro e w1 ⟨he, q, rfl⟩
          rw [HZ.out] at he
          subst he
          go_wp2_with fail
          refine (l1Place_yes xss.length c _ ao at_ _ (by simp [go_sem]) ha1 ha2 hn).mono ?_
          rintro e w1 ⟨rfl, q', rfl⟩
          go_wp2_with fail
          refine (l1Words ((HY.out.later (below_alloc _ _)).later (below_on (below_alloc _ _) (below_drewN _ _)))).mono ?_
          rintro e w1 ⟨he, q2, rfl⟩
          rw [HW.out] at he
          subst he
          go_wp2_with fail
          refine (l1Copy_cells ((HU.out.later (below_alloc _ _)).later (below_on (below_alloc _ _) (below_drewN _ _))) ((HV.out.later (below_alloc _ _)).later (below_on (below_alloc _ _) (below_drewN _ _))) HS.out).mono ?_
          rintro e w1 ⟨z1, z2, mm, rfl, hb1, hmm1, hmm2, hII, hP⟩
          obtain ⟨a1, k1, rfl⟩ := hII.shape
          obtain ⟨a2, k2, rfl⟩ := hP.shape
          have v0 : w1.cell? ⟨w.heap.size + 1, 0, none⟩ = some (.int .i64 0) := cell_later hb1 (by simp [go_sem])
          have v1 : w1.cell? ⟨w.heap.size + 1, 1, none⟩ = some (.slice none 0 0) := cell_later hb1 (by simp [go_sem])
          have v2 : w1.cell? ⟨w.heap.size + 1, 2, none⟩ = some (.slice none 0 0) := cell_later hb1 (by simp [go_sem])
          have f : ∀ o, w1.frozen? ⟨w.heap.size + 1, o, none⟩ = false := fun o => ((bcell hb1).2 _ _ (by simp)).trans (by simp [go_sem])
          have HB1 := hide (below_on (below_on (below_on (below_alloc w (.cells #[.slice ao xss.length c, .slice ao' ps.length c'] 54)) (below_alloc _ _)) (below_drewN _ _)) hb1)
          simp only [World.heap_drewN, World.size_alloc] at hmm1 hP
          have hs1 : w.heap.size + 1 + 1 ≤ w1.heap.size := by omega
          obtain ⟨V2, Bk2, hown, hpr, hin⟩ := (hP.later (below_alloc w1 (.cells #[.slice a1 xss.length k1, .slice a2 ps.length k2] 54))).snoc (at_, xs)
          have HII := hide hII
          have HOw0 := hide hown
          have HPr := hide hpr
          have HIn := hide hin
          have HV0 := hide v0
          have HV1 := hide v1
          have HV2 := hide v2
          have HF := hide f
          have g0 : (w1.alloc (.cells #[.slice a1 xss.length k1, .slice a2 ps.length k2] 54)).cell? ⟨w1.heap.size, 0, none⟩ = some (.slice a1 xss.length k1) := by simp [go_sem]
          have g1 : (w1.alloc (.cells #[.slice a1 xss.length k1, .slice a2 ps.length k2] 54)).cell? ⟨w1.heap.size, 1, none⟩ = some (.slice a2 ps.length k2) := by simp [go_sem]
          have gf : (w1.alloc (.cells #[.slice a1 xss.length k1, .slice a2 ps.length k2] 54)).frozen? ⟨w1.heap.size, 1, none⟩ = false := by simp [go_sem]
          have HG0 := hide g0
          have HG1 := hide g1
          have HGf := hide gf
          clear hb1 hII hP hown hpr hin v0 v1 v2 f g0 g1 gf
          go_wp2_with fail
          go_region_law (first
            | (refine step_append_lies _ (by rfl) _ _ _ (by rfl) 0 38 i0 (.agg #[.int .i64 0, .slice none 0 0]) 2 32 Tryz.underlying30 hi hz0 hz1 hz2 rfl (by omega) (.slice a2 ps.length k2) ps.length _ (by rfl) (ownsRow_later (ownsRow_later HOw0.out HB2.out) (below_alloc w2 (.cells #[.int .i64 at_, .slice ao4 xs.length c4] 38))) ⟨w2.heap.size, 0, none⟩ 1 1 [.int .i64 at_, .slice ao4 xs.length c4] (by rfl) (by rfl) (World.news_of_block (cs := #[.int .i64 at_, .slice ao4 xs.length c4]) (t := 38) (fr := (0, 0)) (heap_alloc_new w2 _)) cells2_one (by omega) (by unfold maxLen; omega) (by omega) (Nat.zero_le _) (w2.heap.size + 1) (by simp) ?_; intro g cap w3 hown3 hgrow hat hlt3; have s0 := (hgrow.cell_far ⟨w1.heap.size, 1, none⟩ (by simp; omega) (fun e => by have := (HPr.out _ e.symm).2; dsimp only at this; omega)).trans (cell_later (below_alloc _ _) e1); have s1 : w3.frozen? ⟨w1.heap.size, 1, none⟩ = false := (hgrow.frozen_far ⟨w1.heap.size, 1, none⟩ (by simp; omega) (fun e => by have := (HPr.out _ e.symm).2; dsimp only at this; omega)).trans (((bcell (below_alloc w2 _)).2 _ _ (by omega)).trans ef))
            | (go_simp; go_at_call 30; refine (l1Ints ((HY.out.later (below_on HB1.out (below_alloc w1 (.cells #[.slice a1 xss.length k1, .slice a2 ps.length k2] 54)))).drewN 1) hl).mono ?_; rintro e w2 ⟨z4, rfl, hb2, ho2⟩; obtain ⟨ao4, c4, rfl⟩ := ho2.shape; have e1 := cell_later hb2 HG1.out; have ef : w2.frozen? ⟨w1.heap.size, 1, none⟩ = false := ((bcell hb2).2 _ _ (by simp)).trans HGf.out; have HB2 := hide (below_on (below_drewN (w1.alloc (.cells #[.slice a1 xss.length k1, .slice a2 ps.length k2] 54)) 1) hb2); have HO2 := hide ho2; have hzz : w1.heap.size + 1 ≤ w2.heap.size := Nat.le_trans (by simp) hb2.size; have hzl : w1.heap.size < w2.heap.size := hzz; clear hb2 ho2))
          all_goals
            have hne : ∀ b, b < w.heap.size + 1 + 1 → some b ≠ (Value.slice a2 ps.length k2).ownBlock := fun b hb e => by have := (HPr.out _ e.symm).1; omega
            have hne1 : some w1.heap.size ≠ (Value.slice a2 ps.length k2).ownBlock := fun e => by have := (HPr.out _ e.symm).2; omega
            have HFin := hide (put_fin (B := w.heap.size + 1 + 1) HII.out hmm1 hmm2 (fun b hb => hb) HIn.out HOw0.out HPr.out (by simpa using HB2.out) (by simpa using HO2.out) hown3 hgrow (by simpa using hat) ⟨HS.out.rows, HS.out.puts⟩)
            have m0 := (hgrow.cell_far ⟨w1.heap.size, 0, none⟩ (by simp; omega) hne1).trans (cell_later (below_alloc _ _) (cell_later HB2.out HG0.out))
            have v0 := (hgrow.cell_far ⟨w.heap.size + 1, 0, none⟩ (by simp; omega) (hne _ (by simp))).trans (cell_later (below_alloc _ _) (cell_later HB2.out (cell_later (below_alloc _ _) HV0.out)))
            have v1 := (hgrow.cell_far ⟨w.heap.size + 1, 1, none⟩ (by simp; omega) (hne _ (by simp))).trans (cell_later (below_alloc _ _) (cell_later HB2.out (cell_later (below_alloc _ _) HV1.out)))
            have v2 := (hgrow.cell_far ⟨w.heap.size + 1, 2, none⟩ (by simp; omega) (hne _ (by simp))).trans (cell_later (below_alloc _ _) (cell_later HB2.out (cell_later (below_alloc _ _) HV2.out)))
            have ff : ∀ o, w3.frozen? ⟨w.heap.size + 1, o, none⟩ = false := fun o => (hgrow.frozen_far ⟨w.heap.size + 1, o, none⟩ (by simp; omega) (hne _ (by simp))).trans (((bcell (below_alloc w2 _)).2 _ _ (by omega)).trans (((bcell HB2.out).2 _ _ (by simp; omega)).trans (((bcell (below_alloc w1 _)).2 _ _ (by omega)).trans (HF.out o))))
            have f0 := ff 0
            have f1 := ff 1
            have f2 := ff 2
            have HBf := hide ((((below_on (below_on (below_on HB1.out (below_alloc w1 (.cells #[.slice a1 xss.length k1, .slice a2 ps.length k2] 54))) HB2.out) (below_alloc w2 (.cells #[.int .i64 at_, .slice ao4 xs.length c4] 38))).grown hgrow (by simp; omega) (fun r hr => by have := (HPr.out _ hr).1; omega)).setCell (p := ⟨w1.heap.size, 1, none⟩) (by dsimp only; omega) (.slice (some ⟨g, 0, none⟩) (ps.length + 1) cap)))
            have hlt4 : w1.heap.size < w3.heap.size := by have := hgrow.size; simp at this; omega
            clear hown3 hgrow hat e1 ef ff hne hne1
            go_wp2
            have hd := ret_disk (x := .int .i64 0) HBf.out (r := w.heap.size + 1) (by omega) HFin.out.2 (by omega)
            refine bodyPost_ret (v := .agg #[.int .i64 0, .slice a1 xss.length k1, .slice (some ⟨g, 0, none⟩) (ps.length + 1) cap]) (by simp [results, Tryz.results73, go_sem, v0, v1, v2]) rfl ⟨_, _, rfl, hd.1, hd.2⟩
      · have hp : putF xss ps at_ xs = y1 := by unfold putF; rw [if_pos hpl, if_neg (by rw [hy1]; exact h1), hy1]
        rw [if_neg (by rw [hp]; exact h1), if_neg (by rw [hp]; exact h1), hp]
        have HZ := hide hz
        have HW := hide hy1
        clear hz hy1 hp hpl
        go_enter Tryz.func73, Tryz.ntmps73
        go_wp2_with fail
        refine (l1Fault (u := .slice ao xss.length c) (v := .slice ao' ps.length c') (by simp [go_sem]) (by simp [go_sem]) ((HU.out.later (below_alloc _ _)).later (below_alloc _ _)) ((HV.out.later (below_alloc _ _)).later (below_alloc _ _))).mono ?_
        rintro e w1 ⟨he, q, rfl⟩
        rw [HZ.out] at he
        subst he
        go_wp2_with fail
        refine (l1Place_yes xss.length c _ ao at_ _ (by simp [go_sem]) ha1 ha2 hn).mono ?_
        rintro e w1 ⟨rfl, q', rfl⟩
        go_wp2_with fail
        refine (l1Words ((HY.out.later (below_alloc _ _)).later (below_on (below_alloc _ _) (below_drewN _ _)))).mono ?_
        rintro e w1 ⟨he, q2, rfl⟩
        rw [HW.out] at he
        subst he
        go_wp2
        refine bodyPost_ret (v := .agg #[.int .i64 y1, .slice none 0 0, .slice none 0 0]) (by simp [results, Tryz.results73, go_sem]) rfl ⟨_, _, rfl, ?_, OwD_nil _ _⟩
        exact (((below_on (below_on (below_alloc _ _) (below_alloc _ _)) (below_drewN _ _)).setCell (by simp) _).setCell (by simp) _).setCell (by simp) _
    · have hp : putF xss ps at_ xs = 3 := by unfold putF; rw [placeF_no hz hat, if_neg (by decide)]
      rw [if_neg (by rw [hp]; decide), if_neg (by rw [hp]; decide), hp]
      have HZ := hide hz
      have HA := hide hat
      clear hz hp hat
      go_enter Tryz.func73, Tryz.ntmps73
      go_wp2_with fail
      refine (l1Fault (u := .slice ao xss.length c) (v := .slice ao' ps.length c') (by simp [go_sem]) (by simp [go_sem]) ((HU.out.later (below_alloc _ _)).later (below_alloc _ _)) ((HV.out.later (below_alloc _ _)).later (below_alloc _ _))).mono ?_
      rintro e w1 ⟨he, q, rfl⟩
      rw [HZ.out] at he
      subst he
      go_wp2_with fail
      refine (l1Place_no xss.length c _ ao at_ _ (by simp [go_sem]) HA.out hn).mono ?_
      rintro e w1 ⟨rfl, q', rfl⟩
      go_wp2
      refine bodyPost_ret (v := .agg #[.int .i64 3, .slice none 0 0, .slice none 0 0]) (by simp [results, Tryz.results73, go_sem]) rfl ⟨_, _, rfl, ?_, OwD_nil _ _⟩
      exact (((below_on (below_on (below_alloc _ _) (below_alloc _ _)) (below_drewN _ _)).setCell (by simp) _).setCell (by simp) _).setCell (by simp) _
  · have hpd := placeF_disk (at_ := at_) (by rw [hz]; exact h0)
    have hp : putF xss ps at_ xs = z := by unfold putF; rw [hpd, hz, if_neg h0]
    rw [if_neg (by rw [hp]; exact h0), if_neg (by rw [hp]; exact h0), hp]
    have HZ := hide hz
    clear hz hp hpd
    go_enter Tryz.func73, Tryz.ntmps73
    go_wp2_with fail
    refine (l1Fault (u := .slice ao xss.length c) (v := .slice ao' ps.length c') (by simp [go_sem]) (by simp [go_sem]) ((HU.out.later (below_alloc _ _)).later (below_alloc _ _)) ((HV.out.later (below_alloc _ _)).later (below_alloc _ _))).mono ?_
    rintro e w1 ⟨he, q, rfl⟩
    rw [HZ.out] at he
    subst he
    go_wp2
    refine bodyPost_ret (v := .agg #[.int .i64 z, .slice none 0 0, .slice none 0 0]) (by simp [results, Tryz.results73, go_sem]) rfl ⟨_, _, rfl, ?_, OwD_nil _ _⟩
    exact (((below_on (below_on (below_alloc _ _) (below_alloc _ _)) (below_drewN _ _)).setCell (by simp) _).setCell (by simp) _).setCell (by simp) _
end Go.Proofs.YtamknomapabmfaaGreat
/- Chapter 3: disks without a fault stay so when steps are run. -/
namespace Go.Proofs.YtamknomapabmfaaGreat
open Go.RowKit

theorem sound_nil : Sound [] [] := ⟨by simp, by simp, fun i hi => absurd hi (Nat.not_lt_zero _), fun i hi => absurd hi (Nat.not_lt_zero _), fun i hi => absurd hi (Nat.not_lt_zero _), fun i hi => absurd hi (Nat.not_lt_zero _)⟩
theorem sound_keep {xss : List (List Int)} {ps : List (Int × List Int)} (h : Sound xss ps) (pk : Nat → Int) : Sound (keepTo xss ps pk ps.length) [] :=
  ⟨by rw [keepTo_len]; exact h.rows, by simp, fun i _ => keepTo_words h pk _ (Nat.le_refl _) i, fun i hi => absurd hi (Nat.not_lt_zero _), fun i hi => absurd hi (Nat.not_lt_zero _), fun i hi => absurd hi (Nat.not_lt_zero _)⟩
theorem sound_put {xss : List (List Int)} {ps : List (Int × List Int)} (h : Sound xss ps) (a : Int) (xs : List Int) : Sound (putXs xss ps a xs) (putPs xss ps a xs) := by
  unfold putXs putPs
  by_cases hp : putF xss ps a xs = 0
  · rw [if_pos hp, if_pos hp]
    unfold putF at hp
    by_cases h1 : placeF xss ps a = 0
    · rw [if_pos h1] at hp
      by_cases h2 : wordsF xs = 0
      · rw [if_pos h2] at hp
        by_cases h3 : 200 ≤ ps.length
        · rw [if_pos h3] at hp; exact absurd hp (by decide)
        · obtain ⟨k1, k2⟩ : 0 ≤ a ∧ a < (xss.length : Int) := by
            unfold placeF at h1
            rw [if_pos (diskF_of h)] at h1
            by_cases h4 : 0 ≤ a ∧ a < (xss.length : Int)
            · exact h4
            · rw [if_neg h4] at h1; exact absurd h1 (by decide)
          exact h.snoc (a, xs) (by omega) k1 k2 h2
      · rw [if_neg h2] at hp; exact absurd hp h2
    · rw [if_neg h1] at hp; exact absurd hp h1
  · rw [if_neg hp, if_neg hp]; exact sound_nil
end Go.Proofs.YtamknomapabmfaaGreat
/- Chapter 3: a step; the laws' helpers over it, and 'StepFault' of the model and of the program, walked. -/
namespace Go.Proofs.YtamknomapabmfaaGreat
open Go.RowKit
/-- The fault of a step. -/
def stepF (f : Bool) (a : Int) (xs : List Int) : Int := if f = true ∧ (a ≠ 0 ∨ xs.length ≠ 0) then 1 else if 0 ≤ a ∧ a < 66 then wordsF xs else 3

end Go.Proofs.YtamknomapabmfaaGreat
