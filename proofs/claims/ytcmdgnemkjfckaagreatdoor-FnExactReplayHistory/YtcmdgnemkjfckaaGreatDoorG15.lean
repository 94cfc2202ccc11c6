/- Impl2b Cr1 Ef1 in one text: what each says stands at its head below. -/
import Derived.Test.YtcmdgnemkjfckaaGreatDoorG14
import Derived.Deep.CutRange
import Derived.Test.YtcmdgnemkjfckaaGreatDoorG08
import Derived.Test.YtcmdgnemkjfckaaGreatDoorG02
import Derived.Test.YtcmdgnemkjfckaaGreatDoorG06
import Derived.Deep.RegionHeld3
import Derived.Test.YtcmdgnemkjfckaaGreatDoorG13
/- Chapter 2, the program's side: 'impl.halfOf', walked. -/
namespace Go.Proofs.YtcmdgnemkjfckaaGreatDoor
open Go.RowKit
/-- The cells of a row of words of 16 bits. -/
def u16s (L : List Int) : List Value := L.map (Value.int .u16)
theorem u16s_len (L : List Int) : (u16s L).length = L.length := by simp [u16s]
theorem u16s_at {L : List Int} {i : Nat} (h : i < L.length) : (u16s L)[i]? = some (.int .u16 (L.getD i 0)) := by simp [u16s, List.getD, h]
theorem u16s_one (L : List Int) : ∀ v ∈ u16s L, v.oneCell' = true := by
  intro v hv
  simp only [u16s, List.mem_map] at hv
  obtain ⟨i, _, rfl⟩ := hv
  rfl
theorem u16s_set (L : List Int) (i : Nat) (x : Int) : (u16s L).set i (.int .u16 x) = u16s (L.set i x) := by simp [u16s, List.map_set]

theorem rangeAt_set {w : World} {b : Nat} {cs : List Value} (h : w.rangeAt b 0 cs) (i : Nat) (x : Value) : (w.setCell ⟨b, i, none⟩ x).rangeAt b 0 (cs.set i x) := by
  intro j v hv
  rw [Nat.zero_add]
  have hj : j < cs.length := by
    have := (List.getElem?_eq_some_iff.1 hv).1
    simpa using this
  have hold := h j _ (List.getElem?_eq_getElem hj)
  rw [Nat.zero_add] at hold
  by_cases e : i = j
  · subst e
    rw [List.getElem?_set_self hj] at hv
    injection hv with hv
    rw [World.cell?_setCell_same _ _ _ hold, hv]
  · rw [List.getElem?_set_ne e] at hv
    rw [World.cell?_setCell_other _ _ _ _ (by intro h'; injection h' with _ h2; exact e h2), hold, ← hv, List.getElem?_eq_getElem hj]

/-- Of the world that the walk stands in no more is kept than R. -/
theorem forget {P : Program} {c : Code} {Q : Exit → Act → World → Prop} {a : Act} {w0 : World} (R : World → Prop) (h0 : R w0) (h : ∀ w, R w → c.wp P Q a w) : c.wp P Q a w0 := h _ h0

/-- An array in a block of the call's own, beside the result's one. -/
structure ArrAt (w : World) (r v n : Nat) (cs : List Value) (wr : World) : Prop where
  below : Below w.heap.size w wr
  res : wr.there r 0 n
  free : ∀ o, wr.frozen? ⟨v, o, none⟩ = false
  cells : wr.rangeAt v 0 cs

theorem ArrAt.step {w wr : World} {r v n : Nat} {cs : List Value} (h : ArrAt w r v n cs wr) (hv : w.heap.size ≤ v) (hrv : r ≠ v) (i : Nat) (x : Value) : ArrAt w r v n (cs.set i x) (wr.setCell ⟨v, i, none⟩ x) := by
  refine ⟨h.below.setCell hv _, fun j hj => ?_, fun o => by rw [World.frozen?_setCell]; exact h.free o, rangeAt_set h.cells i x⟩
  rw [World.cell?_setCell_other _ _ _ _ (by intro h'; injection h' with h2 _; exact hrv h2.symm), World.frozen?_setCell]
  exact h.res j hj

theorem wrap_u16 {x : Int} (h0 : 0 ≤ x) (h1 : x ≤ 65535) : IntKind.u16.wrap x = x := by simp [IntKind.wrap, IntKind.bits, IntKind.signed]; omega

/-- A half of which k addresses are laid. -/
def halfTo (s t n : Int) (xs : List Int) (k : Nat) : List Int := [s, t, n] ++ xs.take k ++ List.replicate (29 - k) 0
theorem halfTo_len {s t n : Int} {xs : List Int} {k : Nat} (h : k ≤ xs.length) (h2 : xs.length ≤ 29) : (halfTo s t n xs k).length = 32 := by simp [halfTo]; omega
theorem halfTo_step {s t n : Int} {xs : List Int} {k : Nat} (h : k < xs.length) (h2 : xs.length ≤ 29) : (halfTo s t n xs k).set (3 + k) (xs.getD k 0) = halfTo s t n xs (k + 1) := by
  unfold halfTo
  have hl : ([s, t, n] ++ xs.take k).length = 3 + k := by simp; omega
  rw [show 29 - k = (29 - (k + 1)) + 1 by omega, List.replicate_succ, List.set_append_right _ _ (by rw [hl]; exact Nat.le_refl _), hl, Nat.sub_self, List.set_cons_zero, List.take_succ_eq_append_getElem h]
  simp only [List.getD, List.getElem?_eq_getElem h, Option.getD_some, List.append_assoc, List.cons_append, List.nil_append]
theorem halfTo_end {s t : Int} {xs : List Int} : halfTo s t (xs.length : Int) xs xs.length = packH s t xs := by simp [halfTo, packH]

end Go.Proofs.YtcmdgnemkjfckaaGreatDoor
/- Chapter 10: copies of entries and of a store, both sides walked. Made by program (gencr1.py). -/
namespace Go.Proofs.YtcmdgnemkjfckaaGreatDoor
open Go.RowKit

theorem OwI.low {B B' : Nat} {w : World} {v : Value} {xs : List Int} (h : OwI B w v xs) (hB : B' ≤ B) : OwI B' w v xs := by
  obtain ⟨b, h1, h2⟩ := h
  exact ⟨b, h1, fun hn => ⟨Nat.le_trans hB (h2 hn).1, (h2 hn).2⟩⟩
set_option maxHeartbeats 2000000 in
set_option maxRecDepth 4000 in
theorem l9Copy {S : Nat → Prop} {w : World} {u : Value} {ps : List Oj} (hu : RdJ S w u ps) (hm : ps.length ≤ 1048576) (hl : ∀ i, i < ps.length → (ps.getD i oj0).2.2.length ≤ 1048576) :
    Calls Tryz.prog 50 #[u] w fun e w' => ∃ z, e = .returned z ∧ Below w.heap.size w w' ∧ BuiltEn (w.heap.size ≤ ·) w' z ps.length ps := by
  obtain ⟨ao, c, rfl, _⟩ := hu.shape
  obtain ⟨i0, hi, hz0, hz1, hz2⟩ := info_parts Tryz.infoEn
  have HU := hide hu
  have HL := hide hl
  obtain ⟨n, hn⟩ : ∃ n, ps.length = n := ⟨_, rfl⟩
  rw [hn] at hm ⊢
  have HN := hide hn
  rw [hn] at HU
  clear hu hl hn
  go_enter Tryz.func50, Tryz.ntmps50
  go_wp2
  go_loopw [3, 4] (fun v i wr => ∃ k : Nat, k ≤ n ∧ i = .int .i64 k ∧ Hid (BuiltEn (w.heap.size ≤ ·) wr v k ps) ∧ Hid (Below w.heap.size w wr)) (fun _ i _ => n - (intOf i).toNat)
  case atStart => exact ⟨0, Nat.zero_le _, rfl, BuiltEn.empty _ _ (Nat.le_refl _) _, below_alloc _ _⟩
  case round =>
    obtain ⟨k, hk, rfl, HBu, HB⟩ := hrel
    by_cases hlt : k < n
    · obtain ⟨b, off, rfl, y, q1, qs, q2, q3⟩ := HU.out.file (k := k) (by rw [HN.out]; exact hlt)
      obtain ⟨ao3, c3, rfl⟩ := q3.shape
      have g1 := cell_later HB.out q1
      have gs := cell_later HB.out qs
      have g2 := cell_later HB.out q2
      obtain ⟨x, hx⟩ : ∃ x, (ps.getD k oj0).1 = x := ⟨_, rfl⟩
      obtain ⟨s, hs⟩ : ∃ s, (ps.getD k oj0).2.1 = s := ⟨_, rfl⟩
      obtain ⟨l, hl⟩ : ∃ l, (ps.getD k oj0).2.2.length = l := ⟨_, rfl⟩
      have HX := hide hx
      have HSs := hide hs
      have HLen := hide hl
      have HLk := hide (HL.out k (by rw [HN.out]; exact hlt))
      have R := hide (q3.later HB.out)
      rw [hx] at g1
      rw [hs] at gs
      rw [hl] at g2 R
      have hbl := World.block_lt_of_cell? _ _ q1
      obtain ⟨V2, Bk2, hown, hpr, hin⟩ := HBu.out
      have HOw0 := hide hown
      have HPr := hide hpr
      have HIn := hide hin
      have hz := HB.out.size
      have hk0 : (0 : Int) ≤ (k : Int) := Int.natCast_nonneg _
      have hk1 : (k : Int) < (n : Int) := by omega
      clear q1 qs q2 q3 hx hs hl hin hown hpr
      go_wp2_with fail
      go_region_held3 (fun w' => w'.cell? ⟨b, off + k * 3, none⟩ = some (.int .i64 x) ∧ w'.cell? ⟨b, off + k * 3 + 1, none⟩ = some (.int .i64 s) ∧ w'.cell? ⟨b, off + k * 3 + 2, none⟩ = some (.slice ao3 l c3)) (first | exact ⟨g1, gs, g2⟩ | exact ⟨e0, es, e1⟩ | exact ⟨cell_later (below_alloc _ _) e0, cell_later (below_alloc _ _) es, cell_later (below_alloc _ _) e1⟩ | exact ⟨s0, ss, s1⟩)
        (first
          | (go_at_call 49; refine (l1Ints (R.out.drewN 1) HLk.out).mono ?_; rintro e w1 ⟨z, rfl, hb1, ho1⟩; obtain ⟨ao4, c4, rfl⟩ := ho1.shape; have e0 : w1.cell? ⟨b, off + k * 3, none⟩ = some (.int .i64 x) := cell_later hb1 g1; have es : w1.cell? ⟨b, off + k * 3 + 1, none⟩ = some (.int .i64 s) := cell_later hb1 gs; have e1 : w1.cell? ⟨b, off + k * 3 + 2, none⟩ = some (.slice ao3 l c3) := cell_later hb1 g2; have HB1 := hide (below_on (below_drewN wr 1) hb1); have HO1 := hide ho1; have hzz : wr.heap.size ≤ w1.heap.size := hb1.size; clear hb1 ho1)
          | (refine step_append_lies _ (by rfl) _ _ _ (by rfl) 0 90 i0 (.agg #[.int .i64 0, .int .i64 0, .slice none 0 0]) 3 40 Tryz.underlying31 hi hz0 hz1 hz2 rfl (by omega) _ k _ (by rfl) (ownsRow_later (ownsRow_later HOw0.out HB1.out) (below_alloc w1 (.cells #[.int .i64 x, .int .i64 s, .slice ao4 (ps.getD k oj0).2.2.length c4] 90))) ⟨w1.heap.size, 0, none⟩ 1 1 [.int .i64 x, .int .i64 s, .slice ao4 (ps.getD k oj0).2.2.length c4] (by rfl) (by rfl) (World.news_of_block (cs := #[.int .i64 x, .int .i64 s, .slice ao4 (ps.getD k oj0).2.2.length c4]) (t := 90) (fr := (0, 0)) (heap_alloc_new w1 _)) cellsEn_one (by omega) (by unfold maxLen; omega) (by omega) (Nat.zero_le _) (w1.heap.size + 1) (by simp) ?_; intro g cap w3 hown3 hgrow hat hlt3; have s0 : w3.cell? ⟨b, off + k * 3, none⟩ = some (.int .i64 x) := (hgrow.cell_far _ (by simp; omega) (fun e => by have := HPr.out _ e.symm; dsimp only at this; omega)).trans (cell_later (below_alloc _ _) e0); have ss : w3.cell? ⟨b, off + k * 3 + 1, none⟩ = some (.int .i64 s) := (hgrow.cell_far _ (by simp; omega) (fun e => by have := HPr.out _ e.symm; dsimp only at this; omega)).trans (cell_later (below_alloc _ _) es); have s1 : w3.cell? ⟨b, off + k * 3 + 2, none⟩ = some (.slice ao3 l c3) := (hgrow.cell_far _ (by simp; omega) (fun e => by have := HPr.out _ e.symm; dsimp only at this; omega)).trans (cell_later (below_alloc _ _) e1)))
      have HS := hide (BuiltEn.step (P' := (w.heap.size ≤ ·)) HIn.out HOw0.out HPr.out (fun _ h => h) (fun b hb => Nat.le_trans hz hb) HB1.out HO1.out (below_alloc w1 (.cells #[.int .i64 x, .int .i64 s, .slice ao4 (ps.getD k oj0).2.2.length c4] 90)) (by rw [HX.out, HSs.out]; exact hown3) hgrow (by simpa using hat))
      have HB3 := hide ((below_on (below_on HB.out HB1.out) (below_alloc w1 (.cells #[.int .i64 x, .int .i64 s, .slice ao4 (ps.getD k oj0).2.2.length c4] 90))).grown hgrow (by simp; omega) (fun r hr => HPr.out r hr))
      clear hown3 hgrow hat s0 ss s1 e0 es e1 hzz
      go_wp2
      go_roundw
      case rel => exact ⟨k + 1, hlt, by go_num, HS.out, HB3.out⟩
      case measure => simp [intOf]; omega
    · have hkn : k = n := by omega
      subst hkn
      go_wp2
      go_ret
      exact ⟨_, rfl, HB.out, HBu.out⟩


set_option maxHeartbeats 2000000 in
set_option maxRecDepth 4000 in
theorem copyEntriesI {S : Nat → Prop} {w : World} {u : Value} {ps : List Oj} (hu : RdJ S w u ps) (hm : ps.length ≤ 1048576) (hl : ∀ i, i < ps.length → (ps.getD i oj0).2.2.length ≤ 1048576) :
    Calls Tryz.prog 62 #[u] w fun e w' => ∃ z, e = .returned z ∧ Below w.heap.size w w' ∧ BuiltEn (w.heap.size ≤ ·) w' z ps.length ps := by
  obtain ⟨ao, c, rfl, _⟩ := hu.shape
  obtain ⟨i0, hi, hz0, hz1, hz2⟩ := info_parts Tryz.infoEn
  have HU := hide hu
  have HL := hide hl
  obtain ⟨n, hn⟩ : ∃ n, ps.length = n := ⟨_, rfl⟩
  rw [hn] at hm ⊢
  have HN := hide hn
  rw [hn] at HU
  clear hu hl hn
  go_enter Tryz.func62, Tryz.ntmps62
  go_wp2
  go_loopw [3, 8] (fun v i wr => ∃ k : Nat, k ≤ n ∧ i = .int .i64 k ∧ Hid (BuiltEn (w.heap.size ≤ ·) wr v k ps) ∧ Hid (Below w.heap.size w wr)) (fun _ i _ => n - (intOf i).toNat)
  case atStart => exact ⟨0, Nat.zero_le _, rfl, BuiltEn.nil _ _ _, Below.refl _ _⟩
  case round =>
    obtain ⟨k, hk, rfl, HBu, HB⟩ := hrel
    by_cases hlt : k < n
    · obtain ⟨b, off, rfl, y, q1, qs, q2, q3⟩ := HU.out.file (k := k) (by rw [HN.out]; exact hlt)
      obtain ⟨ao3, c3, rfl⟩ := q3.shape
      have g1 := cell_later HB.out q1
      have gs := cell_later HB.out qs
      have g2 := cell_later HB.out q2
      obtain ⟨x, hx⟩ : ∃ x, (ps.getD k oj0).1 = x := ⟨_, rfl⟩
      obtain ⟨s, hs⟩ : ∃ s, (ps.getD k oj0).2.1 = s := ⟨_, rfl⟩
      obtain ⟨l, hl⟩ : ∃ l, (ps.getD k oj0).2.2.length = l := ⟨_, rfl⟩
      have HX := hide hx
      have HSs := hide hs
      have HLen := hide hl
      have HLk := hide (HL.out k (by rw [HN.out]; exact hlt))
      have R := hide (q3.later HB.out)
      rw [hx] at g1
      rw [hs] at gs
      rw [hl] at g2 R
      have hbl := World.block_lt_of_cell? _ _ q1
      obtain ⟨V2, Bk2, hown, hpr, hin⟩ := HBu.out
      have HOw0 := hide hown
      have HPr := hide hpr
      have HIn := hide hin
      have hz := HB.out.size
      have hk0 : (0 : Int) ≤ (k : Int) := Int.natCast_nonneg _
      have hk1 : (k : Int) < (n : Int) := by omega
      clear q1 qs q2 q3 hx hs hl hin hown hpr
      go_wp2_with fail
      refine forget (fun W => W.cell? ⟨wr.heap.size, 0, none⟩ = some (.int .i64 x) ∧ W.cell? ⟨wr.heap.size, 1, none⟩ = some (.int .i64 s) ∧ W.cell? ⟨wr.heap.size, 2, none⟩ = some (.slice ao3 l c3) ∧ Below wr.heap.size wr W ∧ W.heap.size = wr.heap.size + 1) ⟨by simp [go_sem], by simp [go_sem], by simp [go_sem], below_alloc _ _, by simp⟩ ?_
      clear g1 gs g2
      rintro W1 ⟨g1, gs, g2, hbW, hsW⟩
      have HBW := hide hbW
      replace R := hide (R.out.later hbW)
      clear hbW
      go_region_held3 (fun w' => w'.cell? ⟨wr.heap.size, 0, none⟩ = some (.int .i64 x) ∧ w'.cell? ⟨wr.heap.size, 1, none⟩ = some (.int .i64 s) ∧ w'.cell? ⟨wr.heap.size, 2, none⟩ = some (.slice ao3 l c3)) (first | exact ⟨g1, gs, g2⟩ | exact ⟨e0, es, e1⟩ | exact ⟨cell_later (below_alloc _ _) e0, cell_later (below_alloc _ _) es, cell_later (below_alloc _ _) e1⟩ | exact ⟨s0, ss, s1⟩)
        (first
          | (go_at_call 61; refine (copyWords (R.out.drewN 1) HLk.out).mono ?_; rintro e w1 ⟨z, rfl, hb1, ho1⟩; obtain ⟨ao4, c4, rfl⟩ := ho1.shape; have e0 : w1.cell? ⟨wr.heap.size, 0, none⟩ = some (.int .i64 x) := cell_later hb1 g1; have es : w1.cell? ⟨wr.heap.size, 1, none⟩ = some (.int .i64 s) := cell_later hb1 gs; have e1 : w1.cell? ⟨wr.heap.size, 2, none⟩ = some (.slice ao3 l c3) := cell_later hb1 g2; have HB1 := hide (below_on HBW.out (below_on (below_drewN W1 1) hb1)); have HO1 := hide ho1; have hzz : wr.heap.size + 1 ≤ w1.heap.size := (by have h : W1.heap.size ≤ w1.heap.size := hb1.size; omega); clear hb1 ho1)
          | (refine step_append_lies _ (by rfl) _ _ _ (by rfl) 0 90 i0 (.agg #[.int .i64 0, .int .i64 0, .slice none 0 0]) 3 40 Tryz.underlying31 hi hz0 hz1 hz2 rfl (by omega) _ k _ (by rfl) (ownsRow_later (ownsRow_later HOw0.out HB1.out) (below_alloc w1 (.cells #[.int .i64 x, .int .i64 s, .slice ao4 (ps.getD k oj0).2.2.length c4] 90))) ⟨w1.heap.size, 0, none⟩ 1 1 [.int .i64 x, .int .i64 s, .slice ao4 (ps.getD k oj0).2.2.length c4] (by rfl) (by rfl) (World.news_of_block (cs := #[.int .i64 x, .int .i64 s, .slice ao4 (ps.getD k oj0).2.2.length c4]) (t := 90) (fr := (0, 0)) (heap_alloc_new w1 _)) cellsEn_one (by omega) (by unfold maxLen; omega) (by omega) (Nat.zero_le _) (w1.heap.size + 1) (by simp) ?_; intro g cap w3 hown3 hgrow hat hlt3; have s0 : w3.cell? ⟨wr.heap.size, 0, none⟩ = some (.int .i64 x) := (hgrow.cell_far _ (by simp; omega) (fun e => by have := (HOw0.out.lt _ e.symm).2; dsimp only at this; omega)).trans (cell_later (below_alloc _ _) e0); have ss : w3.cell? ⟨wr.heap.size, 1, none⟩ = some (.int .i64 s) := (hgrow.cell_far _ (by simp; omega) (fun e => by have := (HOw0.out.lt _ e.symm).2; dsimp only at this; omega)).trans (cell_later (below_alloc _ _) es); have s1 : w3.cell? ⟨wr.heap.size, 2, none⟩ = some (.slice ao3 l c3) := (hgrow.cell_far _ (by simp; omega) (fun e => by have := (HOw0.out.lt _ e.symm).2; dsimp only at this; omega)).trans (cell_later (below_alloc _ _) e1)))
      have HS := hide (BuiltEn.step (P' := (w.heap.size ≤ ·)) HIn.out HOw0.out HPr.out (fun _ h => h) (fun b hb => Nat.le_trans hz hb) HB1.out (OwI.low HO1.out (by simp; omega)) (below_alloc w1 (.cells #[.int .i64 x, .int .i64 s, .slice ao4 (ps.getD k oj0).2.2.length c4] 90)) (by rw [HX.out, HSs.out]; exact hown3) hgrow (by simpa using hat))
      have HB3 := hide ((below_on (below_on HB.out HB1.out) (below_alloc w1 (.cells #[.int .i64 x, .int .i64 s, .slice ao4 (ps.getD k oj0).2.2.length c4] 90))).grown hgrow (by simp; omega) (fun r hr => HPr.out r hr))
      clear hown3 hgrow hat s0 ss s1 e0 es e1 hzz
      go_wp2
      go_roundw
      case rel => exact ⟨k + 1, hlt, by go_num, HS.out, HB3.out⟩
      case measure => simp [intOf]; omega
    · have hkn : k = n := by omega
      subst hkn
      go_wp2
      go_ret
      exact ⟨_, rfl, HB.out, HBu.out⟩

end Go.Proofs.YtcmdgnemkjfckaaGreatDoor
/- Chapter 10: a log as a list that begins at an index: its end, what is in reach, what is from an index on. -/
namespace Go.Proofs.YtcmdgnemkjfckaaGreatDoor
open Go.RowKit

theorem endE (f : Int) (ao : Option Addr) (n c : Nat) (h0 : 0 ≤ f) (h1 : f ≤ 10000) (h2 : n ≤ 100) (w : World) :
    Calls Tryz.prog 117 #[.agg #[.int .i64 f, .slice ao n c]] w fun e w' => e = .returned (.int .i64 (f + n)) ∧ Below w.heap.size w w' := by
  have hw : IntKind.i64.wrap (f + (n : Int)) = f + n := by simp [IntKind.wrap, IntKind.bits, IntKind.signed]; omega
  go_enter Tryz.func117, Tryz.ntmps117
  go_wp2
  go_ret
  exact ⟨rfl, below_alloc _ _⟩
theorem reachLoE (f i : Int) (ao : Option Addr) (n c : Nat) (h : i < f) (w : World) :
    Calls Tryz.prog 116 #[.agg #[.int .i64 f, .slice ao n c], .int .i64 i] w fun e w' => e = .returned (.iface 152 (.agg #[.int .i64 f])) ∧ Below w.heap.size w w' := by
  go_enter Tryz.func116, Tryz.ntmps116
  go_wp2
  go_ret
  exact ⟨rfl, below_alloc _ _⟩
set_option maxHeartbeats 1000000 in
theorem reachHiE (f i : Int) (ao : Option Addr) (n c : Nat) (h0 : 0 ≤ f) (h1 : f ≤ 10000) (h2 : n ≤ 100) (h : f + n < i) (w : World) (a : Addr) (ha : w.cell? ⟨0, 0, none⟩ = some (.iface 192 (.pointer (some a)))) :
    Calls Tryz.prog 116 #[.agg #[.int .i64 f, .slice ao n c], .int .i64 i] w fun e w' => e = .returned (.iface 192 (.pointer (some a))) ∧ Below w.heap.size w w' := by
  have HE := hide (endE f ao n c h0 h1 h2)
  have hl : ¬ i < f := by omega
  obtain ⟨s, hs⟩ : ∃ s, f + (n : Int) = s := ⟨_, rfl⟩
  rw [hs] at HE h
  have BA := hide (below_alloc w (.cells #[.int .i64 f, .slice ao n c] 139))
  clear hs h0 h1 h2
  go_enter Tryz.func116, Tryz.ntmps116
  go_wp2_with fail
  refine (HE.out _).mono ?_
  rintro e w1 ⟨rfl, hb⟩
  have g := cell_later (below_on BA.out hb) ha
  have BB := hide (below_on BA.out hb)
  clear hb
  go_wp2
  go_ret
  exact ⟨rfl, BB.out⟩
set_option maxHeartbeats 1000000 in
theorem reachInE (f i : Int) (ao : Option Addr) (n c : Nat) (h0 : 0 ≤ f) (h1 : f ≤ 10000) (h2 : n ≤ 100) (h3 : f ≤ i) (h : i ≤ f + n) (w : World) :
    Calls Tryz.prog 116 #[.agg #[.int .i64 f, .slice ao n c], .int .i64 i] w fun e w' => e = .returned .nilIface ∧ Below w.heap.size w w' := by
  have HE := hide (endE f ao n c h0 h1 h2)
  have hl : ¬ i < f := by omega
  obtain ⟨s, hs⟩ : ∃ s, f + (n : Int) = s := ⟨_, rfl⟩
  rw [hs] at HE h
  have hr : ¬ s < i := by omega
  have BA := hide (below_alloc w (.cells #[.int .i64 f, .slice ao n c] 139))
  clear hs h0 h1 h2 h
  go_enter Tryz.func116, Tryz.ntmps116
  go_wp2_with fail
  refine (HE.out _).mono ?_
  rintro e w1 ⟨rfl, hb⟩
  have BB := hide (below_on BA.out hb)
  clear hb
  go_wp2
  go_ret
  exact ⟨rfl, BB.out⟩
/-- Where a part of a row of entries begins. -/
def slE (ao : Option Addr) (c i : Nat) : Option Addr := if c = i then ao else ao.map (fun x => x.add (i * 3))
theorem RdJ.fromE {S : Nat → Prop} {w : World} {ao : Option Addr} {n c : Nat} {gs : List Oj} (h : RdJ S w (.slice ao n c) gs) (i : Nat) (hi : i ≤ n) (hc : n ≤ c) : RdJ S w (.slice (slE ao c i) (n - i) (c - i)) (gs.drop i) := by
  obtain ⟨ao', c', e1, e2, e3⟩ := h
  injection e1 with e1 e4 e5
  subst e1 e4 e5
  have hl : (gs.drop i).length = gs.length - i := by simp
  refine ⟨slE ao c i, c - i, by rw [hl], by rw [hl]; omega, fun hne => ?_⟩
  have hlt : i < gs.length := by
    have := List.length_pos_iff.2 hne
    rw [hl] at this; omega
  obtain ⟨b, off, V, f1, f2, f3⟩ := e3 (by rintro rfl; simp at hlt)
  refine ⟨b, off + i * 3, fun j => V (i + j), ?_, f2, fun j hj => ?_⟩
  · unfold slE
    rw [if_neg (by omega), f1]
    simp [Addr.add_lit]
  · rw [hl] at hj
    have e : (gs.drop i).getD j oj0 = gs.getD (i + j) oj0 := by simp [List.getD, List.getElem?_drop]
    have ea : off + i * 3 + j * 3 = off + (i + j) * 3 := by omega
    rw [e, ea]
    exact f3 (i + j) (by omega)
theorem RdJ.uptoE {S : Nat → Prop} {w : World} {ao : Option Addr} {n c : Nat} {gs : List Oj} (h : RdJ S w (.slice ao n c) gs) (m : Nat) (hm : m ≤ n) : RdJ S w (.slice ao m c) (gs.take m) := by
  obtain ⟨ao', c', e1, e2, e3⟩ := h
  injection e1 with e1 e4 e5
  subst e1 e4
  have hl : (gs.take m).length = m := by simp; omega
  refine ⟨ao, c, by rw [hl], by rw [hl]; omega, fun hne => ?_⟩
  obtain ⟨b, off, V, f1, f2, f3⟩ := e3 (by rintro rfl; simp at hne)
  refine ⟨b, off, V, f1, f2, fun j hj => ?_⟩
  rw [hl] at hj
  have e : (gs.take m).getD j oj0 = gs.getD j oj0 := by simp [List.getD, hj]
  rw [e]
  exact f3 j (by omega)
theorem logOfE (a b c d : Int) (ay az : Option Addr) (l cy m cz : Nat) (h0 : 0 ≤ c) (h1 : c ≤ 9999) (w : World) :
    Calls Tryz.prog 103 #[.agg #[.int .i64 a, .int .i64 b, .int .i64 c, .int .i64 d, .slice ay l cy, .slice az m cz]] w fun e w' => e = .returned (.agg #[.int .i64 (c + 1), .slice az m cz]) ∧ Below w.heap.size w w' := by
  have e1 : IntKind.i64.wrap (c + 1) = c + 1 := by simp [IntKind.wrap, IntKind.bits, IntKind.signed]; omega
  go_enter Tryz.func103, Tryz.ntmps103
  go_wp2
  refine bodyPost_ret (v := .agg #[.int .i64 (c + 1), .slice az m cz]) (by simp [results, Tryz.results103, go_sem]) rfl ⟨rfl, ?_⟩
  repeat (first | refine Below.setCell ?_ (by simp) _ | exact below_on (below_alloc _ _) (below_alloc _ _))
theorem fromE (f i : Int) (ao : Option Addr) (n c k : Nat) (hk : i - f = (k : Int)) (hkn : k ≤ n) (hn : n ≤ 100) (w : World) :
    Calls Tryz.prog 107 #[.agg #[.int .i64 f, .slice ao n c], .int .i64 i] w fun e w' => e = .returned (.slice (slE ao c k) (n - k) (c - k)) ∧ Below w.heap.size w w' := by
  have e1 : IntKind.i64.wrap (i - f) = (k : Int) := by rw [hk]; simp [IntKind.wrap, IntKind.bits, IntKind.signed]; omega
  have hk0 : (0 : Int) ≤ (k : Int) := by omega
  have hk1 : (k : Int) ≤ (n : Int) := by omega
  go_enter Tryz.func107, Tryz.ntmps107
  go_wp2
  · go_ret
    exact ⟨by simp [slE], below_alloc _ _⟩
  · go_ret
    exact ⟨by simp [slE, h], below_alloc _ _⟩
end Go.Proofs.YtcmdgnemkjfckaaGreatDoor
