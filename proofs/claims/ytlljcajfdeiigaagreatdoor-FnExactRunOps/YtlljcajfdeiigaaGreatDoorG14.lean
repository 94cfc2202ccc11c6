/- Cr1 Ef1 Cr2 in one text: what each says stands at its head below. -/
import Derived.Test.YtlljcajfdeiigaaGreatDoorG13
import Derived.Test.YtlljcajfdeiigaaGreatDoorG08
import Derived.Test.YtlljcajfdeiigaaGreatDoorG02
import Derived.Test.YtlljcajfdeiigaaGreatDoorG06
import Derived.Deep.RegionHeld3
import Derived.Test.YtlljcajfdeiigaaGreatDoorG12
import Derived.Test.YtlljcajfdeiigaaGreatDoorG07
/- Chapter 10: copies of entries and of a store, both sides walked. Made by program (gencr1.py). -/
namespace Go.Proofs.YtlljcajfdeiigaaGreatDoor
open Go.RowKit

theorem OwI.low {B B' : Nat} {w : World} {v : Value} {xs : List Int} (h : OwI B w v xs) (hB : B' ≤ B) : OwI B' w v xs := by
  obtain ⟨b, h1, h2⟩ := h
  exact ⟨b, h1, fun hn => ⟨Nat.le_trans hB (h2 hn).1, (h2 hn).2⟩⟩
set_option maxHeartbeats 2000000 in
set_option maxRecDepth 4000 in
theorem l9Copy {S : Nat → Prop} {w : World} {u : Value} {ps : List Oj} (hu : RdJ S w u ps) (hm : ps.length ≤ 1048576) (hl : ∀ i, i < ps.length → (ps.getD i oj0).2.2.length ≤ 1048576) :
    Calls Tryz.prog 64 #[u] w fun e w' => ∃ z, e = .returned z ∧ Below w.heap.size w w' ∧ BuiltEn (w.heap.size ≤ ·) w' z ps.length ps := by
  obtain ⟨ao, c, rfl, _⟩ := hu.shape
  obtain ⟨i0, hi, hz0, hz1, hz2⟩ := info_parts Tryz.infoEn
  have HU := hide hu
  have HL := hide hl
  obtain ⟨n, hn⟩ : ∃ n, ps.length = n := ⟨_, rfl⟩
  rw [hn] at hm ⊢
  have HN := hide hn
  rw [hn] at HU
  clear hu hl hn
  go_enter Tryz.func64, Tryz.ntmps64
  go_wp2
  go_loopw [3, 4] (fun v i wr => ∃ k : Nat, k ≤ n ∧ i = .int .i64 k ∧ Hid (BuiltEn (w.heap.size ≤ ·) wr v k ps) ∧ Hid (Below w.heap.size w wr)) (fun _ i _ => n - (intOf i).toNat)
  case atStart => exact ⟨0, Nat.zero_le _, rfl, BuiltEn.empty _ _ (Nat.le_refl _) _, below_alloc _ _⟩
  case round =>
    obtain ⟨k, hk, rfl, HBu, HB⟩ := hrel
    by_cases hlt : k < n
    · obtain ⟨b, off, rfl, y, q1, qs, q2, q3⟩ := HU.out.file (k := k) (by rw [HN.out]; exact hlt)
      obtain ⟨ao3, c3, rfl⟩ := q3.shape
      have g1 := cell_later HB.out q1
      have gs := cell_later HB.out qs
      have g2 := cell_later HB.out q2
      obtain ⟨x, hx⟩ : ∃ x, (ps.getD k oj0).1 = x := ⟨_, rfl⟩
      obtain ⟨s, hs⟩ : ∃ s, (ps.getD k oj0).2.1 = s := ⟨_, rfl⟩
      obtain ⟨l, hl⟩ : ∃ l, (ps.getD k oj0).2.2.length = l := ⟨_, rfl⟩
      have HX := hide hx
      have HSs := hide hs
      have HLen := hide hl
      have HLk := hide (HL.out k (by rw [HN.out]; exact hlt))
      have R := hide (q3.later HB.out)
      rw [hx] at g1
      rw [hs] at gs
      rw [hl] at g2 R
      have hbl := World.block_lt_of_cell? _ _ q1
      obtain ⟨V2, Bk2, hown, hpr, hin⟩ := HBu.out
      have HOw0 := hide hown
      have HPr := hide hpr
      have HIn := hide hin
      have hz := HB.out.size
      have hk0 : (0 : Int) ≤ (k : Int) := Int.natCast_nonneg _
      have hk1 : (k : Int) < (n : Int) := by omega
      clear q1 qs q2 q3 hx hs hl hin hown hpr
      go_wp2_with fail
      go_region_held3 (fun w' => w'.cell? ⟨b, off + k * 3, none⟩ = some (.int .i64 x) ∧ w'.cell? ⟨b, off + k * 3 + 1, none⟩ = some (.int .i64 s) ∧ w'.cell? ⟨b, off + k * 3 + 2, none⟩ = some (.slice ao3 l c3)) (first | exact ⟨g1, gs, g2⟩ | exact ⟨e0, es, e1⟩ | exact ⟨cell_later (below_alloc _ _) e0, cell_later (below_alloc _ _) es, cell_later (below_alloc _ _) e1⟩ | exact ⟨s0, ss, s1⟩)
        (first
          | (go_at_call 63; refine (l1Ints (R.out.drewN 1) HLk.out).mono ?_; rintro e w1 ⟨z, rfl, hb1, ho1⟩; obtain ⟨ao4, c4, rfl⟩ := ho1.shape; have e0 : w1.cell? ⟨b, off + k * 3, none⟩ = some (.int .i64 x) := cell_later hb1 g1; have es : w1.cell? ⟨b, off + k * 3 + 1, none⟩ = some (.int .i64 s) := cell_later hb1 gs; have e1 : w1.cell? ⟨b, off + k * 3 + 2, none⟩ = some (.slice ao3 l c3) := cell_later hb1 g2; have HB1 := hide (below_on (below_drewN wr 1) hb1); have HO1 := hide ho1; have hzz : wr.heap.size ≤ w1.heap.size := hb1.size; clear hb1 ho1)
          | (refine step_append_lies _ (by rfl) _ _ _ (by rfl) 0 76 i0 (.agg #[.int .i64 0, .int .i64 0, .slice none 0 0]) 3 40 Tryz.underlying30 hi hz0 hz1 hz2 rfl (by omega) _ k _ (by rfl) (ownsRow_later (ownsRow_later HOw0.out HB1.out) (below_alloc w1 (.cells #[.int .i64 x, .int .i64 s, .slice ao4 (ps.getD k oj0).2.2.length c4] 76))) ⟨w1.heap.size, 0, none⟩ 1 1 [.int .i64 x, .int .i64 s, .slice ao4 (ps.getD k oj0).2.2.length c4] (by rfl) (by rfl) (World.news_of_block (cs := #[.int .i64 x, .int .i64 s, .slice ao4 (ps.getD k oj0).2.2.length c4]) (t := 76) (fr := (0, 0)) (heap_alloc_new w1 _)) cellsEn_one (by omega) (by unfold maxLen; omega) (by omega) (Nat.zero_le _) (w1.heap.size + 1) (by simp) ?_; intro g cap w3 hown3 hgrow hat hlt3; have s0 : w3.cell? ⟨b, off + k * 3, none⟩ = some (.int .i64 x) := (hgrow.cell_far _ (by simp; omega) (fun e => by have := HPr.out _ e.symm; dsimp only at this; omega)).trans (cell_later (below_alloc _ _) e0); have ss : w3.cell? ⟨b, off + k * 3 + 1, none⟩ = some (.int .i64 s) := (hgrow.cell_far _ (by simp; omega) (fun e => by have := HPr.out _ e.symm; dsimp only at this; omega)).trans (cell_later (below_alloc _ _) es); have s1 : w3.cell? ⟨b, off + k * 3 + 2, none⟩ = some (.slice ao3 l c3) := (hgrow.cell_far _ (by simp; omega) (fun e => by have := HPr.out _ e.symm; dsimp only at this; omega)).trans (cell_later (below_alloc _ _) e1)))
      have HS := hide (BuiltEn.step (P' := (w.heap.size ≤ ·)) HIn.out HOw0.out HPr.out (fun _ h => h) (fun b hb => Nat.le_trans hz hb) HB1.out HO1.out (below_alloc w1 (.cells #[.int .i64 x, .int .i64 s, .slice ao4 (ps.getD k oj0).2.2.length c4] 76)) (by rw [HX.out, HSs.out]; exact hown3) hgrow (by simpa using hat))
      have HB3 := hide ((below_on (below_on HB.out HB1.out) (below_alloc w1 (.cells #[.int .i64 x, .int .i64 s, .slice ao4 (ps.getD k oj0).2.2.length c4] 76))).grown hgrow (by simp; omega) (fun r hr => HPr.out r hr))
      clear hown3 hgrow hat s0 ss s1 e0 es e1 hzz
      go_wp2
      go_roundw
      case rel => exact ⟨k + 1, hlt, by go_num, HS.out, HB3.out⟩
      case measure => simp [intOf]; omega
    · have hkn : k = n := by omega
      subst hkn
      go_wp2
      go_ret
      exact ⟨_, rfl, HB.out, HBu.out⟩


set_option maxHeartbeats 2000000 in
set_option maxRecDepth 4000 in
theorem copyEntriesI {S : Nat → Prop} {w : World} {u : Value} {ps : List Oj} (hu : RdJ S w u ps) (hm : ps.length ≤ 1048576) (hl : ∀ i, i < ps.length → (ps.getD i oj0).2.2.length ≤ 1048576) :
    Calls Tryz.prog 66 #[u] w fun e w' => ∃ z, e = .returned z ∧ Below w.heap.size w w' ∧ BuiltEn (w.heap.size ≤ ·) w' z ps.length ps := by
  obtain ⟨ao, c, rfl, _⟩ := hu.shape
  obtain ⟨i0, hi, hz0, hz1, hz2⟩ := info_parts Tryz.infoEn
  have HU := hide hu
  have HL := hide hl
  obtain ⟨n, hn⟩ : ∃ n, ps.length = n := ⟨_, rfl⟩
  rw [hn] at hm ⊢
  have HN := hide hn
  rw [hn] at HU
  clear hu hl hn
  go_enter Tryz.func66, Tryz.ntmps66
  go_wp2
  go_loopw [3, 8] (fun v i wr => ∃ k : Nat, k ≤ n ∧ i = .int .i64 k ∧ Hid (BuiltEn (w.heap.size ≤ ·) wr v k ps) ∧ Hid (Below w.heap.size w wr)) (fun _ i _ => n - (intOf i).toNat)
  case atStart => exact ⟨0, Nat.zero_le _, rfl, BuiltEn.nil _ _ _, Below.refl _ _⟩
  case round =>
    obtain ⟨k, hk, rfl, HBu, HB⟩ := hrel
    by_cases hlt : k < n
    · obtain ⟨b, off, rfl, y, q1, qs, q2, q3⟩ := HU.out.file (k := k) (by rw [HN.out]; exact hlt)
      obtain ⟨ao3, c3, rfl⟩ := q3.shape
      have g1 := cell_later HB.out q1
      have gs := cell_later HB.out qs
      have g2 := cell_later HB.out q2
      obtain ⟨x, hx⟩ : ∃ x, (ps.getD k oj0).1 = x := ⟨_, rfl⟩
      obtain ⟨s, hs⟩ : ∃ s, (ps.getD k oj0).2.1 = s := ⟨_, rfl⟩
      obtain ⟨l, hl⟩ : ∃ l, (ps.getD k oj0).2.2.length = l := ⟨_, rfl⟩
      have HX := hide hx
      have HSs := hide hs
      have HLen := hide hl
      have HLk := hide (HL.out k (by rw [HN.out]; exact hlt))
      have R := hide (q3.later HB.out)
      rw [hx] at g1
      rw [hs] at gs
      rw [hl] at g2 R
      have hbl := World.block_lt_of_cell? _ _ q1
      obtain ⟨V2, Bk2, hown, hpr, hin⟩ := HBu.out
      have HOw0 := hide hown
      have HPr := hide hpr
      have HIn := hide hin
      have hz := HB.out.size
      have hk0 : (0 : Int) ≤ (k : Int) := Int.natCast_nonneg _
      have hk1 : (k : Int) < (n : Int) := by omega
      clear q1 qs q2 q3 hx hs hl hin hown hpr
      go_wp2_with fail
      refine forget (fun W => W.cell? ⟨wr.heap.size, 0, none⟩ = some (.int .i64 x) ∧ W.cell? ⟨wr.heap.size, 1, none⟩ = some (.int .i64 s) ∧ W.cell? ⟨wr.heap.size, 2, none⟩ = some (.slice ao3 l c3) ∧ Below wr.heap.size wr W ∧ W.heap.size = wr.heap.size + 1) ⟨by simp [go_sem], by simp [go_sem], by simp [go_sem], below_alloc _ _, by simp⟩ ?_
      clear g1 gs g2
      rintro W1 ⟨g1, gs, g2, hbW, hsW⟩
      have HBW := hide hbW
      replace R := hide (R.out.later hbW)
      clear hbW
      go_region_held3 (fun w' => w'.cell? ⟨wr.heap.size, 0, none⟩ = some (.int .i64 x) ∧ w'.cell? ⟨wr.heap.size, 1, none⟩ = some (.int .i64 s) ∧ w'.cell? ⟨wr.heap.size, 2, none⟩ = some (.slice ao3 l c3)) (first | exact ⟨g1, gs, g2⟩ | exact ⟨e0, es, e1⟩ | exact ⟨cell_later (below_alloc _ _) e0, cell_later (below_alloc _ _) es, cell_later (below_alloc _ _) e1⟩ | exact ⟨s0, ss, s1⟩)
        (first
          | (go_at_call 65; refine (copyWords (R.out.drewN 1) HLk.out).mono ?_; rintro e w1 ⟨z, rfl, hb1, ho1⟩; obtain ⟨ao4, c4, rfl⟩ := ho1.shape; have e0 : w1.cell? ⟨wr.heap.size, 0, none⟩ = some (.int .i64 x) := cell_later hb1 g1; have es : w1.cell? ⟨wr.heap.size, 1, none⟩ = some (.int .i64 s) := cell_later hb1 gs; have e1 : w1.cell? ⟨wr.heap.size, 2, none⟩ = some (.slice ao3 l c3) := cell_later hb1 g2; have HB1 := hide (below_on HBW.out (below_on (below_drewN W1 1) hb1)); have HO1 := hide ho1; have hzz : wr.heap.size + 1 ≤ w1.heap.size := (by have h : W1.heap.size ≤ w1.heap.size := hb1.size; omega); clear hb1 ho1)
          | (refine step_append_lies _ (by rfl) _ _ _ (by rfl) 0 76 i0 (.agg #[.int .i64 0, .int .i64 0, .slice none 0 0]) 3 40 Tryz.underlying30 hi hz0 hz1 hz2 rfl (by omega) _ k _ (by rfl) (ownsRow_later (ownsRow_later HOw0.out HB1.out) (below_alloc w1 (.cells #[.int .i64 x, .int .i64 s, .slice ao4 (ps.getD k oj0).2.2.length c4] 76))) ⟨w1.heap.size, 0, none⟩ 1 1 [.int .i64 x, .int .i64 s, .slice ao4 (ps.getD k oj0).2.2.length c4] (by rfl) (by rfl) (World.news_of_block (cs := #[.int .i64 x, .int .i64 s, .slice ao4 (ps.getD k oj0).2.2.length c4]) (t := 76) (fr := (0, 0)) (heap_alloc_new w1 _)) cellsEn_one (by omega) (by unfold maxLen; omega) (by omega) (Nat.zero_le _) (w1.heap.size + 1) (by simp) ?_; intro g cap w3 hown3 hgrow hat hlt3; have s0 : w3.cell? ⟨wr.heap.size, 0, none⟩ = some (.int .i64 x) := (hgrow.cell_far _ (by simp; omega) (fun e => by have := (HOw0.out.lt _ e.symm).2; dsimp only at this; omega)).trans (cell_later (below_alloc _ _) e0); have ss : w3.cell? ⟨wr.heap.size, 1, none⟩ = some (.int .i64 s) := (hgrow.cell_far _ (by simp; omega) (fun e => by have := (HOw0.out.lt _ e.symm).2; dsimp only at this; omega)).trans (cell_later (below_alloc _ _) es); have s1 : w3.cell? ⟨wr.heap.size, 2, none⟩ = some (.slice ao3 l c3) := (hgrow.cell_far _ (by simp; omega) (fun e => by have := (HOw0.out.lt _ e.symm).2; dsimp only at this; omega)).trans (cell_later (below_alloc _ _) e1)))
      have HS := hide (BuiltEn.step (P' := (w.heap.size ≤ ·)) HIn.out HOw0.out HPr.out (fun _ h => h) (fun b hb => Nat.le_trans hz hb) HB1.out (OwI.low HO1.out (by simp; omega)) (below_alloc w1 (.cells #[.int .i64 x, .int .i64 s, .slice ao4 (ps.getD k oj0).2.2.length c4] 76)) (by rw [HX.out, HSs.out]; exact hown3) hgrow (by simpa using hat))
      have HB3 := hide ((below_on (below_on HB.out HB1.out) (below_alloc w1 (.cells #[.int .i64 x, .int .i64 s, .slice ao4 (ps.getD k oj0).2.2.length c4] 76))).grown hgrow (by simp; omega) (fun r hr => HPr.out r hr))
      clear hown3 hgrow hat s0 ss s1 e0 es e1 hzz
      go_wp2
      go_roundw
      case rel => exact ⟨k + 1, hlt, by go_num, HS.out, HB3.out⟩
      case measure => simp [intOf]; omega
    · have hkn : k = n := by omega
      subst hkn
      go_wp2
      go_ret
      exact ⟨_, rfl, HB.out, HBu.out⟩

end Go.Proofs.YtlljcajfdeiigaaGreatDoor
/- Chapter 10: a log as a list that begins at an index: its end, what is in reach, what is from an index on. -/
namespace Go.Proofs.YtlljcajfdeiigaaGreatDoor
open Go.RowKit

theorem endE (f : Int) (ao : Option Addr) (n c : Nat) (h0 : 0 ≤ f) (h1 : f ≤ 10000) (h2 : n ≤ 100) (w : World) :
    Calls Tryz.prog 106 #[.agg #[.int .i64 f, .slice ao n c]] w fun e w' => e = .returned (.int .i64 (f + n)) ∧ Below w.heap.size w w' := by
  have hw : IntKind.i64.wrap (f + (n : Int)) = f + n := by simp [IntKind.wrap, IntKind.bits, IntKind.signed]; omega
  go_enter Tryz.func106, Tryz.ntmps106
  go_wp2
  go_ret
  exact ⟨rfl, below_alloc _ _⟩
theorem reachLoE (f i : Int) (ao : Option Addr) (n c : Nat) (h : i < f) (w : World) :
    Calls Tryz.prog 105 #[.agg #[.int .i64 f, .slice ao n c], .int .i64 i] w fun e w' => e = .returned (.iface 128 (.agg #[.int .i64 f])) ∧ Below w.heap.size w w' := by
  go_enter Tryz.func105, Tryz.ntmps105
  go_wp2
  go_ret
  exact ⟨rfl, below_alloc _ _⟩
set_option maxHeartbeats 1000000 in
theorem reachHiE (f i : Int) (ao : Option Addr) (n c : Nat) (h0 : 0 ≤ f) (h1 : f ≤ 10000) (h2 : n ≤ 100) (h : f + n < i) (w : World) (a : Addr) (ha : w.cell? ⟨0, 0, none⟩ = some (.iface 168 (.pointer (some a)))) :
    Calls Tryz.prog 105 #[.agg #[.int .i64 f, .slice ao n c], .int .i64 i] w fun e w' => e = .returned (.iface 168 (.pointer (some a))) ∧ Below w.heap.size w w' := by
  have HE := hide (endE f ao n c h0 h1 h2)
  have hl : ¬ i < f := by omega
  obtain ⟨s, hs⟩ : ∃ s, f + (n : Int) = s := ⟨_, rfl⟩
  rw [hs] at HE h
  have BA := hide (below_alloc w (.cells #[.int .i64 f, .slice ao n c] 115))
  clear hs h0 h1 h2
  go_enter Tryz.func105, Tryz.ntmps105
  go_wp2_with fail
  refine (HE.out _).mono ?_
  rintro e w1 ⟨rfl, hb⟩
  have g := cell_later (below_on BA.out hb) ha
  have BB := hide (below_on BA.out hb)
  clear hb
  go_wp2
  go_ret
  exact ⟨rfl, BB.out⟩
set_option maxHeartbeats 1000000 in
theorem reachInE (f i : Int) (ao : Option Addr) (n c : Nat) (h0 : 0 ≤ f) (h1 : f ≤ 10000) (h2 : n ≤ 100) (h3 : f ≤ i) (h : i ≤ f + n) (w : World) :
    Calls Tryz.prog 105 #[.agg #[.int .i64 f, .slice ao n c], .int .i64 i] w fun e w' => e = .returned .nilIface ∧ Below w.heap.size w w' := by
  have HE := hide (endE f ao n c h0 h1 h2)
  have hl : ¬ i < f := by omega
  obtain ⟨s, hs⟩ : ∃ s, f + (n : Int) = s := ⟨_, rfl⟩
  rw [hs] at HE h
  have hr : ¬ s < i := by omega
  have BA := hide (below_alloc w (.cells #[.int .i64 f, .slice ao n c] 115))
  clear hs h0 h1 h2 h
  go_enter Tryz.func105, Tryz.ntmps105
  go_wp2_with fail
  refine (HE.out _).mono ?_
  rintro e w1 ⟨rfl, hb⟩
  have BB := hide (below_on BA.out hb)
  clear hb
  go_wp2
  go_ret
  exact ⟨rfl, BB.out⟩
/-- Where a part of a row of entries begins. -/
def slE (ao : Option Addr) (c i : Nat) : Option Addr := if c = i then ao else ao.map (fun x => x.add (i * 3))
theorem RdJ.fromE {S : Nat → Prop} {w : World} {ao : Option Addr} {n c : Nat} {gs : List Oj} (h : RdJ S w (.slice ao n c) gs) (i : Nat) (hi : i ≤ n) (hc : n ≤ c) : RdJ S w (.slice (slE ao c i) (n - i) (c - i)) (gs.drop i) := by
  obtain ⟨ao', c', e1, e2, e3⟩ := h
  injection e1 with e1 e4 e5
  subst e1 e4 e5
  have hl : (gs.drop i).length = gs.length - i := by simp
  refine ⟨slE ao c i, c - i, by rw [hl], by rw [hl]; omega, fun hne => ?_⟩
  have hlt : i < gs.length := by
    have := List.length_pos_iff.2 hne
    rw [hl] at this; omega
  obtain ⟨b, off, V, f1, f2, f3⟩ := e3 (by rintro rfl; simp at hlt)
  refine ⟨b, off + i * 3, fun j => V (i + j), ?_, f2, fun j hj => ?_⟩
  · unfold slE
    rw [if_neg (by omega), f1]
    simp [Addr.add_lit]
  · rw [hl] at hj
    have e : (gs.drop i).getD j oj0 = gs.getD (i + j) oj0 := by simp [List.getD, List.getElem?_drop]
    have ea : off + i * 3 + j * 3 = off + (i + j) * 3 := by omega
    rw [e, ea]
    exact f3 (i + j) (by omega)
theorem RdJ.uptoE {S : Nat → Prop} {w : World} {ao : Option Addr} {n c : Nat} {gs : List Oj} (h : RdJ S w (.slice ao n c) gs) (m : Nat) (hm : m ≤ n) : RdJ S w (.slice ao m c) (gs.take m) := by
  obtain ⟨ao', c', e1, e2, e3⟩ := h
  injection e1 with e1 e4 e5
  subst e1 e4
  have hl : (gs.take m).length = m := by simp; omega
  refine ⟨ao, c, by rw [hl], by rw [hl]; omega, fun hne => ?_⟩
  obtain ⟨b, off, V, f1, f2, f3⟩ := e3 (by rintro rfl; simp at hne)
  refine ⟨b, off, V, f1, f2, fun j hj => ?_⟩
  rw [hl] at hj
  have e : (gs.take m).getD j oj0 = gs.getD j oj0 := by simp [List.getD, hj]
  rw [e]
  exact f3 j (by omega)
theorem logOfE (a b c d : Int) (ay az : Option Addr) (l cy m cz : Nat) (h0 : 0 ≤ c) (h1 : c ≤ 9999) (w : World) :
    Calls Tryz.prog 94 #[.agg #[.int .i64 a, .int .i64 b, .int .i64 c, .int .i64 d, .slice ay l cy, .slice az m cz]] w fun e w' => e = .returned (.agg #[.int .i64 (c + 1), .slice az m cz]) ∧ Below w.heap.size w w' := by
  have e1 : IntKind.i64.wrap (c + 1) = c + 1 := by simp [IntKind.wrap, IntKind.bits, IntKind.signed]; omega
  go_enter Tryz.func94, Tryz.ntmps94
  go_wp2
  refine bodyPost_ret (v := .agg #[.int .i64 (c + 1), .slice az m cz]) (by simp [results, Tryz.results94, go_sem]) rfl ⟨rfl, ?_⟩
  repeat (first | refine Below.setCell ?_ (by simp) _ | exact below_on (below_alloc _ _) (below_alloc _ _))
theorem fromE (f i : Int) (ao : Option Addr) (n c k : Nat) (hk : i - f = (k : Int)) (hkn : k ≤ n) (hn : n ≤ 100) (w : World) :
    Calls Tryz.prog 98 #[.agg #[.int .i64 f, .slice ao n c], .int .i64 i] w fun e w' => e = .returned (.slice (slE ao c k) (n - k) (c - k)) ∧ Below w.heap.size w w' := by
  have e1 : IntKind.i64.wrap (i - f) = (k : Int) := by rw [hk]; simp [IntKind.wrap, IntKind.bits, IntKind.signed]; omega
  have hk0 : (0 : Int) ≤ (k : Int) := by omega
  have hk1 : (k : Int) ≤ (n : Int) := by omega
  go_enter Tryz.func98, Tryz.ntmps98
  go_wp2
  · go_ret
    exact ⟨by simp [slE], below_alloc _ _⟩
  · go_ret
    exact ⟨by simp [slE, h], below_alloc _ _⟩
end Go.Proofs.YtlljcajfdeiigaaGreatDoor
/- Chapter 10: copies of a store, both sides walked. Made by program (gencr2.py). -/
namespace Go.Proofs.YtlljcajfdeiigaaGreatDoor
open Go.RowKit

set_option maxHeartbeats 4000000 in
set_option maxRecDepth 4000 in
theorem copyRaftI {S T : Nat → Prop} {w : World} {y z : Value} {xs : List Int} {ps : List Oj} (a b c d : Int) (hy : RdI S w y xs) (hz : RdJ T w z ps) (hm : xs.length ≤ 1048576) (hm' : ps.length ≤ 1048576) (hl' : ∀ i, i < ps.length → (ps.getD i oj0).2.2.length ≤ 1048576) :
    Calls Tryz.prog 40 #[.agg #[.int .i64 a, .int .i64 b, .int .i64 c, .int .i64 d, y, z]] w fun e w' =>
      ∃ y' z', e = .returned (.agg #[.int .i64 a, .int .i64 b, .int .i64 c, .int .i64 d, y', z']) ∧ Below w.heap.size w w' ∧ IvR w.heap.size w'.heap.size w' y' z' xs ps := by
  have HY := hide hy
  have HZ := hide hz
  have HL' := hide hl'
  have HM := hide hm
  obtain ⟨ay, cy, rfl⟩ := hy.shape
  obtain ⟨az, cz, rfl, _⟩ := hz.shape
  obtain ⟨l, hl⟩ : ∃ l, xs.length = l := ⟨_, rfl⟩
  obtain ⟨m, hme⟩ : ∃ m, ps.length = m := ⟨_, rfl⟩
  have HL := hide hl
  have HME := hide hme
  rw [hl] at HY ⊢
  rw [hme] at HZ ⊢
  have HM' := hide hm'
  clear hy hz hl' hm hm' hl hme
  go_enter Tryz.func40, Tryz.ntmps40
  go_wp2_with fail
  refine forget (fun W => Var6 W (w.heap.size) (.int .i64 a) (.int .i64 b) (.int .i64 c) (.int .i64 d) (.slice ay l cy) (.slice az m cz) ∧ Var6 W (w.heap.size + 1) (.int .i64 0) (.int .i64 0) (.int .i64 0) (.int .i64 0) (.slice none 0 0) (.slice none 0 0) ∧ Var6 W (w.heap.size + 2) (.int .i64 a) (.int .i64 b) (.int .i64 c) (.int .i64 d) (.slice ay l cy) (.slice az m cz) ∧ (∀ o, W.frozen? ⟨w.heap.size + 1, o, none⟩ = false) ∧ (∀ o, W.frozen? ⟨w.heap.size + 2, o, none⟩ = false) ∧ Below w.heap.size w W ∧ W.heap.size = w.heap.size + 3) ?s0 ?_
  case s0 =>
    refine ⟨?_, ?_, ?_, ?_, ?_, ?_, ?_⟩
    · refine ⟨?_, ?_, ?_, ?_, ?_, ?_⟩ <;> simp [go_sem]
    · refine ⟨?_, ?_, ?_, ?_, ?_, ?_⟩ <;> simp [go_sem]
    · refine ⟨?_, ?_, ?_, ?_, ?_, ?_⟩ <;> simp [go_sem]
    · intro o; simp [go_sem]
    · intro o; simp [go_sem]
    · exact below_on (below_on (below_alloc _ _) (below_alloc _ _)) (below_alloc _ _)
    · simp
  rintro W ⟨hV, hR, hN, hf1, hf2, hbW, hsW⟩
  have HB := hide hbW
  have HR := hide hR
  have HN := hide hN
  have HF1 := hide hf1
  have HF2 := hide hf2
  have HY2 := hide (HY.out.later hbW)
  have HZ2 := hide (HZ.out.later hbW)
  obtain ⟨_, _, _, _, k4, k5⟩ := hV
  clear hR hN hf1 hf2 hbW HY HZ
  go_region_held3 (fun w' => w'.cell? ⟨w.heap.size, 4, none⟩ = some (.slice ay l cy) ∧ w'.cell? ⟨w.heap.size, 5, none⟩ = some (.slice az m cz)) (first | exact ⟨k4, k5⟩ | exact ⟨e4, e5⟩ | exact ⟨i4, i5⟩ | exact ⟨by simp [go_sem, i4], by simp [go_sem, i5]⟩)
    (first | (go_at_call 66; refine (copyEntriesI (HZ2.out.later HB1.out) HM'.out HL'.out).mono ?_; rintro e w2 ⟨z2, rfl, hb2, ho2⟩; obtain ⟨a2, c2, hz2⟩ := ho2.shape; rw [HME.out] at hz2; subst hz2; have i4 := cell_later hb2 e4; have i5 := cell_later hb2 e5; have HB2 := hide (below_on HB1.out hb2); have hs2 : w1.heap.size ≤ w2.heap.size := hb2.size; have HO2 := hide (HO1.out.later hb2); have HJ := hide (ho2.ow rfl (by have := HM'.out; omega)); obtain ⟨n0, n1, n2, n3, n4, n5⟩ := HN.out.later HB2.out; have F2 : ∀ o, w2.frozen? ⟨w.heap.size + 2, o, none⟩ = false := (fun o => ((bcell HB2.out).2 _ _ (by omega)).trans (HF2.out o)); have G4 := F2 4; have G5 := F2 5; clear hb2 ho2 F2) | (go_at_call 65; refine (copyWords (HY2.out.drewN 1) HM.out).mono ?_; rintro e w1 ⟨z1, rfl, hb1, ho1⟩; obtain ⟨a1, c1, hz1⟩ := ho1.shape; rw [HL.out] at hz1; subst hz1; have e4 := cell_later hb1 k4; have e5 := cell_later hb1 k5; have HB1 := hide (below_on (below_drewN W 1) hb1); have hs1 : W.heap.size ≤ w1.heap.size := hb1.size; have HO1 : Hid (IvI W.heap.size w1.heap.size w1 (.slice a1 l c1) xs) := ho1.iv; clear hb1 ho1))
  clear k4 k5 e4 e5 i4 i5
  obtain ⟨r0, r1, r2, r3, r4, r5⟩ := HR.out.later HB2.out
  have F1 : ∀ o, w2.frozen? ⟨w.heap.size + 1, o, none⟩ = false := fun o => ((bcell HB2.out).2 _ _ (by omega)).trans (HF1.out o)
  have f0 := F1 0
  have f1 := F1 1
  have f2 := F1 2
  have f3 := F1 3
  have f4 := F1 4
  have f5 := F1 5
  clear F1
  have HBa := hide (below_on HB.out HB2.out)
  go_wp2
  refine bodyPost_ret (v := .agg #[.int .i64 a, .int .i64 b, .int .i64 c, .int .i64 d, .slice a1 l c1, .slice a2 m c2]) (by simp [results, Tryz.results40, go_sem, r0, r1, r2, r3, r4, r5]) rfl ⟨_, _, rfl, ?_, ?_⟩
  · repeat (first | refine Below.setCell ?_ (by first | (simp; done) | (simp; omega) | omega) _ | exact HBa.out)
  · refine IvR_made HO2.out HJ.out (by omega) (by omega) (Wr.mono (S := fun b => b < w.heap.size + 3) ?_ (fun b hb => by omega))
    repeat (first | refine Wr.setCell ?_ (by first | (simp; done) | (simp; omega) | omega) _ | exact Wr.refl _ _)

set_option maxHeartbeats 4000000 in
set_option maxRecDepth 4000 in
theorem l10CopyI {S T : Nat → Prop} {w : World} {y z : Value} {xs : List Int} {ps : List Oj} (a b c d : Int) (hy : RdI S w y xs) (hz : RdJ T w z ps) (hm : xs.length ≤ 1048576) (hm' : ps.length ≤ 1048576) (hl' : ∀ i, i < ps.length → (ps.getD i oj0).2.2.length ≤ 1048576) :
    Calls Tryz.prog 39 #[.agg #[.int .i64 a, .int .i64 b, .int .i64 c, .int .i64 d, y, z]] w fun e w' =>
      ∃ y' z', e = .returned (.agg #[.int .i64 a, .int .i64 b, .int .i64 c, .int .i64 d, y', z']) ∧ Below w.heap.size w w' ∧ IvR w.heap.size w'.heap.size w' y' z' xs ps := by
  have HY := hide hy
  have HZ := hide hz
  have HL' := hide hl'
  have HM := hide hm
  obtain ⟨ay, cy, rfl⟩ := hy.shape
  obtain ⟨az, cz, rfl, _⟩ := hz.shape
  obtain ⟨l, hl⟩ : ∃ l, xs.length = l := ⟨_, rfl⟩
  obtain ⟨m, hme⟩ : ∃ m, ps.length = m := ⟨_, rfl⟩
  have HL := hide hl
  have HME := hide hme
  rw [hl] at HY ⊢
  rw [hme] at HZ ⊢
  have HM' := hide hm'
  clear hy hz hl' hm hm' hl hme
  go_enter Tryz.func39, Tryz.ntmps39
  go_wp2_with fail
  refine (l1Ints ((HY.out.later (below_alloc w (.cells #[.int .i64 a, .int .i64 b, .int .i64 c, .int .i64 d, .slice ay l cy, .slice az m cz] 32))).later (below_alloc _ (.cells #[.int .i64 0, .int .i64 0, .int .i64 0, .int .i64 0, .slice none 0 0, .slice none 0 0] 32))) HM.out).mono ?_
  rintro e w1 ⟨z1, rfl, hb, ho⟩
  obtain ⟨a1, c1, hz1⟩ := ho.shape
  rw [HL.out] at hz1
  subst hz1
  have o0 : w1.cell? ⟨w.heap.size, 0, none⟩ = some (.int .i64 a) := cell_later hb (by simp [go_sem])
  have v0 : w1.cell? ⟨w.heap.size + 1, 0, none⟩ = some (.int .i64 0) := cell_later hb (by simp [go_sem])
  have g0 : w1.frozen? ⟨w.heap.size, 0, none⟩ = false := ((bcell hb).2 _ _ (by simp; omega)).trans (by simp [go_sem])
  have f0 : w1.frozen? ⟨w.heap.size + 1, 0, none⟩ = false := ((bcell hb).2 _ _ (by simp)).trans (by simp [go_sem])
  have o1 : w1.cell? ⟨w.heap.size, 1, none⟩ = some (.int .i64 b) := cell_later hb (by simp [go_sem])
  have v1 : w1.cell? ⟨w.heap.size + 1, 1, none⟩ = some (.int .i64 0) := cell_later hb (by simp [go_sem])
  have g1 : w1.frozen? ⟨w.heap.size, 1, none⟩ = false := ((bcell hb).2 _ _ (by simp; omega)).trans (by simp [go_sem])
  have f1 : w1.frozen? ⟨w.heap.size + 1, 1, none⟩ = false := ((bcell hb).2 _ _ (by simp)).trans (by simp [go_sem])
  have o2 : w1.cell? ⟨w.heap.size, 2, none⟩ = some (.int .i64 c) := cell_later hb (by simp [go_sem])
  have v2 : w1.cell? ⟨w.heap.size + 1, 2, none⟩ = some (.int .i64 0) := cell_later hb (by simp [go_sem])
  have g2 : w1.frozen? ⟨w.heap.size, 2, none⟩ = false := ((bcell hb).2 _ _ (by simp; omega)).trans (by simp [go_sem])
  have f2 : w1.frozen? ⟨w.heap.size + 1, 2, none⟩ = false := ((bcell hb).2 _ _ (by simp)).trans (by simp [go_sem])
  have o3 : w1.cell? ⟨w.heap.size, 3, none⟩ = some (.int .i64 d) := cell_later hb (by simp [go_sem])
  have v3 : w1.cell? ⟨w.heap.size + 1, 3, none⟩ = some (.int .i64 0) := cell_later hb (by simp [go_sem])
  have g3 : w1.frozen? ⟨w.heap.size, 3, none⟩ = false := ((bcell hb).2 _ _ (by simp; omega)).trans (by simp [go_sem])
  have f3 : w1.frozen? ⟨w.heap.size + 1, 3, none⟩ = false := ((bcell hb).2 _ _ (by simp)).trans (by simp [go_sem])
  have o4 : w1.cell? ⟨w.heap.size, 4, none⟩ = some (.slice ay l cy) := cell_later hb (by simp [go_sem])
  have v4 : w1.cell? ⟨w.heap.size + 1, 4, none⟩ = some (.slice none 0 0) := cell_later hb (by simp [go_sem])
  have g4 : w1.frozen? ⟨w.heap.size, 4, none⟩ = false := ((bcell hb).2 _ _ (by simp; omega)).trans (by simp [go_sem])
  have f4 : w1.frozen? ⟨w.heap.size + 1, 4, none⟩ = false := ((bcell hb).2 _ _ (by simp)).trans (by simp [go_sem])
  have o5 : w1.cell? ⟨w.heap.size, 5, none⟩ = some (.slice az m cz) := cell_later hb (by simp [go_sem])
  have v5 : w1.cell? ⟨w.heap.size + 1, 5, none⟩ = some (.slice none 0 0) := cell_later hb (by simp [go_sem])
  have g5 : w1.frozen? ⟨w.heap.size, 5, none⟩ = false := ((bcell hb).2 _ _ (by simp; omega)).trans (by simp [go_sem])
  have f5 : w1.frozen? ⟨w.heap.size + 1, 5, none⟩ = false := ((bcell hb).2 _ _ (by simp)).trans (by simp [go_sem])
  have hs1 := hb.size
  simp only [World.size_alloc] at hs1
  have HB := hide (below_on (below_on (below_alloc _ _) (below_alloc _ _)) hb)
  have HO := hide ho
  clear hb ho
  go_wp2_with fail
  refine (l9Copy (HZ.out.later (HB.out.setCell (p := ⟨w.heap.size, 4, none⟩) (by simp) _)) HM'.out HL'.out).mono ?_
  rintro e w2 ⟨z2, rfl, hb, ho⟩
  obtain ⟨a2, c2, hz2⟩ := ho.shape
  rw [HME.out] at hz2
  subst hz2
  have y0 : w2.cell? ⟨w.heap.size, 0, none⟩ = some (.int .i64 a) := cell_later hb ((World.cell?_setCell_other _ _ _ _ (by simp)).trans o0)
  have x0 : w2.cell? ⟨w.heap.size + 1, 0, none⟩ = some (.int .i64 0) := cell_later hb ((World.cell?_setCell_other _ _ _ _ (by simp)).trans v0)
  have q0 : w2.frozen? ⟨w.heap.size, 0, none⟩ = false := ((bcell hb).2 _ _ (by simp; omega)).trans (by rw [World.frozen?_setCell]; exact g0)
  have p0 : w2.frozen? ⟨w.heap.size + 1, 0, none⟩ = false := ((bcell hb).2 _ _ (by simp; omega)).trans (by rw [World.frozen?_setCell]; exact f0)
  have y1 : w2.cell? ⟨w.heap.size, 1, none⟩ = some (.int .i64 b) := cell_later hb ((World.cell?_setCell_other _ _ _ _ (by simp)).trans o1)
  have x1 : w2.cell? ⟨w.heap.size + 1, 1, none⟩ = some (.int .i64 0) := cell_later hb ((World.cell?_setCell_other _ _ _ _ (by simp)).trans v1)
  have q1 : w2.frozen? ⟨w.heap.size, 1, none⟩ = false := ((bcell hb).2 _ _ (by simp; omega)).trans (by rw [World.frozen?_setCell]; exact g1)
  have p1 : w2.frozen? ⟨w.heap.size + 1, 1, none⟩ = false := ((bcell hb).2 _ _ (by simp; omega)).trans (by rw [World.frozen?_setCell]; exact f1)
  have y2 : w2.cell? ⟨w.heap.size, 2, none⟩ = some (.int .i64 c) := cell_later hb ((World.cell?_setCell_other _ _ _ _ (by simp)).trans o2)
  have x2 : w2.cell? ⟨w.heap.size + 1, 2, none⟩ = some (.int .i64 0) := cell_later hb ((World.cell?_setCell_other _ _ _ _ (by simp)).trans v2)
  have q2 : w2.frozen? ⟨w.heap.size, 2, none⟩ = false := ((bcell hb).2 _ _ (by simp; omega)).trans (by rw [World.frozen?_setCell]; exact g2)
  have p2 : w2.frozen? ⟨w.heap.size + 1, 2, none⟩ = false := ((bcell hb).2 _ _ (by simp; omega)).trans (by rw [World.frozen?_setCell]; exact f2)
  have y3 : w2.cell? ⟨w.heap.size, 3, none⟩ = some (.int .i64 d) := cell_later hb ((World.cell?_setCell_other _ _ _ _ (by simp)).trans o3)
  have x3 : w2.cell? ⟨w.heap.size + 1, 3, none⟩ = some (.int .i64 0) := cell_later hb ((World.cell?_setCell_other _ _ _ _ (by simp)).trans v3)
  have q3 : w2.frozen? ⟨w.heap.size, 3, none⟩ = false := ((bcell hb).2 _ _ (by simp; omega)).trans (by rw [World.frozen?_setCell]; exact g3)
  have p3 : w2.frozen? ⟨w.heap.size + 1, 3, none⟩ = false := ((bcell hb).2 _ _ (by simp; omega)).trans (by rw [World.frozen?_setCell]; exact f3)
  have y4 : w2.cell? ⟨w.heap.size, 4, none⟩ = some (.slice a1 l c1) := cell_later hb (World.cell?_setCell_same _ _ _ o4)
  have x4 : w2.cell? ⟨w.heap.size + 1, 4, none⟩ = some (.slice none 0 0) := cell_later hb ((World.cell?_setCell_other _ _ _ _ (by simp)).trans v4)
  have q4 : w2.frozen? ⟨w.heap.size, 4, none⟩ = false := ((bcell hb).2 _ _ (by simp; omega)).trans (by rw [World.frozen?_setCell]; exact g4)
  have p4 : w2.frozen? ⟨w.heap.size + 1, 4, none⟩ = false := ((bcell hb).2 _ _ (by simp; omega)).trans (by rw [World.frozen?_setCell]; exact f4)
  have y5 : w2.cell? ⟨w.heap.size, 5, none⟩ = some (.slice az m cz) := cell_later hb ((World.cell?_setCell_other _ _ _ _ (by simp)).trans o5)
  have x5 : w2.cell? ⟨w.heap.size + 1, 5, none⟩ = some (.slice none 0 0) := cell_later hb ((World.cell?_setCell_other _ _ _ _ (by simp)).trans v5)
  have q5 : w2.frozen? ⟨w.heap.size, 5, none⟩ = false := ((bcell hb).2 _ _ (by simp; omega)).trans (by rw [World.frozen?_setCell]; exact g5)
  have p5 : w2.frozen? ⟨w.heap.size + 1, 5, none⟩ = false := ((bcell hb).2 _ _ (by simp; omega)).trans (by rw [World.frozen?_setCell]; exact f5)
  have hs2 := hb.size
  simp only [World.size_setCell] at hs2
  have HB2 := hide (below_on (HB.out.setCell (p := ⟨w.heap.size, 4, none⟩) (by simp) _) hb)
  have HO2 := hide ((HO.out.iv.wr (T := fun x => x = w.heap.size) (Wr.setCell (p := ⟨w.heap.size, 4, none⟩) (Wr.refl (fun x => x = w.heap.size) _) rfl (.slice a1 l c1)) (fun b hb1 hb2 e => by simp at hb1; omega)).later hb)
  have HJ := hide (ho.ow rfl (by have := HM'.out; omega))
  simp only [World.size_setCell] at HJ
  clear hb ho HB HO o0 v0 g0 f0 o1 v1 g1 f1 o2 v2 g2 f2 o3 v3 g3 f3 o4 v4 g4 f4 o5 v5 g5 f5
  go_wp2
  refine bodyPost_ret (v := .agg #[.int .i64 a, .int .i64 b, .int .i64 c, .int .i64 d, .slice a1 l c1, .slice a2 m c2]) (by simp [results, Tryz.results39, go_sem, x0, x1, x2, x3, x4, x5]) rfl ⟨_, _, rfl, ?_, ?_⟩
  · repeat (first | refine Below.setCell ?_ (by first | (simp; done) | (simp; omega) | omega) _ | exact HB2.out)
  · refine IvR_made HO2.out HJ.out (by simp; omega) (by simp; omega) (Wr.mono (S := fun b => b < w.heap.size + 2) ?_ (fun b hb => by simp; omega))
    repeat (first | refine Wr.setCell ?_ (by first | (simp; done) | (simp; omega) | omega) _ | exact Wr.refl _ _)
end Go.Proofs.YtlljcajfdeiigaaGreatDoor
