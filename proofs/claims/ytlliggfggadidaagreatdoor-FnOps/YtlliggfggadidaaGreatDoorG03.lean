/- Impl2b En EnS ObZ EnZ ObV EnV Ra Ra2 Cr1 Iv6 in one text: what each says stands at its head below. -/
import Derived.Test.YtlliggfggadidaaGreatDoorG02
import Derived.Deep.CutRange
import Derived.Test.YtlliggfggadidaaGreatDoorG01
import Derived.Deep.RegionHeld3
namespace Go.Proofs.YtlliggfggadidaaGreatDoor
open Go.RowKit
theorem forget {P : Program} {c : Code} {Q : Exit → Act → World → Prop} {a : Act} {w0 : World} (R : World → Prop) (h0 : R w0) (h : ∀ w, R w → c.wp P Q a w) : c.wp P Q a w0 := h _ h0
end Go.Proofs.YtlliggfggadidaaGreatDoor
namespace Go.Proofs.YtlliggfggadidaaGreatDoor
open Go.RowKit
end Go.Proofs.YtlliggfggadidaaGreatDoor
namespace Go.Proofs.YtlliggfggadidaaGreatDoor
open Go.RowKit
end Go.Proofs.YtlliggfggadidaaGreatDoor
namespace Go.Proofs.YtlliggfggadidaaGreatDoor
open Go.RowKit
end Go.Proofs.YtlliggfggadidaaGreatDoor
namespace Go.Proofs.YtlliggfggadidaaGreatDoor
open Go.RowKit
end Go.Proofs.YtlliggfggadidaaGreatDoor
namespace Go.Proofs.YtlliggfggadidaaGreatDoor
open Go.RowKit
def IvJ (lo hi : Nat) (w : World) (v : Value) (ps : List Oj) : Prop :=
  ∃ S : Nat → Prop, hi ≤ w.heap.size ∧ (∀ b, S b → lo ≤ b ∧ b < hi) ∧ OwJ S w v ps
theorem OwJ.iv {B : Nat} {w : World} {v : Value} {ps : List Oj} (h : OwJ (fun b => B ≤ b ∧ b < w.heap.size) w v ps) : IvJ B w.heap.size w v ps :=
  ⟨_, Nat.le_refl _, fun _ hb => hb, h⟩
theorem IvJ.wr {lo hi : Nat} {V : Nat → Prop} {w w' : World} {v : Value} {ps : List Oj} (h : IvJ lo hi w v ps) (hw : Wr V w w') (hd : ∀ b, lo ≤ b → b < hi → ¬ V b) : IvJ lo hi w' v ps := by
  obtain ⟨S, h0, h1, h2⟩ := h
  exact ⟨S, Nat.le_trans h0 hw.size, h1, h2.wr hw fun b hb => hd b (h1 b hb).1 (h1 b hb).2⟩
theorem IvJ.later {lo hi : Nat} {w w' : World} {v : Value} {ps : List Oj} (h : IvJ lo hi w v ps) (hb : Below w.heap.size w w') : IvJ lo hi w' v ps :=
  h.wr (Wr.of_below hb fun _ => False) fun _ _ _ => id
theorem IvJ.rd {lo hi : Nat} {w : World} {v : Value} {ps : List Oj} (h : IvJ lo hi w v ps) : RdJ (fun b => lo ≤ b ∧ b < hi) w v ps := by
  obtain ⟨S, h0, h1, h2⟩ := h
  exact (h2.mono h1).rd
end Go.Proofs.YtlliggfggadidaaGreatDoor
namespace Go.Proofs.YtlliggfggadidaaGreatDoor
open Go.RowKit
end Go.Proofs.YtlliggfggadidaaGreatDoor
namespace Go.Proofs.YtlliggfggadidaaGreatDoor
open Go.RowKit
theorem RdI.maxR {S : Nat → Prop} {w : World} {v : Value} {xs : List Int} (h : RdI S w v xs) : xs.length ≤ 9223372036854775807 := by obtain ⟨_, _, _, h, _⟩ := h; exact h
structure Rf where
  (tm vt si st : Int)
  sn : List Int
  lg : List Oj
def totR (r : Rf) : Int := (r.sn.length : Int) + (totJ r.lg r.lg.length : Int)
def IvR (lo hi : Nat) (w : World) (y z : Value) (xs : List Int) (ps : List Oj) : Prop :=
  ∃ (b : Nat) (S : Nat → Prop), RdI (· = b) w y xs ∧ (xs ≠ [] → lo ≤ b ∧ b < hi ∧ ¬ S b ∧ ∀ o, w.frozen? ⟨b, o, none⟩ = false) ∧ hi ≤ w.heap.size ∧ (∀ x, S x → lo ≤ x ∧ x < hi) ∧ OwJ S w z ps
theorem IvR.wr {lo hi : Nat} {T : Nat → Prop} {w w' : World} {y z : Value} {xs : List Int} {ps : List Oj} (h : IvR lo hi w y z xs ps) (hw : Wr T w w') (hd : ∀ b, lo ≤ b → b < hi → ¬ T b) : IvR lo hi w' y z xs ps := by
  obtain ⟨b, S, h1, h2, h3, h4, h5⟩ := h
  exact ⟨b, S, h1.wr hw (fun hn x hx => hx ▸ hd _ (h2 hn).1 (h2 hn).2.1), fun hn => ⟨(h2 hn).1, (h2 hn).2.1, (h2 hn).2.2.1, fun o => (hw.frz _ _ (Nat.lt_of_lt_of_le (h2 hn).2.1 h3)).trans ((h2 hn).2.2.2 o)⟩, Nat.le_trans h3 hw.size, h4, h5.wr hw fun x hx => hd x (h4 x hx).1 (h4 x hx).2⟩
theorem IvR.later {lo hi : Nat} {w w' : World} {y z : Value} {xs : List Int} {ps : List Oj} (h : IvR lo hi w y z xs ps) (hb : Below w.heap.size w w') : IvR lo hi w' y z xs ps :=
  h.wr (Wr.of_below hb fun _ => False) fun _ _ _ => id
theorem IvR.rdI {lo hi : Nat} {w : World} {y z : Value} {xs : List Int} {ps : List Oj} (h : IvR lo hi w y z xs ps) : RdI (fun b => lo ≤ b ∧ b < hi) w y xs := by
  obtain ⟨b, S, h1, h2, _⟩ := h
  exact h1.narrow fun hn x hx => hx ▸ ⟨(h2 hn).1, (h2 hn).2.1⟩
theorem IvR.rdJ {lo hi : Nat} {w : World} {y z : Value} {xs : List Int} {ps : List Oj} (h : IvR lo hi w y z xs ps) : RdJ (fun b => lo ≤ b ∧ b < hi) w z ps := by
  obtain ⟨b, S, _, _, _, h4, h5⟩ := h
  exact (h5.mono h4).rd
theorem IvR.shape {lo hi : Nat} {w : World} {y z : Value} {xs : List Int} {ps : List Oj} (h : IvR lo hi w y z xs ps) : ∃ ao c ao' c', y = .slice ao xs.length c ∧ z = .slice ao' ps.length c' := by
  obtain ⟨a, c, e1⟩ := h.rdI.shape
  obtain ⟨a', c', e2, _⟩ := h.rdJ.shape
  exact ⟨a, c, a', c', e1, e2⟩
theorem IvR.up {lo hi lo' : Nat} {w : World} {y z : Value} {xs : List Int} {ps : List Oj} (h : IvR lo hi w y z xs ps) (h1 : lo' ≤ lo) (h2 : hi ≤ w.heap.size) : IvR lo' w.heap.size w y z xs ps := by
  obtain ⟨b, S, k1, k2, k3, k4, k5⟩ := h
  exact ⟨b, S, k1, fun hn => ⟨Nat.le_trans h1 (k2 hn).1, Nat.lt_of_lt_of_le (k2 hn).2.1 h2, (k2 hn).2.2⟩, Nat.le_refl _, fun x hx => ⟨Nat.le_trans h1 (k4 x hx).1, Nat.lt_of_lt_of_le (k4 x hx).2 h2⟩, k5⟩
theorem IvR_nil (lo : Nat) (w : World) : IvR lo w.heap.size w (.slice none 0 0) (.slice none 0 0) [] [] :=
  ⟨0, fun _ => False, ⟨none, 0, by simp, by simp, fun h => absurd rfl h⟩, fun h => absurd rfl h, Nat.le_refl _, fun _ h => h.elim, OwJ_nil _ _⟩
theorem RdJ.monoR {S T : Nat → Prop} {w : World} {v : Value} {fs : List Oj} (h : RdJ S w v fs) (hT : ∀ b, S b → T b) : RdJ T w v fs := by
  obtain ⟨ao, c, e1, e2, e3⟩ := h
  refine ⟨ao, c, e1, e2, fun hne => ?_⟩
  obtain ⟨b, off, V, f1, f2, f3⟩ := e3 hne
  exact ⟨b, off, V, f1, hT b f2, fun i hi => ⟨(f3 i hi).1, (f3 i hi).2.1, (f3 i hi).2.2.1, (f3 i hi).2.2.2.narrow (fun _ b hb => hT b hb)⟩⟩
def EndsRf (x : Int) (r : Rf) (w : World) (e : Ending) (w' : World) : Prop :=
  ∃ y z, e = .returned (.agg #[.int .i64 x, .int .i64 r.tm, .int .i64 r.vt, .int .i64 r.si, .int .i64 r.st, y, z]) ∧ Below w.heap.size w w' ∧ IvR w.heap.size w'.heap.size w' y z r.sn r.lg
end Go.Proofs.YtlliggfggadidaaGreatDoor
namespace Go.Proofs.YtlliggfggadidaaGreatDoor
open Go.RowKit
theorem IvR_made {lo1 C lo : Nat} {w w' : World} {y z : Value} {xs : List Int} {ps : List Oj} (ho : IvI lo1 C w y xs) (hj : OwJ (fun b => C ≤ b ∧ b < w.heap.size) w z ps) (h1 : lo ≤ lo1) (h2 : lo1 ≤ C) (hw : Wr (fun b => b < lo1) w w') : IvR lo w'.heap.size w' y z xs ps := by
  obtain ⟨b, k1, k2⟩ := ho
  refine ⟨b, fun b => C ≤ b ∧ b < w.heap.size, k1.wr hw (fun hn x hx e => by subst hx; have := (k2 hn).1; omega), fun hn => ?_, Nat.le_refl _, fun x hx => ⟨by omega, Nat.lt_of_lt_of_le hx.2 hw.size⟩, hj.wr hw fun x hx e => by omega⟩
  obtain ⟨g1, g2, g3, g4⟩ := k2 hn
  exact ⟨by omega, Nat.lt_of_lt_of_le g3 hw.size, fun h => by omega, fun o => (hw.frz _ _ g3).trans (g4 o)⟩
end Go.Proofs.YtlliggfggadidaaGreatDoor
namespace Go.Proofs.YtlliggfggadidaaGreatDoor
open Go.RowKit
theorem OwI.low {B B' : Nat} {w : World} {v : Value} {xs : List Int} (h : OwI B w v xs) (hB : B' ≤ B) : OwI B' w v xs := by
  obtain ⟨b, h1, h2⟩ := h
  exact ⟨b, h1, fun hn => ⟨Nat.le_trans hB (h2 hn).1, (h2 hn).2⟩⟩
set_option maxHeartbeats 2000000 in
set_option maxRecDepth 4000 in
theorem l9Copy {S : Nat → Prop} {w : World} {u : Value} {ps : List Oj} (hu : RdJ S w u ps) (hm : ps.length ≤ 1048576) (hl : ∀ i, i < ps.length → (ps.getD i oj0).2.2.length ≤ 1048576) :
    Calls Tryz.prog 72 #[u] w fun e w' => ∃ z, e = .returned z ∧ Below w.heap.size w w' ∧ BuiltEn (w.heap.size ≤ ·) w' z ps.length ps := by
  obtain ⟨ao, c, rfl, _⟩ := hu.shape
  obtain ⟨i0, hi, hz0, hz1, hz2⟩ := info_parts Tryz.infoEn
  have HU := hide hu
  have HL := hide hl
  obtain ⟨n, hn⟩ : ∃ n, ps.length = n := ⟨_, rfl⟩
  rw [hn] at hm ⊢
  have HN := hide hn
  rw [hn] at HU
  clear hu hl hn
  go_enter Tryz.func72, Tryz.ntmps72
  go_wp2
  go_loopw [3, 4] (fun v i wr => ∃ k : Nat, k ≤ n ∧ i = .int .i64 k ∧ Hid (BuiltEn (w.heap.size ≤ ·) wr v k ps) ∧ Hid (Below w.heap.size w wr)) (fun _ i _ => n - (intOf i).toNat)
  case atStart => exact ⟨0, Nat.zero_le _, rfl, BuiltEn.empty _ _ (Nat.le_refl _) _, below_alloc _ _⟩
  case round =>
    obtain ⟨k, hk, rfl, HBu, HB⟩ := hrel
    by_cases hlt : k < n
    · obtain ⟨b, off, rfl, y, q1, qs, q2, q3⟩ := HU.out.file (k := k) (by rw [HN.out]; exact hlt)
      obtain ⟨ao3, c3, rfl⟩ := q3.shape
      have g1 := cell_later HB.out q1
      have gs := cell_later HB.out qs
      have g2 := cell_later HB.out q2
      obtain ⟨x, hx⟩ : ∃ x, (ps.getD k oj0).1 = x := ⟨_, rfl⟩
      obtain ⟨s, hs⟩ : ∃ s, (ps.getD k oj0).2.1 = s := ⟨_, rfl⟩
      obtain ⟨l, hl⟩ : ∃ l, (ps.getD k oj0).2.2.length = l := ⟨_, rfl⟩
      have HX := hide hx
      have HSs := hide hs
      have HLen := hide hl
      have HLk := hide (HL.out k (by rw [HN.out]; exact hlt))
      have R := hide (q3.later HB.out)
      rw [hx] at g1
      rw [hs] at gs
      rw [hl] at g2 R
      have hbl := World.block_lt_of_cell? _ _ q1
      obtain ⟨V2, Bk2, hown, hpr, hin⟩ := HBu.out
      have HOw0 := hide hown
      have HPr := hide hpr
      have HIn := hide hin
      have hz := HB.out.size
      have hk0 : (0 : Int) ≤ (k : Int) := Int.natCast_nonneg _
      have hk1 : (k : Int) < (n : Int) := by omega
      clear q1 qs q2 q3 hx hs hl hin hown hpr
      go_wp2_with fail
      go_region_held3 (fun w' => w'.cell? ⟨b, off + k * 3, none⟩ = some (.int .i64 x) ∧ w'.cell? ⟨b, off + k * 3 + 1, none⟩ = some (.int .i64 s) ∧ w'.cell? ⟨b, off + k * 3 + 2, none⟩ = some (.slice ao3 l c3)) (first | exact ⟨g1, gs, g2⟩ | exact ⟨e0, es, e1⟩ | exact ⟨cell_later (below_alloc _ _) e0, cell_later (below_alloc _ _) es, cell_later (below_alloc _ _) e1⟩ | exact ⟨s0, ss, s1⟩)
        (first
          | (go_at_call 71; refine (l1Ints (R.out.drewN 1) HLk.out).mono ?_; rintro e w1 ⟨z, rfl, hb1, ho1⟩; obtain ⟨ao4, c4, rfl⟩ := ho1.shape; have e0 : w1.cell? ⟨b, off + k * 3, none⟩ = some (.int .i64 x) := cell_later hb1 g1; have es : w1.cell? ⟨b, off + k * 3 + 1, none⟩ = some (.int .i64 s) := cell_later hb1 gs; have e1 : w1.cell? ⟨b, off + k * 3 + 2, none⟩ = some (.slice ao3 l c3) := cell_later hb1 g2; have HB1 := hide (below_on (below_drewN wr 1) hb1); have HO1 := hide ho1; have hzz : wr.heap.size ≤ w1.heap.size := hb1.size; clear hb1 ho1)
          | (refine step_append_lies _ (by rfl) _ _ _ (by rfl) 0 58 i0 (.agg #[.int .i64 0, .int .i64 0, .slice none 0 0]) 3 40 Tryz.underlying25 hi hz0 hz1 hz2 rfl (by omega) _ k _ (by rfl) (ownsRow_later (ownsRow_later HOw0.out HB1.out) (below_alloc w1 (.cells #[.int .i64 x, .int .i64 s, .slice ao4 (ps.getD k oj0).2.2.length c4] 58))) ⟨w1.heap.size, 0, none⟩ 1 1 [.int .i64 x, .int .i64 s, .slice ao4 (ps.getD k oj0).2.2.length c4] (by rfl) (by rfl) (World.news_of_block (cs := #[.int .i64 x, .int .i64 s, .slice ao4 (ps.getD k oj0).2.2.length c4]) (t := 58) (fr := (0, 0)) (heap_alloc_new w1 _)) cellsEn_one (by omega) (by unfold maxLen; omega) (by omega) (Nat.zero_le _) (w1.heap.size + 1) (by simp) ?_; intro g cap w3 hown3 hgrow hat hlt3; have s0 : w3.cell? ⟨b, off + k * 3, none⟩ = some (.int .i64 x) := (hgrow.cell_far _ (by simp; omega) (fun e => by have := HPr.out _ e.symm; dsimp only at this; omega)).trans (cell_later (below_alloc _ _) e0); have ss : w3.cell? ⟨b, off + k * 3 + 1, none⟩ = some (.int .i64 s) := (hgrow.cell_far _ (by simp; omega) (fun e => by have := HPr.out _ e.symm; dsimp only at this; omega)).trans (cell_later (below_alloc _ _) es); have s1 : w3.cell? ⟨b, off + k * 3 + 2, none⟩ = some (.slice ao3 l c3) := (hgrow.cell_far _ (by simp; omega) (fun e => by have := HPr.out _ e.symm; dsimp only at this; omega)).trans (cell_later (below_alloc _ _) e1)))
      have HS := hide (BuiltEn.step (P' := (w.heap.size ≤ ·)) HIn.out HOw0.out HPr.out (fun _ h => h) (fun b hb => Nat.le_trans hz hb) HB1.out HO1.out (below_alloc w1 (.cells #[.int .i64 x, .int .i64 s, .slice ao4 (ps.getD k oj0).2.2.length c4] 58)) (by rw [HX.out, HSs.out]; exact hown3) hgrow (by simpa using hat))
      have HB3 := hide ((below_on (below_on HB.out HB1.out) (below_alloc w1 (.cells #[.int .i64 x, .int .i64 s, .slice ao4 (ps.getD k oj0).2.2.length c4] 58))).grown hgrow (by simp; omega) (fun r hr => HPr.out r hr))
      clear hown3 hgrow hat s0 ss s1 e0 es e1 hzz
      go_wp2
      go_roundw
      case rel => exact ⟨k + 1, hlt, by go_num, HS.out, HB3.out⟩
      case measure => simp [intOf]; omega
    · have hkn : k = n := by omega
      subst hkn
      go_wp2
      go_ret
      exact ⟨_, rfl, HB.out, HBu.out⟩
set_option maxHeartbeats 2000000 in
set_option maxRecDepth 4000 in
theorem copyEntriesI {S : Nat → Prop} {w : World} {u : Value} {ps : List Oj} (hu : RdJ S w u ps) (hm : ps.length ≤ 1048576) (hl : ∀ i, i < ps.length → (ps.getD i oj0).2.2.length ≤ 1048576) :
    Calls Tryz.prog 70 #[u] w fun e w' => ∃ z, e = .returned z ∧ Below w.heap.size w w' ∧ BuiltEn (w.heap.size ≤ ·) w' z ps.length ps := by
  obtain ⟨ao, c, rfl, _⟩ := hu.shape
  obtain ⟨i0, hi, hz0, hz1, hz2⟩ := info_parts Tryz.infoEn
  have HU := hide hu
  have HL := hide hl
  obtain ⟨n, hn⟩ : ∃ n, ps.length = n := ⟨_, rfl⟩
  rw [hn] at hm ⊢
  have HN := hide hn
  rw [hn] at HU
  clear hu hl hn
  go_enter Tryz.func70, Tryz.ntmps70
  go_wp2
  go_loopw [3, 8] (fun v i wr => ∃ k : Nat, k ≤ n ∧ i = .int .i64 k ∧ Hid (BuiltEn (w.heap.size ≤ ·) wr v k ps) ∧ Hid (Below w.heap.size w wr)) (fun _ i _ => n - (intOf i).toNat)
  case atStart => exact ⟨0, Nat.zero_le _, rfl, BuiltEn.nil _ _ _, Below.refl _ _⟩
  case round =>
    obtain ⟨k, hk, rfl, HBu, HB⟩ := hrel
    by_cases hlt : k < n
    · obtain ⟨b, off, rfl, y, q1, qs, q2, q3⟩ := HU.out.file (k := k) (by rw [HN.out]; exact hlt)
      obtain ⟨ao3, c3, rfl⟩ := q3.shape
      have g1 := cell_later HB.out q1
      have gs := cell_later HB.out qs
      have g2 := cell_later HB.out q2
      obtain ⟨x, hx⟩ : ∃ x, (ps.getD k oj0).1 = x := ⟨_, rfl⟩
      obtain ⟨s, hs⟩ : ∃ s, (ps.getD k oj0).2.1 = s := ⟨_, rfl⟩
      obtain ⟨l, hl⟩ : ∃ l, (ps.getD k oj0).2.2.length = l := ⟨_, rfl⟩
      have HX := hide hx
      have HSs := hide hs
      have HLen := hide hl
      have HLk := hide (HL.out k (by rw [HN.out]; exact hlt))
      have R := hide (q3.later HB.out)
      rw [hx] at g1
      rw [hs] at gs
      rw [hl] at g2 R
      have hbl := World.block_lt_of_cell? _ _ q1
      obtain ⟨V2, Bk2, hown, hpr, hin⟩ := HBu.out
      have HOw0 := hide hown
      have HPr := hide hpr
      have HIn := hide hin
      have hz := HB.out.size
      have hk0 : (0 : Int) ≤ (k : Int) := Int.natCast_nonneg _
      have hk1 : (k : Int) < (n : Int) := by omega
      clear q1 qs q2 q3 hx hs hl hin hown hpr
      go_wp2_with fail
      refine forget (fun W => W.cell? ⟨wr.heap.size, 0, none⟩ = some (.int .i64 x) ∧ W.cell? ⟨wr.heap.size, 1, none⟩ = some (.int .i64 s) ∧ W.cell? ⟨wr.heap.size, 2, none⟩ = some (.slice ao3 l c3) ∧ Below wr.heap.size wr W ∧ W.heap.size = wr.heap.size + 1) ⟨by simp [go_sem], by simp [go_sem], by simp [go_sem], below_alloc _ _, by simp⟩ ?_
      clear g1 gs g2
      rintro W1 ⟨g1, gs, g2, hbW, hsW⟩
      have HBW := hide hbW
      replace R := hide (R.out.later hbW)
      clear hbW
      go_region_held3 (fun w' => w'.cell? ⟨wr.heap.size, 0, none⟩ = some (.int .i64 x) ∧ w'.cell? ⟨wr.heap.size, 1, none⟩ = some (.int .i64 s) ∧ w'.cell? ⟨wr.heap.size, 2, none⟩ = some (.slice ao3 l c3)) (first | exact ⟨g1, gs, g2⟩ | exact ⟨e0, es, e1⟩ | exact ⟨cell_later (below_alloc _ _) e0, cell_later (below_alloc _ _) es, cell_later (below_alloc _ _) e1⟩ | exact ⟨s0, ss, s1⟩)
        (first
          | (go_at_call 69; refine (copyWords (R.out.drewN 1) HLk.out).mono ?_; rintro e w1 ⟨z, rfl, hb1, ho1⟩; obtain ⟨ao4, c4, rfl⟩ := ho1.shape; have e0 : w1.cell? ⟨wr.heap.size, 0, none⟩ = some (.int .i64 x) := cell_later hb1 g1; have es : w1.cell? ⟨wr.heap.size, 1, none⟩ = some (.int .i64 s) := cell_later hb1 gs; have e1 : w1.cell? ⟨wr.heap.size, 2, none⟩ = some (.slice ao3 l c3) := cell_later hb1 g2; have HB1 := hide (below_on HBW.out (below_on (below_drewN W1 1) hb1)); have HO1 := hide ho1; have hzz : wr.heap.size + 1 ≤ w1.heap.size := (by have h : W1.heap.size ≤ w1.heap.size := hb1.size; omega); clear hb1 ho1)
          | (refine step_append_lies _ (by rfl) _ _ _ (by rfl) 0 58 i0 (.agg #[.int .i64 0, .int .i64 0, .slice none 0 0]) 3 40 Tryz.underlying25 hi hz0 hz1 hz2 rfl (by omega) _ k _ (by rfl) (ownsRow_later (ownsRow_later HOw0.out HB1.out) (below_alloc w1 (.cells #[.int .i64 x, .int .i64 s, .slice ao4 (ps.getD k oj0).2.2.length c4] 58))) ⟨w1.heap.size, 0, none⟩ 1 1 [.int .i64 x, .int .i64 s, .slice ao4 (ps.getD k oj0).2.2.length c4] (by rfl) (by rfl) (World.news_of_block (cs := #[.int .i64 x, .int .i64 s, .slice ao4 (ps.getD k oj0).2.2.length c4]) (t := 58) (fr := (0, 0)) (heap_alloc_new w1 _)) cellsEn_one (by omega) (by unfold maxLen; omega) (by omega) (Nat.zero_le _) (w1.heap.size + 1) (by simp) ?_; intro g cap w3 hown3 hgrow hat hlt3; have s0 : w3.cell? ⟨wr.heap.size, 0, none⟩ = some (.int .i64 x) := (hgrow.cell_far _ (by simp; omega) (fun e => by have := (HOw0.out.lt _ e.symm).2; dsimp only at this; omega)).trans (cell_later (below_alloc _ _) e0); have ss : w3.cell? ⟨wr.heap.size, 1, none⟩ = some (.int .i64 s) := (hgrow.cell_far _ (by simp; omega) (fun e => by have := (HOw0.out.lt _ e.symm).2; dsimp only at this; omega)).trans (cell_later (below_alloc _ _) es); have s1 : w3.cell? ⟨wr.heap.size, 2, none⟩ = some (.slice ao3 l c3) := (hgrow.cell_far _ (by simp; omega) (fun e => by have := (HOw0.out.lt _ e.symm).2; dsimp only at this; omega)).trans (cell_later (below_alloc _ _) e1)))
      have HS := hide (BuiltEn.step (P' := (w.heap.size ≤ ·)) HIn.out HOw0.out HPr.out (fun _ h => h) (fun b hb => Nat.le_trans hz hb) HB1.out (OwI.low HO1.out (by simp; omega)) (below_alloc w1 (.cells #[.int .i64 x, .int .i64 s, .slice ao4 (ps.getD k oj0).2.2.length c4] 58)) (by rw [HX.out, HSs.out]; exact hown3) hgrow (by simpa using hat))
      have HB3 := hide ((below_on (below_on HB.out HB1.out) (below_alloc w1 (.cells #[.int .i64 x, .int .i64 s, .slice ao4 (ps.getD k oj0).2.2.length c4] 58))).grown hgrow (by simp; omega) (fun r hr => HPr.out r hr))
      clear hown3 hgrow hat s0 ss s1 e0 es e1 hzz
      go_wp2
      go_roundw
      case rel => exact ⟨k + 1, hlt, by go_num, HS.out, HB3.out⟩
      case measure => simp [intOf]; omega
    · have hkn : k = n := by omega
      subst hkn
      go_wp2
      go_ret
      exact ⟨_, rfl, HB.out, HBu.out⟩
end Go.Proofs.YtlliggfggadidaaGreatDoor
namespace Go.Proofs.YtlliggfggadidaaGreatDoor
open Go.RowKit
def Var6 (w : World) (b : Nat) (x0 x1 x2 x3 x4 x5 : Value) : Prop := w.cell? ⟨b, 0, none⟩ = some x0 ∧ w.cell? ⟨b, 1, none⟩ = some x1 ∧ w.cell? ⟨b, 2, none⟩ = some x2 ∧ w.cell? ⟨b, 3, none⟩ = some x3 ∧ w.cell? ⟨b, 4, none⟩ = some x4 ∧ w.cell? ⟨b, 5, none⟩ = some x5
theorem Var6.later {w w' : World} {b : Nat} {x0 x1 x2 x3 x4 x5 : Value} (h : Var6 w b x0 x1 x2 x3 x4 x5) (hb : Below w.heap.size w w') : Var6 w' b x0 x1 x2 x3 x4 x5 :=
  ⟨cell_later hb h.1, cell_later hb h.2.1, cell_later hb h.2.2.1, cell_later hb h.2.2.2.1, cell_later hb h.2.2.2.2.1, cell_later hb h.2.2.2.2.2⟩
theorem Var6.wr {S : Nat → Prop} {w w' : World} {b : Nat} {x0 x1 x2 x3 x4 x5 : Value} (h : Var6 w b x0 x1 x2 x3 x4 x5) (hb : Wr S w w') (hd : ¬ S b) : Var6 w' b x0 x1 x2 x3 x4 x5 :=
  ⟨cell_wr hb h.1 hd, cell_wr hb h.2.1 hd, cell_wr hb h.2.2.1 hd, cell_wr hb h.2.2.2.1 hd, cell_wr hb h.2.2.2.2.1 hd, cell_wr hb h.2.2.2.2.2 hd⟩
theorem Var6.lt {w : World} {b : Nat} {x0 x1 x2 x3 x4 x5 : Value} (h : Var6 w b x0 x1 x2 x3 x4 x5) : b < w.heap.size := World.block_lt_of_cell? _ _ h.1
theorem Var6_new (w : World) (x0 x1 x2 x3 x4 x5 : Value) (t : TypeId) : Var6 (w.alloc (.cells #[x0, x1, x2, x3, x4, x5] t)) w.heap.size x0 x1 x2 x3 x4 x5 := by
  refine ⟨?_, ?_, ?_, ?_, ?_, ?_⟩ <;> simp [go_sem]
def Var7 (w : World) (b : Nat) (x0 x1 x2 x3 x4 x5 x6 : Value) : Prop := w.cell? ⟨b, 0, none⟩ = some x0 ∧ w.cell? ⟨b, 1, none⟩ = some x1 ∧ w.cell? ⟨b, 2, none⟩ = some x2 ∧ w.cell? ⟨b, 3, none⟩ = some x3 ∧ w.cell? ⟨b, 4, none⟩ = some x4 ∧ w.cell? ⟨b, 5, none⟩ = some x5 ∧ w.cell? ⟨b, 6, none⟩ = some x6
theorem Var7.later {w w' : World} {b : Nat} {x0 x1 x2 x3 x4 x5 x6 : Value} (h : Var7 w b x0 x1 x2 x3 x4 x5 x6) (hb : Below w.heap.size w w') : Var7 w' b x0 x1 x2 x3 x4 x5 x6 :=
  ⟨cell_later hb h.1, cell_later hb h.2.1, cell_later hb h.2.2.1, cell_later hb h.2.2.2.1, cell_later hb h.2.2.2.2.1, cell_later hb h.2.2.2.2.2.1, cell_later hb h.2.2.2.2.2.2⟩
theorem Var7.wr {S : Nat → Prop} {w w' : World} {b : Nat} {x0 x1 x2 x3 x4 x5 x6 : Value} (h : Var7 w b x0 x1 x2 x3 x4 x5 x6) (hb : Wr S w w') (hd : ¬ S b) : Var7 w' b x0 x1 x2 x3 x4 x5 x6 :=
  ⟨cell_wr hb h.1 hd, cell_wr hb h.2.1 hd, cell_wr hb h.2.2.1 hd, cell_wr hb h.2.2.2.1 hd, cell_wr hb h.2.2.2.2.1 hd, cell_wr hb h.2.2.2.2.2.1 hd, cell_wr hb h.2.2.2.2.2.2 hd⟩
theorem Var7.lt {w : World} {b : Nat} {x0 x1 x2 x3 x4 x5 x6 : Value} (h : Var7 w b x0 x1 x2 x3 x4 x5 x6) : b < w.heap.size := World.block_lt_of_cell? _ _ h.1
theorem Var7_new (w : World) (x0 x1 x2 x3 x4 x5 x6 : Value) (t : TypeId) : Var7 (w.alloc (.cells #[x0, x1, x2, x3, x4, x5, x6] t)) w.heap.size x0 x1 x2 x3 x4 x5 x6 := by
  refine ⟨?_, ?_, ?_, ?_, ?_, ?_, ?_⟩ <;> simp [go_sem]
end Go.Proofs.YtlliggfggadidaaGreatDoor
