/- Built3 Built4 Cells3 Torn in one text: what each says stands at its head below. -/
import Derived.Test.YtamknomapabmfaaGreatG05
import Derived.Deep.RegionLaw
import Derived.Test.YtamknomapabmfaaGreatG04
/- 'spec.l1Puts' and 'spec.l1Copy', walked. -/
namespace Go.Proofs.YtamknomapabmfaaGreat
open Go.RowKit

theorem BuiltP.empty (w : World) (P : Nat → Prop) (hP : P w.heap.size) (ps : List (Int × List Int)) : BuiltP P (w.alloc (.cells #[] 38)) (.slice (some ⟨w.heap.size, 0, none⟩) 0 0) 0 ps :=
  ⟨fun _ => .bool false, fun _ => 0, World.ownsRow_made w #[] 0 (Nat.zero_le _) (by unfold maxLen; omega) (by simp), fun r h => by injection h with h; subst h; exact hP, Inner.zero _ _ _ _ _ _⟩

set_option maxHeartbeats 1000000 in
set_option maxRecDepth 4000 in
/-- 'spec.l1Puts' of a reading. -/
theorem l1Puts {S : Nat → Prop} {w : World} {u : Value} {ps : List (Int × List Int)} (hu : RdP S w u ps) (hm : ps.length ≤ 1048576) (hl : ∀ i, i < ps.length → (ps.getD i (0, [])).2.length ≤ 1048576) :
    Calls Tryz.prog 75 #[u] w fun e w' => ∃ z, e = .returned z ∧ Below w.heap.size w w' ∧ BuiltP (w.heap.size ≤ ·) w' z ps.length ps := by
  obtain ⟨ao, c, rfl, _⟩ := hu.shape
  obtain ⟨i0, hi, hz0, hz1, hz2⟩ := info_parts Tryz.infoPut
  have HU := hide hu
  have HL := hide hl
  obtain ⟨n, hn⟩ : ∃ n, ps.length = n := ⟨_, rfl⟩
  rw [hn] at hm ⊢
  have HN := hide hn
  rw [hn] at HU
  clear hu hl hn
  go_enter Tryz.func75, Tryz.ntmps75
  go_wp2
  go_loopw [3, 4] (fun v i wr => ∃ k : Nat, k ≤ n ∧ i = .int .i64 k ∧ Hid (BuiltP (w.heap.size ≤ ·) wr v k ps) ∧ Hid (Below w.heap.size w wr)) (fun _ i _ => n - (intOf i).toNat)
  case atStart => exact ⟨0, Nat.zero_le _, rfl, BuiltP.empty _ _ (Nat.le_refl _) _, below_alloc _ _⟩
  case round =>
    obtain ⟨k, hk, rfl, HBu, HB⟩ := hrel
    by_cases hlt : k < n
    · obtain ⟨b, off, V, rfl, q1, q2, q3⟩ := HU.out.at (k := k) (by rw [HN.out]; exact hlt)
      obtain ⟨ao3, c3, rfl⟩ := q3.shape
      have g1 := cell_later HB.out q1
      have g2 := cell_later HB.out q2
      obtain ⟨x, hx⟩ : ∃ x, (ps.getD k (0, [])).1 = x := ⟨_, rfl⟩
      obtain ⟨l, hl⟩ : ∃ l, (ps.getD k (0, [])).2.length = l := ⟨_, rfl⟩
      have HX := hide hx
      have HLen := hide hl
      have HLk := hide (HL.out k (by rw [HN.out]; exact hlt))
      have R := hide (q3.later HB.out)
      rw [hx] at g1
      rw [hl] at g2 R
      have hbl := World.block_lt_of_cell? _ _ q1
      obtain ⟨V2, Bk2, hown, hpr, hin⟩ := HBu.out
      have HOw0 := hide hown
      have HPr := hide hpr
      have HIn := hide hin
      have hz := HB.out.size
      have hk0 : (0 : Int) ≤ (k : Int) := Int.natCast_nonneg _
      have hk1 : (k : Int) < (n : Int) := by omega
      clear q1 q2 q3 hx hl hin hown hpr
      go_wp2_with fail
      go_region_held3 (fun w' => w'.cell? ⟨b, off + k * 2, none⟩ = some (.int .i64 x) ∧ w'.cell? ⟨b, off + k * 2 + 1, none⟩ = some (.slice ao3 l c3)) (first | exact ⟨g1, g2⟩ | exact ⟨e0, e1⟩ | exact ⟨cell_later (below_alloc _ _) e0, cell_later (below_alloc _ _) e1⟩ | exact ⟨s0, s1⟩)
        (first
          | (go_at_call 30; refine (l1Ints (R.out.drewN 1) HLk.out).mono ?_; rintro e w1 ⟨z, rfl, hb1, ho1⟩; obtain ⟨ao4, c4, rfl⟩ := ho1.shape; have e0 : w1.cell? ⟨b, off + k * 2, none⟩ = some (.int .i64 x) := cell_later hb1 g1; have e1 : w1.cell? ⟨b, off + k * 2 + 1, none⟩ = some (.slice ao3 l c3) := cell_later hb1 g2; have HB1 := hide (below_on (below_drewN wr 1) hb1); have HO1 := hide ho1; have hzz : wr.heap.size ≤ w1.heap.size := hb1.size; clear hb1 ho1)
          | (refine step_append_lies _ (by rfl) _ _ _ (by rfl) 0 38 i0 (.agg #[.int .i64 0, .slice none 0 0]) 2 32 Tryz.underlying30 hi hz0 hz1 hz2 rfl (by omega) _ k _ (by rfl) (ownsRow_later (ownsRow_later HOw0.out HB1.out) (below_alloc w1 (.cells #[.int .i64 x, .slice ao4 (ps.getD k (0, [])).2.length c4] 38))) ⟨w1.heap.size, 0, none⟩ 1 1 [.int .i64 x, .slice ao4 (ps.getD k (0, [])).2.length c4] (by rfl) (by rfl) (World.news_of_block (cs := #[.int .i64 x, .slice ao4 (ps.getD k (0, [])).2.length c4]) (t := 38) (fr := (0, 0)) (heap_alloc_new w1 _)) cells2_one (by omega) (by unfold maxLen; omega) (by omega) (Nat.zero_le _) (w1.heap.size + 1) (by simp) ?_; intro g cap w3 hown3 hgrow hat hlt3; have s0 : w3.cell? ⟨b, off + k * 2, none⟩ = some (.int .i64 x) := (hgrow.cell_far _ (by simp; omega) (fun e => by have := HPr.out _ e.symm; dsimp only at this; omega)).trans (cell_later (below_alloc _ _) e0); have s1 : w3.cell? ⟨b, off + k * 2 + 1, none⟩ = some (.slice ao3 l c3) := (hgrow.cell_far _ (by simp; omega) (fun e => by have := HPr.out _ e.symm; dsimp only at this; omega)).trans (cell_later (below_alloc _ _) e1)))
      have HS := hide (BuiltP.step (P' := (w.heap.size ≤ ·)) HIn.out HOw0.out HPr.out (fun _ h => h) (fun b hb => Nat.le_trans hz hb) HB1.out HO1.out (below_alloc w1 (.cells #[.int .i64 x, .slice ao4 (ps.getD k (0, [])).2.length c4] 38)) (by rw [HX.out]; exact hown3) hgrow (by simpa using hat))
      have HB3 := hide ((below_on (below_on HB.out HB1.out) (below_alloc w1 (.cells #[.int .i64 x, .slice ao4 (ps.getD k (0, [])).2.length c4] 38))).grown hgrow (by simp; omega) (fun r hr => HPr.out r hr))
      clear hown3 hgrow hat s0 s1 e0 e1 hzz
      go_wp2
      go_roundw
      case rel => exact ⟨k + 1, hlt, by go_num, HS.out, HB3.out⟩
      case measure => simp [intOf]; omega
    · have hkn : k = n := by omega
      subst hkn
      go_wp2
      go_ret
      exact ⟨_, rfl, HB.out, HBu.out⟩
end Go.Proofs.YtamknomapabmfaaGreat
/- 'spec.l1Copy', walked. -/
namespace Go.Proofs.YtamknomapabmfaaGreat
open Go.RowKit

theorem Inner.set {P : Nat → Prop} {w : World} {row : Option Nat} {k : Nat} {V : Nat → Value} {Bk : Nat → Nat} {X : Nat → List Int} (h : Inner P w row k V Bk X) {r o : Nat} {x : Value} (hr : ∀ b, P b → b ≠ r) : Inner P (w.setCell ⟨r, o, none⟩ x) row k V Bk X := by
  refine ⟨fun i hi => (h.rd i hi).setOther fun hn => hr _ (h.own i hi hn).1, fun i hi hn => ?_⟩
  obtain ⟨h1, h2, h3, h4, h5⟩ := h.own i hi hn
  exact ⟨h1, by simpa using h2, fun o => by rw [World.frozen?_setCell]; exact h3 o, h4, h5⟩

theorem ownsRow_set {w : World} {B e s r o : Nat} {v x : Value} {n : Nat} {xs : List Value} (h : w.ownsRow B e s v n xs) (hr : v.ownBlock ≠ some r) : (w.setCell ⟨r, o, none⟩ x).ownsRow B e s v n xs := by
  obtain ⟨h1, h2⟩ := h
  refine ⟨h1, ?_⟩
  rcases h2 with h2 | ⟨g, cap, cur, rfl, hg, hh, t⟩
  · exact Or.inl h2
  · exact Or.inr ⟨g, cap, cur, rfl, hg, by rw [Below.heap_setCell _ _ _ _ (fun e => hr (congrArg some e))]; exact hh, t⟩

theorem BuiltII.set {P : Nat → Prop} {w : World} {v : Value} {k : Nat} {xss : List (List Int)} (h : BuiltII P w v k xss) {r o : Nat} {x : Value} (hr : ∀ b, P b → b ≠ r) : BuiltII P (w.setCell ⟨r, o, none⟩ x) v k xss := by
  obtain ⟨V, Bk, h1, h2, h3⟩ := h
  exact ⟨V, Bk, ownsRow_set h1 (fun e => hr _ (h2 _ e) rfl), h2, h3.set hr⟩
theorem BuiltP.set {P : Nat → Prop} {w : World} {v : Value} {k : Nat} {ps : List (Int × List Int)} (h : BuiltP P w v k ps) {r o : Nat} {x : Value} (hr : ∀ b, P b → b ≠ r) : BuiltP P (w.setCell ⟨r, o, none⟩ x) v k ps := by
  obtain ⟨V, Bk, h1, h2, h3⟩ := h
  exact ⟨V, Bk, ownsRow_set h1 (fun e => hr _ (h2 _ e) rfl), h2, h3.set hr⟩

theorem BuiltP.below {P : Nat → Prop} {w w' : World} {v : Value} {k B : Nat} {ps : List (Int × List Int)} (h : BuiltP P w v k ps) (hb : Below B w w') (hP : ∀ b, P b → b < B) : BuiltP P w' v k ps := by
  obtain ⟨V, Bk, h1, h2, h3⟩ := h
  refine ⟨V, Bk, ?_, h2, fun i hi => ?_, fun i hi hn => ?_⟩
  · obtain ⟨k1, k2⟩ := h1
    refine ⟨k1, ?_⟩
    rcases k2 with k2 | ⟨g, cap, cur, rfl, hg, hh, t⟩
    · exact Or.inl k2
    · exact Or.inr ⟨g, cap, cur, rfl, hg, by rw [hb.block g (hP g (h2 g rfl))]; exact hh, t⟩
  · obtain ⟨ao, c, e1, e2, e3⟩ := h3.rd i hi
    refine ⟨ao, c, e1, e2, fun hne => ?_⟩
    obtain ⟨b, off, f1, f2, f3⟩ := e3 hne
    refine ⟨b, off, f1, f2, fun t ht => ?_⟩
    rw [hb.cell (p := ⟨b, off + t, none⟩) (by rw [f2]; exact hP _ (h3.own i hi hne).1)]
    exact f3 t ht
  · obtain ⟨q1, q2, q3, q4, q5⟩ := h3.own i hi hn
    exact ⟨q1, Nat.lt_of_lt_of_le q2 hb.size, fun o => (hb.frozen (p := ⟨Bk i, o, none⟩) (hP _ q1)).trans (q3 o), q4, q5⟩

/-- What the copying loop knows behind k blocks; b: the block of the copy's variable. -/
structure CopyAt (xss : List (List Int)) (b : Nat) (vc : Value) (w1 : World) (k : Nat) (v : Value) (wr : World) : Prop where
  below : Below b w1 wr
  size : b < wr.heap.size
  rows : BuiltII (b + 1 ≤ ·) wr v k xss
  cell0 : wr.cell? ⟨b, 0, none⟩ = some v
  cell1 : wr.cell? ⟨b, 1, none⟩ = some vc
  free : ∀ o, wr.frozen? ⟨b, o, none⟩ = false

theorem CopyAt.step {xss : List (List Int)} {b : Nat} {vc v z : Value} {w1 wr w2 w3 : World} {k g cap : Nat} {V : Nat → Value} {Bk : Nat → Nat} {o : Obj} (h : CopyAt xss b vc w1 k v wr)
    (hi : Inner (b + 1 ≤ ·) wr v.ownBlock k V Bk (fun i => xss.getD i [])) (hr : wr.ownsRow 0 24 1 v k ((List.range k).map V)) (hpr : ∀ r, v.ownBlock = some r → b + 1 ≤ r)
    (hb2 : Below wr.heap.size wr w2) (hz : OwI wr.heap.size w2 z (xss.getD k [])) (hown : w3.ownsRow 0 24 1 (.slice (some ⟨g, 0, none⟩) (k + 1) cap) (k + 1) ((List.range k).map V ++ [z]))
    (hg : (w2.alloc o).grownBy w3 v.ownBlock) (hat : v.ownBlock = some g ∨ g = (w2.alloc o).heap.size) :
    CopyAt xss b vc w1 (k + 1) (.slice (some ⟨g, 0, none⟩) (k + 1) cap) (w3.setCell ⟨b, 0, none⟩ (.slice (some ⟨g, 0, none⟩) (k + 1) cap)) := by
  have hsz := h.size
  have hs2 := hb2.size
  have hs3 := hg.size
  simp only [World.size_alloc] at hs3
  have far : ∀ o', w3.cell? ⟨b, o', none⟩ = wr.cell? ⟨b, o', none⟩ := fun o' => by
    rw [hg.cell_far ⟨b, o', none⟩ (by simp; omega) (fun e => by have := hpr _ e.symm; dsimp only at this; omega)]
    exact ((bcell (below_alloc w2 o)).1 _ _ (by omega)).trans ((bcell hb2).1 _ _ hsz)
  have farf : ∀ o', w3.frozen? ⟨b, o', none⟩ = wr.frozen? ⟨b, o', none⟩ := fun o' => by
    rw [hg.frozen_far ⟨b, o', none⟩ (by simp; omega) (fun e => by have := hpr _ e.symm; dsimp only at this; omega)]
    exact ((bcell (below_alloc w2 o)).2 _ _ (by omega)).trans ((bcell hb2).2 _ _ hsz)
  refine ⟨?_, by simp; omega, ?_, World.cell?_setCell_same _ _ _ ((far 0).trans h.cell0), ?_, fun o' => by rw [World.frozen?_setCell]; exact (farf o').trans (h.free o')⟩
  · exact ((h.below.trans ((below_on hb2 (below_alloc w2 o)).mono (by omega))).grown hg (by simp; omega) (fun r hr' => by have := hpr r hr'; omega)).setCell (Nat.le_refl _) _
  · exact (BuiltII.step (P' := (b + 1 ≤ ·)) hi hr hpr (fun _ h => h) (fun x hx => by omega) hb2 hz (below_alloc w2 o) hown hg hat).set (fun x hx => by omega)
  · rw [World.cell?_setCell_other _ _ _ _ (by simp)]
    exact (far 1).trans h.cell1

set_option maxHeartbeats 4000000 in
set_option maxRecDepth 4000 in
theorem l1Copy_cells {S T : Nat → Prop} {w : World} {u v : Value} {xss : List (List Int)} {ps : List (Int × List Int)} (hu : RdII S w u xss) (hv : RdP T w v ps) (hs : Small xss ps) :
    Calls Tryz.prog 71 #[.agg #[u, v]] w fun e w' => ∃ z1 z2 m, e = .returned (.agg #[z1, z2]) ∧ Below w.heap.size w w' ∧ w.heap.size ≤ m ∧ m ≤ w'.heap.size ∧
      BuiltII (fun b => m ≤ b ∧ b < w'.heap.size) w' z1 xss.length xss ∧ BuiltP (fun b => w.heap.size ≤ b ∧ b < m) w' z2 ps.length ps := by
  obtain ⟨ao, c, rfl, _⟩ := hu.shape
  obtain ⟨ao', c', rfl, _⟩ := hv.shape
  obtain ⟨i0, hi, hz0, hz1, hz2⟩ := info_parts Tryz.infoInts
  have HU := hide hu
  have HV := hide hv
  have HS := hide hs
  obtain ⟨n, hn⟩ : ∃ n, xss.length = n := ⟨_, rfl⟩
  have hm : n ≤ 1048576 := by rw [← hn]; exact hs.rows
  have HN := hide hn
  rw [hn] at HU ⊢
  clear hu hv hs hn
  go_enter Tryz.func71, Tryz.ntmps71
  go_wp2_with fail
  refine (l1Puts ((HV.out.later (below_alloc _ _)).later (below_alloc _ _)) HS.out.puts HS.out.put).mono ?_
  rintro e w1 ⟨vc, rfl, hb1, ho1⟩
  obtain ⟨aoc, cc, rfl⟩ := ho1.shape
  have HB1 := hide (below_on (below_on (below_alloc _ _) (below_alloc _ _)) hb1)
  have HO1 := hide ho1
  have q0 : w1.cell? ⟨w.heap.size, 0, none⟩ = some (.slice ao n c) := cell_later hb1 (by simp [go_sem])
  have r0 : w1.cell? ⟨w.heap.size + 1, 0, none⟩ = some (.slice none 0 0) := cell_later hb1 (by simp [go_sem])
  have r1 : w1.cell? ⟨w.heap.size + 1, 1, none⟩ = some (.slice none 0 0) := cell_later hb1 (by simp [go_sem])
  have f0 : ∀ o, w1.frozen? ⟨w.heap.size + 1, o, none⟩ = false := fun o => ((bcell hb1).2 _ _ (by simp)).trans (by simp [go_sem])
  have HF0 := hide f0
  have hs1 : w.heap.size + 1 < w1.heap.size := by have := hb1.size; simp at this; omega
  clear hb1 ho1 f0
  go_wp2
  go_loopw [4] (fun i wr => ∃ k : Nat, k ≤ n ∧ i = .int .i64 k ∧ Hid (∃ v, CopyAt xss w1.heap.size (.slice aoc ps.length cc) w1 k v wr)) (fun i _ => n - (intOf i).toNat)
  case atStart => exact ⟨0, Nat.zero_le _, rfl, _, below_alloc _ _, by simp, BuiltII.nil _ _ _, by simp [go_sem], by simp [go_sem], fun o => by simp [go_sem]⟩
  case round =>
    obtain ⟨k, hk, rfl, HC⟩ := hrel
    obtain ⟨vr, hC⟩ := HC.out
    obtain ⟨aor, cr, rfl⟩ := hC.rows.shape
    have HCo := hide hC
    have g0 := hC.cell0
    have hbx := (hC.below.cell (p := ⟨w.heap.size, 0, none⟩) (by simp; omega)).trans q0
    by_cases hlt : k < n
    · obtain ⟨b, off, V, rfl, q1, q2⟩ := HU.out.at (k := k) (by rw [HN.out]; exact hlt)
      have hbl : b < w.heap.size := World.block_lt_of_cell? _ _ q1
      have g1 := (hC.below.cell (p := ⟨b, off + k, none⟩) (by have := HB1.out.size; dsimp only; omega)).trans (cell_later HB1.out q1)
      have R := hide (q2.later (HB1.out.trans (hC.below.mono (by omega))))
      have HLk := hide (HS.out.row k (by rw [HN.out]; exact hlt))
      obtain ⟨V2, Bk2, hown, hpr, hin⟩ := hC.rows
      have HOw0 := hide hown
      have HPr := hide hpr
      have HIn := hide hin
      have hsz := hC.size
      have hk0 : (0 : Int) ≤ (k : Int) := Int.natCast_nonneg _
      have hk1 : (k : Int) < (n : Int) := by omega
      have hfz := hC.free 0
      clear q1 q2 hown hpr hin hC
      go_wp2_with fail
      go_region_law (first
          | (refine step_append_lies _ (by rfl) _ _ _ (by rfl) 0 24 i0 (.slice none 0 0) 1 24 Tryz.underlying52 hi hz0 hz1 hz2 rfl (by omega) (.slice aor k cr) k _ (by rfl) (ownsRow_later (ownsRow_later HOw0.out HB2.out) (below_alloc w2 (.cells #[.slice ao4 (xss.getD k []).length c4] 24))) ⟨w2.heap.size, 0, none⟩ 1 1 [.slice ao4 (xss.getD k []).length c4] (by rfl) (by rfl) (World.news_of_block (cs := #[.slice ao4 (xss.getD k []).length c4]) (t := 24) (fr := (0, 0)) (heap_alloc_new w2 _)) (by simp [Value.oneCell']) (by omega) (by unfold maxLen; omega) (by omega) (Nat.zero_le _) (w2.heap.size + 1) (by simp) ?_; intro g cap w3 hown3 hgrow hat hlt3; have s0 := (hgrow.cell_far ⟨w1.heap.size, 0, none⟩ (by simp; omega) (fun e => by have := HPr.out _ e.symm; dsimp only at this; omega)).trans (cell_later (below_alloc _ _) e0); have s1 : w3.frozen? ⟨w1.heap.size, 0, none⟩ = false := (hgrow.frozen_far ⟨w1.heap.size, 0, none⟩ (by simp; omega) (fun e => by have := HPr.out _ e.symm; dsimp only at this; omega)).trans (((bcell (below_alloc w2 _)).2 _ _ hzl).trans e1))
          | (go_simp; go_at_call 30; refine (l1Ints (R.out.drewN 1) HLk.out).mono ?_; rintro e w2 ⟨z, rfl, hb2, ho2⟩; obtain ⟨ao4, c4, rfl⟩ := ho2.shape; have e0 := cell_later hb2 g0; have e1 : w2.frozen? ⟨w1.heap.size, 0, none⟩ = false := ((bcell hb2).2 _ _ hsz).trans hfz; have HB2 := hide (below_on (below_drewN wr 1) hb2); have HO2 := hide ho2; have hzz : wr.heap.size ≤ w2.heap.size := hb2.size; have hzl : w1.heap.size < w2.heap.size := Nat.lt_of_lt_of_le hsz hzz; clear hb2 ho2))
      all_goals
        have HSt := hide (CopyAt.step HCo.out HIn.out HOw0.out HPr.out HB2.out HO2.out hown3 hgrow (by simpa using hat))
        clear hown3 hgrow hat s0 s1 e0 e1 hzz hzl
        go_wp2
        go_roundw
        case rel => exact ⟨k + 1, hlt, by go_num, _, HSt.out⟩
        case measure => simp [intOf]; omega
    · have hkn : k = n := by omega
      subst hkn
      have g2 := hC.cell1
      have hsz := hC.size
      have k0 := (hC.below.cell (p := ⟨w.heap.size + 1, 0, none⟩) (by dsimp only; omega)).trans r0
      have k1 := (hC.below.cell (p := ⟨w.heap.size + 1, 1, none⟩) (by dsimp only; omega)).trans r1
      have f0 := (hC.below.frozen (p := ⟨w.heap.size + 1, 0, none⟩) (by dsimp only; omega)).trans (HF0.out 0)
      have f1 := (hC.below.frozen (p := ⟨w.heap.size + 1, 1, none⟩) (by dsimp only; omega)).trans (HF0.out 1)
      clear hC
      go_wp2
      refine bodyPost_ret (v := .agg #[.slice aor k cr, .slice aoc ps.length cc]) (by simp [results, Tryz.results71, go_sem, k0, k1]) rfl ⟨_, _, w1.heap.size, rfl, ?_, by omega, by simp; omega, ?_, ?_⟩
      · exact (((HB1.out.trans (HCo.out.below.mono (by omega))).setCell (by simp) _).setCell (by simp) _)
      · exact ((HCo.out.rows.set (fun x hx => by omega)).set (fun x hx => by omega)).mono fun x hx hl => ⟨by omega, hl⟩
      · refine ((((HO1.out.mono (P' := fun x => w.heap.size + 1 + 1 ≤ x ∧ x < w1.heap.size) (fun x hx hl => ⟨by simp at hx; omega, hl⟩)).below HCo.out.below (fun x hx => hx.2)).set (fun x hx => by omega)).set (fun x hx => by omega)).mono fun x hx hl => ⟨by omega, hx.2⟩
end Go.Proofs.YtamknomapabmfaaGreat
/- 'impl.wordsIn', walked. -/
namespace Go.Proofs.YtamknomapabmfaaGreat
open Go.RowKit

/-- The cell at place i, if D says that there is a word. -/
def cellD (D : Nat → Option Nat) (i : Nat) : Value := match D i with
  | none => zc
  | some x => .complex .f64 (fl x) (fl (i + 1))
def listD (D : Nat → Option Nat) : List Value := (List.range 64).map (cellD D)
/-- The words of the first k cells: filled up with 0 where a cell is none. -/
def wordsD (D : Nat → Option Nat) : Nat → List Int
  | 0 => []
  | k + 1 => match D k with
    | none => wordsD D k
    | some x => wordsD D k ++ List.replicate (k - (wordsD D k).length) 0 ++ [(x : Int)]

theorem wordsD_le (D : Nat → Option Nat) : ∀ k, (wordsD D k).length ≤ k := by
  intro k
  induction k with
  | zero => simp [wordsD]
  | succ k ih =>
    unfold wordsD
    split
    · omega
    · simp; omega

theorem listD_len (D : Nat → Option Nat) : (listD D).length = 64 := by simp [listD]

/-- One half of the cells. -/
def halfD (D : Nat → Option Nat) (a : Nat) : List Value := (List.range 32).map fun j => cellD D (32 * a + j)
theorem halfD_len (D : Nat → Option Nat) (a : Nat) : (halfD D a).length = 32 := by simp [halfD]
theorem cellD_one (D : Nat → Option Nat) (i : Nat) : (cellD D i).oneCell' = true := by
  unfold cellD zc
  split <;> rfl
theorem halfD_one (D : Nat → Option Nat) (a : Nat) : ∀ v ∈ halfD D a, v.oneCell' = true := by
  intro v hv
  simp only [halfD, List.mem_map] at hv
  obtain ⟨i, _, rfl⟩ := hv
  exact cellD_one D _
theorem listD_half (D : Nat → Option Nat) (a : Nat) (h : a < 2) : List.take 32 (List.drop (a * 32) (listD D)) = halfD D a := by
  refine List.ext_getElem? fun i => ?_
  simp only [List.getElem?_take, List.getElem?_drop, listD, halfD, List.getElem?_map]
  by_cases hi : i < 32
  · simp [hi, show a * 32 + i < 64 by omega, Nat.mul_comm]
  · simp [hi]
theorem ownsRow_setCells {w : World} {B e s b : Nat} {v : Value} {n : Nat} {xs : List Value} (h : w.ownsRow B e s v n xs) (hr : v.ownBlock ≠ some b) : ∀ (o : Nat) (vs : List Value), (w.setCells b o vs).ownsRow B e s v n xs := by
  intro o vs
  induction vs generalizing o w with
  | nil => exact h
  | cons x r ih => exact ih (ownsRow_set h hr) (o + 1)

end Go.Proofs.YtamknomapabmfaaGreat
/- 'impl.tornWords', walked. -/
namespace Go.Proofs.YtamknomapabmfaaGreat
open Go.RowKit

/-- Which words a list has, place by place. -/
def dOf (xs : List Int) (i : Nat) : Option Nat := if i < xs.length then some (xs.getD i 0).toNat else none

theorem cellsTo_dOf (xs : List Int) : cellsTo xs xs.length = listD (dOf xs) := by
  unfold cellsTo listD
  refine List.map_congr_left fun i _ => ?_
  unfold cellV cellD dOf
  by_cases h : i < xs.length
  · simp [h]
  · simp [h]

theorem dOf_le {xs : List Int} (h : ∀ i, i < xs.length → 0 ≤ xs.getD i 0 ∧ xs.getD i 0 ≤ 65535) : ∀ i x, dOf xs i = some x → x ≤ 65535 := by
  intro i x hx
  unfold dOf at hx
  split at hx
  · rename_i hi
    injection hx with hx
    have := h i hi
    omega
  · cases hx

/-- D, with E at one half. -/
def overD (D E : Nat → Option Nat) (h : Nat) (i : Nat) : Option Nat := if i / 32 = h then E i else D i

theorem cellD_over (D E : Nat → Option Nat) (h i : Nat) : cellD (overD D E h) i = if i / 32 = h then cellD E i else cellD D i := by
  unfold cellD overD
  by_cases e : i / 32 = h
  · simp [e]
  · simp [e]

theorem range_listD {w : World} {b : Nat} {D : Nat → Option Nat} : w.rangeAt b 0 (listD D) ↔ ∀ i, i < 64 → w.cell? ⟨b, i, none⟩ = some (cellD D i) := by
  constructor
  · intro h i hi
    have := h i (cellD D i) (by simp [listD, hi])
    simpa using this
  · intro h j v hv
    have hj : j < 64 := by
      have := (List.getElem?_eq_some_iff.1 hv).1
      rwa [listD_len] at this
    rw [Nat.zero_add, h j hj, ← hv]
    simp [listD, hj]

theorem range_half {w : World} {b : Nat} {D : Nat → Option Nat} (h : w.rangeAt b 0 (listD D)) (a : Nat) (ha : a < 2) : w.rangeAt b (32 * a) (halfD D a) := by
  intro j v hv
  have hj : j < 32 := by
    have := (List.getElem?_eq_some_iff.1 hv).1
    rwa [halfD_len] at this
  rw [range_listD.1 h (32 * a + j) (by omega), ← hv]
  simp [halfD, hj]

theorem range_over {w : World} {b : Nat} {D E : Nat → Option Nat} (h : w.rangeAt b 0 (listD D)) (a : Nat) (ha : a < 2) : (w.setCells b (32 * a) (halfD E a)).rangeAt b 0 (listD (overD D E a)) := by
  have h0 := range_listD.1 h
  refine range_listD.2 fun i hi => ?_
  rw [cellD_over]
  by_cases e : i / 32 = a
  · rw [if_pos e]
    obtain ⟨j, hj, rfl⟩ : ∃ j, j < 32 ∧ i = 32 * a + j := ⟨i % 32, by omega, by omega⟩
    rw [World.cell?_setCells_in b (halfD E a) (32 * a) w (fun t ht => by rw [halfD_len] at ht; rw [h0 (32 * a + t) (by omega)]; rfl) j (by rw [halfD_len]; exact hj)]
    simp [halfD]
  · rw [if_neg e, World.cell?_setCells_out b (halfD E a) (32 * a) w ⟨b, i, none⟩ (fun _ _ => by rw [halfD_len]; dsimp only; omega)]
    exact h0 i hi
theorem wordsD_take {D : Nat → Option Nat} {A : List Int} (hA : ∀ i, i < A.length → 0 ≤ A.getD i 0) : ∀ k, (∀ i, i < k → D i = dOf A i) → wordsD D k = A.take k := by
  intro k
  induction k with
  | zero => intro _; simp [wordsD]
  | succ k ih =>
    intro h
    have ih := ih (fun i hi => h i (by omega))
    simp only [wordsD]
    rw [h k (by omega), ih]
    unfold dOf
    by_cases hk : k < A.length
    · rw [if_pos hk]
      simp only
      rw [Int.toNat_of_nonneg (hA k hk), List.length_take, Nat.min_eq_left (by omega), Nat.sub_self, List.replicate_zero, List.append_nil, List.take_succ_eq_append_getElem hk]
      simp [List.getD, hk]
    · rw [if_neg hk]
      simp only
      rw [List.take_of_length_le (by omega), List.take_of_length_le (by omega)]

theorem joinT_snoc (a b : List Int) (x : Int) (ha : a.length ≤ 32) : joinT a b ++ List.replicate (32 + b.length - (joinT a b).length) 0 ++ [x] = joinT a (b ++ [x]) := by
  rw [joinT_some (by simp : b ++ [x] ≠ [])]
  by_cases hb : b = []
  · subst hb
    simp [joinT_none]
  · rw [joinT_some hb]
    simp
    omega

theorem wordsD_join {D : Nat → Option Nat} {A B : List Int} (hA : ∀ i, i < A.length → 0 ≤ A.getD i 0) (hB : ∀ i, i < B.length → 0 ≤ B.getD i 0) (h0 : ∀ i, i < 32 → D i = dOf A i) (h1 : ∀ i, 32 ≤ i → i < 64 → D i = dOf B i) :
    ∀ j, j ≤ 32 → wordsD D (32 + j) = joinT (A.take 32) ((B.drop 32).take j) := by
  intro j
  induction j with
  | zero => intro _; rw [List.take_zero, joinT_none]; exact wordsD_take hA 32 h0
  | succ j ih =>
    intro hj
    have ih := ih (by omega)
    rw [← Nat.add_assoc]
    simp only [wordsD]
    rw [h1 (32 + j) (by omega) (by omega), ih]
    unfold dOf
    by_cases hk : 32 + j < B.length
    · rw [if_pos hk]
      simp only
      have hl : ((B.drop 32).take j).length = j := by simp; omega
      have e := joinT_snoc (A.take 32) ((B.drop 32).take j) (B.getD (32 + j) 0) (by simp; omega)
      rw [hl] at e
      rw [Int.toNat_of_nonneg (hB _ hk), e]
      congr 1
      rw [List.take_succ_eq_append_getElem (by simp; omega)]
      simp [List.getD, hk]
    · rw [if_neg hk]
      simp only
      have hd : (B.drop 32).length ≤ j := by simp; omega
      rw [List.take_of_length_le hd, List.take_of_length_le (l := B.drop 32) (i := j + 1) (by omega)]

theorem wordsD_tear {D : Nat → Option Nat} {A B : List Int} (hA : ∀ i, i < A.length → 0 ≤ A.getD i 0) (hB : ∀ i, i < B.length → 0 ≤ B.getD i 0) (hl : B.length ≤ 64) (h0 : ∀ i, i < 32 → D i = dOf A i) (h1 : ∀ i, 32 ≤ i → i < 64 → D i = dOf B i) :
    wordsD D 64 = joinT (A.take 32) (B.drop 32) := by
  have := wordsD_join hA hB h0 h1 32 (Nat.le_refl _)
  have hd : (B.drop 32).length ≤ 32 := by simp; omega
  rw [this, List.take_of_length_le hd]
end Go.Proofs.YtamknomapabmfaaGreat
