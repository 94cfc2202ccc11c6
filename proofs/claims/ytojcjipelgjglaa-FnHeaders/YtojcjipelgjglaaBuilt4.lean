/- 'spec.l1Copy', walked. -/
import Derived.Test.YtojcjipelgjglaaBuilt3
import Derived.Deep.RegionLaw
namespace Go.Proofs.Ytojcjipelgjglaa
open Go.RowKit

theorem Inner.set {P : Nat → Prop} {w : World} {row : Option Nat} {k : Nat} {V : Nat → Value} {Bk : Nat → Nat} {X : Nat → List Int} (h : Inner P w row k V Bk X) {r o : Nat} {x : Value} (hr : ∀ b, P b → b ≠ r) : Inner P (w.setCell ⟨r, o, none⟩ x) row k V Bk X := by
  refine ⟨fun i hi => (h.rd i hi).setOther fun hn => hr _ (h.own i hi hn).1, fun i hi hn => ?_⟩
  obtain ⟨h1, h2, h3, h4, h5⟩ := h.own i hi hn
  exact ⟨h1, by simpa using h2, fun o => by rw [World.frozen?_setCell]; exact h3 o, h4, h5⟩

theorem ownsRow_set {w : World} {B e s r o : Nat} {v x : Value} {n : Nat} {xs : List Value} (h : w.ownsRow B e s v n xs) (hr : v.ownBlock ≠ some r) : (w.setCell ⟨r, o, none⟩ x).ownsRow B e s v n xs := by
  obtain ⟨h1, h2⟩ := h
  refine ⟨h1, ?_⟩
  rcases h2 with h2 | ⟨g, cap, cur, rfl, hg, hh, t⟩
  · exact Or.inl h2
  · exact Or.inr ⟨g, cap, cur, rfl, hg, by rw [Below.heap_setCell _ _ _ _ (fun e => hr (congrArg some e))]; exact hh, t⟩

theorem BuiltII.set {P : Nat → Prop} {w : World} {v : Value} {k : Nat} {xss : List (List Int)} (h : BuiltII P w v k xss) {r o : Nat} {x : Value} (hr : ∀ b, P b → b ≠ r) : BuiltII P (w.setCell ⟨r, o, none⟩ x) v k xss := by
  obtain ⟨V, Bk, h1, h2, h3⟩ := h
  exact ⟨V, Bk, ownsRow_set h1 (fun e => hr _ (h2 _ e) rfl), h2, h3.set hr⟩
theorem BuiltP.set {P : Nat → Prop} {w : World} {v : Value} {k : Nat} {ps : List (Int × List Int)} (h : BuiltP P w v k ps) {r o : Nat} {x : Value} (hr : ∀ b, P b → b ≠ r) : BuiltP P (w.setCell ⟨r, o, none⟩ x) v k ps := by
  obtain ⟨V, Bk, h1, h2, h3⟩ := h
  exact ⟨V, Bk, ownsRow_set h1 (fun e => hr _ (h2 _ e) rfl), h2, h3.set hr⟩

theorem BuiltP.below {P : Nat → Prop} {w w' : World} {v : Value} {k B : Nat} {ps : List (Int × List Int)} (h : BuiltP P w v k ps) (hb : Below B w w') (hP : ∀ b, P b → b < B) : BuiltP P w' v k ps := by
  obtain ⟨V, Bk, h1, h2, h3⟩ := h
  refine ⟨V, Bk, ?_, h2, fun i hi => ?_, fun i hi hn => ?_⟩
  · obtain ⟨k1, k2⟩ := h1
    refine ⟨k1, ?_⟩
    rcases k2 with k2 | ⟨g, cap, cur, rfl, hg, hh, t⟩
    · exact Or.inl k2
    · exact Or.inr ⟨g, cap, cur, rfl, hg, by rw [hb.block g (hP g (h2 g rfl))]; exact hh, t⟩
  · obtain ⟨ao, c, e1, e2, e3⟩ := h3.rd i hi
    refine ⟨ao, c, e1, e2, fun hne => ?_⟩
    obtain ⟨b, off, f1, f2, f3⟩ := e3 hne
    refine ⟨b, off, f1, f2, fun t ht => ?_⟩
    rw [hb.cell (p := ⟨b, off + t, none⟩) (by rw [f2]; exact hP _ (h3.own i hi hne).1)]
    exact f3 t ht
  · obtain ⟨q1, q2, q3, q4, q5⟩ := h3.own i hi hn
    exact ⟨q1, Nat.lt_of_lt_of_le q2 hb.size, fun o => (hb.frozen (p := ⟨Bk i, o, none⟩) (hP _ q1)).trans (q3 o), q4, q5⟩

/-- What the copying loop knows behind k blocks; b: the block of the copy's variable. -/
structure CopyAt (xss : List (List Int)) (b : Nat) (vc : Value) (w1 : World) (k : Nat) (v : Value) (wr : World) : Prop where
  below : Below b w1 wr
  size : b < wr.heap.size
  rows : BuiltII (b + 1 ≤ ·) wr v k xss
  cell0 : wr.cell? ⟨b, 0, none⟩ = some v
  cell1 : wr.cell? ⟨b, 1, none⟩ = some vc
  free : ∀ o, wr.frozen? ⟨b, o, none⟩ = false

theorem CopyAt.step {xss : List (List Int)} {b : Nat} {vc v z : Value} {w1 wr w2 w3 : World} {k g cap : Nat} {V : Nat → Value} {Bk : Nat → Nat} {o : Obj} (h : CopyAt xss b vc w1 k v wr)
    (hi : Inner (b + 1 ≤ ·) wr v.ownBlock k V Bk (fun i => xss.getD i [])) (hr : wr.ownsRow 0 24 1 v k ((List.range k).map V)) (hpr : ∀ r, v.ownBlock = some r → b + 1 ≤ r)
    (hb2 : Below wr.heap.size wr w2) (hz : OwI wr.heap.size w2 z (xss.getD k [])) (hown : w3.ownsRow 0 24 1 (.slice (some ⟨g, 0, none⟩) (k + 1) cap) (k + 1) ((List.range k).map V ++ [z]))
    (hg : (w2.alloc o).grownBy w3 v.ownBlock) (hat : v.ownBlock = some g ∨ g = (w2.alloc o).heap.size) :
    CopyAt xss b vc w1 (k + 1) (.slice (some ⟨g, 0, none⟩) (k + 1) cap) (w3.setCell ⟨b, 0, none⟩ (.slice (some ⟨g, 0, none⟩) (k + 1) cap)) := by
  have hsz := h.size
  have hs2 := hb2.size
  have hs3 := hg.size
  simp only [World.size_alloc] at hs3
  have far : ∀ o', w3.cell? ⟨b, o', none⟩ = wr.cell? ⟨b, o', none⟩ := fun o' => by
    rw [hg.cell_far ⟨b, o', none⟩ (by simp; omega) (fun e => by have := hpr _ e.symm; dsimp only at this; omega)]
    exact ((bcell (below_alloc w2 o)).1 _ _ (by omega)).trans ((bcell hb2).1 _ _ hsz)
  have farf : ∀ o', w3.frozen? ⟨b, o', none⟩ = wr.frozen? ⟨b, o', none⟩ := fun o' => by
    rw [hg.frozen_far ⟨b, o', none⟩ (by simp; omega) (fun e => by have := hpr _ e.symm; dsimp only at this; omega)]
    exact ((bcell (below_alloc w2 o)).2 _ _ (by omega)).trans ((bcell hb2).2 _ _ hsz)
  refine ⟨?_, by simp; omega, ?_, World.cell?_setCell_same _ _ _ ((far 0).trans h.cell0), ?_, fun o' => by rw [World.frozen?_setCell]; exact (farf o').trans (h.free o')⟩
  · exact ((h.below.trans ((below_on hb2 (below_alloc w2 o)).mono (by omega))).grown hg (by simp; omega) (fun r hr' => by have := hpr r hr'; omega)).setCell (Nat.le_refl _) _
  · exact (BuiltII.step (P' := (b + 1 ≤ ·)) hi hr hpr (fun _ h => h) (fun x hx => by omega) hb2 hz (below_alloc w2 o) hown hg hat).set (fun x hx => by omega)
  · rw [World.cell?_setCell_other _ _ _ _ (by simp)]
    exact (far 1).trans h.cell1

set_option maxHeartbeats 4000000 in
set_option maxRecDepth 4000 in
theorem l1Copy_cells {S T : Nat → Prop} {w : World} {u v : Value} {xss : List (List Int)} {ps : List (Int × List Int)} (hu : RdII S w u xss) (hv : RdP T w v ps) (hs : Small xss ps) :
    Calls Try.prog 97 #[.agg #[u, v]] w fun e w' => ∃ z1 z2 m, e = .returned (.agg #[z1, z2]) ∧ Below w.heap.size w w' ∧ w.heap.size ≤ m ∧ m ≤ w'.heap.size ∧
      BuiltII (fun b => m ≤ b ∧ b < w'.heap.size) w' z1 xss.length xss ∧ BuiltP (fun b => w.heap.size ≤ b ∧ b < m) w' z2 ps.length ps := by
  obtain ⟨ao, c, rfl, _⟩ := hu.shape
  obtain ⟨ao', c', rfl, _⟩ := hv.shape
  obtain ⟨i0, hi, hz0, hz1, hz2⟩ := info_parts Try.infoInts
  have HU := hide hu
  have HV := hide hv
  have HS := hide hs
  obtain ⟨n, hn⟩ : ∃ n, xss.length = n := ⟨_, rfl⟩
  have hm : n ≤ 1048576 := by rw [← hn]; exact hs.rows
  have HN := hide hn
  rw [hn] at HU ⊢
  clear hu hv hs hn
  go_enter Try.func97, Try.ntmps97
  go_wp2_with fail
  refine (l1Puts ((HV.out.later (below_alloc _ _)).later (below_alloc _ _)) HS.out.puts HS.out.put).mono ?_
  rintro e w1 ⟨vc, rfl, hb1, ho1⟩
  obtain ⟨aoc, cc, rfl⟩ := ho1.shape
  have HB1 := hide (below_on (below_on (below_alloc _ _) (below_alloc _ _)) hb1)
  have HO1 := hide ho1
  have q0 : w1.cell? ⟨w.heap.size, 0, none⟩ = some (.slice ao n c) := cell_later hb1 (by simp [go_sem])
  have r0 : w1.cell? ⟨w.heap.size + 1, 0, none⟩ = some (.slice none 0 0) := cell_later hb1 (by simp [go_sem])
  have r1 : w1.cell? ⟨w.heap.size + 1, 1, none⟩ = some (.slice none 0 0) := cell_later hb1 (by simp [go_sem])
  have f0 : ∀ o, w1.frozen? ⟨w.heap.size + 1, o, none⟩ = false := fun o => ((bcell hb1).2 _ _ (by simp)).trans (by simp [go_sem])
  have HF0 := hide f0
  have hs1 : w.heap.size + 1 < w1.heap.size := by have := hb1.size; simp at this; omega
  clear hb1 ho1 f0
  go_wp2
  go_loopw [4] (fun i wr => ∃ k : Nat, k ≤ n ∧ i = .int .i64 k ∧ Hid (∃ v, CopyAt xss w1.heap.size (.slice aoc ps.length cc) w1 k v wr)) (fun i _ => n - (intOf i).toNat)
  case atStart => exact ⟨0, Nat.zero_le _, rfl, _, below_alloc _ _, by simp, BuiltII.nil _ _ _, by simp [go_sem], by simp [go_sem], fun o => by simp [go_sem]⟩
  case round =>
    obtain ⟨k, hk, rfl, HC⟩ := hrel
    obtain ⟨vr, hC⟩ := HC.out
    obtain ⟨aor, cr, rfl⟩ := hC.rows.shape
    have HCo := hide hC
    have g0 := hC.cell0
    have hbx := (hC.below.cell (p := ⟨w.heap.size, 0, none⟩) (by simp; omega)).trans q0
    by_cases hlt : k < n
    · obtain ⟨b, off, V, rfl, q1, q2⟩ := HU.out.at (k := k) (by rw [HN.out]; exact hlt)
      have hbl : b < w.heap.size := World.block_lt_of_cell? _ _ q1
      have g1 := (hC.below.cell (p := ⟨b, off + k, none⟩) (by have := HB1.out.size; dsimp only; omega)).trans (cell_later HB1.out q1)
      have R := hide (q2.later (HB1.out.trans (hC.below.mono (by omega))))
      have HLk := hide (HS.out.row k (by rw [HN.out]; exact hlt))
      obtain ⟨V2, Bk2, hown, hpr, hin⟩ := hC.rows
      have HOw0 := hide hown
      have HPr := hide hpr
      have HIn := hide hin
      have hsz := hC.size
      have hk0 : (0 : Int) ≤ (k : Int) := Int.natCast_nonneg _
      have hk1 : (k : Int) < (n : Int) := by omega
      have hfz := hC.free 0
      clear q1 q2 hown hpr hin hC
      go_wp2_with fail
      go_region_law (first
          | (refine step_append_lies _ (by rfl) _ _ _ (by rfl) 0 24 i0 (.slice none 0 0) 1 24 Try.underlying39 hi hz0 hz1 hz2 rfl (by omega) (.slice aor k cr) k _ (by rfl) (ownsRow_later (ownsRow_later HOw0.out HB2.out) (below_alloc w2 (.cells #[.slice ao4 (xss.getD k []).length c4] 24))) ⟨w2.heap.size, 0, none⟩ 1 1 [.slice ao4 (xss.getD k []).length c4] (by rfl) (by rfl) (World.news_of_block (cs := #[.slice ao4 (xss.getD k []).length c4]) (t := 24) (fr := (0, 0)) (heap_alloc_new w2 _)) (by simp [Value.oneCell']) (by omega) (by unfold maxLen; omega) (by omega) (Nat.zero_le _) (w2.heap.size + 1) (by simp) ?_; intro g cap w3 hown3 hgrow hat hlt3; have s0 := (hgrow.cell_far ⟨w1.heap.size, 0, none⟩ (by simp; omega) (fun e => by have := HPr.out _ e.symm; dsimp only at this; omega)).trans (cell_later (below_alloc _ _) e0); have s1 : w3.frozen? ⟨w1.heap.size, 0, none⟩ = false := (hgrow.frozen_far ⟨w1.heap.size, 0, none⟩ (by simp; omega) (fun e => by have := HPr.out _ e.symm; dsimp only at this; omega)).trans (((bcell (below_alloc w2 _)).2 _ _ hzl).trans e1))
          | (go_simp; go_at_call 84; refine (l1Ints (R.out.drewN 1) HLk.out).mono ?_; rintro e w2 ⟨z, rfl, hb2, ho2⟩; obtain ⟨ao4, c4, rfl⟩ := ho2.shape; have e0 := cell_later hb2 g0; have e1 : w2.frozen? ⟨w1.heap.size, 0, none⟩ = false := ((bcell hb2).2 _ _ hsz).trans hfz; have HB2 := hide (below_on (below_drewN wr 1) hb2); have HO2 := hide ho2; have hzz : wr.heap.size ≤ w2.heap.size := hb2.size; have hzl : w1.heap.size < w2.heap.size := Nat.lt_of_lt_of_le hsz hzz; clear hb2 ho2))
      all_goals
        have HSt := hide (CopyAt.step HCo.out HIn.out HOw0.out HPr.out HB2.out HO2.out hown3 hgrow (by simpa using hat))
        clear hown3 hgrow hat s0 s1 e0 e1 hzz hzl
        go_wp2
        go_roundw
        case rel => exact ⟨k + 1, hlt, by go_num, _, HSt.out⟩
        case measure => simp [intOf]; omega
    · have hkn : k = n := by omega
      subst hkn
      have g2 := hC.cell1
      have hsz := hC.size
      have k0 := (hC.below.cell (p := ⟨w.heap.size + 1, 0, none⟩) (by dsimp only; omega)).trans r0
      have k1 := (hC.below.cell (p := ⟨w.heap.size + 1, 1, none⟩) (by dsimp only; omega)).trans r1
      have f0 := (hC.below.frozen (p := ⟨w.heap.size + 1, 0, none⟩) (by dsimp only; omega)).trans (HF0.out 0)
      have f1 := (hC.below.frozen (p := ⟨w.heap.size + 1, 1, none⟩) (by dsimp only; omega)).trans (HF0.out 1)
      clear hC
      go_wp2
      refine bodyPost_ret (v := .agg #[.slice aor k cr, .slice aoc ps.length cc]) (by simp [results, Try.results97, go_sem, k0, k1]) rfl ⟨_, _, w1.heap.size, rfl, ?_, by omega, by simp; omega, ?_, ?_⟩
      · exact (((HB1.out.trans (HCo.out.below.mono (by omega))).setCell (by simp) _).setCell (by simp) _)
      · exact ((HCo.out.rows.set (fun x hx => by omega)).set (fun x hx => by omega)).mono fun x hx hl => ⟨by omega, hl⟩
      · refine ((((HO1.out.mono (P' := fun x => w.heap.size + 1 + 1 ≤ x ∧ x < w1.heap.size) (fun x hx hl => ⟨by simp at hx; omega, hl⟩)).below HCo.out.below (fun x hx => hx.2)).set (fun x hx => by omega)).set (fun x hx => by omega)).mono fun x hx hl => ⟨by omega, hx.2⟩
end Go.Proofs.Ytojcjipelgjglaa
