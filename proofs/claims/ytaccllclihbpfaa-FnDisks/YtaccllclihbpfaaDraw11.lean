/- The model's draw of a disk and of picks: 'spec.DrawCrashDisk', walked. -/
import Derived.Test.YtaccllclihbpfaaDraw10
import Derived.Test.YtaccllclihbpfaaDraw8
namespace Go.Proofs.Ytaccllclihbpfaa
open Go.RowKit

theorem RdI.bnd {S : Nat → Prop} {w : World} {v : Value} {xs : List Int} (h : RdI S w v xs) : RdI (fun b => S b ∧ b < w.heap.size) w v xs := by
  obtain ⟨ao, c, h1, h2, h3⟩ := h
  refine ⟨ao, c, h1, h2, fun hne => ?_⟩
  obtain ⟨b, off, e, hb, hc⟩ := h3 hne
  exact ⟨b, off, e, ⟨hb, World.block_lt_of_cell? _ _ (hc 0 (List.length_pos_iff.2 hne))⟩, hc⟩
theorem RdII.bnd {S : Nat → Prop} {w : World} {v : Value} {xss : List (List Int)} (h : RdII S w v xss) : RdII (fun b => S b ∧ b < w.heap.size) w v xss := by
  obtain ⟨ao, c, h1, h2, h3⟩ := h
  refine ⟨ao, c, h1, h2, fun hne => ?_⟩
  obtain ⟨b, off, V, e, hb, hc⟩ := h3 hne
  exact ⟨b, off, V, e, ⟨hb, World.block_lt_of_cell? _ _ (hc 0 (List.length_pos_iff.2 hne)).1⟩, fun i hi => ⟨(hc i hi).1, (hc i hi).2.bnd⟩⟩
theorem RdP.bnd {S : Nat → Prop} {w : World} {v : Value} {ps : List (Int × List Int)} (h : RdP S w v ps) : RdP (fun b => S b ∧ b < w.heap.size) w v ps := by
  obtain ⟨ao, c, h1, h2, h3⟩ := h
  refine ⟨ao, c, h1, h2, fun hne => ?_⟩
  obtain ⟨b, off, V, e, hb, hc⟩ := h3 hne
  exact ⟨b, off, V, e, ⟨hb, World.block_lt_of_cell? _ _ (hc 0 (List.length_pos_iff.2 hne)).1⟩, fun i hi => ⟨(hc i hi).1, (hc i hi).2.1, (hc i hi).2.2.bnd⟩⟩

/-- A drawn disk in its variable D, while more is drawn: all of it below E. -/
structure CkAt (w : World) (s : Nat) (v : Value) (bs : List Nat) (D E : Nat) (u y : Value) (xss : List (List Int)) (ps : List (Int × List Int)) (N t5 : Nat) (wr : World) : Prop where
  src : Src s v bs wr t5
  tb : t5 ≤ N
  below : Below w.heap.size w wr
  sw : w.heap.size + 1 = s
  sD : s < D
  dE : D < E
  eW : E ≤ wr.heap.size
  r0 : wr.cell? ⟨w.heap.size, 0, none⟩ = some (.slice none 0 0)
  r1 : wr.cell? ⟨w.heap.size, 1, none⟩ = some (.slice none 0 0)
  rf : ∀ o, wr.frozen? ⟨w.heap.size, o, none⟩ = false
  d0 : wr.cell? ⟨D, 0, none⟩ = some u
  d1 : wr.cell? ⟨D, 1, none⟩ = some y
  rows : RdII (fun b => s < b ∧ b < E) wr u xss
  puts : RdP (fun b => s < b ∧ b < E) wr y ps

theorem CkAt.on {w : World} {s : Nat} {v : Value} {bs : List Nat} {D E : Nat} {u y : Value} {xss : List (List Int)} {ps : List (Int × List Int)} {N t5 t6 L : Nat} {wr w6 : World} (H : CkAt w s v bs D E u y xss ps N t5 wr) (hd : Drawn L s v bs t5 t6 wr w6) :
    CkAt w s v bs D E u y xss ps (N + L) t6 w6 := by
  have hw := hd.2.1
  have h1 := H.sw
  have h2 := H.sD
  have h3 := H.dE
  have h4 := H.eW
  exact ⟨hd.1, by have := hd.2.2; have := H.tb; omega, H.below.trans (hw.below (by have := H.below.size; omega) (fun b hb => by omega)), H.sw, H.sD, H.dE, Nat.le_trans H.eW hw.size, cell_wr hw H.r0 (by omega), cell_wr hw H.r1 (by omega), fun o => (hw.frz _ _ (by omega)).trans (H.rf o), cell_wr hw H.d0 (by omega), cell_wr hw H.d1 (by omega), H.rows.wr hw (fun b hb => by omega), H.puts.wr hw (fun b hb => by omega)⟩
/-- Nothing below E is touched. -/
theorem CkAt.keep {w : World} {s : Nat} {v : Value} {bs : List Nat} {D E : Nat} {u y : Value} {xss : List (List Int)} {ps : List (Int × List Int)} {N t5 : Nat} {wr w6 : World} (H : CkAt w s v bs D E u y xss ps N t5 wr) (hb : Below E wr w6) (hS : Src s v bs w6 t5) :
    CkAt w s v bs D E u y xss ps N t5 w6 := by
  have h1 := H.sw
  have h2 := H.sD
  have h3 := H.dE
  have h4 := H.eW
  exact ⟨hS, H.tb, H.below.trans (hb.mono (by omega)), H.sw, H.sD, H.dE, Nat.le_trans H.eW hb.size, (hb.cell (p := ⟨w.heap.size, 0, none⟩) (by dsimp only; omega)).trans H.r0, (hb.cell (p := ⟨w.heap.size, 1, none⟩) (by dsimp only; omega)).trans H.r1, fun o => (hb.frozen (p := ⟨w.heap.size, o, none⟩) (by dsimp only; omega)).trans (H.rf o), (hb.cell (p := ⟨D, 0, none⟩) h3).trans H.d0, (hb.cell (p := ⟨D, 1, none⟩) h3).trans H.d1, H.rows.keep (fun b hb' => hb.block b hb'.2) (fun b hb' => hb'), H.puts.keep (fun b hb' => hb.block b hb'.2) (fun b hb' => hb')⟩

/-- All has been drawn. -/
structure CkEnd (w : World) (D E : Nat) (u y : Value) (xss : List (List Int)) (ps : List (Int × List Int)) (wr : World) : Prop where
  below : Below w.heap.size w wr
  r0 : wr.cell? ⟨w.heap.size, 0, none⟩ = some (.slice none 0 0)
  r1 : wr.cell? ⟨w.heap.size, 1, none⟩ = some (.slice none 0 0)
  rf : ∀ o, wr.frozen? ⟨w.heap.size, o, none⟩ = false
  d0 : wr.cell? ⟨D, 0, none⟩ = some u
  d1 : wr.cell? ⟨D, 1, none⟩ = some y
  rows : RdII (fun b => w.heap.size < b ∧ b < E) wr u xss
  puts : RdP (fun b => w.heap.size < b ∧ b < E) wr y ps
theorem CkAt.end {w : World} {s : Nat} {v : Value} {bs : List Nat} {D E : Nat} {u y : Value} {xss : List (List Int)} {ps : List (Int × List Int)} {N t5 : Nat} {wr w6 : World} (H : CkAt w s v bs D E u y xss ps N t5 wr) (hb : Below E wr w6) : CkEnd w D E u y xss ps w6 := by
  have h1 := H.sw
  have h2 := H.sD
  have h3 := H.dE
  exact ⟨H.below.trans (hb.mono (by omega)), (hb.cell (p := ⟨w.heap.size, 0, none⟩) (by dsimp only; omega)).trans H.r0, (hb.cell (p := ⟨w.heap.size, 1, none⟩) (by dsimp only; omega)).trans H.r1, fun o => (hb.frozen (p := ⟨w.heap.size, o, none⟩) (by dsimp only; omega)).trans (H.rf o), (hb.cell (p := ⟨D, 0, none⟩) h3).trans H.d0, (hb.cell (p := ⟨D, 1, none⟩) h3).trans H.d1, H.rows.keep (fun b hb' => hb.block b hb'.2) (fun b hb' => by omega), H.puts.keep (fun b hb' => hb.block b hb'.2) (fun b hb' => by omega)⟩

/-- What 'DrawCrashDisk' leaves. -/
def EndsC (w : World) (e : Ending) (w' : World) : Prop :=
  ∃ (u y z : Value) (xss : List (List Int)) (ps : List (Int × List Int)) (qs : List Int), e = .returned (.tuple #[.agg #[u, y], z]) ∧ Below w.heap.size w w' ∧ Small xss ps ∧ qs.length ≤ 1000 ∧ RdII (fun _ => True) w' u xss ∧ RdP (fun _ => True) w' y ps ∧ RdI (fun _ => True) w' z qs

theorem CkEnd.fin {w : World} {D E : Nat} {u y z : Value} {xss : List (List Int)} {ps : List (Int × List Int)} {qs : List Int} {wr : World} (H : CkEnd w D E u y xss ps wr) (hs : Small xss ps) (hq : qs.length ≤ 1000) (hz : RdI (fun b => w.heap.size < b) wr z qs) :
    EndsC w (.returned (.tuple #[.agg #[u, y], z])) ((wr.setCell ⟨w.heap.size, 0, none⟩ u).setCell ⟨w.heap.size, 1, none⟩ y) := by
  have hW : Wr (fun b => b = w.heap.size) wr ((wr.setCell ⟨w.heap.size, 0, none⟩ u).setCell ⟨w.heap.size, 1, none⟩ y) := ((Wr.refl (fun b => b = w.heap.size) _).setCell (p := ⟨w.heap.size, 0, none⟩) rfl _).setCell (p := ⟨w.heap.size, 1, none⟩) rfl _
  exact ⟨u, y, z, xss, ps, qs, rfl, (H.below.setCell (by simp) _).setCell (by simp) _, hs, hq, (H.rows.wr hW (fun b hb => by omega)).keep (fun _ _ => rfl) (fun _ _ => trivial), (H.puts.wr hW (fun b hb => by omega)).keep (fun _ _ => rfl) (fun _ _ => trivial), (hz.wr hW (fun _ b hb => by omega)).narrow (fun _ _ _ => trivial)⟩

set_option maxHeartbeats 4000000 in
set_option maxRecDepth 4000 in
/-- 'DrawCrashDisk': some disk and some picks. -/
theorem drawCrash {w : World} {v : Value} {bs : List Nat} (hv : RdB (w.heap.size + 1) w v bs) :
    Calls Try.prog 10 #[v] w (EndsC w) := by
  obtain ⟨i0, hi, hz0, hz1, hz2⟩ := info_parts Try.infoInt
  have hv1 : RdB (w.alloc (.cells #[.slice none 0 0, .slice none 0 0] 27)).heap.size (w.alloc (.cells #[.slice none 0 0, .slice none 0 0] 27)) v bs := by
    obtain ⟨ao, c, e1, e2, e3⟩ := hv
    refine ⟨ao, c, e1, e2, fun hne => ?_⟩
    obtain ⟨b, off, f1, f2, f3⟩ := e3 hne
    exact ⟨b, off, f1, by simpa using f2, fun i hi => ⟨cell_later (below_alloc _ _) (f3 i hi).1, (f3 i hi).2⟩⟩
  have HV := hide hv1
  obtain ⟨ao, c, rfl, h2, h3⟩ := hv
  clear h2 h3 hv1
  go_enter Try.func10, Try.ntmps10
  go_wp2_with fail
  refine (l1Source HV.out).mono ?_
  rintro e w1 ⟨he, hb1, hz1', hS1⟩
  rw [World.size_alloc] at he hz1' hS1
  subst he
  have HB1 := hide (below_on (below_alloc w (.cells #[.slice none 0 0, .slice none 0 0] 27)) hb1)
  have HS1 := hide hS1
  have r0 : w1.cell? ⟨w.heap.size, 0, none⟩ = some (.slice none 0 0) := cell_later hb1 (by simp [go_sem])
  have r1 : w1.cell? ⟨w.heap.size, 1, none⟩ = some (.slice none 0 0) := cell_later hb1 (by simp [go_sem])
  have rf : ∀ o, w1.frozen? ⟨w.heap.size, o, none⟩ = false := fun o => ((bcell hb1).2 _ _ (by simp)).trans (by simp [go_sem])
  clear hb1 hS1
  go_wp2_with fail
  refine (l1Disk HS1.out (by omega)).mono ?_
  rintro e w2 ⟨au, ay, cu, cy, xss, ps, t2, rfl, hd2, hsm, hu, hy⟩
  have HSm := hide hsm
  have hw := hd2.2.1
  have hs2 := hw.size
  obtain ⟨n, hn⟩ : ∃ n, xss.length = n := ⟨_, rfl⟩
  obtain ⟨m, hm⟩ : ∃ m, ps.length = m := ⟨_, rfl⟩
  rw [hn] at hu ⊢
  rw [hm] at hy ⊢
  have HA : Hid (CkAt w (w.heap.size + 1) (.slice ao bs.length c) bs w2.heap.size (w2.heap.size + 1) (.slice au n cu) (.slice ay m cy) xss ps 3000 t2 (w2.alloc (.cells #[.slice au n cu, .slice ay m cy] 27))) := by
    have hb := below_alloc w2 (.cells #[.slice au n cu, .slice ay m cy] 27)
    refine ⟨hd2.1.later hb, by have := hd2.2.2; omega, (HB1.out.trans (hw.below (by omega) (fun b hb => by omega))).trans (hb.mono (by omega)), rfl, by omega, by omega, by simp, cell_later hb (cell_wr hw r0 (by omega)), cell_later hb (cell_wr hw r1 (by omega)), fun o => ((bcell hb).2 _ _ (by omega)).trans ((hw.frz _ _ (by omega)).trans (rf o)), by simp [go_sem], by simp [go_sem], ?_, ?_⟩
    · exact (hu.bnd.later hb).keep (fun _ _ => rfl) (fun b hb => by omega)
    · exact (hy.bnd.later hb).keep (fun _ _ => rfl) (fun b hb => by omega)
  clear hd2 hw hs2 hu hy hsm r0 r1 rf hn hm HB1 HS1 hz1'
  go_upto_region 3 with fail
  obtain ⟨D, hD⟩ : ∃ D, w2.heap.size = D := ⟨_, rfl⟩
  obtain ⟨s, hs⟩ : ∃ s, w.heap.size + 1 = s := ⟨_, rfl⟩
  rw [hD, hs] at HA
  rw [hD, hs]
  refine forget' (fun wx => CkAt w s (.slice ao bs.length c) bs D (D + 1) (.slice au n cu) (.slice ay m cy) xss ps 3000 t2 wx) HA.out ?_
  clear HA hs hD
  rintro V0 hV0
  have HA := hide hV0
  clear hV0
  go_wp2_with fail
  refine (l1Next 9 HA.out.src (by have := HA.out.tb; omega) (by omega) (by omega)).mono ?_
  rintro e w3 ⟨k1, rfl, k1a, k1b, t3, hd3⟩
  have k1c := k1b (by omega)
  obtain ⟨K, rfl⟩ : ∃ K : Nat, k1 = (K : Int) := ⟨k1.toNat, (Int.toNat_of_nonneg k1a).symm⟩
  have HA3 := hide (HA.out.on hd3)
  clear hd3 k1b HA
  go_wp2_with fail
  refine (l1Picks HA3.out.src (by have := HA3.out.tb; omega) K (by omega)).mono ?_
  rintro e w4 ⟨ap, cp, qs, rfl, hql, hown, t4, hd4⟩
  have HA4 := hide (HA3.out.on hd4)
  have HO4 := hide hown
  have HQL := hide hql
  have hE3 := HA3.out.eW
  have hDD := HA3.out.sD
  have hsw := HA3.out.sw
  have hz4 := hd4.2.1.size
  obtain ⟨B3, hB3⟩ : ∃ B3, w3.heap.size = B3 := ⟨_, rfl⟩
  rw [hB3] at HO4 hE3 hz4
  clear hd4 hown hql HA3 hB3
  go_wp2_with fail
  refine (l1Next 20 HA4.out.src (by have := HA4.out.tb; omega) (by omega) (by omega)).mono ?_
  rintro e w5 ⟨k, rfl, ka, kb, t5, hd5⟩
  have HA5 := hide (HA4.out.on hd5)
  have HO5 := hide (ownsRow_wr HO4.out hd5.2.1 (ownBlock_ne HO4.out (by omega)))
  have hz5 := hd5.2.1.size
  clear hd5 kb HA4 HO4 ka
  have hE5 := HA5.out.eW
  by_cases hk0 : k = 0
  · subst hk0
    have HA6 : Hid (CkAt w s (.slice ao bs.length c) bs D (D + 1) (.slice au n cu) (.slice ay m cy) xss ps (3000 + 1 + K + 1) t5 (w5.alloc (.cells #[.int .i64 4, .int .i64 (-1)] 2))) := HA5.out.keep ((below_alloc w5 _).mono hE5) (HA5.out.src.later (below_alloc _ _))
    go_wp2_with fail
    refine (l1Pick (xs := [4, -1]) HA6.out.src (by have := HA6.out.tb; omega) (RdI_new s w5 [4, -1] 2 (by omega) (by simp)) (by simp) (by simp)).mono ?_
    rintro e w6 ⟨i, hi3, rfl, t6, hd6⟩
    obtain ⟨x, hx⟩ : ∃ x : Int, ([4, -1] : List Int).getD i 0 = x := ⟨_, rfl⟩
    rw [hx]
    have HA7 := hide (HA6.out.on hd6)
    have HO7 := hide (ownsRow_wr (HO5.out.alloc (.cells #[.int .i64 4, .int .i64 (-1)] 2)) hd6.2.1 (ownBlock_ne HO5.out (by omega)))
    have hz6 := hd6.2.1.size
    simp only [World.size_alloc] at hz6
    clear hd6 hx hi3 HA6
    have hK8 : K ≤ 8 := by omega
    go_wp2_with (at_builtin; refine wpList_append_lies _ rfl _ _ _ rfl B3 2 i0 (.int .i64 0) 1 8 Try.underlying28 hi hz0 hz1 hz2 rfl (by omega) _ K _ (by rfl) (HO7.out.alloc _) ⟨w6.heap.size, 0, none⟩ 1 1 [.int .i64 x] (by rfl) (by rfl) (World.news_of_block (cs := #[.int .i64 x]) (t := 2) (fr := (0, 0)) (heap_alloc_new w6 _)) (by simp [Value.oneCell']) (by omega) (by unfold maxLen; omega) (by omega) (by simp; omega) (w6.heap.size + 1) (by simp) ?_)
    intro g cap w8 hown hgrow hat hlt8
    have HB8 := hide ((Below.mono (below_alloc w6 (.cells #[.int .i64 x] 2)) (show B3 ≤ w6.heap.size by omega)).grown hgrow (by simp; omega) (fun r hr => (HO7.out.lt r hr).1))
    have HA8 := hide (HA7.out.end (HB8.out.mono hE3))
    have hl8 : (qs ++ [x]).length = K + 1 := by rw [List.length_append, HQL.out]; rfl
    have HZ8 := hide (ow_of_owns hl8 (by rw [List.map_append]; exact hown : w8.ownsRow B3 2 1 (.slice (some ⟨g, 0, none⟩) (K + 1) cap) (K + 1) ((qs ++ [x]).map (Value.int .i64))) (by omega))
    have HL8 := hide hl8
    clear hown hgrow hat hlt8 HB8 HO7 HA7 hl8
    have q0 := HA8.out.d0
    have q1 := HA8.out.d1
    have r0 := HA8.out.r0
    have r1 := HA8.out.r1
    have f0 := HA8.out.rf 0
    have f1 := HA8.out.rf 1
    go_wp2
    exact bodyPost_ret (v := .tuple #[.agg #[.slice au n cu, .slice ay m cy], .slice (some ⟨g, 0, none⟩) (K + 1) cap]) (by simp [results, Try.results10, go_sem, r0, r1]) rfl (HA8.out.fin HSm.out (by rw [HL8.out]; omega) (HZ8.out.rd.narrow (fun _ b hb => by have h1 : B3 ≤ b := hb.1; omega)))
  · by_cases hk1 : k = 1
    · subst hk1
      have HI := hide (made_ints w5 201 (by omega) 2)
      have hmk : ∀ w, (Instr.makeSlice 28 (.int .i64 201) (.int .i64 201)).run Try.prog w = .ok (.slice (some ⟨w.heap.size, 0, none⟩) 201 201) (w.alloc (.cells (madeCells #[.int .i64 0] 201) 2)) := run_make_row' (P := Try.prog) 28 2 (.int .i64 0) 8 Try.underlying28 Try.infoInt rfl .i64 .i64 201 (by omega) (by omega)
      generalize madeCells #[.int .i64 0] 201 = MC at hmk HI
      have HA6 : Hid (CkAt w s (.slice ao bs.length c) bs D (D + 1) (.slice au n cu) (.slice ay m cy) xss ps (3000 + 1 + K + 1) t5 (w5.alloc (.cells MC 2))) := HA5.out.keep ((below_alloc w5 _).mono hE5) (HA5.out.src.later (below_alloc _ _))
      have q0 := HA6.out.d0
      have q1 := HA6.out.d1
      have r0 := HA6.out.r0
      have r1 := HA6.out.r1
      have f0 := HA6.out.rf 0
      have f1 := HA6.out.rf 1
      go_wp2
      exact bodyPost_ret (v := .tuple #[.agg #[.slice au n cu, .slice ay m cy], .slice (some ⟨w5.heap.size, 0, none⟩) 201 201]) (by simp [results, Try.results10, go_sem, r0, r1]) rfl ((HA6.out.end (Below.refl _ _)).fin HSm.out (qs := List.replicate 201 0) (by simp) (HI.out.rd.narrow (fun _ b hb => by have h1 : w5.heap.size ≤ b := hb.1; omega)))
    · have q0 := HA5.out.d0
      have q1 := HA5.out.d1
      have r0 := HA5.out.r0
      have r1 := HA5.out.r1
      have f0 := HA5.out.rf 0
      have f1 := HA5.out.rf 1
      have HZ5 := hide (ow_of_owns HQL.out HO5.out (by rw [HQL.out]; omega))
      go_wp2
      exact bodyPost_ret (v := .tuple #[.agg #[.slice au n cu, .slice ay m cy], .slice ap K cp]) (by simp [results, Try.results10, go_sem, r0, r1]) rfl ((HA5.out.end (Below.refl _ _)).fin HSm.out (by rw [HQL.out]; omega) (HZ5.out.rd.narrow (fun _ b hb => by have h1 : B3 ≤ b := hb.1; omega)))
end Go.Proofs.Ytaccllclihbpfaa
