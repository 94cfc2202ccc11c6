/- The model's draw of a disk: 'spec.l1New', 'spec.l1Disk', walked. -/
import Derived.Test.YtaccllclihbpfaaDraw9
namespace Go.Proofs.Ytaccllclihbpfaa
open Go.RowKit

theorem made_rowsN (w : World) (n : Nat) (e : TypeId) (i : Nat) (hi : i < n) : (w.alloc (.cells (madeCells #[.slice none 0 0] n) e)).cell? ⟨w.heap.size, i, none⟩ = some (.slice none 0 0) := by
  have := (World.rowIs_made w (.slice none 0 0) n e).cell hi
  simpa using this

/-- 'l1New': where its rows lie. -/
theorem l1NewAt (n : Nat) (hn : n ≤ 1000) (w : World) :
    Calls Try.prog 113 #[.int .i64 (n : Int)] w fun e w' => e = .returned (.agg #[.slice (some ⟨w.heap.size + 1, 0, none⟩) n n, .slice none 0 0]) ∧ Below w.heap.size w w' ∧ w'.heap.size = w.heap.size + 2 ∧ (∀ i, i < n → w'.cell? ⟨w.heap.size + 1, i, none⟩ = some (.slice none 0 0)) ∧ ∀ o, w'.frozen? ⟨w.heap.size + 1, o, none⟩ = false := by
  have hmk : ∀ w, (Instr.makeSlice 24 (.int .i64 (n : Int)) (.int .i64 (n : Int))).run Try.prog w = .ok (.slice (some ⟨w.heap.size, 0, none⟩) n n) (w.alloc (.cells (madeCells #[.slice none 0 0] n) 28)) := run_make_row' (P := Try.prog) 24 28 (.slice none 0 0) 24 Try.underlying24 Try.infoInts rfl .i64 .i64 n (by omega) (by omega)
  have hmc : Hid (∀ (w : World) (e : TypeId) (i : Nat), i < n → (w.alloc (.cells (madeCells #[.slice none 0 0] n) e)).cell? ⟨w.heap.size, i, none⟩ = some (.slice none 0 0)) := fun w e i hi => made_rowsN w n e i hi
  generalize madeCells #[.slice none 0 0] n = MC at hmk hmc
  go_enter Try.func113, Try.ntmps113
  go_wp2
  refine bodyPost_ret (v := .agg #[.slice (some ⟨w.heap.size + 1, 0, none⟩) n n, .slice none 0 0]) (by simp [results, Try.results113, go_sem]) rfl ⟨rfl, below_on (below_alloc _ _) (below_alloc _ _), by simp, fun i hi => ?_, fun o => by simp [go_sem]⟩
  have h := hmc.out (w.alloc (.cells #[.slice (some ⟨w.heap.size + 1, 0, none⟩) n n, .slice none 0 0] 27)) 28 i hi
  rw [World.size_alloc] at h
  exact h

/-- What 'l1Disk' leaves. -/
def EndsK (w : World) (s : Nat) (v : Value) (bs : List Nat) (t : Nat) (e : Ending) (w' : World) : Prop :=
  ∃ (ao ao' : Option Addr) (c c' : Nat) (xss : List (List Int)) (ps : List (Int × List Int)) (t' : Nat), e = .returned (.agg #[.slice ao xss.length c, .slice ao' ps.length c']) ∧ Drawn 3000 s v bs t t' w w' ∧ Small xss ps ∧
    RdII (fun b => w.heap.size < b) w' (.slice ao xss.length c) xss ∧ RdP (fun b => w.heap.size < b) w' (.slice ao' ps.length c') ps

/-- The end: the disk's variable is read into the result's. -/
theorem endsK {w : World} {s : Nat} {v : Value} {bs : List Nat} {t N t5 : Nat} {wr : World} {ao ao' : Option Addr} {c c' n m : Nat} {xss : List (List Int)} {ps : List (Int × List Int)} (hS : Src s v bs w t) (hd : Drawn N s v bs t t5 w wr) (hN : N ≤ 3000) (hn : xss.length = n) (hm : ps.length = m)
    (hs : Small xss ps) (hu : RdII (fun b => w.heap.size < b) wr (.slice ao n c) xss) (hv : RdP (fun b => w.heap.size < b) wr (.slice ao' m c') ps) :
    EndsK w s v bs t (.returned (.agg #[.slice ao n c, .slice ao' m c'])) ((wr.setCell ⟨w.heap.size, 0, none⟩ (.slice ao n c)).setCell ⟨w.heap.size, 1, none⟩ (.slice ao' m c')) := by
  subst hn hm
  have hB : Below w.heap.size wr ((wr.setCell ⟨w.heap.size, 0, none⟩ (.slice ao xss.length c)).setCell ⟨w.heap.size, 1, none⟩ (.slice ao' ps.length c')) := ((Below.refl _ _).setCell (by simp) _).setCell (by simp) _
  have hW : Wr (fun y => y = w.heap.size) wr ((wr.setCell ⟨w.heap.size, 0, none⟩ (.slice ao xss.length c)).setCell ⟨w.heap.size, 1, none⟩ (.slice ao' ps.length c')) := ((Wr.refl (fun y => y = w.heap.size) _).setCell (p := ⟨w.heap.size, 0, none⟩) rfl _).setCell (p := ⟨w.heap.size, 1, none⟩) rfl _
  exact ⟨ao, ao', c, c', xss, ps, t5, rfl, (hd.onBelow hS hB).mono hN, hs, hu.wr hW (fun b hb => by omega), hv.wr hW (fun b hb => by omega)⟩

/-- No words at all: rows. -/
theorem RdII_empty (S : Nat → Prop) (w : World) (g n : Nat) (hS : S g) (hn : n ≤ 1000) (h : ∀ i, i < n → w.cell? ⟨g, i, none⟩ = some (.slice none 0 0)) : RdII S w (.slice (some ⟨g, 0, none⟩) n n) (List.replicate n []) := by
  refine ⟨some ⟨g, 0, none⟩, n, by simp, by simp; omega, fun _ => ⟨g, 0, fun _ => .slice none 0 0, rfl, hS, fun i hi => ?_⟩⟩
  have hi' : i < n := by simpa using hi
  rw [Nat.zero_add]
  refine ⟨h i hi', ?_⟩
  have e : (List.replicate n ([] : List Int)).getD i [] = [] := by simp only [List.getD, List.getElem?_replicate]; split <;> rfl
  rw [e]
  exact ⟨none, 0, by simp, by simp, fun h => absurd rfl h⟩
/-- No words at all: puts. -/
theorem RdP_empty (S : Nat → Prop) (w : World) (g n : Nat) (hS : S g) (hn : n ≤ 1000) (h : ∀ i, i < n → w.cell? ⟨g, i * 2, none⟩ = some (.int .i64 0) ∧ w.cell? ⟨g, i * 2 + 1, none⟩ = some (.slice none 0 0)) : RdP S w (.slice (some ⟨g, 0, none⟩) n n) (List.replicate n (0, [])) := by
  refine ⟨some ⟨g, 0, none⟩, n, by simp, by simp; omega, fun _ => ⟨g, 0, fun _ => .slice none 0 0, rfl, hS, fun i hi => ?_⟩⟩
  have hi' : i < n := by simpa using hi
  have e : (List.replicate n ((0 : Int), ([] : List Int))).getD i (0, []) = (0, []) := by simp only [List.getD, List.getElem?_replicate]; split <;> rfl
  rw [e]
  simp only [Nat.zero_add]
  exact ⟨(h i hi').1, (h i hi').2, ⟨none, 0, by simp, by simp, fun h => absurd rfl h⟩⟩

/-- A disk that has been drawn, in its variable. -/
structure DkEnd (w : World) (s : Nat) (v : Value) (bs : List Nat) (t D : Nat) (ao ao' : Option Addr) (n c m c' : Nat) (xss : List (List Int)) (ps : List (Int × List Int)) (N t5 : Nat) (wr : World) : Prop where
  dr : Drawn N s v bs t t5 w wr
  r0 : wr.cell? ⟨w.heap.size, 0, none⟩ = some (.slice none 0 0)
  r1 : wr.cell? ⟨w.heap.size, 1, none⟩ = some (.slice none 0 0)
  rf : ∀ o, wr.frozen? ⟨w.heap.size, o, none⟩ = false
  d0 : wr.cell? ⟨D, 0, none⟩ = some (.slice ao n c)
  d1 : wr.cell? ⟨D, 1, none⟩ = some (.slice ao' m c')
  hn : xss.length = n
  hm : ps.length = m
  small : Small xss ps
  rows : RdII (fun b => w.heap.size < b) wr (.slice ao n c) xss
  puts : RdP (fun b => w.heap.size < b) wr (.slice ao' m c') ps

theorem DkAt.end {w : World} {s : Nat} {v : Value} {bs : List Nat} {t G D M n c : Nat} {ac : Option Addr} {ps : List (Int × List Int)} {N t5 : Nat} {wr : World} (H : DkAt w s v bs t w.heap.size G D M n (.slice ac ps.length c) ps N t5 wr) (hn : n ≤ 8) (hm : ps.length ≤ 201) :
    ∃ xss, DkEnd w s v bs t D (some ⟨G, 0, none⟩) ac n n ps.length c xss ps N t5 wr := by
  obtain ⟨xss, h1, h2, h3⟩ := rows_lists H.rG H.wide hn
  exact ⟨xss, H.dr, H.r0, H.r1, H.rf, H.d0, H.d1, h1, rfl, small_of (by omega) h2 hm H.words, h3, H.rdP (by omega)⟩

theorem DkAt.endRow {w : World} {s : Nat} {v : Value} {bs : List Nat} {t G D M n c : Nat} {ac : Option Addr} {ps : List (Int × List Int)} {N t5 a : Nat} {wr : World} {z : Value} {xs : List Int} (hS : Src s v bs w t) (H : DkAt w s v bs t w.heap.size G D M n (.slice ac ps.length c) ps N t5 wr) (hn : n ≤ 8) (hm : ps.length ≤ 201)
    (hz : RdI (fun b => D < b) wr z xs) (hx : xs.length ≤ 65) :
    ∃ xss, DkEnd w s v bs t D (some ⟨G, 0, none⟩) ac n n ps.length c xss ps N t5 (wr.setCell ⟨G, a, none⟩ z) := by
  have k2 := H.rG
  have k3 := H.gD
  have k4 := H.dM
  have k5 := H.mW
  have hB : Below w.heap.size wr (wr.setCell ⟨G, a, none⟩ z) := (Below.refl _ _).setCell (p := ⟨G, a, none⟩) (by dsimp only; omega) _
  have hW : Wr (fun y => y = G) wr (wr.setCell ⟨G, a, none⟩ z) := (Wr.refl (fun y => y = G) _).setCell (p := ⟨G, a, none⟩) rfl _
  obtain ⟨xss, h1, h2, h3⟩ := rows_lists (wr := wr.setCell ⟨G, a, none⟩ z) H.rG (fun i hi => by
    obtain ⟨y, ys, e1, e2, e3⟩ := H.rows i hi
    by_cases e : i = a
    · subst e
      exact ⟨z, xs, World.cell?_setCell_same _ _ _ e1, (hz.wr hW (fun _ b hb => by omega)).narrow (fun _ b hb => by omega), hx⟩
    · exact ⟨y, ys, (World.cell?_setCell_other _ _ _ _ (by intro h'; injection h' with _ h'; exact e h'.symm)).trans e1, (e2.wr hW (fun _ b hb => by omega)).narrow (fun _ b hb => by omega), e3⟩) hn
  exact ⟨xss, H.dr.onBelow hS hB, cell_wr hW H.r0 (by omega), cell_wr hW H.r1 (by omega), fun o => (hW.frz _ _ (by omega)).trans (H.rf o), cell_wr hW H.d0 (by omega), cell_wr hW H.d1 (by omega), h1, rfl, small_of (by omega) h2 hm H.words, h3, (((H.puts.set (fun b hb => by omega)).ow rfl (by omega)).mono (fun b hb => by have := hb.1; omega)).rd⟩

theorem DkAt.end71 {w : World} {s : Nat} {v : Value} {bs : List Nat} {t G D M n c : Nat} {ac : Option Addr} {ps : List (Int × List Int)} {N t5 : Nat} {wr : World} {o : Obj} (hS : Src s v bs w t) (H : DkAt w s v bs t w.heap.size G D M n (.slice ac ps.length c) ps N t5 wr) (hm : ps.length ≤ 201)
    (ho : ∀ i, i < 71 → (wr.alloc o).cell? ⟨wr.heap.size, i, none⟩ = some (.slice none 0 0)) :
    DkEnd w s v bs t D (some ⟨wr.heap.size, 0, none⟩) ac 71 71 ps.length c (List.replicate 71 []) ps N t5 ((wr.alloc o).setCell ⟨D, 0, none⟩ (.slice (some ⟨wr.heap.size, 0, none⟩) 71 71)) := by
  have k2 := H.rG
  have k3 := H.gD
  have k4 := H.dM
  have k5 := H.mW
  have H2 := H.later (below_alloc wr o)
  have hB : Below w.heap.size (wr.alloc o) ((wr.alloc o).setCell ⟨D, 0, none⟩ (.slice (some ⟨wr.heap.size, 0, none⟩) 71 71)) := (Below.refl _ _).setCell (p := ⟨D, 0, none⟩) (by dsimp only; omega) _
  have hW : Wr (fun y => y = D) (wr.alloc o) ((wr.alloc o).setCell ⟨D, 0, none⟩ (.slice (some ⟨wr.heap.size, 0, none⟩) 71 71)) := (Wr.refl (fun y => y = D) _).setCell (p := ⟨D, 0, none⟩) rfl _
  refine ⟨H2.dr.onBelow hS hB, cell_wr hW H2.r0 (by omega), cell_wr hW H2.r1 (by omega), fun o => (hW.frz _ _ (by simp; omega)).trans (H2.rf o), World.cell?_setCell_same _ _ _ H2.d0, (World.cell?_setCell_other _ _ _ _ (by simp)).trans H2.d1, by simp, rfl, small_of (by simp) (fun i => ?_) hm H.words, RdII_empty _ _ _ _ (by omega) (by omega) (fun i hi => cell_wr hW (ho i hi) (by omega)), (((H2.puts.set (fun b hb => by omega)).ow rfl (by omega)).mono (fun b hb => by have := hb.1; omega)).rd⟩
  have e : (List.replicate 71 ([] : List Int)).getD i [] = [] := by simp only [List.getD, List.getElem?_replicate]; split <;> rfl
  rw [e]
  simp

theorem DkAt.endPuts {w : World} {s : Nat} {v : Value} {bs : List Nat} {t G D M n : Nat} {vc : Value} {ps : List (Int × List Int)} {N t5 : Nat} {wr : World} {o : Obj} (m : Nat) (hS : Src s v bs w t) (H : DkAt w s v bs t w.heap.size G D M n vc ps N t5 wr) (hn : n ≤ 8) (hm : m ≤ 201)
    (ho : ∀ i, i < m → (wr.alloc o).cell? ⟨wr.heap.size, i * 2, none⟩ = some (.int .i64 0) ∧ (wr.alloc o).cell? ⟨wr.heap.size, i * 2 + 1, none⟩ = some (.slice none 0 0)) :
    ∃ xss, DkEnd w s v bs t D (some ⟨G, 0, none⟩) (some ⟨wr.heap.size, 0, none⟩) n n m m xss (List.replicate m (0, [])) N t5 ((wr.alloc o).setCell ⟨D, 1, none⟩ (.slice (some ⟨wr.heap.size, 0, none⟩) m m)) := by
  have k2 := H.rG
  have k3 := H.gD
  have k4 := H.dM
  have k5 := H.mW
  have H2 := H.later (below_alloc wr o)
  have hB : Below w.heap.size (wr.alloc o) ((wr.alloc o).setCell ⟨D, 1, none⟩ (.slice (some ⟨wr.heap.size, 0, none⟩) m m)) := (Below.refl _ _).setCell (p := ⟨D, 1, none⟩) (by dsimp only; omega) _
  have hW : Wr (fun y => y = D) (wr.alloc o) ((wr.alloc o).setCell ⟨D, 1, none⟩ (.slice (some ⟨wr.heap.size, 0, none⟩) m m)) := (Wr.refl (fun y => y = D) _).setCell (p := ⟨D, 1, none⟩) rfl _
  obtain ⟨xss, h1, h2, h3⟩ := rows_lists (wr := (wr.alloc o).setCell ⟨D, 1, none⟩ (.slice (some ⟨wr.heap.size, 0, none⟩) m m)) H.rG (fun i hi => by
    obtain ⟨y, ys, e1, e2, e3⟩ := H2.rows i hi
    exact ⟨y, ys, cell_wr hW e1 (by omega), (e2.wr hW (fun _ b hb => by omega)).narrow (fun _ b hb => by omega), e3⟩) hn
  refine ⟨xss, H2.dr.onBelow hS hB, cell_wr hW H2.r0 (by omega), cell_wr hW H2.r1 (by omega), fun o => (hW.frz _ _ (by simp; omega)).trans (H2.rf o), (World.cell?_setCell_other _ _ _ _ (by simp)).trans H2.d0, World.cell?_setCell_same _ _ _ H2.d1, h1, by simp, small_of (by omega) h2 (by simp; omega) (fun i hi => ?_), h3, RdP_empty _ _ _ _ (by omega) (by omega) (fun i hi => ⟨cell_wr hW (ho i hi).1 (by omega), cell_wr hW (ho i hi).2 (by omega)⟩)⟩
  have e : (List.replicate m ((0 : Int), ([] : List Int))).getD i (0, []) = (0, []) := by simp only [List.getD, List.getElem?_replicate]; split <;> rfl
  rw [e]
  simp

set_option maxHeartbeats 8000000 in
set_option maxRecDepth 4000 in
/-- 'l1Disk': some disk of new memory. -/
theorem l1Disk {s : Nat} {v : Value} {bs : List Nat} {w : World} {t : Nat} (hS : Src s v bs w t) (ht : t ≤ 1000) :
    Calls Try.prog 54 #[.pointer (some ⟨s, 0, none⟩)] w (EndsK w s v bs t) := by
  have HS := hide hS
  have hsl := hS.lt
  obtain ⟨i0, hi, hz0, hz1, hz2⟩ := info_parts Try.infoPut
  clear hS
  have D0 := hide ((Drawn.refl HS.out).later (below_alloc w (.cells #[.slice none 0 0, .slice none 0 0] 27)))
  go_enter Try.func54, Try.ntmps54
  go_wp2_with fail
  refine (l1Next 8 D0.out.1 (by omega) (by omega) (by omega)).mono ?_
  rintro e w1 ⟨n1, rfl, n1a, n1b, t1, hd1⟩
  have n1c := n1b (by omega)
  have D1 := hide (D0.out.on hd1)
  have x0 : w1.cell? ⟨w.heap.size, 0, none⟩ = some (.slice none 0 0) := cell_wr hd1.2.1 (by simp [go_sem]) (by omega)
  have x1 : w1.cell? ⟨w.heap.size, 1, none⟩ = some (.slice none 0 0) := cell_wr hd1.2.1 (by simp [go_sem]) (by omega)
  have xf : ∀ o, w1.frozen? ⟨w.heap.size, o, none⟩ = false := fun o => (hd1.2.1.frz _ _ (by simp)).trans (by simp [go_sem])
  have hz1' : w.heap.size < w1.heap.size := World.block_lt_of_cell? _ _ x0
  clear hd1 n1b
  obtain ⟨n, hn⟩ : ∃ n : Nat, 1 + n1 = (n : Int) := ⟨(1 + n1).toNat, by omega⟩
  have hn8 : n ≤ 8 := by omega
  have hn1 : 1 ≤ n := by omega
  have HNw := hide (fun (w : World) => l1NewAt n (by omega) w)
  go_wp2_with fail
  refine (HNw.out _).mono ?_
  rintro e w2 ⟨rfl, hb2, hz2', hc2, hf2⟩
  have HA : Hid (DkAt w s v bs t w.heap.size (w1.heap.size + 1) w2.heap.size (w2.heap.size + 1) n (.slice none 0 0) [] 1 t1 (w2.alloc (.cells #[.slice (some ⟨w1.heap.size + 1, 0, none⟩) n n, .slice none 0 0] 27))) := by
    have hb := below_alloc w2 (.cells #[.slice (some ⟨w1.heap.size + 1, 0, none⟩) n n, .slice none 0 0] 27)
    have hb' := below_on hb2 hb
    refine ⟨(D1.out.later hb').mono (by omega), Nat.le_refl _, by omega, by omega, Nat.le_refl _, by simp, cell_later hb' x0, cell_later hb' x1, fun o => ((bcell hb').2 _ _ hz1').trans (xf o), by simp [go_sem], by simp [go_sem], fun o => by simp [go_sem], fun o => ((bcell hb).2 _ _ (by omega)).trans (hf2 o), fun i hi => ⟨.slice none 0 0, [], cell_later hb (hc2 i hi), ⟨none, 0, by simp, by simp, fun h => absurd rfl h⟩, by simp⟩, BuiltP.nil _ _ _, fun i hi => absurd hi (Nat.not_lt_zero _)⟩
  obtain ⟨G, hG⟩ : ∃ G, w1.heap.size + 1 = G := ⟨_, rfl⟩
  obtain ⟨D, hD⟩ : ∃ D, w2.heap.size = D := ⟨_, rfl⟩
  rw [hG, hD] at HA
  rw [hG]
  clear x0 x1 xf hb2 hc2 hf2 D0 D1 HNw hz2'
  go_upto_region 3 with fail
  refine forget' (fun wx => DkAt w s v bs t w.heap.size G D (D + 1) n (.slice none 0 0) [] 1 t1 wx) HA.out ?_
  clear HA hG hD
  rintro V0 hV0
  have HA := hide hV0
  clear hV0
  go_wp2_with fail
  refine (l1Next 6 HA.out.dr.1 (by have := HA.out.dr.2.2; omega) (by omega) (by omega)).mono ?_
  rintro e w3 ⟨k1, rfl, k1a, k1b, t3, hd3⟩
  have k1c := k1b (by omega)
  obtain ⟨K, rfl⟩ : ∃ K : Nat, k1 = (K : Int) := ⟨k1.toNat, (Int.toNat_of_nonneg k1a).symm⟩
  have HA3 := hide (HA.out.on hsl hd3)
  clear hd3 k1b HA
  have hnI : (1 : Int) ≤ (n : Int) := by omega
  have hnI2 : (n : Int) ≤ 8 := by omega
  go_wp2
  go_loopw [5] (fun k wr => ∃ (j K : Nat) (M t5 : Nat), j + K ≤ 5 ∧ k = .int .i64 K ∧ Hid (DkAt w s v bs t w.heap.size G D M n (.slice none 0 0) [] (2 + 101 * j) t5 wr)) (fun k _ => (intOf k).toNat)
  case atStart => exact ⟨0, K, D + 1, t3, by omega, rfl, HA3.out⟩
  case round =>
    clear HA3
    obtain ⟨j, K, M, t5, hjK, rfl, HD⟩ := hrel
    by_cases hK0 : 0 < K
    · obtain ⟨K', rfl⟩ : ∃ K', K = K' + 1 := ⟨K - 1, by omega⟩
      go_wp2_with fail
      refine (l1DrawWords HD.out.dr.1 (by have := HD.out.dr.2.2; omega)).mono ?_
      rintro e w6 ⟨z, xs, rfl, hxl, ho, t6, hd6⟩
      obtain ⟨az, cz, rfl⟩ := ho.shape
      have H6 := hide ((HD.out.on hsl hd6).up (M' := w6.heap.size) (HD.out.on hsl hd6).mW (Nat.le_refl _))
      have HZ : Hid (RdI (fun b => D + 1 ≤ b ∧ b < w6.heap.size) w6 (.slice az xs.length cz) xs) := ho.rd.narrow (fun _ b hb => ⟨by have h1 := HD.out.dM; have h2 := HD.out.mW; omega, hb.2⟩)
      clear hd6 ho
      go_wp2_with fail
      refine (l1Words HZ.out).mono ?_
      rintro e w7 ⟨rfl, q, rfl⟩
      obtain ⟨f, hf⟩ : ∃ f, wordsF xs = f := ⟨_, rfl⟩
      rw [hf]
      clear hf
      have H7 := hide (H6.out.later (below_drewN w6 q))
      have HZ7 := hide (HZ.out.drewN q)
      by_cases hf0 : f = 0
      · subst hf0
        have HNx := hide (l1Next (n : Int) (H7.out.dr.1.drewN 1) (by have := H7.out.dr.2.2; omega) (by omega) (by omega))
        have d0 := H7.out.d0
        have hgD := H7.out.gD
        go_wp2_with fail
        go_region_held3 (fun w' => w'.cell? ⟨D, 0, none⟩ = some (.slice (some ⟨G, 0, none⟩) n n)) (first | exact d0 | exact e0 | exact (World.cell?_setCell_other w8 _ _ _ (by intro e; injection e with e1 _; omega)).trans e0)
          (first | (go_at_call 56; refine HNx.out.mono ?_; rintro e w8 ⟨r, rfl, ra, rb, t8, hd8⟩; have rc := rb hnI; obtain ⟨r', rfl⟩ : ∃ r' : Nat, r = (r' : Int) := ⟨r.toNat, (Int.toNat_of_nonneg ra).symm⟩; have H8 := hide ((H7.out.later (below_drewN _ 1)).on hsl hd8); have HZ8 : Hid (RdI (fun b => D + 1 ≤ b ∧ b < w6.heap.size) w8 (.slice az xs.length cz) xs) := (HZ7.out.drewN 1).wr hd8.2.1 (fun _ b hb => by have := H7.out.rw; have := H7.out.rG; omega); have e0 := H8.out.d0; obtain ⟨zr, _, cr, _, _⟩ := H8.out.rows r' (by omega); have gr := H8.out.gf r'; clear hd8 rb))
        have HE := hide (H8.out.row HS.out r' HZ8.out hxl)
        clear cr gr e0
        go_wp2
        go_roundw
        case rel => exact ⟨j + 1, K', w6.heap.size, t8, by omega, by go_num, by have h := HE.out; rw [show 2 + 101 * j + 100 + 1 = 2 + 101 * (j + 1) by omega] at h; exact h⟩
        case measure => simp [intOf]
      · go_wp2
        go_roundw
        case rel => exact ⟨j + 1, K', w6.heap.size, t6, by omega, by go_num, by have h := H7.out; exact ⟨h.dr.mono (by omega), h.rw, h.rG, h.gD, h.dM, h.mW, h.r0, h.r1, h.rf, h.d0, h.d1, h.df, h.gf, h.rows, h.puts, h.words⟩⟩
        case measure => simp [intOf]
    · have hKz : K = 0 := by omega
      subst hKz
      have hj5 : j ≤ 5 := by omega
      clear hjK
      go_wp2_with fail
      refine (l1Next 6 HD.out.dr.1 (by have := HD.out.dr.2.2; omega) (by omega) (by omega)).mono ?_
      rintro e w3 ⟨k1, rfl, k1a, k1b, t3, hd3⟩
      have k1c := k1b (by omega)
      obtain ⟨K, rfl⟩ : ∃ K : Nat, k1 = (K : Int) := ⟨k1.toNat, (Int.toNat_of_nonneg k1a).symm⟩
      have HA3 := hide (HD.out.on hsl hd3)
      clear hd3 k1b HD
      go_wp2
      go_loopw [7] (fun k wr => ∃ (j2 K : Nat) (ac : Option Addr) (cc : Nat) (ps : List (Int × List Int)) (t5 : Nat), j2 + K ≤ 5 ∧ k = .int .i64 K ∧ Hid (ps.length ≤ j2) ∧ Hid (DkAt w s v bs t w.heap.size G D M n (.slice ac ps.length cc) ps (2 + 101 * j + 1 + 101 * j2) t5 wr)) (fun k _ => (intOf k).toNat)
      case atStart => exact ⟨0, K, none, 0, [], t3, by omega, rfl, Nat.le_refl _, HA3.out⟩
      case round =>
        clear HA3
        obtain ⟨j2, K, ac, cc, ps, t5, hjK, rfl, HLn, HD⟩ := hrel
        have hps := HLn.out
        by_cases hK0 : 0 < K
        · obtain ⟨K', rfl⟩ : ∃ K', K = K' + 1 := ⟨K - 1, by omega⟩
          go_wp2_with fail
          refine (l1DrawWords HD.out.dr.1 (by have := HD.out.dr.2.2; omega)).mono ?_
          rintro e w6 ⟨z, xs, rfl, hxl, ho, t6, hd6⟩
          obtain ⟨az, cz, rfl⟩ := ho.shape
          have H6 := hide (HD.out.on hsl hd6)
          have hKw := HD.out.mW
          have HC6 := hide ((HD.out.puts.mono (P' := fun b => M ≤ b ∧ b < wr.heap.size) (fun b h1 h2 => ⟨h1, h2⟩)).wr hd6.2.1 (fun b hb => by have h1 := HD.out.rw; have h2 := HD.out.rG; have h3 := HD.out.gD; have h4 := HD.out.dM; omega))
          have HZ6 := hide ho
          have hz6 := hd6.2.1.size
          obtain ⟨KK, hKK⟩ : ∃ KK, wr.heap.size = KK := ⟨_, rfl⟩
          rw [hKK] at HC6 HZ6 hKw hz6
          clear hd6 ho HD hKK
          go_wp2_with fail
          refine (l1Words HZ6.out.rd).mono ?_
          rintro e w7 ⟨rfl, q, rfl⟩
          obtain ⟨f, hf⟩ : ∃ f, wordsF xs = f := ⟨_, rfl⟩
          rw [hf]
          clear hf
          have H7 := hide (H6.out.later (below_drewN w6 q))
          have HC7 := hide (HC6.out.later (below_drewN w6 q))
          have HZ7 := hide (HZ6.out.later (below_drewN w6 q))
          have hz7 : KK ≤ (w6.drewN q).heap.size := hz6
          clear H6 HC6 HZ6
          obtain ⟨W7, hW7⟩ : ∃ W7, w6.drewN q = W7 := ⟨_, rfl⟩
          rw [hW7] at H7 HC7 HZ7 hz7 ⊢
          clear hW7 hz6
          by_cases hf0 : f = 0
          · subst hf0
            have HNx := hide (l1Next (n : Int) (H7.out.dr.1.drewN 1) (by have := H7.out.dr.2.2; omega) (by omega) (by omega))
            have d1 := H7.out.d1
            have df := H7.out.df 1
            have hDM : D < M := H7.out.dM
            have hbl := H7.out.mW
            go_wp2_with fail
            go_region_law (first
              | (refine step_append_lies _ (by rfl) _ _ _ (by rfl) 0 37 i0 (.agg #[.int .i64 0, .slice none 0 0]) 2 32 Try.underlying25 hi hz0 hz1 hz2 rfl (by omega) (.slice ac ps.length cc) ps.length _ (by rfl) (ownsRow_later HOw8.out (below_alloc w8 (.cells #[.int .i64 r, .slice az xs.length cz] 37))) ⟨w8.heap.size, 0, none⟩ 1 1 [.int .i64 r, .slice az xs.length cz] (by rfl) (by rfl) (World.news_of_block (cs := #[.int .i64 r, .slice az xs.length cz]) (t := 37) (fr := (0, 0)) (heap_alloc_new w8 _)) cells2_one (by omega) (by unfold maxLen; omega) (by omega) (Nat.zero_le _) (w8.heap.size + 1) (by simp) ?_; intro g cap w9 hown9 hgrow hat hlt9; have s0 := (hgrow.cell_far ⟨D, 1, none⟩ (by simp; omega) (fun e => by have := (HPr8.out _ e.symm).1; dsimp only at this; omega)).trans e1; have s1 : w9.frozen? ⟨D, 1, none⟩ = false := (hgrow.frozen_far ⟨D, 1, none⟩ (by simp; omega) (fun e => by have := (HPr8.out _ e.symm).1; dsimp only at this; omega)).trans (((bcell (below_alloc w8 _)).2 _ _ (by omega)).trans (H8.out.df 1)))
              | (go_simp; go_at_call 56; refine HNx.out.mono ?_; rintro e w8 ⟨r, rfl, ra, rb, t8, hd8⟩; have H8 := hide ((H7.out.later (below_drewN _ 1)).on hsl hd8); have hsM : s < M := (by have h1 := H7.out.rw; have h2 := H7.out.rG; have h3 := H7.out.gD; omega); have HZ8 : Hid (OwI KK w8 (.slice az xs.length cz) xs) := (HZ7.out.later (below_drewN _ 1)).wr hd8.2.1 (fun b hb _ => by omega); have HC8 := hide (((HC7.out.later (below_drewN _ 1)).wr hd8.2.1 (fun b hb => by omega)).snoc (r, xs)); obtain ⟨V8, Bk8, hown8, hpr8, hin8⟩ := HC8.out; have HOw8 := hide hown8; have HPr8 := hide hpr8; have HIn8 := hide hin8; have hz8 : KK ≤ w8.heap.size := Nat.le_trans hz7 hd8.2.1.size; have hbl8 := H8.out.mW; have e0 := H8.out.d1; have e1 := cell_later (below_alloc w8 (.cells #[.int .i64 r, .slice az xs.length cz] 37)) e0; clear hd8 rb hown8 hpr8 hin8 HC8))
            all_goals
              have HSt := hide (DkAt.put HS.out H8.out HIn8.out HPr8.out hKw hz8 HZ8.out hxl hown9 hgrow (by simpa using hat))
              have hl9 : (ps ++ [(r, xs)]).length = ps.length + 1 := by simp
              have HSt2 : Hid (DkAt w s v bs t w.heap.size G D M n (.slice (some ⟨g, 0, none⟩) (ps ++ [(r, xs)]).length cap) (ps ++ [(r, xs)]) (2 + 101 * j + 1 + 101 * (j2 + 1)) t8 (w9.setCell ⟨D, 1, none⟩ (.slice (some ⟨g, 0, none⟩) (ps.length + 1) cap))) := by
                rw [hl9]
                have h := HSt.out
                rw [show 2 + 101 * j + 1 + 101 * j2 + 100 + 1 = 2 + 101 * j + 1 + 101 * (j2 + 1) by omega] at h
                exact h
              have HL9 : Hid ((ps ++ [(r, xs)]).length ≤ j2 + 1) := by unfold Hid; rw [hl9]; omega
              clear hown9 hgrow hat s0 s1 e0 e1 hl9 HSt
              go_wp2
              go_roundw
              case rel => exact ⟨j2 + 1, K', _, _, _, t8, by omega, by go_num, HL9.out, HSt2.out⟩
              case measure => simp [intOf]
          · go_wp2
            go_roundw
            case rel => exact ⟨j2 + 1, K', ac, cc, ps, t6, by omega, by go_num, (by have := HLn.out; omega : ps.length ≤ j2 + 1), by have h := H7.out; exact ⟨h.dr.mono (by omega), h.rw, h.rG, h.gD, h.dM, h.mW, h.r0, h.r1, h.rf, h.d0, h.d1, h.df, h.gf, h.rows, h.puts, h.words⟩⟩
            case measure => simp [intOf]
        · have hKz : K = 0 := by omega
          subst hKz
          have hps5 : ps.length ≤ 5 := by omega
          clear hps HLn
          have hj25 : j2 ≤ 5 := by omega
          clear hjK
          go_wp2_with fail
          refine (l1Next 18 HD.out.dr.1 (by have := HD.out.dr.2.2; omega) (by omega) (by omega)).mono ?_
          rintro e w10 ⟨k, rfl, ka, kb, t10, hd10⟩
          have H10 := hide (HD.out.on hsl hd10)
          obtain ⟨N10, hN10⟩ : ∃ N, 2 + 101 * j + 1 + 101 * j2 + 1 = N := ⟨_, rfl⟩
          rw [hN10] at H10
          have hN : N10 ≤ 1014 := by omega
          clear hd10 kb HD hN10 ka
          have hgD := H10.out.gD
          have hDM := H10.out.dM
          have hMw := H10.out.mW
          have hRG := H10.out.rG
          by_cases hk0 : k = 0
          · subst hk0
            have HDw := hide (l1DrawWords (H10.out.dr.1.drewN 1) (by have := H10.out.dr.2.2; omega))
            have d0 := H10.out.d0
            have hn0 : (0 : Int) < (n : Int) := by omega
            have hn0' : 0 < n := by omega
            have hn0'' : ¬ n = 0 := by omega
            have hn0i : ¬ (n : Int) ≤ 0 := by omega
            go_wp2_with fail
            go_region_held3 (fun w' => w'.cell? ⟨D, 0, none⟩ = some (.slice (some ⟨G, 0, none⟩) n n)) (first | exact d0 | exact e0 | exact (World.cell?_setCell_other w11 _ _ _ (by intro e; injection e with e1 _; omega)).trans e0)
              (first | (go_at_call 87; refine HDw.out.mono ?_; rintro e w11 ⟨z, xs, rfl, hxl, ho, t11, hd11⟩; obtain ⟨az, cz, rfl⟩ := ho.shape; have H11 := hide ((H10.out.later (below_drewN _ 1)).on hsl hd11); have HZ11 := hide ho; have e0 := H11.out.d0; obtain ⟨zr, _, cr, _, _⟩ := H11.out.rows 0 (by omega); have gr := H11.out.gf 0; clear hd11 ho))
            obtain ⟨xss, hE⟩ := H11.out.endRow HS.out (a := 0) hn8 (by omega) (HZ11.out.rd.narrow (fun _ b hb => by have h1 : w10.heap.size ≤ b := hb.1; omega)) hxl
            have HE := hide hE
            clear cr gr e0 hE H11 HZ11
            have q0 := HE.out.d0
            have q1 := HE.out.d1
            have r0 := HE.out.r0
            have r1 := HE.out.r1
            have f0 := HE.out.rf 0
            have f1 := HE.out.rf 1
            obtain ⟨W, hW⟩ : ∃ W, w11.setCell ⟨G, 0, none⟩ (.slice az xs.length cz) = W := ⟨_, rfl⟩
            rw [hW] at HE q0 q1 r0 r1 f0 f1 ⊢
            clear hW
            go_wp2
            exact bodyPost_ret (v := .agg #[.slice (some ⟨G, 0, none⟩) n n, .slice ac ps.length cc]) (by simp [results, Try.results54, go_sem, r0, r1]) rfl (endsK HS.out HE.out.dr (by omega) HE.out.hn HE.out.hm HE.out.small HE.out.rows HE.out.puts)
          by_cases hk1 : k = 1
          · subst hk1
            have H11 : Hid (DkAt w s v bs t w.heap.size G D M n (.slice ac ps.length cc) ps N10 t10 ((w10.drewN 1).alloc (.cells #[.int .i64 (-1), .int .i64 (n : Int), .int .i64 0] 2))) := (H10.out.later (below_drewN w10 1)).later (below_alloc _ _)
            have d1 : (w10.alloc (.cells #[.int .i64 (-1), .int .i64 (n : Int), .int .i64 0] 2)).cell? ⟨D, 1, none⟩ = some (.slice ac ps.length cc) := cell_later (below_alloc w10 _) H10.out.d1
            have d1' := H10.out.d1
            have HPk := hide (l1Pick (xs := [-1, (n : Int), 0]) H11.out.dr.1 (by have := H11.out.dr.2.2; omega) (RdI_new s (w10.drewN 1) [-1, (n : Int), 0] 2 (show s < w10.heap.size by omega) (by simp)) (by simp) (by simp))
            go_wp2_with fail
            go_region_law (first
              | (refine step_append_lies _ (by rfl) _ _ _ (by rfl) 0 37 i0 (.agg #[.int .i64 0, .slice none 0 0]) 2 32 Try.underlying25 hi hz0 hz1 hz2 rfl (by omega) (.slice ac ps.length cc) ps.length _ (by rfl) (ownsRow_later HOw8.out (below_alloc w8 (.cells #[.int .i64 r, .slice az xs.length cz] 37))) ⟨w8.heap.size, 0, none⟩ 1 1 [.int .i64 r, .slice az xs.length cz] (by rfl) (by rfl) (World.news_of_block (cs := #[.int .i64 r, .slice az xs.length cz]) (t := 37) (fr := (0, 0)) (heap_alloc_new w8 _)) cells2_one (by omega) (by unfold maxLen; omega) (by omega) (Nat.zero_le _) (w8.heap.size + 1) (by simp) ?_; intro g cap w9 hown9 hgrow hat hlt9; have s0 := (hgrow.cell_far ⟨D, 1, none⟩ (by simp; omega) (fun e => by have := (HPr8.out _ e.symm).1; dsimp only at this; omega)).trans e1; have s1 : w9.frozen? ⟨D, 1, none⟩ = false := (hgrow.frozen_far ⟨D, 1, none⟩ (by simp; omega) (fun e => by have := (HPr8.out _ e.symm).1; dsimp only at this; omega)).trans (((bcell (below_alloc w8 _)).2 _ _ (by omega)).trans (H8.out.df 1)))
              | (go_simp; go_at_call 87; refine (l1DrawWords H12.out.dr.1 (by have := H12.out.dr.2.2; omega)).mono ?_; rintro e w8 ⟨z, xs, rfl, hxl, ho, t8, hd8⟩; obtain ⟨az, cz, rfl⟩ := ho.shape; have H8 := hide (H12.out.on hsl hd8); have HZ8 := hide ho; have HC8 := hide (((H12.out.puts.mono (P' := fun b => M ≤ b ∧ b < w12.heap.size) (fun b h1 h2 => ⟨h1, h2⟩)).wr hd8.2.1 (fun b hb => by omega)).snoc (r, xs)); obtain ⟨V8, Bk8, hown8, hpr8, hin8⟩ := HC8.out; have HOw8 := hide hown8; have HPr8 := hide hpr8; have HIn8 := hide hin8; have hz8 : w12.heap.size ≤ w8.heap.size := hd8.2.1.size; have e0 := H8.out.d1; have e1 := cell_later (below_alloc w8 (.cells #[.int .i64 r, .slice az xs.length cz] 37)) e0; clear hd8 ho hown8 hpr8 hin8 HC8)
              | (go_simp; go_at_call 57; refine HPk.out.mono ?_; rintro e w12 ⟨i, hi3, rfl, t12, hd12⟩; obtain ⟨r, hr⟩ : ∃ x : Int, ([-1, (n : Int), 0] : List Int).getD i 0 = x := ⟨_, rfl⟩; rw [hr]; have H12 := hide (H11.out.on hsl hd12); have hm12 := H12.out.mW; have p1 := H12.out.d1; clear hd12 hr hi3))
            all_goals
              have HSt := hide (DkAt.put HS.out H8.out HIn8.out HPr8.out hm12 hz8 HZ8.out hxl hown9 hgrow (by simpa using hat))
              have hl9 : (ps ++ [(r, xs)]).length = ps.length + 1 := by simp
              rw [← hl9] at HSt
              obtain ⟨xss, hE⟩ := HSt.out.end hn8 (by rw [hl9]; omega)
              rw [hl9] at hE
              have HE := hide hE
              clear hown9 hgrow hat s0 s1 e0 e1 HSt hE hl9
              have q0 := HE.out.d0
              have q1 := HE.out.d1
              have r0 := HE.out.r0
              have r1 := HE.out.r1
              have f0 := HE.out.rf 0
              have f1 := HE.out.rf 1
              obtain ⟨W, hW⟩ : ∃ W, w9.setCell ⟨D, 1, none⟩ (.slice (some ⟨g, 0, none⟩) (ps.length + 1) cap) = W := ⟨_, rfl⟩
              rw [hW] at HE q0 q1 r0 r1 f0 f1 ⊢
              clear hW
              go_wp2
              exact bodyPost_ret (v := .agg #[.slice (some ⟨G, 0, none⟩) n n, .slice (some ⟨g, 0, none⟩) (ps.length + 1) cap]) (by simp [results, Try.results54, go_sem, r0, r1]) rfl (endsK HS.out HE.out.dr (by omega) HE.out.hn HE.out.hm HE.out.small HE.out.rows HE.out.puts)
          by_cases hk2 : k = 2
          · subst hk2
            have hmk : ∀ w, (Instr.makeSlice 24 (.int .i64 71) (.int .i64 71)).run Try.prog w = .ok (.slice (some ⟨w.heap.size, 0, none⟩) 71 71) (w.alloc (.cells (madeCells #[.slice none 0 0] 71) 28)) := run_make_row' (P := Try.prog) 24 28 (.slice none 0 0) 24 Try.underlying24 Try.infoInts rfl .i64 .i64 71 (by omega) (by omega)
            have HMC := hide (fun i hi => made_rowsN w10 71 28 i hi)
            generalize madeCells #[.slice none 0 0] 71 = MC at hmk HMC
            have HE := hide (H10.out.end71 HS.out (by omega) HMC.out)
            have H11 := hide (H10.out.later (below_alloc w10 (.cells MC 28)))
            have q0 := HE.out.d0
            have q1 := HE.out.d1
            have r0 := HE.out.r0
            have r1 := HE.out.r1
            have f0 := HE.out.rf 0
            have f1 := HE.out.rf 1
            have dc := H11.out.d0
            have df := H11.out.df 0
            clear H11
            go_wp2
            exact bodyPost_ret (v := .agg #[.slice (some ⟨w10.heap.size, 0, none⟩) 71 71, .slice ac ps.length cc]) (by simp [results, Try.results54, go_sem, r0, r1]) rfl (endsK HS.out HE.out.dr (by omega) HE.out.hn HE.out.hm HE.out.small HE.out.rows HE.out.puts)
          by_cases hk3 : k = 3
          · subst hk3
            go_wp2_with fail
            refine (l1Next 2 H10.out.dr.1 (by have := H10.out.dr.2.2; omega) (by omega) (by omega)).mono ?_
            rintro e w11 ⟨r, rfl, ra, rb, t11, hd11⟩
            have rc := rb (by omega)
            have H11 := hide (H10.out.on hsl hd11)
            obtain ⟨m, hm⟩ : ∃ m : Nat, 200 + r = (m : Int) := ⟨(200 + r).toNat, by omega⟩
            have hm201 : m ≤ 201 := by omega
            have hmk := run_make_put m (by omega)
            have HMC : Hid (∀ i, i < m → (w11.alloc (.cells (madeCells #[.int .i64 0, .slice none 0 0] (m * 2)) 37)).cell? ⟨w11.heap.size, i * 2, none⟩ = some (.int .i64 0) ∧ (w11.alloc (.cells (madeCells #[.int .i64 0, .slice none 0 0] (m * 2)) 37)).cell? ⟨w11.heap.size, i * 2 + 1, none⟩ = some (.slice none 0 0)) := fun i hi => by
              have hr := made_puts w11 (List.replicate m (0, [])) m (by simp) 37
              have h1 := hr.cell (i := i * 2) (by simp; omega)
              have h2 := hr.cell (i := i * 2 + 1) (by simp; omega)
              unfold putCellAt at h1 h2
              rw [if_neg (Nat.not_lt_zero _)] at h1 h2
              exact ⟨by simpa using h1, by simpa using h2⟩
            generalize madeCells #[.int .i64 0, .slice none 0 0] (m * 2) = MC at hmk HMC
            obtain ⟨xss, hE⟩ := H11.out.endPuts m HS.out hn8 hm201 HMC.out
            have HE := hide hE
            have H12 := hide (H11.out.later (below_alloc w11 (.cells MC 37)))
            have q0 := HE.out.d0
            have q1 := HE.out.d1
            have r0 := HE.out.r0
            have r1 := HE.out.r1
            have f0 := HE.out.rf 0
            have f1 := HE.out.rf 1
            have dc := H12.out.d1
            have df := H12.out.df 1
            clear H12 hE hd11 rb
            go_wp2
            exact bodyPost_ret (v := .agg #[.slice (some ⟨G, 0, none⟩) n n, .slice (some ⟨w11.heap.size, 0, none⟩) m m]) (by simp [results, Try.results54, go_sem, r0, r1]) rfl (endsK HS.out HE.out.dr (by omega) HE.out.hn HE.out.hm HE.out.small HE.out.rows HE.out.puts)
          obtain ⟨xss, hE⟩ := H10.out.end hn8 (by omega)
          have HE := hide hE
          have q0 := HE.out.d0
          have q1 := HE.out.d1
          have r0 := HE.out.r0
          have r1 := HE.out.r1
          have f0 := HE.out.rf 0
          have f1 := HE.out.rf 1
          clear hE
          go_wp2
          exact bodyPost_ret (v := .agg #[.slice (some ⟨G, 0, none⟩) n n, .slice ac ps.length cc]) (by simp [results, Try.results54, go_sem, r0, r1]) rfl (endsK HS.out HE.out.dr (by omega) HE.out.hn HE.out.hm HE.out.small HE.out.rows HE.out.puts)
end Go.Proofs.Ytaccllclihbpfaa
