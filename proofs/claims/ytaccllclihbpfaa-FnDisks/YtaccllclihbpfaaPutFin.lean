/- 'impl.copyDisk', walked; how a put's disk is put together. -/
import Derived.Test.YtaccllclihbpfaaBuilt4
import Derived.Test.YtaccllclihbpfaaCopyPuts
import Derived.Test.YtaccllclihbpfaaRet
import Derived.Test.YtaccllclihbpfaaBlockAt
namespace Go.Proofs.Ytaccllclihbpfaa
open Go.RowKit

theorem BuiltII.grown {P : Nat → Prop} {w w' : World} {row : Option Nat} {v : Value} {k : Nat} {xss : List (List Int)} (h : BuiltII P w v k xss) (hg : w.grownBy w' row) (hr : ∀ b, P b → some b ≠ row) : BuiltII P w' v k xss := by
  obtain ⟨V, Bk, h1, h2, h3⟩ := h
  refine ⟨V, Bk, ?_, h2, fun i hi => ?_, fun i hi hn => ?_⟩
  · exact h1.kept hg (by
      cases hv : v.ownBlock with
      | none => exact Or.inl rfl
      | some r => exact Or.inr (hr r (h2 r hv)))
  · obtain ⟨ao, c, e1, e2, e3⟩ := h3.rd i hi
    refine ⟨ao, c, e1, e2, fun hne => ?_⟩
    obtain ⟨b, off, f1, f2, f3⟩ := e3 hne
    refine ⟨b, off, f1, f2, fun t ht => ?_⟩
    rw [hg.cell_far ⟨b, off + t, none⟩ (World.block_lt_of_cell? _ _ (f3 t ht)) (by rw [f2]; exact hr _ (h3.own i hi hne).1)]
    exact f3 t ht
  · obtain ⟨q1, q2, q3, q4, q5⟩ := h3.own i hi hn
    exact ⟨q1, Nat.lt_of_lt_of_le q2 hg.size, fun o => (hg.frozen_far ⟨Bk i, o, none⟩ q2 (hr _ q1)).trans (q3 o), q4, q5⟩

/-- What is known behind 'out.Cache = append(out.Cache, ..)'; b: the block of out. -/

theorem set2_far {w : World} {b h o : Nat} {x y : Value} (hb : b ≠ h) : ((w.setCell ⟨h, 0, none⟩ x).setCell ⟨h, 1, none⟩ y).cell? ⟨b, o, none⟩ = w.cell? ⟨b, o, none⟩ := by
  rw [World.cell?_setCell_other _ _ _ _ (by intro e; injection e with e1 _; exact hb e1.symm), World.cell?_setCell_other _ _ _ _ (by intro e; injection e with e1 _; exact hb e1.symm)]

set_option maxHeartbeats 1000000 in
set_option maxRecDepth 4000 in
/-- 'impl.copyDisk' of a reading. -/
theorem copyDisk {S T : Nat → Prop} {w : World} {u v : Value} {xss : List (List Int)} {ps : List (Int × List Int)} (hu : RdII S w u xss) (hv : RdP T w v ps) (hs : Small xss ps) :
    Calls Try.prog 72 #[.agg #[u, v]] w fun e w' => ∃ z1 z2 m, e = .returned (.agg #[z1, z2]) ∧ Below w.heap.size w w' ∧ w.heap.size ≤ m ∧ m ≤ w'.heap.size ∧
      BuiltII (fun b => w.heap.size ≤ b ∧ b < m) w' z1 xss.length xss ∧ BuiltP (fun b => m ≤ b ∧ b < w'.heap.size) w' z2 ps.length ps := by
  obtain ⟨ao, c, rfl, _⟩ := hu.shape
  obtain ⟨ao', c', rfl, _⟩ := hv.shape
  have HU := hide hu
  have HV := hide hv
  have HS := hide hs
  obtain ⟨n, hn⟩ : ∃ n, xss.length = n := ⟨_, rfl⟩
  obtain ⟨m, hm⟩ : ∃ m, ps.length = m := ⟨_, rfl⟩
  have HN := hide hn
  have HM := hide hm
  rw [hn] at HU ⊢
  rw [hm] at HV ⊢
  clear hu hv hs hn hm
  obtain ⟨W, hW⟩ : ∃ W, (w.alloc (.cells #[.slice ao n c, .slice ao' m c'] 27)).alloc (.cells #[.slice none 0 0, .slice none 0 0] 27) = W := ⟨_, rfl⟩
  have BW : Hid (Below w.heap.size w W) := by rw [← hW]; exact below_on (below_alloc _ _) (below_alloc _ _)
  have hWs : W.heap.size = w.heap.size + 2 := by rw [← hW]; simp
  have c0 : W.cell? ⟨w.heap.size, 0, none⟩ = some (.slice ao n c) := by rw [← hW]; simp [go_sem]
  have c1 : W.cell? ⟨w.heap.size, 1, none⟩ = some (.slice ao' m c') := by rw [← hW]; simp [go_sem]
  have v0 : W.cell? ⟨w.heap.size + 1, 0, none⟩ = some (.slice none 0 0) := by rw [← hW]; simp [go_sem]
  have v1 : W.cell? ⟨w.heap.size + 1, 1, none⟩ = some (.slice none 0 0) := by rw [← hW]; simp [go_sem]
  have vf : ∀ o, W.frozen? ⟨w.heap.size + 1, o, none⟩ = false := by rw [← hW]; intro o; simp [go_sem]
  have hbv : w.heap.size ≠ w.heap.size + 1 := by omega
  go_enter Try.func72, Try.ntmps72
  go_wp2_with fail
  go_region_held3 (fun w' => w'.cell? ⟨w.heap.size, 0, none⟩ = some (.slice ao n c) ∧ w'.cell? ⟨w.heap.size, 1, none⟩ = some (.slice ao' m c')) (first | exact ⟨c0, c1⟩ | exact ⟨e0, e1⟩ | exact ⟨i0, i1⟩ | exact ⟨(set2_far hbv).trans i0, (set2_far hbv).trans i1⟩)
    (first
      | (go_at_call 119; refine (copyPuts ((HV.out.later BW.out).later HB1.out) HS.out.puts HS.out.put).mono ?_; rintro e w2 ⟨z2, rfl, hb2, ho2⟩; obtain ⟨a2, k2, hz2⟩ := ho2.shape; rw [HM.out] at hz2; subst hz2; have i0 := cell_later hb2 e0; have i1 := cell_later hb2 e1; have y0 := cell_later hb2 x0; have y1 := cell_later hb2 x1; have yf := fun o => ((bcell hb2).2 _ _ hl1).trans (xf o); have HB2 := hide hb2; have HO2 := hide ho2; clear hb2 ho2)
      | (go_at_call 60; refine (copyBlocksB ((HU.out.later BW.out).drewN 1) HS.out.rows HS.out.row).mono ?_; rintro e w1 ⟨z1, rfl, hb1, ho1⟩; obtain ⟨a1, k1, hz1⟩ := ho1.shape; rw [HN.out] at hz1; subst hz1; have e0 := cell_later hb1 c0; have e1 := cell_later hb1 c1; have x0 := cell_later hb1 v0; have x1 := cell_later hb1 v1; have hl0 : w.heap.size + 1 < W.heap.size := (by omega); have xf := fun o => ((bcell hb1).2 _ _ hl0).trans (vf o); have hl1 : w.heap.size + 1 < w1.heap.size := Nat.lt_of_lt_of_le hl0 hb1.size; have HB1 := hide (below_on (below_drewN W 1) hb1); have HO1 := hide ho1; clear hb1 ho1))
  have y2 := yf 0
  have y3 := yf 1
  have hs1 := HB1.out.size
  have hs2 := HB2.out.size
  go_wp2
  refine bodyPost_ret (v := .agg #[.slice a1 n k1, .slice a2 m k2]) (by simp [results, Try.results72, go_sem, y0, y1]) rfl ⟨_, _, w1.heap.size, rfl, ?_, by omega, by simp; omega, ?_, ?_⟩
  · exact ((below_on BW.out (below_on HB1.out HB2.out)).setCell (by simp) _).setCell (by simp) _
  · rw [HN.out] at HO1
    exact ((((HO1.out.mono (P' := fun b => w.heap.size + 2 ≤ b ∧ b < w1.heap.size) (fun x hx hl => ⟨by simp at hx; omega, hl⟩)).later HB2.out).set (fun x hx => by omega)).set (fun x hx => by omega)).mono fun x hx hl => ⟨by omega, hx.2⟩
  · rw [HM.out] at HO2
    exact (((HO2.out.set (fun x hx => by omega)).set (fun x hx => by omega))).mono fun x hx hl => ⟨hx, hl⟩

/-- A put's disk: its rows as they were copied, its puts with one more behind. -/
theorem put_fin2 {S P : Nat → Prop} {xss : List (List Int)} {ps : List (Int × List Int)} {at_ : Int} {xs : List Int} {B : Nat} {z1 v z : Value} {w1 w2 w3 : World} {g cap : Nat} {t : TypeId} {V : Nat → Value} {Bk : Nat → Nat} {o : Obj}
    (hII : BuiltII S w1 z1 xss.length xss) (hS : ∀ b, S b → B ≤ b ∧ b < w1.heap.size) (hP : ∀ b, P b → B ≤ b ∧ b < w1.heap.size) (hd : ∀ b, S b → ¬ P b) (hB : B ≤ w1.heap.size)
    (hi : Inner P (w1.alloc (.cells #[z1, v] t)) v.ownBlock ps.length V Bk (fun i => ((ps ++ [(at_, xs)]).getD i (0, [])).2)) (hr : (w1.alloc (.cells #[z1, v] t)).ownsRow 0 37 2 v ps.length (cellsP (ps ++ [(at_, xs)]) ps.length V)) (hpr : ∀ r, v.ownBlock = some r → P r)
    (hb2 : Below (w1.heap.size + 1) (w1.alloc (.cells #[z1, v] t)) w2) (hz : OwI (w1.heap.size + 1) w2 z xs) (hown : w3.ownsRow 0 37 2 (.slice (some ⟨g, 0, none⟩) (ps.length + 1) cap) (ps.length + 1) (cellsP (ps ++ [(at_, xs)]) ps.length V ++ [.int .i64 at_, z]))
    (hg : (w2.alloc o).grownBy w3 v.ownBlock) (hat : v.ownBlock = some g ∨ g = (w2.alloc o).heap.size) (hlen : xss.length ≤ 1048576 ∧ ps.length ≤ 1048576) :
    Below w1.heap.size w3 (w3.setCell ⟨w1.heap.size, 1, none⟩ (.slice (some ⟨g, 0, none⟩) (ps.length + 1) cap)) ∧
    OwD B (w3.setCell ⟨w1.heap.size, 1, none⟩ (.slice (some ⟨g, 0, none⟩) (ps.length + 1) cap)) z1 (.slice (some ⟨g, 0, none⟩) (ps.length + 1) cap) xss (ps ++ [(at_, xs)]) := by
  have hs2 := hb2.size
  have hs3 := hg.size
  simp only [World.size_alloc] at hs2 hs3
  have hb2' : Below (w1.alloc (.cells #[z1, v] t)).heap.size (w1.alloc (.cells #[z1, v] t)) w2 := by simpa using hb2
  refine ⟨Below.setCell (p := ⟨w1.heap.size, 1, none⟩) (Below.refl w1.heap.size w3) (Nat.le_refl _) _, S, fun b => (P b ∨ w1.heap.size + 1 ≤ b) ∧ b < w3.heap.size, fun b hb => ⟨(hS b hb).1, by have := (hS b hb).2; simp; omega⟩, fun b hb => ?_, fun b hb hb' => ?_, ?_, ?_⟩
  · refine ⟨?_, by simpa using hb.2⟩
    rcases hb.1 with h | h
    · exact (hP b h).1
    · omega
  · rcases hb'.1 with h | h
    · exact hd b hb h
    · have := hS b hb; omega
  · have h1 := ((hII.later (below_alloc w1 (.cells #[z1, v] t))).later hb2').later (below_alloc w2 o)
    have h2 := h1.grown hg (fun b hb e => hd b hb (hpr b e.symm))
    exact ((h2.set (r := w1.heap.size) (o := 1) (x := .slice (some ⟨g, 0, none⟩) (ps.length + 1) cap) (fun b hb => by have := hS b hb; omega)).ow rfl (by omega)).mono fun b hb => hb.1
  · have h1 := BuiltP.step (P' := fun b => P b ∨ w1.heap.size + 1 ≤ b) hi hr hpr (fun b h => Or.inl h) (fun b hb => Or.inr (by simpa using hb)) hb2' (by simpa using hz) (below_alloc w2 o) (by simpa using hown) hg hat
    have h2 := h1.set (r := w1.heap.size) (o := 1) (x := .slice (some ⟨g, 0, none⟩) (ps.length + 1) cap) (fun b hb => by
      rcases hb with hb | hb
      · have := hP b hb; omega
      · omega)
    exact (h2.ow (by simp) (by omega)).mono fun b hb => ⟨hb.1, by simpa using hb.2⟩

/-- 'impl.copyDisk', told of what it owns. -/
theorem copyDiskD {S T : Nat → Prop} {w : World} {u v : Value} {xss : List (List Int)} {ps : List (Int × List Int)} (hu : RdII S w u xss) (hv : RdP T w v ps) (hs : Small xss ps) :
    Calls Try.prog 72 #[.agg #[u, v]] w fun e w' => ∃ z1 z2, e = .returned (.agg #[z1, z2]) ∧ Below w.heap.size w w' ∧ OwD w.heap.size w' z1 z2 xss ps :=
  (copyDisk hu hv hs).mono fun e w' ⟨z1, z2, m, he, hb, h1, h2, h3, h4⟩ =>
    ⟨z1, z2, he, hb, fun b => (w.heap.size ≤ b ∧ b < m) ∧ b < w'.heap.size, fun b => (m ≤ b ∧ b < w'.heap.size) ∧ b < w'.heap.size, fun b hb => ⟨hb.1.1, hb.2⟩, fun b hb => ⟨by have := hb.1.1; omega, hb.2⟩, fun b hb hb' => by have := hb.1.2; have := hb'.1.1; omega, h3.ow rfl (by have := hs.rows; omega), h4.ow rfl (by have := hs.puts; omega)⟩
end Go.Proofs.Ytaccllclihbpfaa
