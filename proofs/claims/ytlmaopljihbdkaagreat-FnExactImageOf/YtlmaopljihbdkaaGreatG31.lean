/- Ef0 En3 En6 in one text: what each says stands at its head below. -/
import Derived.Test.YtlmaopljihbdkaaGreatG14
import Derived.Test.YtlmaopljihbdkaaGreatG16
import Derived.Test.YtlmaopljihbdkaaGreatG27
/- Chapter 10: 'toRaft' once more: the cap of its entries. -/
namespace Go.Proofs.YtlmaopljihbdkaaGreat
open Go.RowKit

/-- A cap that is no smaller than the length. -/
def capE : Value → Prop
  | .slice _ n c => n ≤ c
  | _ => True
theorem OwJ.capE {S : Nat → Prop} {w : World} {v : Value} {ts : List Oj} (h : OwJ S w v ts) : capE v := by
  obtain ⟨ao, c, rfl, hc⟩ := h.caps
  exact hc
theorem IvR.capE {lo hi : Nat} {w : World} {y z : Value} {xs : List Int} {ps : List Oj} (h : IvR lo hi w y z xs ps) : capE z := by
  obtain ⟨b, S, _, _, _, _, h5⟩ := h
  exact h5.capE
theorem toEnC {S : Nat → Prop} {w : World} {v : Value} {os : List Oj} (hv : RdJ S w v os) (hm : os.length ≤ 1048576) (hl : ∀ i, i < os.length → (os.getD i oj0).2.2.length ≤ 1048576) :
    Calls Tryz.prog 34 #[v] w fun e w' =>
      ∃ u, e = .returned u ∧ Below w.heap.size w w' ∧ OwJ (fun b => w.heap.size ≤ b ∧ b < w'.heap.size) w' u os ∧ capE u := by
  have fin : ∀ w', ToJ os w os.length w' → Below w.heap.size w w' ∧ OwJ (fun b => w.heap.size ≤ b ∧ b < w'.heap.size) w' (.slice (some ⟨w.heap.size, 0, none⟩) os.length os.length) os := by
    rintro w' ⟨h1, h2, h3, _, V, Bk, h5, h6⟩
    refine ⟨h1, _, os.length, w.heap.size, 0, V, Bk, rfl, by omega, fun _ => ⟨rfl, ⟨Nat.le_refl _, h2⟩, h3⟩, fun i hi => ?_⟩
    obtain ⟨k0, k1, k2⟩ := h6 i hi
    rw [Nat.zero_add]
    refine ⟨k0, k1, k2, h5.rd i hi, fun hn => ?_⟩
    obtain ⟨m1, m2, m3, m4, m5⟩ := h5.own i hi hn
    exact ⟨⟨m1, m2⟩, fun e => m4 (by rw [e]), m3, m5⟩
  obtain ⟨ao, c, rfl, _, h⟩ := hv
  by_cases hne : os = []
  · subst hne
    exact (toEn_none _ _ _).mono fun e w' ⟨he, hT⟩ => ⟨_, he, (fin w' hT).1, (fin w' hT).2, Nat.le_refl _⟩
  · obtain ⟨b, off, V, rfl, _, hc⟩ := h hne
    exact (toEn_cells os _ b off c V w rfl hm fun i hi => ⟨(hc i hi).1, (hc i hi).2.1, (hc i hi).2.2.1, hl i hi, S, (hc i hi).2.2.2⟩).mono fun e w' ⟨he, hT⟩ => ⟨_, he, (fin w' hT).1, (fin w' hT).2, Nat.le_refl _⟩

set_option maxHeartbeats 2000000 in
set_option maxRecDepth 4000 in
theorem toRaftC {S T : Nat → Prop} {w : World} {y z : Value} {xs : List Int} {ps : List Oj} (a b c d : Int) (hy : RdI S w y xs) (hz : RdJ T w z ps) (hm : xs.length ≤ 1048576) (hm' : ps.length ≤ 1048576) (hl' : ∀ i, i < ps.length → (ps.getD i oj0).2.2.length ≤ 1048576) :
    Calls Tryz.prog 8 #[.agg #[.int .i64 a, .int .i64 b, .int .i64 c, .int .i64 d, y, z]] w fun e w' =>
      ∃ y' z', e = .returned (.agg #[.int .i64 a, .int .i64 b, .int .i64 c, .int .i64 d, y', z']) ∧ Below w.heap.size w w' ∧ IvR w.heap.size w'.heap.size w' y' z' xs ps ∧ capE z' := by
  have HY := hide hy
  have HZ := hide hz
  have HL' := hide hl'
  have HM := hide hm
  obtain ⟨ay, cy, rfl⟩ := hy.shape
  obtain ⟨az, cz, rfl, _⟩ := hz.shape
  obtain ⟨l, hl⟩ : ∃ l, xs.length = l := ⟨_, rfl⟩
  obtain ⟨m, hme⟩ : ∃ m, ps.length = m := ⟨_, rfl⟩
  have HL := hide hl
  have HME := hide hme
  rw [hl] at HY ⊢
  rw [hme] at HZ ⊢
  have HM' := hide hm'
  clear hy hz hl' hm hm' hl hme
  go_enter Tryz.func8, Tryz.ntmps8
  go_wp2_with fail
  refine (toI' (((HY.out.later (below_alloc _ _)).later (below_alloc _ _)).later (below_alloc _ _)) HM.out).mono ?_
  rintro e w1 ⟨z1, rfl, hb, ho⟩
  obtain ⟨a1, c1, hz1⟩ := ho.shape
  rw [HL.out] at hz1
  subst hz1
  have v0 : w1.cell? ⟨w.heap.size + 1, 0, none⟩ = some (.int .i64 0) := cell_later hb (by simp [go_sem])
  have o0 : w1.cell? ⟨w.heap.size + 2, 0, none⟩ = some (.int .i64 a) := cell_later hb (by simp [go_sem])
  have f0 : w1.frozen? ⟨w.heap.size + 1, 0, none⟩ = false := ((bcell hb).2 _ _ (by simp)).trans (by simp [go_sem])
  have g0 : w1.frozen? ⟨w.heap.size + 2, 0, none⟩ = false := ((bcell hb).2 _ _ (by simp)).trans (by simp [go_sem])
  have v1 : w1.cell? ⟨w.heap.size + 1, 1, none⟩ = some (.int .i64 0) := cell_later hb (by simp [go_sem])
  have o1 : w1.cell? ⟨w.heap.size + 2, 1, none⟩ = some (.int .i64 b) := cell_later hb (by simp [go_sem])
  have f1 : w1.frozen? ⟨w.heap.size + 1, 1, none⟩ = false := ((bcell hb).2 _ _ (by simp)).trans (by simp [go_sem])
  have g1 : w1.frozen? ⟨w.heap.size + 2, 1, none⟩ = false := ((bcell hb).2 _ _ (by simp)).trans (by simp [go_sem])
  have v2 : w1.cell? ⟨w.heap.size + 1, 2, none⟩ = some (.int .i64 0) := cell_later hb (by simp [go_sem])
  have o2 : w1.cell? ⟨w.heap.size + 2, 2, none⟩ = some (.int .i64 c) := cell_later hb (by simp [go_sem])
  have f2 : w1.frozen? ⟨w.heap.size + 1, 2, none⟩ = false := ((bcell hb).2 _ _ (by simp)).trans (by simp [go_sem])
  have g2 : w1.frozen? ⟨w.heap.size + 2, 2, none⟩ = false := ((bcell hb).2 _ _ (by simp)).trans (by simp [go_sem])
  have v3 : w1.cell? ⟨w.heap.size + 1, 3, none⟩ = some (.int .i64 0) := cell_later hb (by simp [go_sem])
  have o3 : w1.cell? ⟨w.heap.size + 2, 3, none⟩ = some (.int .i64 d) := cell_later hb (by simp [go_sem])
  have f3 : w1.frozen? ⟨w.heap.size + 1, 3, none⟩ = false := ((bcell hb).2 _ _ (by simp)).trans (by simp [go_sem])
  have g3 : w1.frozen? ⟨w.heap.size + 2, 3, none⟩ = false := ((bcell hb).2 _ _ (by simp)).trans (by simp [go_sem])
  have v4 : w1.cell? ⟨w.heap.size + 1, 4, none⟩ = some (.slice none 0 0) := cell_later hb (by simp [go_sem])
  have o4 : w1.cell? ⟨w.heap.size + 2, 4, none⟩ = some (.slice none 0 0) := cell_later hb (by simp [go_sem])
  have f4 : w1.frozen? ⟨w.heap.size + 1, 4, none⟩ = false := ((bcell hb).2 _ _ (by simp)).trans (by simp [go_sem])
  have g4 : w1.frozen? ⟨w.heap.size + 2, 4, none⟩ = false := ((bcell hb).2 _ _ (by simp)).trans (by simp [go_sem])
  have v5 : w1.cell? ⟨w.heap.size + 1, 5, none⟩ = some (.slice none 0 0) := cell_later hb (by simp [go_sem])
  have o5 : w1.cell? ⟨w.heap.size + 2, 5, none⟩ = some (.slice none 0 0) := cell_later hb (by simp [go_sem])
  have f5 : w1.frozen? ⟨w.heap.size + 1, 5, none⟩ = false := ((bcell hb).2 _ _ (by simp)).trans (by simp [go_sem])
  have g5 : w1.frozen? ⟨w.heap.size + 2, 5, none⟩ = false := ((bcell hb).2 _ _ (by simp)).trans (by simp [go_sem])
  have k5 : w1.cell? ⟨w.heap.size, 5, none⟩ = some (.slice az m cz) := cell_later hb (by simp [go_sem])
  have hs1 := hb.size
  simp only [World.size_alloc] at hs1
  have HB := hide (below_on (below_on (below_on (below_alloc _ _) (below_alloc _ _)) (below_alloc _ _)) hb)
  have HO := hide ho
  clear hb ho
  go_wp2_with fail
  refine (toEnC (HZ.out.later (HB.out.setCell (p := ⟨w.heap.size + 2, 4, none⟩) (by simp) _)) HM'.out HL'.out).mono ?_
  rintro e w2 ⟨z2, rfl, hb, ho, hcp⟩
  obtain ⟨a2, c2, hz2⟩ := ho.shape
  rw [HME.out] at hz2
  subst hz2
  have HCp := hide hcp
  clear hcp
  have x0 : w2.cell? ⟨w.heap.size + 1, 0, none⟩ = some (.int .i64 0) := cell_later hb ((World.cell?_setCell_other _ _ _ _ (by simp)).trans v0)
  have y0 : w2.cell? ⟨w.heap.size + 2, 0, none⟩ = some (.int .i64 a) := cell_later hb ((World.cell?_setCell_other _ _ _ _ (by simp)).trans o0)
  have p0 : w2.frozen? ⟨w.heap.size + 1, 0, none⟩ = false := ((bcell hb).2 _ _ (by simp; omega)).trans (by rw [World.frozen?_setCell]; exact f0)
  have q0 : w2.frozen? ⟨w.heap.size + 2, 0, none⟩ = false := ((bcell hb).2 _ _ (by simp; omega)).trans (by rw [World.frozen?_setCell]; exact g0)
  have x1 : w2.cell? ⟨w.heap.size + 1, 1, none⟩ = some (.int .i64 0) := cell_later hb ((World.cell?_setCell_other _ _ _ _ (by simp)).trans v1)
  have y1 : w2.cell? ⟨w.heap.size + 2, 1, none⟩ = some (.int .i64 b) := cell_later hb ((World.cell?_setCell_other _ _ _ _ (by simp)).trans o1)
  have p1 : w2.frozen? ⟨w.heap.size + 1, 1, none⟩ = false := ((bcell hb).2 _ _ (by simp; omega)).trans (by rw [World.frozen?_setCell]; exact f1)
  have q1 : w2.frozen? ⟨w.heap.size + 2, 1, none⟩ = false := ((bcell hb).2 _ _ (by simp; omega)).trans (by rw [World.frozen?_setCell]; exact g1)
  have x2 : w2.cell? ⟨w.heap.size + 1, 2, none⟩ = some (.int .i64 0) := cell_later hb ((World.cell?_setCell_other _ _ _ _ (by simp)).trans v2)
  have y2 : w2.cell? ⟨w.heap.size + 2, 2, none⟩ = some (.int .i64 c) := cell_later hb ((World.cell?_setCell_other _ _ _ _ (by simp)).trans o2)
  have p2 : w2.frozen? ⟨w.heap.size + 1, 2, none⟩ = false := ((bcell hb).2 _ _ (by simp; omega)).trans (by rw [World.frozen?_setCell]; exact f2)
  have q2 : w2.frozen? ⟨w.heap.size + 2, 2, none⟩ = false := ((bcell hb).2 _ _ (by simp; omega)).trans (by rw [World.frozen?_setCell]; exact g2)
  have x3 : w2.cell? ⟨w.heap.size + 1, 3, none⟩ = some (.int .i64 0) := cell_later hb ((World.cell?_setCell_other _ _ _ _ (by simp)).trans v3)
  have y3 : w2.cell? ⟨w.heap.size + 2, 3, none⟩ = some (.int .i64 d) := cell_later hb ((World.cell?_setCell_other _ _ _ _ (by simp)).trans o3)
  have p3 : w2.frozen? ⟨w.heap.size + 1, 3, none⟩ = false := ((bcell hb).2 _ _ (by simp; omega)).trans (by rw [World.frozen?_setCell]; exact f3)
  have q3 : w2.frozen? ⟨w.heap.size + 2, 3, none⟩ = false := ((bcell hb).2 _ _ (by simp; omega)).trans (by rw [World.frozen?_setCell]; exact g3)
  have x4 : w2.cell? ⟨w.heap.size + 1, 4, none⟩ = some (.slice none 0 0) := cell_later hb ((World.cell?_setCell_other _ _ _ _ (by simp)).trans v4)
  have y4 : w2.cell? ⟨w.heap.size + 2, 4, none⟩ = some (.slice a1 l c1) := cell_later hb (World.cell?_setCell_same _ _ _ o4)
  have p4 : w2.frozen? ⟨w.heap.size + 1, 4, none⟩ = false := ((bcell hb).2 _ _ (by simp; omega)).trans (by rw [World.frozen?_setCell]; exact f4)
  have q4 : w2.frozen? ⟨w.heap.size + 2, 4, none⟩ = false := ((bcell hb).2 _ _ (by simp; omega)).trans (by rw [World.frozen?_setCell]; exact g4)
  have x5 : w2.cell? ⟨w.heap.size + 1, 5, none⟩ = some (.slice none 0 0) := cell_later hb ((World.cell?_setCell_other _ _ _ _ (by simp)).trans v5)
  have y5 : w2.cell? ⟨w.heap.size + 2, 5, none⟩ = some (.slice none 0 0) := cell_later hb ((World.cell?_setCell_other _ _ _ _ (by simp)).trans o5)
  have p5 : w2.frozen? ⟨w.heap.size + 1, 5, none⟩ = false := ((bcell hb).2 _ _ (by simp; omega)).trans (by rw [World.frozen?_setCell]; exact f5)
  have q5 : w2.frozen? ⟨w.heap.size + 2, 5, none⟩ = false := ((bcell hb).2 _ _ (by simp; omega)).trans (by rw [World.frozen?_setCell]; exact g5)
  have hs2 := hb.size
  simp only [World.size_setCell] at hs2
  have HB2 := hide (below_on (HB.out.setCell (p := ⟨w.heap.size + 2, 4, none⟩) (by simp) _) hb)
  have HO2 := hide ((HO.out.iv.wr (T := fun x => x = w.heap.size + 2) (Wr.setCell (p := ⟨w.heap.size + 2, 4, none⟩) (Wr.refl (fun x => x = w.heap.size + 2) _) rfl (.slice a1 l c1)) (fun b hb1 hb2 e => by simp at hb1; omega)).later hb)
  simp only [World.size_setCell] at ho
  have HJ := hide ho
  clear hb ho HB HO k5 v0 o0 f0 g0 v1 o1 f1 g1 v2 o2 f2 g2 v3 o3 f3 g3 v4 o4 f4 g4 v5 o5 f5 g5
  go_wp2
  refine bodyPost_ret (v := .agg #[.int .i64 a, .int .i64 b, .int .i64 c, .int .i64 d, .slice a1 l c1, .slice a2 m c2]) (by simp [results, Tryz.results8, go_sem, x0, x1, x2, x3, x4, x5]) rfl ⟨_, _, rfl, ?_, ?_, HCp.out⟩
  · repeat (first | refine Below.setCell ?_ (by first | (simp; done) | (simp; omega) | omega) _ | exact HB2.out)
  · refine IvR_made HO2.out HJ.out (by simp; omega) (by simp; omega) (Wr.mono (S := fun b => b < w.heap.size + 3) ?_ (fun b hb => by simp; omega))
    repeat (first | refine Wr.setCell ?_ (by first | (simp; done) | (simp; omega) | omega) _ | exact Wr.refl _ _)

end Go.Proofs.YtlmaopljihbdkaaGreat
/- Chapter 9: 'PackEntry' of both sides, walked. -/
namespace Go.Proofs.YtlmaopljihbdkaaGreat
open Go.RowKit

/-- The words of an entry. -/
def pkE (p : Oj) : List Int := [p.1, p.2.1, (p.2.2.length : Int)] ++ p.2.2
def peR (p : Oj) : List Int := if entF p = 0 then pkE p else []
theorem peR_len (p : Oj) : (peR p).length ≤ 1048576 := by
  unfold peR
  by_cases h : entF p = 0
  · rw [if_pos h]
    have := (entF_zero h).2.1
    simp [pkE]
    omega
  · rw [if_neg h]; simp

set_option maxHeartbeats 4000000 in
set_option maxRecDepth 4000 in
theorem implPackEntry {S : Nat → Prop} {w : World} {y : Value} {xs : List Int} (a t : Int) (hy : RdI S w y xs) :
    Calls Tryz.prog 136 #[.agg #[.int .i64 a, .int .i64 t, y]] w (EndsI (entF (a, t, xs)) (peR (a, t, xs)) w) := by
  obtain ⟨ay, cy, rfl⟩ := hy.shape
  have HY := hide hy
  obtain ⟨n, hn⟩ : ∃ n, xs.length = n := ⟨_, rfl⟩
  have HN := hide hn
  rw [hn] at HY ⊢
  clear hy hn
  unfold peR
  obtain ⟨z, hz⟩ : ∃ z, entF (a, t, xs) = z := ⟨_, rfl⟩
  have HZ := hide hz
  rw [hz]
  clear hz
  have bA := hide (below_on (below_alloc w (.cells #[.int .i64 a, .int .i64 t, .slice ay n cy] 110)) (below_alloc _ (.cells #[.int .i64 0, .slice none 0 0] 166)))
  have HC := hide (implEntryFault a t (HY.out.later bA.out))
  rw [HZ.out] at HC
  by_cases h0 : z = 0
  · subst h0
    rw [if_pos rfl]
    have hn6 : n ≤ 6 := by have := (entF_zero HZ.out).2.1; dsimp only at this; rw [HN.out] at this; exact this
    obtain ⟨i0, hi, hz0, hz1, hz2⟩ := info_parts Tryz.infoInt
    have HPk : Hid (pkE (a, t, xs) = [a, t, (n : Int)] ++ xs) := by rw [Hid]; unfold pkE; dsimp only; rw [HN.out]
    go_enter Tryz.func136, Tryz.ntmps136
    go_wp2_with fail
    refine HC.out.mono ?_
    rintro e w1 ⟨rfl, hb⟩
    have B1 := hide (below_on bA.out hb)
    obtain ⟨c0, c1, c2⟩ := ((Var3_new w (.int .i64 a) (.int .i64 t) (.slice ay n cy) 110).later (below_alloc _ (.cells #[.int .i64 0, .slice none 0 0] 166))).later hb
    have r0 : w1.cell? ⟨w.heap.size + 1, 0, none⟩ = some (.int .i64 0) := cell_later hb (by simp [go_sem])
    have r1 : w1.cell? ⟨w.heap.size + 1, 1, none⟩ = some (.slice none 0 0) := cell_later hb (by simp [go_sem])
    have f0 : w1.frozen? ⟨w.heap.size + 1, 0, none⟩ = false := ((bcell hb).2 _ _ (by simp)).trans (by simp [go_sem])
    have f1 : w1.frozen? ⟨w.heap.size + 1, 1, none⟩ = false := ((bcell hb).2 _ _ (by simp)).trans (by simp [go_sem])
    have hz1' : w.heap.size + 1 < w1.heap.size := World.block_lt_of_cell? _ _ r0
    have hz0' : w.heap.size < w1.heap.size := by omega
    clear hb HC bA
    have HRow : Hid ((w1.alloc (.cells #[.int .i64 a, .int .i64 t, .int .i64 (n : Int)] 2)).ownsRow w1.heap.size 2 1 (.slice (some ⟨w1.heap.size, 0, none⟩) 3 3) 3 ([a, t, (n : Int)].map (Value.int .i64))) :=
      ownsRow_fullF w1 [.int .i64 a, .int .i64 t, .int .i64 (n : Int)] 2 (by simp)
    have bB := below_alloc w1 (.cells #[.int .i64 a, .int .i64 t, .int .i64 (n : Int)] 2)
    have HS : Hid (n ≠ 0 → ∃ ad, ay = some ad ∧ ∀ j u, (xs.map (Value.int .i64))[j]? = some u → (w1.alloc (.cells #[.int .i64 a, .int .i64 t, .int .i64 (n : Int)] 2)).cell? (ad.add j) = some u) := by
      obtain ⟨a4, c4, e4, hsrc⟩ := (HY.out.later (below_on B1.out bB)).src
      injection e4 with e5 _ e6
      subst e5
      rw [HN.out] at hsrc
      exact hsrc
    have BB := hide bB
    clear bB
    have HPre : Hid (∀ (w5 : World), (w1.alloc (.cells #[.int .i64 a, .int .i64 t, .int .i64 (n : Int)] 2)).grownBy w5 (Value.ownBlock (.slice (some ⟨w1.heap.size, 0, none⟩) 3 3)) → Below w1.heap.size w1 w5 ∧ w5.cell? ⟨w.heap.size + 1, 0, none⟩ = some (.int .i64 0) ∧ w5.cell? ⟨w.heap.size + 1, 1, none⟩ = some (.slice none 0 0) ∧ w5.frozen? ⟨w.heap.size + 1, 0, none⟩ = false ∧ w5.frozen? ⟨w.heap.size + 1, 1, none⟩ = false) := by
      intro w5 hgrow
      have hB5 := BB.out.grown hgrow (by simp) (fun r hr => (HRow.out.lt r hr).1)
      exact ⟨hB5, cell_later hB5 r0, cell_later hB5 r1, ((bcell hB5).2 _ _ hz1').trans f0, ((bcell hB5).2 _ _ hz1').trans f1⟩
    go_wp2_with (at_builtin; refine wpList_append_any _ rfl _ _ 22 rfl w1.heap.size 2 i0 (.int .i64 0) 1 8 Tryz.underlying22 hi hz0 hz1 hz2 rfl (by decide) _ 3 _ (by rfl) HRow.out ay n cy (xs.map (Value.int .i64)) (by rfl) (by simp [HN.out]) HS.out (ints_oneCell _ _) (by unfold maxLen; omega) (by omega) (by simp) ?_; intro v' w5 hown hgrow; obtain ⟨az, cz, hv'⟩ := owns_shapeR hown; subst hv'; obtain ⟨hB5, e0, e1, F0, F1⟩ := HPre.out _ hgrow; have HO := hide hown; have HB5 := hide hB5; clear hown hgrow hB5)
    have HFn := hide (ret_ints (x := .int .i64 0) (below_on B1.out HB5.out) (Nat.le_succ w.heap.size) (ow_of_owns (n := 3 + n) (xs := [a, t, (n : Int)] ++ xs) (by simp [HN.out]; omega) (by rw [List.map_append]; exact HO.out) (by simp [HN.out]; omega)) hz1')
    rw [HPk.out]
    refine bodyPost_ret (v := .agg #[.int .i64 0, .slice az (3 + n) cz]) (by simp [results, Tryz.results136, go_sem, e0, e1]) rfl ⟨_, rfl, HFn.out.1, HFn.out.2⟩
  · rw [if_neg h0]
    have h0b : (z == 0) = false := by simpa using h0
    go_enter Tryz.func136, Tryz.ntmps136
    go_wp2_with fail
    refine HC.out.mono ?_
    rintro e w1 ⟨rfl, hb⟩
    have B1 := hide (below_on bA.out hb)
    have r0 : w1.cell? ⟨w.heap.size + 1, 0, none⟩ = some (.int .i64 0) := cell_later hb (by simp [go_sem])
    have r1 : w1.cell? ⟨w.heap.size + 1, 1, none⟩ = some (.slice none 0 0) := cell_later hb (by simp [go_sem])
    have f0 : w1.frozen? ⟨w.heap.size + 1, 0, none⟩ = false := ((bcell hb).2 _ _ (by simp)).trans (by simp [go_sem])
    have f1 : w1.frozen? ⟨w.heap.size + 1, 1, none⟩ = false := ((bcell hb).2 _ _ (by simp)).trans (by simp [go_sem])
    clear hb
    go_wp2
    refine bodyPost_ret (v := .agg #[.int .i64 z, .slice none 0 0]) (by simp [results, Tryz.results136, go_sem, r0, r1]) rfl ⟨_, rfl, (B1.out.setCell (Nat.le_succ _) _).setCell (Nat.le_succ _) _, OwI_nil _ _⟩

set_option maxHeartbeats 4000000 in
set_option maxRecDepth 4000 in
/-- 'spec.l9Pack': the row that it has built. -/
theorem l9Pack {S : Nat → Prop} {w : World} {b off : Nat} {p : Oj} (hp : RdFp S w b off p) (hm : p.2.2.length ≤ 1048576) :
    Calls Tryz.prog 71 #[.pointer (some ⟨b, off, none⟩)] w fun e w' => ∃ z, e = .returned z ∧ Below w.heap.size w w' ∧ w'.ownsRow w.heap.size 2 1 z (3 + p.2.2.length) ((pkE p).map (Value.int .i64)) := by
  obtain ⟨y, g0, g1, g2, hy⟩ := hp
  obtain ⟨a, t, xs⟩ := p
  dsimp only at g0 g1 hy hm ⊢
  obtain ⟨ay, cy, rfl⟩ := hy.shape
  have HY := hide hy
  obtain ⟨n, hn⟩ : ∃ n, xs.length = n := ⟨_, rfl⟩
  have HN := hide hn
  rw [hn] at HY hm g2 ⊢
  clear hy hn
  obtain ⟨i0, hi, hz0, hz1, hz2⟩ := info_parts Tryz.infoInt
  have HPk : Hid (pkE (a, t, xs) = [a, t, (n : Int)] ++ xs) := by rw [Hid]; unfold pkE; dsimp only; rw [HN.out]
  rw [HPk.out]
  have HRow : Hid ((w.drew.alloc (.cells #[.int .i64 a, .int .i64 t, .int .i64 (n : Int)] 2)).ownsRow w.heap.size 2 1 (.slice (some ⟨w.heap.size, 0, none⟩) 3 3) 3 ([a, t, (n : Int)].map (Value.int .i64))) :=
    ownsRow_fullF w.drew [.int .i64 a, .int .i64 t, .int .i64 (n : Int)] 2 (by simp)
  have bB := below_on (below_drewN w 1) (below_alloc (w.drewN 1) (.cells #[.int .i64 a, .int .i64 t, .int .i64 (n : Int)] 2))
  have HS : Hid (n ≠ 0 → ∃ ad, ay = some ad ∧ ∀ j u, (xs.map (Value.int .i64))[j]? = some u → (w.drew.alloc (.cells #[.int .i64 a, .int .i64 t, .int .i64 (n : Int)] 2)).cell? (ad.add j) = some u) := by
    obtain ⟨a4, c4, e4, hsrc⟩ := (HY.out.later bB).src
    injection e4 with e5 _ e6
    subst e5
    rw [HN.out] at hsrc
    exact hsrc
  have BB := hide bB
  have hbl : b < w.heap.size := World.block_lt_of_cell? _ _ g0
  clear bB
  go_enter Tryz.func71, Tryz.ntmps71
  go_wp2_with fail
  go_region_law (refine step_append_fi _ (by rfl) _ _ _ (by rfl) w.heap.size 2 i0 (.int .i64 0) 1 8 Tryz.underlying22 hi hz0 hz1 hz2 rfl (by decide) (.slice (some ⟨w.heap.size, 0, none⟩) 3 3) 3 _ (by rfl) HRow.out ay n cy (xs.map (Value.int .i64)) (by rfl) (by simp [HN.out]) HS.out (ints_oneCell _ _) (by unfold maxLen; omega) (by omega) (by simp) ?_; intro v' w5 hown hgrow)
  all_goals
    have hB5 := BB.out.grown hgrow (by simp) (fun r hr => (HRow.out.lt r hr).1)
    have HB5 := hide hB5
    have HO : Hid (w5.ownsRow w.heap.size 2 1 v' (3 + n) (([a, t, (n : Int)] ++ xs).map (Value.int .i64))) := by rw [Hid, List.map_append]; exact hown
    clear hown hgrow hB5
    go_wp2
    go_ret
    exact ⟨_, rfl, HB5.out, HO.out⟩

end Go.Proofs.YtlmaopljihbdkaaGreat
/- Chapter 9: 'SlotFor' of both sides, walked. -/
namespace Go.Proofs.YtlmaopljihbdkaaGreat
open Go.RowKit

def sfC (i : Int) : Int := if 1 ≤ i ∧ i ≤ 9999 then 0 else 3
def sfV (i : Int) : Int := if 1 ≤ i ∧ i ≤ 9999 then 24 + i % 14 else 0
theorem sf_mod {i : Int} (h : 1 ≤ i) : Int.tmod i 14 = i % 14 := Int.tmod_eq_emod_of_nonneg (by omega)

set_option maxRecDepth 4000 in
theorem implSlotFor (i : Int) (w : World) :
    Calls Tryz.prog 99 #[.int .i64 i] w fun e w' => e = .returned (.agg #[.int .i64 (sfC i), .int .i64 (sfV i)]) ∧ Below w.heap.size w w' := by
  unfold sfC sfV
  have A0 := hide (below_alloc w (.cells #[.int .i64 0, .int .i64 0] 142))
  by_cases h : 1 ≤ i ∧ i ≤ 9999
  · rw [if_pos h, if_pos h]
    have HI := hide h
    have hm := sf_mod h.1
    have hr : 0 ≤ i % 14 ∧ i % 14 < 14 := ⟨Int.emod_nonneg _ (by decide), Int.emod_lt_of_pos _ (by decide)⟩
    generalize i % 14 = r at hm hr ⊢
    clear h
    go_enter Tryz.func99, Tryz.ntmps99
    go_wp2_with fail
    refine (isIndexY i HI.out.1 HI.out.2 _).mono ?_
    rintro e w1 ⟨rfl, hw⟩
    have hw := hw.symm
    subst hw
    go_wp2
    refine bodyPost_ret (v := .agg #[.int .i64 0, .int .i64 (24 + r)]) (by simp [results, Tryz.results99, go_sem]) rfl ⟨rfl, ?_⟩
    repeat (first | exact A0.out | exact below_alloc _ _ | refine Below.setCell ?_ (by first | (simp; done) | (simp; omega) | omega) _)
  · rw [if_neg h, if_neg h]
    have HI := hide h
    clear h
    go_enter Tryz.func99, Tryz.ntmps99
    go_wp2_with fail
    refine (isIndexN i HI.out _).mono ?_
    rintro e w1 ⟨rfl, hw⟩
    have hw := hw.symm
    subst hw
    go_wp2
    refine bodyPost_ret (v := .agg #[.int .i64 3, .int .i64 0]) (by simp [results, Tryz.results99, go_sem]) rfl ⟨rfl, ?_⟩
    repeat (first | exact A0.out | exact below_alloc _ _ | refine Below.setCell ?_ (by first | (simp; done) | (simp; omega) | omega) _)
theorem l9Slot (i : Int) (h : 1 ≤ i) (w : World) : Calls Tryz.prog 70 #[.int .i64 i] w fun e w' => e = .returned (.int .i64 (24 + i % 14)) ∧ w' = w := by
  have hm := sf_mod h
  have hr : 0 ≤ i % 14 ∧ i % 14 < 14 := ⟨Int.emod_nonneg _ (by decide), Int.emod_lt_of_pos _ (by decide)⟩
  generalize i % 14 = r at hm hr ⊢
  go_enter Tryz.func70, Tryz.ntmps70
  go_wp2
  go_ret
  exact ⟨by go_num, rfl⟩
end Go.Proofs.YtlmaopljihbdkaaGreat
