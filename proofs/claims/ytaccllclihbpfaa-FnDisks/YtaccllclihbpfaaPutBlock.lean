/- 'impl.PutBlock' walked. -/
import Derived.Test.YtaccllclihbpfaaPutFin
namespace Go.Proofs.Ytaccllclihbpfaa
open Go.RowKit

/-- The code of a put. -/
def putF (xss : List (List Int)) (ps : List (Int × List Int)) (at_ : Int) (xs : List Int) : Int :=
  if placeF xss ps at_ = 0 then (if wordsF xs = 0 then (if 200 ≤ ps.length then 2 else 0) else wordsF xs) else placeF xss ps at_
def putXs (xss : List (List Int)) (ps : List (Int × List Int)) (at_ : Int) (xs : List Int) : List (List Int) := if putF xss ps at_ xs = 0 then xss else []
def putPs (xss : List (List Int)) (ps : List (Int × List Int)) (at_ : Int) (xs : List Int) : List (Int × List Int) := if putF xss ps at_ xs = 0 then ps ++ [(at_, xs)] else []

set_option maxHeartbeats 4000000 in
set_option maxRecDepth 4000 in
theorem implPut {S T S2 : Nat → Prop} {w : World} {u v y : Value} {xss : List (List Int)} {ps : List (Int × List Int)} {xs : List Int} (at_ : Int) (hu : RdII S w u xss) (hv : RdP T w v ps) (hy : RdI S2 w y xs) (hs : Small xss ps) (hl : xs.length ≤ 1048576) :
    Calls Try.prog 18 #[.agg #[u, v], .int .i64 at_, y] w (EndsD (putF xss ps at_ xs) (putXs xss ps at_ xs) (putPs xss ps at_ xs) w) := by
  unfold EndsD putXs putPs
  have HU := hide hu
  have HV := hide hv
  have HY := hide hy
  have HS := hide hs
  obtain ⟨ao, c, rfl, hn⟩ := hu.shape
  obtain ⟨ao', c', rfl, hm⟩ := hv.shape
  obtain ⟨i0, hi, hz0, hz1, hz2⟩ := info_parts Try.infoPut
  clear hu hv hy hs
  obtain ⟨z, hz⟩ : ∃ z, placeF xss ps at_ = z := ⟨_, rfl⟩
  by_cases h0 : z = 0
  · subst h0
    obtain ⟨y1, hy1⟩ : ∃ y1, wordsF xs = y1 := ⟨_, rfl⟩
    by_cases h1 : y1 = 0
    · subst h1
      by_cases h2 : 200 ≤ ps.length
      · have hp : putF xss ps at_ xs = 2 := by unfold putF; rw [if_pos hz, if_pos hy1, if_pos h2]
        rw [if_neg (by rw [hp]; decide), if_neg (by rw [hp]; decide), hp]
        have HZ := hide hz
        have HW := hide hy1
        clear hz hy1 hp
        go_enter Try.func18, Try.ntmps18
        go_wp2_with fail
        refine (placeFault at_ ((HU.out.later (below_alloc _ _)).later (below_alloc _ _)) ((HV.out.later (below_alloc _ _)).later (below_alloc _ _))).mono ?_
        rintro e w1 ⟨he, hb⟩
        rw [HZ.out] at he
        subst he
        have HB := hide (below_on (below_on (below_alloc _ _) (below_alloc _ _)) hb)
        have q3 : w1.cell? ⟨w.heap.size, 1, none⟩ = some (.slice ao' ps.length c') := cell_later hb (by simp [go_sem])
        have V := hide (Var3.later (w := (w.alloc (.cells #[.slice ao xss.length c, .slice ao' ps.length c'] 27)).alloc (.cells #[.int .i64 0, .slice none 0 0, .slice none 0 0] 32)) (Var3_new _ _ _ _ _) hb)
        have r0 : ∀ o, w1.frozen? ⟨w.heap.size + 1, o, none⟩ = false := fun o => ((bcell hb).2 _ _ (by simp)).trans (by simp [go_sem])
        have HR0 := hide r0
        clear hb r0
        go_wp2_with fail
        refine (wordsFault (HY.out.later HB.out)).mono ?_
        rintro e w2 ⟨he, q, rfl⟩
        rw [HW.out] at he
        subst he
        have v0 : w1.cell? ⟨w.heap.size + 1, 0, none⟩ = some (.int .i64 0) := by have := V.out.1; simpa using this
        have v1 : w1.cell? ⟨w.heap.size + 1, 1, none⟩ = some (.slice none 0 0) := by have := V.out.2.1; simpa using this
        have v2 : w1.cell? ⟨w.heap.size + 1, 2, none⟩ = some (.slice none 0 0) := by have := V.out.2.2; simpa using this
        have f0 := HR0.out 0
        have f1 := HR0.out 1
        have f2 := HR0.out 2
        go_wp2
        refine bodyPost_ret (v := .agg #[.int .i64 2, .slice none 0 0, .slice none 0 0]) (by simp [results, Try.results18, go_sem, v0, v1, v2]) rfl ⟨_, _, rfl, ?_, OwD_nil _ _⟩
        exact (((below_on HB.out (below_drewN _ q)).setCell (by simp) _).setCell (by simp) _).setCell (by simp) _
      · have hp : putF xss ps at_ xs = 0 := by unfold putF; rw [if_pos hz, if_pos hy1, if_neg h2]
        rw [if_pos hp, if_pos hp, hp]
        have HZ := hide hz
        have HW := hide hy1
        clear hz hy1 hp
        go_enter Try.func18, Try.ntmps18
        go_wp2_with fail
        refine (placeFault at_ ((HU.out.later (below_alloc _ _)).later (below_alloc _ _)) ((HV.out.later (below_alloc _ _)).later (below_alloc _ _))).mono ?_
        rintro e w1 ⟨he, hb⟩
        rw [HZ.out] at he
        subst he
        have HB := hide (below_on (below_on (below_alloc _ _) (below_alloc _ _)) hb)
        have q2 : w1.cell? ⟨w.heap.size, 0, none⟩ = some (.slice ao xss.length c) := cell_later hb (by simp [go_sem])
        have q3 : w1.cell? ⟨w.heap.size, 1, none⟩ = some (.slice ao' ps.length c') := cell_later hb (by simp [go_sem])
        have V := hide (Var3.later (w := (w.alloc (.cells #[.slice ao xss.length c, .slice ao' ps.length c'] 27)).alloc (.cells #[.int .i64 0, .slice none 0 0, .slice none 0 0] 32)) (Var3_new _ _ _ _ _) hb)
        have r0 : ∀ o, w1.frozen? ⟨w.heap.size + 1, o, none⟩ = false := fun o => ((bcell hb).2 _ _ (by simp)).trans (by simp [go_sem])
        have HR0 := hide r0
        have hs1 : w.heap.size + 1 < w1.heap.size := by have := hb.size; simp at this; omega
        have HQ2 := hide q2
        clear hb r0
        go_wp2_with fail
        refine (wordsFault (HY.out.later HB.out)).mono ?_
        rintro e w2 ⟨he, q, rfl⟩
        rw [HW.out] at he
        subst he
        go_wp2_with fail
        refine (copyDisk (HU.out.later (below_on HB.out (below_drewN _ q))) (HV.out.later (below_on HB.out (below_drewN _ q))) HS.out).mono ?_
        rintro e w3 ⟨z1, z2, mm, rfl, hb1, hmm1, hmm2, hII, hP⟩
        obtain ⟨a1, k1, rfl⟩ := hII.shape
        obtain ⟨a2, k2, rfl⟩ := hP.shape
        simp only [World.heap_drewN] at hmm1 hII
        have v0 : w3.cell? ⟨w.heap.size + 1, 0, none⟩ = some (.int .i64 0) := cell_later hb1 (by have := V.out.1; simpa using this)
        have v1 : w3.cell? ⟨w.heap.size + 1, 1, none⟩ = some (.slice none 0 0) := cell_later hb1 (by have := V.out.2.1; simpa using this)
        have v2 : w3.cell? ⟨w.heap.size + 1, 2, none⟩ = some (.slice none 0 0) := cell_later hb1 (by have := V.out.2.2; simpa using this)
        have f : ∀ o, w3.frozen? ⟨w.heap.size + 1, o, none⟩ = false := fun o => ((bcell hb1).2 _ _ (by simpa using hs1)).trans (by simpa using HR0.out o)
        have HB1 := hide (below_on (below_on HB.out (below_drewN w1 q)) hb1)
        have hs3 : w1.heap.size ≤ w3.heap.size := hb1.size
        obtain ⟨V2, Bk2, hown, hpr, hin⟩ := (hP.later (below_alloc w3 (.cells #[.slice a1 xss.length k1, .slice a2 ps.length k2] 27))).snoc (at_, xs)
        have HII := hide hII
        have HOw0 := hide hown
        have HPr := hide hpr
        have HIn := hide hin
        have HV0 := hide v0
        have HV1 := hide v1
        have HV2 := hide v2
        have HF := hide f
        have HG0 := hide (show (w3.alloc (.cells #[.slice a1 xss.length k1, .slice a2 ps.length k2] 27)).cell? ⟨w3.heap.size, 0, none⟩ = some (.slice a1 xss.length k1) by simp [go_sem])
        have HG1 := hide (show (w3.alloc (.cells #[.slice a1 xss.length k1, .slice a2 ps.length k2] 27)).cell? ⟨w3.heap.size, 1, none⟩ = some (.slice a2 ps.length k2) by simp [go_sem])
        have HGf := hide (show (w3.alloc (.cells #[.slice a1 xss.length k1, .slice a2 ps.length k2] 27)).frozen? ⟨w3.heap.size, 1, none⟩ = false by simp [go_sem])
        clear hb1 hII hP hown hpr hin v0 v1 v2 f q2 q3
        go_wp2_with fail
        go_region_law (first
            | (refine step_append_lies _ (by rfl) _ _ _ (by rfl) 0 37 i0 (.agg #[.int .i64 0, .slice none 0 0]) 2 32 Try.underlying25 hi hz0 hz1 hz2 rfl (by omega) (.slice a2 ps.length k2) ps.length _ (by rfl) (ownsRow_later (ownsRow_later HOw0.out HB2.out) (below_alloc w2 (.cells #[.int .i64 at_, .slice ao4 xs.length c4] 37))) ⟨w2.heap.size, 0, none⟩ 1 1 [.int .i64 at_, .slice ao4 xs.length c4] (by rfl) (by rfl) (World.news_of_block (cs := #[.int .i64 at_, .slice ao4 xs.length c4]) (t := 37) (fr := (0, 0)) (heap_alloc_new w2 _)) cells2_one (by omega) (by unfold maxLen; omega) (by omega) (Nat.zero_le _) (w2.heap.size + 1) (by simp) ?_; intro g cap w4 hown3 hgrow hat hlt3; have s0 := (hgrow.cell_far ⟨w3.heap.size, 1, none⟩ (by simp; omega) (fun e => by have := (HPr.out _ e.symm).2; dsimp only at this; omega)).trans (cell_later (below_alloc _ _) e1); have s1 : w4.frozen? ⟨w3.heap.size, 1, none⟩ = false := (hgrow.frozen_far ⟨w3.heap.size, 1, none⟩ (by simp; omega) (fun e => by have := (HPr.out _ e.symm).2; dsimp only at this; omega)).trans (((bcell (below_alloc w2 _)).2 _ _ (by omega)).trans ef))
            | (go_simp; go_at_call 63; refine (copyWords ((HY.out.later (below_on HB1.out (below_alloc w3 (.cells #[.slice a1 xss.length k1, .slice a2 ps.length k2] 27)))).drewN 1) hl).mono ?_; rintro e w2 ⟨z4, rfl, hb2, ho2⟩; obtain ⟨ao4, c4, rfl⟩ := ho2.shape; have e1 := cell_later hb2 HG1.out; have ef : w2.frozen? ⟨w3.heap.size, 1, none⟩ = false := ((bcell hb2).2 _ _ (by simp)).trans HGf.out; have HB2 := hide (below_on (below_drewN (w3.alloc (.cells #[.slice a1 xss.length k1, .slice a2 ps.length k2] 27)) 1) hb2); have HO2 := hide ho2; have hzz : w3.heap.size + 1 ≤ w2.heap.size := Nat.le_trans (by simp) hb2.size; have hzl : w3.heap.size < w2.heap.size := hzz; clear hb2 ho2))
        all_goals
          have hne : ∀ b, b < w1.heap.size → some b ≠ (Value.slice a2 ps.length k2).ownBlock := fun b hb e => by have := (HPr.out _ e.symm).1; omega
          have hne1 : some w3.heap.size ≠ (Value.slice a2 ps.length k2).ownBlock := fun e => by have := (HPr.out _ e.symm).2; omega
          have HFin := hide (put_fin2 (B := w1.heap.size) HII.out (fun b hb => ⟨hb.1, by omega⟩) (fun b hb => ⟨by omega, hb.2⟩) (fun b hb hb' => by omega) (by omega) HIn.out HOw0.out HPr.out (by simpa using HB2.out) (by simpa using HO2.out) hown3 hgrow (by simpa using hat) ⟨HS.out.rows, HS.out.puts⟩)
          have m0 := (hgrow.cell_far ⟨w3.heap.size, 0, none⟩ (by simp; omega) hne1).trans (cell_later (below_alloc _ _) (cell_later HB2.out HG0.out))
          have v0 := (hgrow.cell_far ⟨w.heap.size + 1, 0, none⟩ (by simp; omega) (hne _ (by simpa using hs1))).trans (cell_later (below_alloc _ _) (cell_later HB2.out (cell_later (below_alloc _ _) HV0.out)))
          have v1 := (hgrow.cell_far ⟨w.heap.size + 1, 1, none⟩ (by simp; omega) (hne _ (by simpa using hs1))).trans (cell_later (below_alloc _ _) (cell_later HB2.out (cell_later (below_alloc _ _) HV1.out)))
          have v2 := (hgrow.cell_far ⟨w.heap.size + 1, 2, none⟩ (by simp; omega) (hne _ (by simpa using hs1))).trans (cell_later (below_alloc _ _) (cell_later HB2.out (cell_later (below_alloc _ _) HV2.out)))
          have ff : ∀ o, w4.frozen? ⟨w.heap.size + 1, o, none⟩ = false := fun o => (hgrow.frozen_far ⟨w.heap.size + 1, o, none⟩ (by simp; omega) (hne _ (by simpa using hs1))).trans (((bcell (below_alloc w2 _)).2 _ _ (by omega)).trans (((bcell HB2.out).2 _ _ (by simp; omega)).trans (((bcell (below_alloc w3 _)).2 _ _ (by omega)).trans (HF.out o))))
          have f0 := ff 0
          have f1 := ff 1
          have f2 := ff 2
          have HBf := hide ((((below_on (below_on (below_on HB1.out (below_alloc w3 (.cells #[.slice a1 xss.length k1, .slice a2 ps.length k2] 27))) HB2.out) (below_alloc w2 (.cells #[.int .i64 at_, .slice ao4 xs.length c4] 37))).grown hgrow (by simp; omega) (fun r hr => by have := (HPr.out _ hr).1; omega)).setCell (p := ⟨w3.heap.size, 1, none⟩) (by dsimp only; omega) (.slice (some ⟨g, 0, none⟩) (ps.length + 1) cap)))
          have hlt4 : w3.heap.size < w4.heap.size := by have := hgrow.size; simp at this; omega
          clear hown3 hgrow hat e1 ef ff hne hne1
          go_wp2
          have hd := ret_disk (x := .int .i64 0) HBf.out (r := w.heap.size + 1) (by omega) HFin.out.2 (by omega)
          refine bodyPost_ret (v := .agg #[.int .i64 0, .slice a1 xss.length k1, .slice (some ⟨g, 0, none⟩) (ps.length + 1) cap]) (by simp [results, Try.results18, go_sem, v0, v1, v2]) rfl ⟨_, _, rfl, hd.1, hd.2⟩
    · have hp : putF xss ps at_ xs = y1 := by unfold putF; rw [if_pos hz, if_neg (by rw [hy1]; exact h1), hy1]
      rw [if_neg (by rw [hp]; exact h1), if_neg (by rw [hp]; exact h1), hp]
      have HZ := hide hz
      have HW := hide hy1
      clear hz hy1 hp
      go_enter Try.func18, Try.ntmps18
      go_wp2_with fail
      refine (placeFault at_ ((HU.out.later (below_alloc _ _)).later (below_alloc _ _)) ((HV.out.later (below_alloc _ _)).later (below_alloc _ _))).mono ?_
      rintro e w1 ⟨he, hb⟩
      rw [HZ.out] at he
      subst he
      have HB := hide (below_on (below_on (below_alloc _ _) (below_alloc _ _)) hb)
      have V := hide (Var3.later (w := (w.alloc (.cells #[.slice ao xss.length c, .slice ao' ps.length c'] 27)).alloc (.cells #[.int .i64 0, .slice none 0 0, .slice none 0 0] 32)) (Var3_new _ _ _ _ _) hb)
      have r0 : ∀ o, w1.frozen? ⟨w.heap.size + 1, o, none⟩ = false := fun o => ((bcell hb).2 _ _ (by simp)).trans (by simp [go_sem])
      have HR0 := hide r0
      clear hb r0
      go_wp2_with fail
      refine (wordsFault (HY.out.later HB.out)).mono ?_
      rintro e w2 ⟨he, q, rfl⟩
      rw [HW.out] at he
      subst he
      have v0 : w1.cell? ⟨w.heap.size + 1, 0, none⟩ = some (.int .i64 0) := by have := V.out.1; simpa using this
      have v1 : w1.cell? ⟨w.heap.size + 1, 1, none⟩ = some (.slice none 0 0) := by have := V.out.2.1; simpa using this
      have v2 : w1.cell? ⟨w.heap.size + 1, 2, none⟩ = some (.slice none 0 0) := by have := V.out.2.2; simpa using this
      have f0 := HR0.out 0
      have f1 := HR0.out 1
      have f2 := HR0.out 2
      go_wp2
      refine bodyPost_ret (v := .agg #[.int .i64 y1, .slice none 0 0, .slice none 0 0]) (by simp [results, Try.results18, go_sem, v0, v1, v2]) rfl ⟨_, _, rfl, ?_, OwD_nil _ _⟩
      exact (((below_on HB.out (below_drewN _ q)).setCell (by simp) _).setCell (by simp) _).setCell (by simp) _
  · have hp : putF xss ps at_ xs = z := by unfold putF; rw [if_neg (by rw [hz]; exact h0), hz]
    rw [if_neg (by rw [hp]; exact h0), if_neg (by rw [hp]; exact h0), hp]
    have HZ := hide hz
    clear hz hp
    go_enter Try.func18, Try.ntmps18
    go_wp2_with fail
    refine (placeFault at_ ((HU.out.later (below_alloc _ _)).later (below_alloc _ _)) ((HV.out.later (below_alloc _ _)).later (below_alloc _ _))).mono ?_
    rintro e w1 ⟨he, hb⟩
    rw [HZ.out] at he
    subst he
    have HB := hide (below_on (below_on (below_alloc _ _) (below_alloc _ _)) hb)
    have v0 : w1.cell? ⟨w.heap.size + 1, 0, none⟩ = some (.int .i64 0) := cell_later hb (by simp [go_sem])
    have v1 : w1.cell? ⟨w.heap.size + 1, 1, none⟩ = some (.slice none 0 0) := cell_later hb (by simp [go_sem])
    have v2 : w1.cell? ⟨w.heap.size + 1, 2, none⟩ = some (.slice none 0 0) := cell_later hb (by simp [go_sem])
    have f0 : w1.frozen? ⟨w.heap.size + 1, 0, none⟩ = false := ((bcell hb).2 _ _ (by simp)).trans (by simp [go_sem])
    have f1 : w1.frozen? ⟨w.heap.size + 1, 1, none⟩ = false := ((bcell hb).2 _ _ (by simp)).trans (by simp [go_sem])
    have f2 : w1.frozen? ⟨w.heap.size + 1, 2, none⟩ = false := ((bcell hb).2 _ _ (by simp)).trans (by simp [go_sem])
    clear hb
    go_wp2
    refine bodyPost_ret (v := .agg #[.int .i64 z, .slice none 0 0, .slice none 0 0]) (by simp [results, Try.results18, go_sem, v0, v1, v2]) rfl ⟨_, _, rfl, ?_, OwD_nil _ _⟩
    exact ((HB.out.setCell (by simp) _).setCell (by simp) _).setCell (by simp) _
end Go.Proofs.Ytaccllclihbpfaa
