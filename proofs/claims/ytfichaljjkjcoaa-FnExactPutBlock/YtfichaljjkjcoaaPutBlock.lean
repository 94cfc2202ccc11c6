/- 'impl.PutBlock' walked. -/
import Derived.Test.YtfichaljjkjcoaaBuilt2
import Derived.Test.YtfichaljjkjcoaaBlockAt
namespace Go.Proofs.Ytfichaljjkjcoaa
open Go.RowKit

/-- The code of a put. -/
def putF (xss : List (List Int)) (ps : List (Int × List Int)) (at_ : Int) (xs : List Int) : Int :=
  if placeF xss ps at_ = 0 then (if wordsF xs = 0 then (if 200 ≤ ps.length then 2 else 0) else wordsF xs) else placeF xss ps at_
def putXs (xss : List (List Int)) (ps : List (Int × List Int)) (at_ : Int) (xs : List Int) : List (List Int) := if putF xss ps at_ xs = 0 then xss else []
def putPs (xss : List (List Int)) (ps : List (Int × List Int)) (at_ : Int) (xs : List Int) : List (Int × List Int) := if putF xss ps at_ xs = 0 then ps ++ [(at_, xs)] else []

theorem OwD_nil (B : Nat) (w : World) : OwD B w (.slice none 0 0) (.slice none 0 0) [] [] :=
  ⟨fun _ => False, fun _ => False, fun _ h => absurd h id, fun _ h => absurd h id, fun _ h => absurd h id, OwII_nil _ _, OwP_nil _ _⟩

theorem BuiltP.snoc {P : Nat → Prop} {w : World} {v : Value} {ps : List (Int × List Int)} (h : BuiltP P w v ps.length ps) (p : Int × List Int) : BuiltP P w v ps.length (ps ++ [p]) := by
  obtain ⟨V, Bk, h1, hpr, h2, h3⟩ := h
  have e : ∀ i, i < ps.length → (ps ++ [p]).getD i (0, []) = ps.getD i (0, []) := fun i hi => by simp [List.getD, List.getElem?_append_left hi]
  refine ⟨V, Bk, ?_, hpr, fun i hi => by rw [e i hi]; exact h2 i hi, fun i hi hn => ?_⟩
  · have : cellsP (ps ++ [p]) ps.length V = cellsP ps ps.length V := by
      unfold cellsP
      refine List.map_congr_left fun t ht => ?_
      have := List.mem_range.1 ht
      rw [e (t / 2) (by omega)]
    rw [this]; exact h1
  · rw [e i hi] at hn
    obtain ⟨k1, k2, k3, k4, k5⟩ := h3 i hi hn
    exact ⟨k1, k2, k3, k4, fun j hj hj' ej => k5 j hj (by rw [e j hj] at hj'; exact hj') ej⟩

/-- The end of a function that stores a code and a disk into its result's variable. -/
theorem ret_disk {w w3 : World} {B r : Nat} {u v x : Value} {xss : List (List Int)} {ps : List (Int × List Int)} (hb : Below w.heap.size w w3) (hr : w.heap.size ≤ r) (ho : OwD B w3 u v xss ps) (hB : r < B) :
    Below w.heap.size w (((w3.setCell ⟨r, 0, none⟩ x).setCell ⟨r, 1, none⟩ u).setCell ⟨r, 2, none⟩ v) ∧ OwD w.heap.size (((w3.setCell ⟨r, 0, none⟩ x).setCell ⟨r, 1, none⟩ u).setCell ⟨r, 2, none⟩ v) u v xss ps := by
  have hw : Wr (fun y => y = r) w3 (((w3.setCell ⟨r, 0, none⟩ x).setCell ⟨r, 1, none⟩ u).setCell ⟨r, 2, none⟩ v) := (((Wr.refl (fun y => y = r) _).setCell (p := ⟨r, 0, none⟩) rfl _).setCell (p := ⟨r, 1, none⟩) rfl _).setCell (p := ⟨r, 2, none⟩) rfl _
  refine ⟨((hb.setCell (p := ⟨r, 0, none⟩) hr _).setCell (p := ⟨r, 1, none⟩) hr _).setCell (p := ⟨r, 2, none⟩) hr _, ?_⟩
  obtain ⟨S, T, h1, h2, h3, h4, h5⟩ := ho
  exact ⟨S, T, fun b hb => by have := h1 b hb; simp; omega, fun b hb => by have := h2 b hb; simp; omega, h3, h4.wr hw fun b hb e => by have := h1 b hb; omega, h5.wr hw fun b hb e => by have := h2 b hb; omega⟩

set_option maxHeartbeats 1000000 in
set_option maxRecDepth 4000 in
theorem implPut {S T S2 : Nat → Prop} {w : World} {u v y : Value} {xss : List (List Int)} {ps : List (Int × List Int)} {xs : List Int} (at_ : Int) (hu : RdII S w u xss) (hv : RdP T w v ps) (hy : RdI S2 w y xs) (hs : Small xss ps) (hl : xs.length ≤ 1048576) :
    Calls Try.prog 18 #[.agg #[u, v], .int .i64 at_, y] w (EndsD (putF xss ps at_ xs) (putXs xss ps at_ xs) (putPs xss ps at_ xs) w) := by
  unfold EndsD putXs putPs
  have HU := hide hu
  have HV := hide hv
  have HY := hide hy
  have HS := hide hs
  obtain ⟨ao, c, rfl, hn⟩ := hu.shape
  obtain ⟨ao', c', rfl, hm⟩ := hv.shape
  obtain ⟨i0, hi, hz0, hz1, hz2⟩ := info_parts Try.infoPut
  clear hu hv hy hs
  obtain ⟨z, hz⟩ : ∃ z, placeF xss ps at_ = z := ⟨_, rfl⟩
  by_cases h0 : z = 0
  · subst h0
    obtain ⟨y1, hy1⟩ : ∃ y1, wordsF xs = y1 := ⟨_, rfl⟩
    by_cases h1 : y1 = 0
    · subst h1
      by_cases h2 : 200 ≤ ps.length
      · have hp : putF xss ps at_ xs = 2 := by unfold putF; rw [if_pos hz, if_pos hy1, if_pos h2]
        rw [if_neg (by rw [hp]; decide), if_neg (by rw [hp]; decide), hp]
        have HZ := hide hz
        have HW := hide hy1
        clear hz hy1 hp
        go_enter Try.func18, Try.ntmps18
        go_wp2_with fail
        refine (placeFault at_ ((HU.out.later (below_alloc _ _)).later (below_alloc _ _)) ((HV.out.later (below_alloc _ _)).later (below_alloc _ _))).mono ?_
        rintro e w1 ⟨he, hb⟩
        rw [HZ.out] at he
        subst he
        have HB := hide (below_on (below_on (below_alloc _ _) (below_alloc _ _)) hb)
        have q3 : w1.cell? ⟨w.heap.size, 1, none⟩ = some (.slice ao' ps.length c') := cell_later hb (by simp [go_sem])
        have V := hide (Var3.later (w := (w.alloc (.cells #[.slice ao xss.length c, .slice ao' ps.length c'] 27)).alloc (.cells #[.int .i64 0, .slice none 0 0, .slice none 0 0] 32)) (Var3_new _ _ _ _ _) hb)
        have r0 : ∀ o, w1.frozen? ⟨w.heap.size + 1, o, none⟩ = false := fun o => ((bcell hb).2 _ _ (by simp)).trans (by simp [go_sem])
        have HR0 := hide r0
        clear hb r0
        go_wp2_with fail
        refine (wordsFault (HY.out.later HB.out)).mono ?_
        rintro e w2 ⟨he, q, rfl⟩
        rw [HW.out] at he
        subst he
        have v0 : w1.cell? ⟨w.heap.size + 1, 0, none⟩ = some (.int .i64 0) := by have := V.out.1; simpa using this
        have v1 : w1.cell? ⟨w.heap.size + 1, 1, none⟩ = some (.slice none 0 0) := by have := V.out.2.1; simpa using this
        have v2 : w1.cell? ⟨w.heap.size + 1, 2, none⟩ = some (.slice none 0 0) := by have := V.out.2.2; simpa using this
        have f0 := HR0.out 0
        have f1 := HR0.out 1
        have f2 := HR0.out 2
        go_wp2
        refine bodyPost_ret (v := .agg #[.int .i64 2, .slice none 0 0, .slice none 0 0]) (by simp [results, Try.results18, go_sem, v0, v1, v2]) rfl ⟨_, _, rfl, ?_, OwD_nil _ _⟩
        exact (((below_on HB.out (below_drewN _ q)).setCell (by simp) _).setCell (by simp) _).setCell (by simp) _
      · have hp : putF xss ps at_ xs = 0 := by unfold putF; rw [if_pos hz, if_pos hy1, if_neg h2]
        rw [if_pos hp, if_pos hp, hp]
        have HZ := hide hz
        have HW := hide hy1
        clear hz hy1 hp
        go_enter Try.func18, Try.ntmps18
        go_wp2_with fail
        refine (placeFault at_ ((HU.out.later (below_alloc _ _)).later (below_alloc _ _)) ((HV.out.later (below_alloc _ _)).later (below_alloc _ _))).mono ?_
        rintro e w1 ⟨he, hb⟩
        rw [HZ.out] at he
        subst he
        have HB := hide (below_on (below_on (below_alloc _ _) (below_alloc _ _)) hb)
        have q2 : w1.cell? ⟨w.heap.size, 0, none⟩ = some (.slice ao xss.length c) := cell_later hb (by simp [go_sem])
        have q3 : w1.cell? ⟨w.heap.size, 1, none⟩ = some (.slice ao' ps.length c') := cell_later hb (by simp [go_sem])
        have V := hide (Var3.later (w := (w.alloc (.cells #[.slice ao xss.length c, .slice ao' ps.length c'] 27)).alloc (.cells #[.int .i64 0, .slice none 0 0, .slice none 0 0] 32)) (Var3_new _ _ _ _ _) hb)
        have r0 : ∀ o, w1.frozen? ⟨w.heap.size + 1, o, none⟩ = false := fun o => ((bcell hb).2 _ _ (by simp)).trans (by simp [go_sem])
        have HR0 := hide r0
        have hs1 : w.heap.size + 1 < w1.heap.size := by have := hb.size; simp at this; omega
        have HQ2 := hide q2
        clear hb r0
        go_wp2_with fail
        refine (wordsFault (HY.out.later HB.out)).mono ?_
        rintro e w2 ⟨he, q, rfl⟩
        rw [HW.out] at he
        subst he
        go_wp2_with fail
        refine (copyPuts (HV.out.later (below_on HB.out (below_drewN _ q))) HS.out.puts HS.out.put).mono ?_
        rintro e w3 ⟨z3, rfl, hb3, ho3⟩
        obtain ⟨ao3, c3, rfl⟩ := ho3.shape
        have HB3 := hide hb3
        have HO3 := hide ho3
        have hs3 : w1.heap.size ≤ w3.heap.size := hb3.size
        have k2 := cell_later hb3 q2
        clear hb3 ho3 q2 q3
        go_wp2_with fail
        refine (copyWords (HY.out.later (below_on (below_on HB.out (below_drewN _ q)) HB3.out)) hl).mono ?_
        rintro e w4 ⟨z4, rfl, hb4, ho4⟩
        obtain ⟨ao4, c4, rfl⟩ := ho4.shape
        obtain ⟨V2, Bk2, hown, hpr, hin⟩ := HO3.out.snoc (at_, xs)
        have HPr := hide hpr
        have HB4 := hide hb4
        have HO4 := hide ho4
        have HIn := hide hin
        have HOw0 := hide hown
        have HOw := hide (ownsRow_later (ownsRow_later hown hb4) (below_alloc w4 (.cells #[.int .i64 at_, .slice ao4 xs.length c4] 37)))
        have hs4 := hb4.size
        have k2 := cell_later hb4 k2
        clear hb4 ho4 hin hown hpr
        go_wp2_with (at_builtin; refine wpList_append_lies _ rfl _ _ _ rfl 0 37 i0 (.agg #[.int .i64 0, .slice none 0 0]) 2 32 Try.underlying25 hi hz0 hz1 hz2 rfl (by omega) _ ps.length _ (by rfl) HOw.out ⟨w4.heap.size, 0, none⟩ 1 1 [.int .i64 at_, .slice ao4 xs.length c4] (by rfl) (by rfl) (World.news_of_block (cs := #[.int .i64 at_, .slice ao4 xs.length c4]) (t := 37) (fr := (0, 0)) (heap_alloc_new w4 _)) cells2_one (by omega) (by unfold maxLen; omega) (by omega) (Nat.zero_le _) (w4.heap.size + 1) (by simp) ?_)
        intro g cap w5 hown5 hgrow hat hlt5
        have HBu := hide (BuiltP.step (P' := (w1.heap.size ≤ ·)) (ps := ps ++ [(at_, xs)]) HIn.out HOw0.out HPr.out (fun _ h => h) (fun b hb => Nat.le_trans hs3 hb) HB4.out (by simpa using HO4.out) (below_alloc w4 (.cells #[.int .i64 at_, .slice ao4 xs.length c4] 37)) (by simpa using hown5) hgrow (by simpa using hat))
        have B5 := hide ((((below_drewN w1 q).trans (HB3.out.mono (Nat.le_refl _))).trans ((below_on HB4.out (below_alloc w4 (.cells #[.int .i64 at_, .slice ao4 xs.length c4] 37))).mono hs3)).grown hgrow (by simp; omega) (fun r hr => HPr.out r hr))
        have hs5 := B5.out.size
        have k2 := (B5.out.cell (p := ⟨w.heap.size, 0, none⟩) (by simp; omega)).trans HQ2.out
        clear hown5 hgrow hat hlt5 HIn HOw0 HOw
        go_wp2_with fail
        refine (copyBlocks (HU.out.later (HB.out.trans (B5.out.mono (by omega)))) HS.out.rows HS.out.row).mono ?_
        rintro e w6 ⟨z6, rfl, hb6, ho6⟩
        obtain ⟨ao6, c6, rfl⟩ := ho6.shape
        have hs6 := hb6.size
        have v0 : w6.cell? ⟨w.heap.size + 1, 0, none⟩ = some (.int .i64 0) := (hb6.cell (p := ⟨w.heap.size + 1, 0, none⟩) (by simp; omega)).trans ((B5.out.cell (p := ⟨w.heap.size + 1, 0, none⟩) (by simp; omega)).trans (by have := V.out.1; simpa using this))
        have v1 : w6.cell? ⟨w.heap.size + 1, 1, none⟩ = some (.slice none 0 0) := (hb6.cell (p := ⟨w.heap.size + 1, 1, none⟩) (by simp; omega)).trans ((B5.out.cell (p := ⟨w.heap.size + 1, 1, none⟩) (by simp; omega)).trans (by have := V.out.2.1; simpa using this))
        have v2 : w6.cell? ⟨w.heap.size + 1, 2, none⟩ = some (.slice none 0 0) := (hb6.cell (p := ⟨w.heap.size + 1, 2, none⟩) (by simp; omega)).trans ((B5.out.cell (p := ⟨w.heap.size + 1, 2, none⟩) (by simp; omega)).trans (by have := V.out.2.2; simpa using this))
        have f0 : w6.frozen? ⟨w.heap.size + 1, 0, none⟩ = false := (hb6.frozen (p := ⟨w.heap.size + 1, 0, none⟩) (by simp; omega)).trans ((B5.out.frozen (p := ⟨w.heap.size + 1, 0, none⟩) (by simp; omega)).trans (HR0.out 0))
        have f1 : w6.frozen? ⟨w.heap.size + 1, 1, none⟩ = false := (hb6.frozen (p := ⟨w.heap.size + 1, 1, none⟩) (by simp; omega)).trans ((B5.out.frozen (p := ⟨w.heap.size + 1, 1, none⟩) (by simp; omega)).trans (HR0.out 1))
        have f2 : w6.frozen? ⟨w.heap.size + 1, 2, none⟩ = false := (hb6.frozen (p := ⟨w.heap.size + 1, 2, none⟩) (by simp; omega)).trans ((B5.out.frozen (p := ⟨w.heap.size + 1, 2, none⟩) (by simp; omega)).trans (HR0.out 2))
        have HD : Hid (OwD w1.heap.size w6 (.slice ao6 xss.length c6) (.slice (some ⟨g, 0, none⟩) (ps.length + 1) cap) xss (ps ++ [(at_, xs)])) :=
          ⟨fun b => w5.heap.size ≤ b ∧ b < w6.heap.size, fun b => w1.heap.size ≤ b ∧ b < w5.heap.size, fun b hb => ⟨by omega, hb.2⟩, fun b hb => ⟨hb.1, by omega⟩, fun b hb hb' => by omega, ho6, (HBu.out.ow (by simp) (by omega)).later hb6⟩
        have HB6 := hide (HB.out.trans ((B5.out.mono (by omega)).trans (hb6.mono (by omega))))
        clear hb6 ho6 k2
        go_wp2
        have hfin := ret_disk (x := .int .i64 0) HB6.out (r := w.heap.size + 1) (by omega) HD.out (by omega)
        refine bodyPost_ret (v := .agg #[.int .i64 0, .slice ao6 xss.length c6, .slice (some ⟨g, 0, none⟩) (ps.length + 1) cap]) (by simp [results, Try.results18, go_sem, v0, v1, v2]) rfl ⟨_, _, rfl, hfin.1, hfin.2⟩
    · have hp : putF xss ps at_ xs = y1 := by unfold putF; rw [if_pos hz, if_neg (by rw [hy1]; exact h1), hy1]
      rw [if_neg (by rw [hp]; exact h1), if_neg (by rw [hp]; exact h1), hp]
      have HZ := hide hz
      have HW := hide hy1
      clear hz hy1 hp
      go_enter Try.func18, Try.ntmps18
      go_wp2_with fail
      refine (placeFault at_ ((HU.out.later (below_alloc _ _)).later (below_alloc _ _)) ((HV.out.later (below_alloc _ _)).later (below_alloc _ _))).mono ?_
      rintro e w1 ⟨he, hb⟩
      rw [HZ.out] at he
      subst he
      have HB := hide (below_on (below_on (below_alloc _ _) (below_alloc _ _)) hb)
      have V := hide (Var3.later (w := (w.alloc (.cells #[.slice ao xss.length c, .slice ao' ps.length c'] 27)).alloc (.cells #[.int .i64 0, .slice none 0 0, .slice none 0 0] 32)) (Var3_new _ _ _ _ _) hb)
      have r0 : ∀ o, w1.frozen? ⟨w.heap.size + 1, o, none⟩ = false := fun o => ((bcell hb).2 _ _ (by simp)).trans (by simp [go_sem])
      have HR0 := hide r0
      clear hb r0
      go_wp2_with fail
      refine (wordsFault (HY.out.later HB.out)).mono ?_
      rintro e w2 ⟨he, q, rfl⟩
      rw [HW.out] at he
      subst he
      have v0 : w1.cell? ⟨w.heap.size + 1, 0, none⟩ = some (.int .i64 0) := by have := V.out.1; simpa using this
      have v1 : w1.cell? ⟨w.heap.size + 1, 1, none⟩ = some (.slice none 0 0) := by have := V.out.2.1; simpa using this
      have v2 : w1.cell? ⟨w.heap.size + 1, 2, none⟩ = some (.slice none 0 0) := by have := V.out.2.2; simpa using this
      have f0 := HR0.out 0
      have f1 := HR0.out 1
      have f2 := HR0.out 2
      go_wp2
      refine bodyPost_ret (v := .agg #[.int .i64 y1, .slice none 0 0, .slice none 0 0]) (by simp [results, Try.results18, go_sem, v0, v1, v2]) rfl ⟨_, _, rfl, ?_, OwD_nil _ _⟩
      exact (((below_on HB.out (below_drewN _ q)).setCell (by simp) _).setCell (by simp) _).setCell (by simp) _
  · have hp : putF xss ps at_ xs = z := by unfold putF; rw [if_neg (by rw [hz]; exact h0), hz]
    rw [if_neg (by rw [hp]; exact h0), if_neg (by rw [hp]; exact h0), hp]
    have HZ := hide hz
    clear hz hp
    go_enter Try.func18, Try.ntmps18
    go_wp2_with fail
    refine (placeFault at_ ((HU.out.later (below_alloc _ _)).later (below_alloc _ _)) ((HV.out.later (below_alloc _ _)).later (below_alloc _ _))).mono ?_
    rintro e w1 ⟨he, hb⟩
    rw [HZ.out] at he
    subst he
    have HB := hide (below_on (below_on (below_alloc _ _) (below_alloc _ _)) hb)
    have v0 : w1.cell? ⟨w.heap.size + 1, 0, none⟩ = some (.int .i64 0) := cell_later hb (by simp [go_sem])
    have v1 : w1.cell? ⟨w.heap.size + 1, 1, none⟩ = some (.slice none 0 0) := cell_later hb (by simp [go_sem])
    have v2 : w1.cell? ⟨w.heap.size + 1, 2, none⟩ = some (.slice none 0 0) := cell_later hb (by simp [go_sem])
    have f0 : w1.frozen? ⟨w.heap.size + 1, 0, none⟩ = false := ((bcell hb).2 _ _ (by simp)).trans (by simp [go_sem])
    have f1 : w1.frozen? ⟨w.heap.size + 1, 1, none⟩ = false := ((bcell hb).2 _ _ (by simp)).trans (by simp [go_sem])
    have f2 : w1.frozen? ⟨w.heap.size + 1, 2, none⟩ = false := ((bcell hb).2 _ _ (by simp)).trans (by simp [go_sem])
    clear hb
    go_wp2
    refine bodyPost_ret (v := .agg #[.int .i64 z, .slice none 0 0, .slice none 0 0]) (by simp [results, Try.results18, go_sem, v0, v1, v2]) rfl ⟨_, _, rfl, ?_, OwD_nil _ _⟩
    exact ((HB.out.setCell (by simp) _).setCell (by simp) _).setCell (by simp) _
end Go.Proofs.Ytfichaljjkjcoaa
