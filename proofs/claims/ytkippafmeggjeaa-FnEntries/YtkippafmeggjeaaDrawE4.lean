/- Chapter 9, draws: 'spec.DrawPackEntry', 'spec.DrawUnpackEntry', walked. -/
import Derived.Test.YtkippafmeggjeaaDrawE3
import Derived.Test.YtkippafmeggjeaaEn3
import Derived.Test.YtkippafmeggjeaaCutw
import Derived.Test.YtkippafmeggjeaaTear
namespace Go.Proofs.Ytkippafmeggjeaa
open Go.RowKit

theorem RdB.laterE {s : Nat} {w w' : World} {v : Value} {bs : List Nat} (h : RdB s w v bs) (hb : Below w.heap.size w w') : RdB w'.heap.size w' v bs := by
  obtain ⟨ao, c, e1, e2, e3⟩ := h
  refine ⟨ao, c, e1, e2, fun hne => ?_⟩
  obtain ⟨b, off, f1, f2, f3⟩ := e3 hne
  have h1 := cell_later hb (f3 0 (List.length_pos_iff.2 hne)).1
  have := World.block_lt_of_cell? _ _ h1
  exact ⟨b, off, f1, by simp at this; omega, fun i hi => ⟨cell_later hb (f3 i hi).1, (f3 i hi).2⟩⟩
theorem RdI.setE {S : Nat → Prop} {w : World} {b off n cap : Nat} {xs : List Int} (h : RdI S w (.slice (some ⟨b, off, none⟩) n cap) xs) (i : Nat) (x : Int) : RdI S (w.setCell ⟨b, off + i, none⟩ (.int .i64 x)) (.slice (some ⟨b, off, none⟩) n cap) (xs.set i x) := by
  obtain ⟨ao, c, e1, e2, e3⟩ := h
  refine ⟨ao, c, by simpa using e1, by simpa using e2, fun hne => ?_⟩
  obtain ⟨b', off', f1, f2, f3⟩ := e3 (by rintro rfl; exact hne rfl)
  injection e1 with e1 _ _
  rw [f1] at e1
  injection e1 with e1
  injection e1 with e1 e4
  subst e1 e4
  refine ⟨b, off, f1, f2, fun j hj => ?_⟩
  rw [List.length_set] at hj
  by_cases e : i = j
  · subst e
    rw [World.cell?_setCell_same _ _ _ (f3 i hj)]
    simp [List.getD, hj]
  · rw [World.cell?_setCell_other _ _ _ _ (by intro h'; injection h' with _ h2; omega), f3 j hj]
    simp [List.getD, List.getElem?_set_ne e]

set_option maxHeartbeats 2000000 in
set_option maxRecDepth 4000 in
theorem drawPackEntry {w : World} {v : Value} {bs : List Nat} (hv : RdB (w.heap.size + 1) w v bs) :
    Calls Try.prog 11 #[v] w fun e w' => ∃ (a b : Int) (z : Value) (xs : List Int), e = .returned (.agg #[.int .i64 a, .int .i64 b, z]) ∧ Below w.heap.size w w' ∧ xs.length ≤ 8 ∧ OwI w.heap.size w' z xs := by
  have hv1 : RdB (w.alloc (.cells #[.int .i64 0, .int .i64 0, .slice none 0 0] 35)).heap.size (w.alloc (.cells #[.int .i64 0, .int .i64 0, .slice none 0 0] 35)) v bs := by
    obtain ⟨ao, c, e1, e2, e3⟩ := hv
    refine ⟨ao, c, e1, e2, fun hne => ?_⟩
    obtain ⟨b, off, f1, f2, f3⟩ := e3 hne
    exact ⟨b, off, f1, by simpa using f2, fun i hi => ⟨cell_later (below_alloc _ _) (f3 i hi).1, (f3 i hi).2⟩⟩
  have HV := hide hv1
  obtain ⟨ao, c, rfl, h2, h3⟩ := hv
  clear h2 h3 hv1
  go_enter Try.func11, Try.ntmps11
  go_wp2_with fail
  refine (l1Source HV.out).mono ?_
  rintro e w1 ⟨he, hb1, hz1, hS1⟩
  rw [World.size_alloc] at he hz1 hS1
  subst he
  have HB1 := hide (below_on (below_alloc w (.cells #[.int .i64 0, .int .i64 0, .slice none 0 0] 35)) hb1)
  have HS1 := hide hS1
  have r0 : w1.cell? ⟨w.heap.size, 0, none⟩ = some (.int .i64 0) := cell_later hb1 (by simp [go_sem])
  have r1 : w1.cell? ⟨w.heap.size, 1, none⟩ = some (.int .i64 0) := cell_later hb1 (by simp [go_sem])
  have r2 : w1.cell? ⟨w.heap.size, 2, none⟩ = some (.slice none 0 0) := cell_later hb1 (by simp [go_sem])
  have rf : ∀ o, w1.frozen? ⟨w.heap.size, o, none⟩ = false := fun o => ((bcell hb1).2 _ _ (by simp)).trans (by simp [go_sem])
  have hz1' : w.heap.size + 1 < w1.heap.size := by omega
  clear hb1 hS1
  go_wp2_with fail
  refine (l9Bent HS1.out (by omega)).mono ?_
  rintro e w2 ⟨a, b, z, xs, rfl, hxl, ho2, t2, hd2⟩
  obtain ⟨az, cz, rfl⟩ := ho2.shape
  obtain ⟨l, hl⟩ : ∃ l, xs.length = l := ⟨_, rfl⟩
  rw [hl] at ho2 hxl ⊢
  have hw := hd2.2.1
  have x0 := cell_wr hw r0 (by omega)
  have x1 := cell_wr hw r1 (by omega)
  have x2 := cell_wr hw r2 (by omega)
  have y0 := (hw.frz _ _ (by omega)).trans (rf 0)
  have y1 := (hw.frz _ _ (by omega)).trans (rf 1)
  have y2 := (hw.frz _ _ (by omega)).trans (rf 2)
  have HB : Hid (Below w.heap.size w w2) := HB1.out.trans (hw.below (by omega) (fun b hb => by omega))
  have HO := hide ho2
  have HLx := hide hl
  clear hd2 hw ho2 hl r0 r1 r2 rf
  go_wp2
  refine bodyPost_ret (v := .agg #[.int .i64 a, .int .i64 b, .slice az l cz]) (by simp [results, Try.results11, go_sem, x0, x1, x2]) rfl ⟨a, b, .slice az l cz, xs, rfl, ?_, by rw [HLx.out]; exact hxl, ?_⟩
  · repeat (first | refine Below.setCell ?_ (by first | (simp; done) | (simp; omega) | omega) _ | exact HB.out)
  · refine OwI.mono (OwI.wr HO.out (T := fun b => b < w1.heap.size) ?_ (fun b hb _ => by omega)) (by omega)
    repeat (first | refine Wr.setCell ?_ (by first | (simp; done) | (simp; omega) | omega) _ | exact Wr.refl _ _)

set_option linter.unusedSimpArgs false in
set_option maxHeartbeats 4000000 in
set_option maxRecDepth 4000 in
theorem drawUnpackEntry {w : World} {v : Value} {bs : List Nat} (hv : RdB w.heap.size w v bs) :
    Calls Try.prog 6 #[v] w fun e w' => ∃ (z : Value) (ws : List Int), e = .returned z ∧ Below w.heap.size w w' ∧ ws.length ≤ 64 ∧ RdI (fun b => w.heap.size ≤ b) w' z ws := by
  have HV := hide hv
  obtain ⟨ao, c, rfl, h2, h3⟩ := hv
  clear h2 h3
  go_enter Try.func6, Try.ntmps6
  go_wp2_with fail
  refine (l1Source HV.out).mono ?_
  rintro e w1 ⟨rfl, hb1, hz1, hS1⟩
  have HB1 := hide hb1
  have HS1 := hide hS1
  clear hb1 hS1
  go_wp2_with fail
  refine (l9Bent HS1.out (by omega)).mono ?_
  rintro e w2 ⟨a, b, z, xs, rfl, hxl, ho, t2, hd2⟩
  obtain ⟨az, cz, hz⟩ := ho.shape
  subst hz
  obtain ⟨n, hn⟩ : ∃ n, xs.length = n := ⟨_, rfl⟩
  rw [hn] at ho hxl ⊢
  have HN := hide hn
  have HR2 := hide ho.rd
  have HD2 := hide hd2
  have hz2 := hd2.2.1.size
  have ht2 := hd2.2.2
  have HB2 : Hid (Below w.heap.size w w2) := HB1.out.trans (hd2.2.1.below (by omega) (fun b hb => by omega))
  clear ho hd2 hn
  have BA := below_alloc w2 (.cells #[.int .i64 a, .int .i64 b, .slice az n cz] 35)
  have HS3 := hide (HD2.out.1.later BA)
  have HB3 := hide (HB2.out.trans (BA.mono (by omega)))
  have HPk := hide (l9Pack (w := w2.alloc (.cells #[.int .i64 a, .int .i64 b, .slice az n cz] 35)) (b := w2.heap.size) (off := 0) (p := (a, b, xs)) ⟨.slice az n cz, by simp [go_sem], by simp [go_sem], by simp [go_sem], HR2.out.later BA⟩ (by dsimp only; rw [HN.out]; omega))
  have HL4 := hide (show (pkE (a, b, xs)).length = 3 + n by simp [pkE, HN.out]; omega)
  dsimp only at HPk
  rw [HN.out] at HPk
  generalize pkE (a, b, xs) = ws at HPk HL4
  clear BA
  go_wp2_with fail
  refine HPk.out.mono ?_
  rintro e w4 ⟨z4, rfl, hb4, how4⟩
  have ho4 := ow_of_owns HL4.out how4 (by rw [HL4.out]; omega)
  obtain ⟨a4, c4, hz4⟩ := ho4.shape
  rw [HL4.out] at hz4
  subst hz4
  have hz4 : w2.heap.size + 1 ≤ w4.heap.size := by have := hb4.size; simpa using this
  have HS4 := hide (HS3.out.later hb4)
  have HB4 := hide (HB3.out.trans (hb4.mono (by simp; omega)))
  have HO4 : Hid (OwI (w2.heap.size + 1) w4 (.slice a4 (3 + n) c4) ws) := by have := ho4; rw [World.size_alloc] at this; exact this
  clear hb4 ho4 how4 HPk HS3 HB3 HD2
  obtain ⟨L, hL⟩ : ∃ L, 3 + n = L := ⟨_, rfl⟩
  rw [hL] at HL4 HO4 ⊢
  have hL3 : 3 ≤ L := by omega
  have hL11 : L ≤ 11 := by omega
  clear hL
  go_wp2_with fail
  refine (l1Next 6 HS4.out (by omega) (by omega) (by omega)).mono ?_
  rintro e w5 ⟨k, rfl, ka, kb, t5, hd5⟩
  have HS5 := hide hd5.1
  have hz5 := hd5.2.1.size
  have HB5 := hide (HB4.out.trans (hd5.2.1.below (by omega) (fun b hb => by omega)))
  have HO5 := hide (HO4.out.wr hd5.2.1 (fun b h1 _ => by omega))
  have ht5 := hd5.2.2
  clear hd5 kb HS4 HB4 HO4
  obtain ⟨bz, offz, ha4⟩ : ∃ bz off, a4 = some ⟨bz, off, none⟩ := by
    obtain ⟨b1, o1, f1, _⟩ := HO5.out.rd.at (k := 0) (by rw [HL4.out]; omega)
    exact ⟨b1, o1, f1⟩
  subst ha4
  by_cases hk0 : k = 0
  · subst hk0
    go_wp2_with fail
    refine (l1Next 3 HS5.out (by omega) (by omega) (by omega)).mono ?_
    rintro e w6 ⟨r, rfl, ra, rb, t6, hd6⟩
    have rb' := rb (by omega)
    obtain ⟨i, rfl⟩ : ∃ i : Nat, r = (i : Int) := ⟨r.toNat, (Int.toNat_of_nonneg ra).symm⟩
    have hz6 := hd6.2.1.size
    have ht6 := hd6.2.2
    have A := below_alloc w6 (.cells #[.int .i64 0, .int .i64 5, .int .i64 65535] 2)
    have HS6 := hide (hd6.1.later A)
    have HR6 := hide ((HO5.out.wr hd6.2.1 (fun b h1 _ => by omega)).later A)
    have HB6 := hide ((HB5.out.trans (hd6.2.1.below (by omega) (fun b hb => by omega))).trans (A.mono (by omega)))
    have hs6 : w.heap.size < w6.heap.size := by omega
    clear hd6 rb A
    go_wp2_with fail
    refine (l1Pick (xs := [0, 5, 65535]) HS6.out (by omega) (RdI_new w.heap.size w6 [0, 5, 65535] 2 hs6 (by simp)) (by simp) (by simp)).mono ?_
    rintro e w7 ⟨j, hj, rfl, t7, hd7⟩
    obtain ⟨x, hx⟩ : ∃ x : Int, ([0, 5, 65535] : List Int).getD j 0 = x := ⟨_, rfl⟩
    rw [hx]
    have HR7 := hide (HR6.out.wr hd7.2.1 (fun b h1 _ => by omega))
    have hz7 := hd7.2.1.size
    have HB7 := hide (HB6.out.trans (hd7.2.1.below (by simp; omega) (fun b hb => by omega)))
    clear hd7 hx hj HR6 HB6 HS6
    have hi64 : i < L := by omega
    have hiL : (i : Int) < (L : Int) := by omega
    have hi0 : (0 : Int) ≤ (i : Int) := by omega
    obtain ⟨hbz, cz7⟩ : w2.heap.size + 1 ≤ bz ∧ w7.cell? ⟨bz, offz + i, none⟩ = some (.int .i64 (ws.getD i 0)) := by
      obtain ⟨b0, ⟨ao0, c0, e1, e2, e3⟩, q2⟩ := HR7.out
      have hne : ws ≠ [] := by rintro h; have := HL4.out; rw [h] at this; simp at this; omega
      obtain ⟨b1, o1, f1, f2, f3⟩ := e3 hne
      injection e1 with e1 _ _
      rw [f1] at e1
      injection e1 with e1
      injection e1 with e1 e4
      subst e1 e4 f2
      exact ⟨(q2 hne).1, f3 i (by rw [HL4.out]; exact hi64)⟩
    have fz7 : w7.frozen? ⟨bz, offz + i, none⟩ = false := by
      obtain ⟨b0, ⟨ao0, c0, e1, e2, e3⟩, q2⟩ := HR7.out
      have hne : ws ≠ [] := by rintro h; have := HL4.out; rw [h] at this; simp at this; omega
      obtain ⟨b1, o1, f1, f2, f3⟩ := e3 hne
      injection e1 with e1 _ _
      rw [f1] at e1
      injection e1 with e1
      injection e1 with e1 _
      rw [e1, f2]
      exact (q2 hne).2.2 _
    generalize ws.getD i 0 = x0 at cz7
    have HSt := hide ((HR7.out.rd.setE i x).narrow (T := fun b => w.heap.size ≤ b) (fun _ b hb => by omega))
    go_wp2
    go_ret
    exact ⟨_, ws.set i x, rfl, HB7.out.setCell (by simp; omega) _, by rw [List.length_set, HL4.out]; omega, HSt.out⟩
  by_cases hk1 : k = 1
  · subst hk1
    go_wp2_with fail
    refine (l1Next (L : Int) HS5.out (by omega) (by omega) (by omega)).mono ?_
    rintro e w6 ⟨r, rfl, ra, rb, t6, hd6⟩
    have rb' := rb (by omega)
    obtain ⟨i, rfl⟩ : ∃ i : Nat, r = (i : Int) := ⟨r.toNat, (Int.toNat_of_nonneg ra).symm⟩
    have HR6 := hide (HO5.out.wr hd6.2.1 (fun b h1 _ => by omega)).rd
    have HB6 := hide (HB5.out.trans (hd6.2.1.below (by omega) (fun b hb => by omega)))
    have hcap : L ≤ c4 := by
      obtain ⟨_, cc, e1, _⟩ := HR6.out
      injection e1 with _ _ e3
      have := HL4.out
      omega
    have HSb := hide ((HR6.out.upto i (by omega)).narrow (T := fun b => w.heap.size ≤ b) (fun _ b hb => by omega))
    have hs1 : (i : Int) ≤ (c4 : Int) := by omega
    have hs2 : (0 : Int) ≤ (c4 : Int) := by omega
    have hs3 : ¬ (i : Int) < 0 := by omega
    have hs4 : ¬ c4 = 0 := by omega
    clear hd6 rb
    go_wp2
    go_ret
    exact ⟨_, ws.take i, rfl, HB6.out, by simp; omega, HSb.out⟩
  · go_wp2
    go_ret
    exact ⟨_, ws, rfl, HB5.out, by rw [HL4.out]; omega, HO5.out.rd.narrow (T := fun b => w.heap.size ≤ b) (fun _ b hb => by omega)⟩
end Go.Proofs.Ytkippafmeggjeaa
