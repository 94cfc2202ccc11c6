/- The model's draw of words that may be a header's: 'spec.DrawUnpackHeader', walked. -/
import Derived.Test.YtojcjipelgjglaaDraw6
import Derived.Test.YtojcjipelgjglaaSpec2c
namespace Go.Proofs.Ytojcjipelgjglaa
open Go.RowKit

theorem RdI.set {S : Nat → Prop} {w : World} {b off n cap : Nat} {xs : List Int} (h : RdI S w (.slice (some ⟨b, off, none⟩) n cap) xs) (i : Nat) (x : Int) : RdI S (w.setCell ⟨b, off + i, none⟩ (.int .i64 x)) (.slice (some ⟨b, off, none⟩) n cap) (xs.set i x) := by
  obtain ⟨ao, c, e1, e2, e3⟩ := h
  refine ⟨ao, c, by simpa using e1, by simpa using e2, fun hne => ?_⟩
  obtain ⟨b', off', f1, f2, f3⟩ := e3 (by rintro rfl; exact hne rfl)
  injection e1 with e1 _ _
  rw [f1] at e1
  injection e1 with e1
  injection e1 with e1 e4
  subst e1 e4
  refine ⟨b, off, f1, f2, fun j hj => ?_⟩
  rw [List.length_set] at hj
  by_cases e : i = j
  · subst e
    rw [World.cell?_setCell_same _ _ _ (f3 i hj)]
    simp [List.getD, hj]
  · rw [World.cell?_setCell_other _ _ _ _ (by intro h'; injection h' with _ h2; omega), f3 j hj]
    simp [List.getD, List.getElem?_set_ne e]

set_option linter.unusedSimpArgs false in
set_option maxHeartbeats 2000000 in
set_option maxRecDepth 4000 in
theorem drawUnpack {w : World} {v : Value} {bs : List Nat} (hv : RdB w.heap.size w v bs) :
    Calls Try.prog 8 #[v] w fun e w' => ∃ (z : Value) (ws : List Int), e = .returned z ∧ Below w.heap.size w w' ∧ ws.length ≤ 64 ∧ RdI (fun b => w.heap.size ≤ b) w' z ws := by
  have HV := hide hv
  obtain ⟨ao, c, rfl, h2, h3⟩ := hv
  clear h2 h3
  go_enter Try.func8, Try.ntmps8
  go_wp2_with fail
  refine (l1Source HV.out).mono ?_
  rintro e w1 ⟨rfl, hb1, hz1, hS1⟩
  have HB1 := hide hb1
  have HS1 := hide hS1
  clear hb1 hS1
  go_wp2_with fail
  refine (l2Draw HS1.out (by omega)).mono ?_
  rintro e w2 ⟨a, b, a1, n, k1, xs, rfl, hn8, hxl, hown, t2, hd2⟩
  have HR2 := hide (ow_of_owns hxl hown (by omega)).rd
  have HD2 := hide hd2
  have hz2 := hd2.2.1.size
  have HB2 : Hid (Below w.heap.size w w2) := HB1.out.trans (hd2.2.1.below (by omega) (fun b hb => by omega))
  clear hown hd2
  have BA := below_alloc w2 (.cells #[.int .i64 a, .int .i64 b, .slice a1 n k1] 27)
  have HS3 := hide (HD2.out.1.later BA)
  have HB3 := hide (HB2.out.trans (BA.mono (by omega)))
  have HPk := hide (l2Pack (HdAt_new w2 a b (.slice a1 n k1) 27) (HR2.out.later BA) (by omega))
  have HL4 := hide (packL_len (s := a) (t := b) (xs := xs) (by omega))
  generalize packL a b xs = ws at HPk HL4
  clear BA
  go_wp2_with fail
  refine HPk.out.mono ?_
  rintro e w4 ⟨z4, rfl, hb4, ho4⟩
  obtain ⟨a4, c4, hz4⟩ := ho4.shape
  rw [HL4.out] at hz4
  subst hz4
  have hz4 : w2.heap.size + 1 ≤ w4.heap.size := by have := hb4.size; simpa using this
  have HS4 := hide (HS3.out.later hb4)
  have HB4 := hide (HB3.out.trans (hb4.mono (by simp; omega)))
  have HO4 : Hid (OwI (w2.heap.size + 1) w4 (.slice a4 64 c4) ws) := by have := ho4; rw [World.size_alloc] at this; exact this
  have ht2 := HD2.out.2.2
  clear hb4 ho4 HPk HS3 HB3 HD2
  go_wp2_with fail
  refine (l1Next 6 HS4.out (by omega) (by omega) (by omega)).mono ?_
  rintro e w5 ⟨k, rfl, ka, kb, t5, hd5⟩
  have HS5 := hide hd5.1
  have hz5 := hd5.2.1.size
  have HB5 := hide (HB4.out.trans (hd5.2.1.below (by omega) (fun b hb => by omega)))
  have HO5 := hide (HO4.out.wr hd5.2.1 (fun b h1 _ => by omega))
  have ht5 := hd5.2.2
  clear hd5 kb HS4 HB4 HO4
  obtain ⟨bz, offz, ha4, hcz, hfz, hbz1, hbz2⟩ : ∃ bz off, a4 = some ⟨bz, off, none⟩ ∧ (∀ i, i < 64 → w5.cell? ⟨bz, off + i, none⟩ = some (.int .i64 (ws.getD i 0))) ∧ (∀ o, w5.frozen? ⟨bz, o, none⟩ = false) ∧ w2.heap.size + 1 ≤ bz ∧ bz < w5.heap.size := by
    obtain ⟨b0, ⟨ao0, c0, e1, e2, e3⟩, q2⟩ := HO5.out
    have hne : ws ≠ [] := by rintro h; have := HL4.out; rw [h] at this; simp at this
    obtain ⟨b1, o1, f1, f2, f3⟩ := e3 hne
    obtain ⟨g1, g2, g3⟩ := q2 hne
    injection e1 with e1 _ _
    subst f2
    exact ⟨b1, o1, e1.trans f1, fun i hi => f3 i (by rw [HL4.out]; exact hi), g3, g1, g2⟩
  subst ha4
  by_cases hk0 : k = 0
  · subst hk0
    go_wp2_with fail
    refine (l1Next 64 HS5.out (by omega) (by omega) (by omega)).mono ?_
    rintro e w6 ⟨r, rfl, ra, rb, t6, hd6⟩
    have rb' := rb (by omega)
    obtain ⟨i, rfl⟩ : ∃ i : Nat, r = (i : Int) := ⟨r.toNat, (Int.toNat_of_nonneg ra).symm⟩
    have hz6 := hd6.2.1.size
    have ht6 := hd6.2.2
    have A := below_alloc w6 (.cells #[.int .i64 0, .int .i64 5, .int .i64 65535, .int .i64 (-1)] 2)
    have HS6 := hide (hd6.1.later A)
    have HR6 := hide ((HO5.out.wr hd6.2.1 (fun b h1 _ => by omega)).later A)
    have HB6 := hide ((HB5.out.trans (hd6.2.1.below (by omega) (fun b hb => by omega))).trans (A.mono (by omega)))
    have hs6 : w.heap.size < w6.heap.size := by omega
    clear hd6 rb A
    go_wp2_with fail
    refine (l1Pick (xs := [0, 5, 65535, -1]) HS6.out (by omega) (RdI_new w.heap.size w6 [0, 5, 65535, -1] 2 hs6 (by simp)) (by simp) (by simp)).mono ?_
    rintro e w7 ⟨j, hj, rfl, t7, hd7⟩
    obtain ⟨x, hx⟩ : ∃ x : Int, ([0, 5, 65535, -1] : List Int).getD j 0 = x := ⟨_, rfl⟩
    rw [hx]
    have HR7 := hide (HR6.out.wr hd7.2.1 (fun b h1 _ => by omega))
    have hz7 := hd7.2.1.size
    have HB7 := hide (HB6.out.trans (hd7.2.1.below (by simp; omega) (fun b hb => by omega)))
    clear hd7 hx hj HR6 HB6 HS6
    have hi64 : i < 64 := by omega
    have cz7 : w7.cell? ⟨bz, offz + i, none⟩ = some (.int .i64 (ws.getD i 0)) := by
      obtain ⟨b1, o1, f1, f2⟩ := HR7.out.rd.at (k := i) (by rw [HL4.out]; exact hi64)
      injection f1 with f1
      injection f1 with f1 f3
      subst f1 f3
      exact f2
    have fz7 : w7.frozen? ⟨bz, offz + i, none⟩ = false := by
      obtain ⟨b0, ⟨ao0, c0, e1, e2, e3⟩, q2⟩ := HR7.out
      have hne : ws ≠ [] := by rintro h; have := HL4.out; rw [h] at this; simp at this
      obtain ⟨b1, o1, f1, f2, f3⟩ := e3 hne
      injection e1 with e1 _ _
      rw [f1] at e1
      injection e1 with e1
      injection e1 with e1 _
      rw [e1, f2]
      exact (q2 hne).2.2 _
    generalize ws.getD i 0 = x0 at cz7
    have HSt := hide ((HR7.out.rd.set i x).narrow (T := fun b => w.heap.size ≤ b) (fun _ b hb => by omega))
    clear hcz hfz
    go_wp2
    go_ret
    exact ⟨_, ws.set i x, rfl, HB7.out.setCell (by simp; omega) _, by rw [List.length_set, HL4.out]; omega, HSt.out⟩
  by_cases hk1 : k = 1
  · subst hk1
    clear hcz hfz
    go_wp2_with fail
    refine (l2Draw HS5.out (by omega)).mono ?_
    rintro e w6 ⟨a', b', a1', n', k1', xs', rfl, hn8', hxl', hown, t6, hd6⟩
    have HR6 := hide (ow_of_owns hxl' hown (by omega)).rd
    have hz6 := hd6.2.1.size
    have ht6 := hd6.2.2
    have BA := below_alloc w6 (.cells #[.int .i64 a', .int .i64 b', .slice a1' n' k1'] 27)
    have HS6 := hide (hd6.1.later BA)
    have HO6 := hide ((HO5.out.wr hd6.2.1 (fun b h1 _ => by omega)).later BA)
    have HB6 := hide ((HB5.out.trans (hd6.2.1.below (by omega) (fun b hb => by omega))).trans (BA.mono (by omega)))
    have HPk := hide (l2Pack (HdAt_new w6 a' b' (.slice a1' n' k1') 27) (HR6.out.later BA) (by omega))
    have HL7 := hide (packL_len (s := a') (t := b') (xs := xs') (by omega))
    generalize packL a' b' xs' = ws' at HPk HL7
    clear hd6 BA hown
    go_wp2_with fail
    refine HPk.out.mono ?_
    rintro e w7 ⟨z7, rfl, hb7, ho7⟩
    obtain ⟨a7, c7, hz7⟩ := ho7.shape
    rw [HL7.out] at hz7
    subst hz7
    have hz7 : w6.heap.size + 1 ≤ w7.heap.size := by have := hb7.size; simpa using this
    have HS7 := hide (HS6.out.later hb7)
    have HB7 := hide (HB6.out.trans (hb7.mono (by simp; omega)))
    have HO7 := hide (HO6.out.later hb7)
    have HP7 : Hid (OwI (w6.heap.size + 1) w7 (.slice a7 64 c7) ws') := by have := ho7; rw [World.size_alloc] at this; exact this
    clear hb7 ho7 HPk HS6 HB6 HO6
    go_wp2_with fail
    refine (l1Next 2 HS7.out (by omega) (by omega) (by omega)).mono ?_
    rintro e w8 ⟨r, rfl, ra, rb, t8, hd8⟩
    have rb' := rb (by omega)
    have hz8 := hd8.2.1.size
    have HO8 := hide (HO7.out.wr hd8.2.1 (fun b h1 _ => by omega))
    have HP8 := hide (HP7.out.wr hd8.2.1 (fun b h1 _ => by omega))
    have HB8 := hide (HB7.out.trans (hd8.2.1.below (by omega) (fun b hb => by omega)))
    clear hd8 rb HO7 HP7 HB7 HS7
    go_wp2_with fail
    refine (l1Tear HO8.out.rd HP8.out.rd (by rw [HL4.out]; omega) (by rw [HL7.out]; omega) (by omega) (by omega)).mono ?_
    rintro e w9 ⟨z9, rfl, hb9, ho9⟩
    have HB9 := hide (HB8.out.trans (hb9.mono (by omega)))
    have HO9 := hide (ho9.rd.narrow (T := fun b => w.heap.size ≤ b) (fun _ b hb => by omega))
    have HLt := hide (tear_len (old := ws) (next := ws') (p := 2 + r) (by rw [HL4.out]; omega) (by rw [HL7.out]; omega))
    clear hb9 ho9
    go_wp2
    go_ret
    exact ⟨z9, _, rfl, HB9.out, HLt.out, HO9.out⟩
  by_cases hk2 : k = 2
  · subst hk2
    go_wp2_with fail
    refine (l1Next 64 HS5.out (by omega) (by omega) (by omega)).mono ?_
    rintro e w6 ⟨r, rfl, ra, rb, t6, hd6⟩
    have rb' := rb (by omega)
    obtain ⟨i, rfl⟩ : ∃ i : Nat, r = (i : Int) := ⟨r.toNat, (Int.toNat_of_nonneg ra).symm⟩
    have hi64 : i < 64 := by omega
    have HR6 := hide (HO5.out.wr hd6.2.1 (fun b h1 _ => by omega)).rd
    have HB6 := hide (HB5.out.trans (hd6.2.1.below (by omega) (fun b hb => by omega)))
    have hcap : 64 ≤ c4 := by
      obtain ⟨_, cc, e1, _⟩ := HR6.out
      injection e1 with _ _ e3
      have := HL4.out
      omega
    have HSb := hide ((HR6.out.sub 0 i c4 (by rw [HL4.out]; omega) (by omega)).narrow (T := fun b => w.heap.size ≤ b) (fun _ b hb => by omega))
    have hs1 : (i : Int) ≤ (c4 : Int) := by omega
    have hs2 : (0 : Int) ≤ (c4 : Int) := by omega
    have hs3 : ¬ (i : Int) < 0 := by omega
    have hs4 : ¬ c4 = 0 := by omega
    clear hd6 rb hcz hfz
    go_wp2
    go_ret
    exact ⟨_, (ws.drop 0).take i, rfl, HB6.out, by simp; omega, HSb.out⟩
  · clear hcz hfz
    go_wp2
    go_ret
    exact ⟨_, ws, rfl, HB5.out, by rw [HL4.out]; omega, HO5.out.rd.narrow (T := fun b => w.heap.size ≤ b) (fun _ b hb => by omega)⟩
end Go.Proofs.Ytojcjipelgjglaa
