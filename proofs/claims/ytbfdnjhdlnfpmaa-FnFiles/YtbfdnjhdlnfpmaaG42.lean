/- DrawF8 in one text: what each says stands at its head below. -/
import Derived.Test.YtbfdnjhdlnfpmaaG41
import Derived.Test.YtbfdnjhdlnfpmaaG25
import Derived.Test.YtbfdnjhdlnfpmaaG14
import Derived.Test.YtbfdnjhdlnfpmaaG07
/- Chapter 8, draws: 'spec.DrawUnpackDir', walked: words that can be read. -/
namespace Go.Proofs.Ytbfdnjhdlnfpmaa
open Go.RowKit

theorem RdI.setF {S : Nat → Prop} {w : World} {b off n cap : Nat} {xs : List Int} (h : RdI S w (.slice (some ⟨b, off, none⟩) n cap) xs) (i : Nat) (x : Int) : RdI S (w.setCell ⟨b, off + i, none⟩ (.int .i64 x)) (.slice (some ⟨b, off, none⟩) n cap) (xs.set i x) := by
  obtain ⟨ao, c, e1, e2, e3⟩ := h
  refine ⟨ao, c, by simpa using e1, by simpa using e2, fun hne => ?_⟩
  obtain ⟨b', off', f1, f2, f3⟩ := e3 (by rintro rfl; exact hne rfl)
  injection e1 with e1 _ _
  rw [f1] at e1
  injection e1 with e1
  injection e1 with e1 e4
  subst e1 e4
  refine ⟨b, off, f1, f2, fun j hj => ?_⟩
  rw [List.length_set] at hj
  by_cases e : i = j
  · subst e
    rw [World.cell?_setCell_same _ _ _ (f3 i hj)]
    simp [List.getD, hj]
  · rw [World.cell?_setCell_other _ _ _ _ (by intro h'; injection h' with _ h2; omega), f3 j hj]
    simp [List.getD, List.getElem?_set_ne e]

set_option linter.unusedSimpArgs false in
set_option maxHeartbeats 4000000 in
set_option maxRecDepth 4000 in
theorem drawUnpackDir {w : World} {v : Value} {bs : List Nat} (hv : RdB w.heap.size w v bs) :
    Calls Try.prog 6 #[v] w fun e w' => ∃ (z : Value) (ws : List Int), e = .returned z ∧ Below w.heap.size w w' ∧ ws.length ≤ 64 ∧ RdI (fun b => w.heap.size ≤ b) w' z ws := by
  have HV := hide hv
  obtain ⟨i0, hi, hz0, hz1, hz2⟩ := info_parts Try.infoInt
  obtain ⟨ao, c, rfl, h2, h3⟩ := hv
  clear h2 h3
  go_enter Try.func6, Try.ntmps6
  go_wp2_with fail
  refine (l1Source HV.out).mono ?_
  rintro e w1 ⟨rfl, hb1, hs1, hS1⟩
  have HB1 := hide hb1
  have HS1 := hide hS1
  clear hb1 hS1
  go_wp2_with fail
  refine (l8Draw HS1.out (by omega)).mono ?_
  rintro e w2 ⟨a2, n2, c2, fs, rfl, hl2, hf0, hrow, t2, hd2⟩
  have hfi := filF_iff.1 hf0
  have hn4 : n2 ≤ 4 := by have := hfi.len; omega
  have hrd := hrow.rdP hl2 (by omega) (fun i hi => by
    have h1 : fs.getD i oj0 ∈ fs := by
      rw [List.getD, List.getElem?_eq_getElem hi]
      exact List.getElem_mem hi
    have := oneF_len (hfi.one _ h1)
    omega)
  have hsm := pkF_small hf0
  have HPk := hide (l8Pack hrd (by omega))
  have HL := hide (show ∃ L, (pkF fs).length = L ∧ 1 ≤ L ∧ L ≤ 29 from ⟨_, rfl, by unfold pkF; simp, hsm⟩)
  generalize pkF fs = ws at HPk HL
  obtain ⟨L, hL, hL1, hL29⟩ := HL.out
  rw [hL] at HPk
  have HLe := hide hL
  have HS2 := hide hd2.1
  have hs2 := hd2.2.1.size
  have ht2 := hd2.2.2
  have HB2 := hide (HB1.out.trans (hd2.2.1.below (by omega) (fun b hb => by omega)))
  clear hd2 hrow hrd hsm hfi hf0 hl2 HB1 HS1 hL HL
  go_wp2_with fail
  refine HPk.out.mono ?_
  rintro e w4 ⟨z4, rfl, hb4, how4⟩
  obtain ⟨a4, c4, hz4⟩ := owns_shapeM how4
  subst hz4
  have hz4 := hb4.size
  have HS4 := hide (HS2.out.later hb4)
  have HB4 := hide (HB2.out.trans (hb4.mono (by omega)))
  have HW4 := hide how4
  clear hb4 how4 HPk HS2 HB2
  go_wp2_with fail
  refine (l1Next 8 HS4.out (by omega) (by omega) (by omega)).mono ?_
  rintro e w5 ⟨k, rfl, ka, kb, t5, hd5⟩
  have HS5 := hide hd5.1
  have hz5 := hd5.2.1.size
  have HB5 := hide (HB4.out.trans (hd5.2.1.below (by omega) (fun b hb => by omega)))
  have HW5 := hide (ownsRow_wr HW4.out hd5.2.1 (fun e => by have := (HW4.out.lt _ e).1; omega))
  have HO5 := hide (ow_of_owns HLe.out HW5.out (by rw [HLe.out]; omega))
  have ht5 := hd5.2.2
  clear hd5 kb HS4 HB4 HW4
  obtain ⟨bz, offz, ha4⟩ : ∃ bz off, a4 = some ⟨bz, off, none⟩ := by
    obtain ⟨b1, o1, f1, _⟩ := HO5.out.rd.at (k := 0) (by rw [HLe.out]; omega)
    exact ⟨b1, o1, f1⟩
  subst ha4
  by_cases hk0 : k = 0
  · subst hk0
    clear HW5
    go_wp2_with fail
    refine (l1Next (L : Int) HS5.out (by omega) (by omega) (by omega)).mono ?_
    rintro e w6 ⟨r, rfl, ra, rb, t6, hd6⟩
    have rb' := rb (by omega)
    obtain ⟨i, rfl⟩ : ∃ i : Nat, r = (i : Int) := ⟨r.toNat, (Int.toNat_of_nonneg ra).symm⟩
    have hz6 := hd6.2.1.size
    have ht6 := hd6.2.2
    have A := below_alloc w6 (.cells #[.int .i64 0, .int .i64 5, .int .i64 65535, .int .i64 (-1)] 2)
    have HS6 := hide (hd6.1.later A)
    have HR6 := hide ((HO5.out.wr hd6.2.1 (fun b h1 _ => by omega)).later A)
    have HB6 := hide ((HB5.out.trans (hd6.2.1.below (by omega) (fun b hb => by omega))).trans (A.mono (by omega)))
    have hs6 : w.heap.size < w6.heap.size := by omega
    clear hd6 rb A
    go_wp2_with fail
    refine (l1Pick (xs := [0, 5, 65535, -1]) HS6.out (by omega) (RdI_new w.heap.size w6 [0, 5, 65535, -1] 2 hs6 (by simp)) (by simp) (by simp)).mono ?_
    rintro e w7 ⟨j, hj, rfl, t7, hd7⟩
    obtain ⟨x, hx⟩ : ∃ x : Int, ([0, 5, 65535, -1] : List Int).getD j 0 = x := ⟨_, rfl⟩
    rw [hx]
    have HR7 := hide (HR6.out.wr hd7.2.1 (fun b h1 _ => by omega))
    have hz7 := hd7.2.1.size
    have HB7 := hide (HB6.out.trans (hd7.2.1.below (by simp; omega) (fun b hb => by omega)))
    clear hd7 hx hj HR6 HB6 HS6
    have hi64 : i < L := by omega
    have hiL : (i : Int) < (L : Int) := by omega
    have hi0 : (0 : Int) ≤ (i : Int) := by omega
    obtain ⟨hbz, cz7⟩ : w2.heap.size ≤ bz ∧ w7.cell? ⟨bz, offz + i, none⟩ = some (.int .i64 (ws.getD i 0)) := by
      obtain ⟨b0, ⟨ao0, c0, e1, e2, e3⟩, q2⟩ := HR7.out
      have hne : ws ≠ [] := by rintro h; have := HLe.out; rw [h] at this; simp at this; omega
      obtain ⟨b1, o1, f1, f2, f3⟩ := e3 hne
      injection e1 with e1 _ _
      rw [f1] at e1
      injection e1 with e1
      injection e1 with e1 e4
      subst e1 e4 f2
      exact ⟨(q2 hne).1, f3 i (by rw [HLe.out]; exact hi64)⟩
    have fz7 : w7.frozen? ⟨bz, offz + i, none⟩ = false := by
      obtain ⟨b0, ⟨ao0, c0, e1, e2, e3⟩, q2⟩ := HR7.out
      have hne : ws ≠ [] := by rintro h; have := HLe.out; rw [h] at this; simp at this; omega
      obtain ⟨b1, o1, f1, f2, f3⟩ := e3 hne
      injection e1 with e1 _ _
      rw [f1] at e1
      injection e1 with e1
      injection e1 with e1 _
      rw [e1, f2]
      exact (q2 hne).2.2 _
    generalize ws.getD i 0 = x0 at cz7
    have HSt := hide ((HR7.out.rd.setF i x).narrow (T := fun b => w.heap.size ≤ b) (fun _ b hb => by omega))
    go_wp2
    go_ret
    exact ⟨_, ws.set i x, rfl, HB7.out.setCell (by simp; omega) _, by rw [List.length_set, HLe.out]; omega, HSt.out⟩
  have hk0b : (k == 0) = false := by simpa using hk0
  by_cases hk1 : k = 1
  · subst hk1
    clear HW5
    go_wp2_with fail
    refine (l1Next (L : Int) HS5.out (by omega) (by omega) (by omega)).mono ?_
    rintro e w6 ⟨r, rfl, ra, rb, t6, hd6⟩
    have rb' := rb (by omega)
    obtain ⟨i, rfl⟩ : ∃ i : Nat, r = (i : Int) := ⟨r.toNat, (Int.toNat_of_nonneg ra).symm⟩
    have HR6 := hide (HO5.out.wr hd6.2.1 (fun b h1 _ => by omega)).rd
    have HB6 := hide (HB5.out.trans (hd6.2.1.below (by omega) (fun b hb => by omega)))
    have hcap : L ≤ c4 := by
      obtain ⟨_, cc, e1, _⟩ := HR6.out
      injection e1 with _ _ e3
      have := HLe.out
      omega
    have HSb := hide ((HR6.out.upto i (by omega)).narrow (T := fun b => w.heap.size ≤ b) (fun _ b hb => by omega))
    have hs1 : (i : Int) ≤ (c4 : Int) := by omega
    have hs2 : (0 : Int) ≤ (c4 : Int) := by omega
    have hs3 : ¬ (i : Int) < 0 := by omega
    have hs4 : ¬ c4 = 0 := by omega
    clear hd6 rb
    go_wp2
    go_ret
    exact ⟨_, ws.take i, rfl, HB6.out, by simp; omega, HSb.out⟩
  have hk1b : (k == 1) = false := by simpa using hk1
  by_cases hk2 : k = 2
  · subst hk2
    clear HO5
    have HO4 := hide (HW5.out.alloc (.cells #[.int .i64 0] 2))
    go_wp2_with (at_builtin; refine wpList_append_lies _ rfl _ _ _ rfl w2.heap.size 2 i0 (.int .i64 0) 1 8 Try.underlying24 hi hz0 hz1 hz2 rfl (by omega) _ L _ (by rfl) HO4.out ⟨w5.heap.size, 0, none⟩ 1 1 [.int .i64 0] (by rfl) (by rfl) (World.news_of_block (cs := #[.int .i64 0]) (t := 2) (fr := (0, 0)) (heap_alloc_new w5 _)) (by simp [Value.oneCell']) (by omega) (by unfold maxLen; omega) (by omega) (by simp; omega) (w5.heap.size + 1) (by simp) ?_; intro g2 cap w6 hown hgrow hat hlt6)
    have HB6 := hide ((HB5.out.trans (Below.mono (below_alloc w5 (.cells #[.int .i64 0] 2)) (show w.heap.size ≤ w5.heap.size by omega))).grown hgrow (by simp; omega) (fun r hr => by have := (HW5.out.lt r hr).1; omega))
    have O6 : Hid (OwI w2.heap.size w6 (.slice (some ⟨g2, 0, none⟩) (L + 1) cap) (ws ++ [0])) := ow_of_owns (n := L + 1) (by simp [HLe.out]) (by rw [List.map_append]; exact hown) (by rw [List.length_append, HLe.out]; first | (simp; done) | (simp; omega))
    clear hown hgrow hat hlt6
    go_wp2
    go_ret
    exact ⟨_, ws ++ [0], rfl, HB6.out, by rw [List.length_append, HLe.out]; simp; omega, O6.out.rd.narrow (T := fun b => w.heap.size ≤ b) (fun _ b hb => by omega)⟩
  · have hk2b : (k == 2) = false := by simpa using hk2
    go_wp2
    go_ret
    exact ⟨_, ws, rfl, HB5.out, by rw [HLe.out]; omega, HO5.out.rd.narrow (T := fun b => w.heap.size ≤ b) (fun _ b hb => by omega)⟩
end Go.Proofs.Ytbfdnjhdlnfpmaa
