/- Chapter 6: 'spec.l6With', 'spec.DrawTakeLock', 'laws.lwHas', walked. Made by program (gendrawlk.py). -/
import Derived.Test.YtkpkoapcmnapoabDrawLk
namespace Go.Proofs.Ytkpkoapcmnapoab
open Go.RowKit Go.Maps

set_option maxHeartbeats 4000000 in
set_option maxRecDepth 4000 in
theorem l6With {w : World} {v : Value} {bs : List Nat} (hv : RdB w.heap.size w v bs) :
    Calls Try.prog 14 #[v] w fun e w' => ∃ z os x y, e = .returned (.tuple #[z, .int .i64 x, .int .i64 y]) ∧ os.length ≤ 1048576 ∧ Below w.heap.size w w' ∧ OwO (w.heap.size + 1) w' z os := by
  have HV := hide hv
  obtain ⟨ao, c, rfl, h2, h3⟩ := hv
  clear h2 h3
  go_enter Try.func14, Try.ntmps14
  go_wp2_with fail
  refine (l1Source HV.out).mono ?_
  rintro e w1 ⟨rfl, hb1, hz1, hS1⟩
  have HB1 := hide hb1
  have HS1 := hide hS1
  clear hb1 hS1
  go_wp2_with fail
  refine (l6Bent HS1.out (by omega)).mono ?_
  rintro e w2 ⟨z, os, rfl, hl, ho, t2, hd2⟩
  have D2 := hide hd2
  have O2 := hide ho
  obtain ⟨az, cz, rfl⟩ := ho.shape
  have hs2 := hd2.2.1.size
  obtain ⟨n, hn⟩ : ∃ n, os.length = n := ⟨_, rfl⟩
  rw [hn] at O2 hl ⊢
  have HN := hide hn
  clear hd2 ho hn
  go_wp2_with fail
  refine (l1Next 4 D2.out.1 (by have := D2.out.2.2; omega) (by omega) (by omega)).mono ?_
  rintro e w3 ⟨r3, rfl, r3a, r3b, t3, hd3⟩
  have r3c := r3b (by omega)
  have D3 := hide (D2.out.on hd3)
  have O3 := hide (O2.out.wr hd3.2.1 (fun b hb _ => by omega))
  have hs3 := hd3.2.1.size
  obtain ⟨p3, hp3⟩ : ∃ p3, 1 + r3 = p3 := ⟨_, rfl⟩
  have hw3 : IntKind.i64.wrap (1 + r3) = p3 := by rw [hp3]; simp [IntKind.wrap, IntKind.bits, IntKind.signed]; omega
  clear hp3
  clear hd3 r3b
  go_wp2_with fail
  refine (l1Next 4 D3.out.1 (by have := D3.out.2.2; omega) (by omega) (by omega)).mono ?_
  rintro e w4 ⟨r4, rfl, r4a, r4b, t4, hd4⟩
  have r4c := r4b (by omega)
  have D4 := hide (D3.out.on hd4)
  have O4 := hide (O3.out.wr hd4.2.1 (fun b hb _ => by omega))
  have hs4 := hd4.2.1.size
  obtain ⟨p4, hp4⟩ : ∃ p4, 1 + r4 = p4 := ⟨_, rfl⟩
  have hw4 : IntKind.i64.wrap (1 + r4) = p4 := by rw [hp4]; simp [IntKind.wrap, IntKind.bits, IntKind.signed]; omega
  clear hp4
  clear hd4 r4b
  go_wp2_with fail
  refine (l1Next 4 D4.out.1 (by have := D4.out.2.2; omega) (by omega) (by omega)).mono ?_
  rintro e w5 ⟨r5, rfl, r5a, r5b, t5, hd5⟩
  have r5c := r5b (by omega)
  have D5 := hide (D4.out.on hd5)
  have O5 := hide (O4.out.wr hd5.2.1 (fun b hb _ => by omega))
  have hs5 := hd5.2.1.size
  obtain ⟨p5, hp5⟩ : ∃ p5, 1 + r5 = p5 := ⟨_, rfl⟩
  have hw5 : IntKind.i64.wrap (1 + r5) = p5 := by rw [hp5]; simp [IntKind.wrap, IntKind.bits, IntKind.signed]; omega
  clear hp5
  clear hd5 r5b
  go_wp2_with fail
  have E5 := hide (D5.out.later (below_alloc w5 (.cells #[.int .i64 p3, .int .i64 p4, .int .i64 p5, .int .i64 0, .int .i64 100] 2)))
  have Q5 := hide (O5.out.later (below_alloc w5 (.cells #[.int .i64 p3, .int .i64 p4, .int .i64 p5, .int .i64 0, .int .i64 100] 2)))
  refine (l1Pick (xs := [p3, p4, p5, 0, 100]) E5.out.1 (by have := E5.out.2.2; omega) (RdI_new w.heap.size w5 [p3, p4, p5, 0, 100] 2 (by omega) (by simp)) (by simp) (by simp)).mono ?_
  rintro e w6 ⟨i, hi3, rfl, t6, hd6⟩
  obtain ⟨x6, hx6⟩ : ∃ x : Int, ([p3, p4, p5, 0, 100] : List Int).getD i 0 = x := ⟨_, rfl⟩
  rw [hx6]
  have D6 := hide (E5.out.on hd6)
  have O6 := hide (Q5.out.wr hd6.2.1 (fun b hb _ => by omega))
  have hs6 : w5.heap.size ≤ w6.heap.size := by have := hd6.2.1.size; simp at this; omega
  clear hd6 hx6 hi3
  go_wp2_with fail
  refine (l1Next 12 D6.out.1 (by have := D6.out.2.2; omega) (by omega) (by omega)).mono ?_
  rintro e w7 ⟨r7, rfl, r7a, r7b, t7, hd7⟩
  have r7c := r7b (by omega)
  have D7 := hide (D6.out.on hd7)
  have O7 := hide (O6.out.wr hd7.2.1 (fun b hb _ => by omega))
  have hs7 := hd7.2.1.size
  clear hd7 r7b
  go_wp2_with fail
  refine (l1Next 12 D7.out.1 (by have := D7.out.2.2; omega) (by omega) (by omega)).mono ?_
  rintro e w8 ⟨r8, rfl, r8a, r8b, t8, hd8⟩
  have r8c := r8b (by omega)
  have D8 := hide (D7.out.on hd8)
  have O8 := hide (O7.out.wr hd8.2.1 (fun b hb _ => by omega))
  have hs8 := hd8.2.1.size
  clear hd8 r8b
  go_wp2_with fail
  refine (l1Next 28 D8.out.1 (by have := D8.out.2.2; omega) (by omega) (by omega)).mono ?_
  rintro e w9 ⟨r9, rfl, r9a, r9b, t9, hd9⟩
  have r9c := r9b (by omega)
  have D9 := hide (D8.out.on hd9)
  have O9 := hide (O8.out.wr hd9.2.1 (fun b hb _ => by omega))
  have hs9 := hd9.2.1.size
  obtain ⟨p9, hp9⟩ : ∃ p9, 12 + r9 = p9 := ⟨_, rfl⟩
  have hw9 : IntKind.i64.wrap (12 + r9) = p9 := by rw [hp9]; simp [IntKind.wrap, IntKind.bits, IntKind.signed]; omega
  clear hp9
  clear hd9 r9b
  go_wp2_with fail
  have E9 := hide (D9.out.later (below_alloc w9 (.cells #[.int .i64 r7, .int .i64 r8, .int .i64 p9, .int .i64 40] 2)))
  have Q9 := hide (O9.out.later (below_alloc w9 (.cells #[.int .i64 r7, .int .i64 r8, .int .i64 p9, .int .i64 40] 2)))
  refine (l1Pick (xs := [r7, r8, p9, 40]) E9.out.1 (by have := E9.out.2.2; omega) (RdI_new w.heap.size w9 [r7, r8, p9, 40] 2 (by omega) (by simp)) (by simp) (by simp)).mono ?_
  rintro e w10 ⟨i, hi3, rfl, t10, hd10⟩
  obtain ⟨x10, hx10⟩ : ∃ x : Int, ([r7, r8, p9, 40] : List Int).getD i 0 = x := ⟨_, rfl⟩
  rw [hx10]
  have D10 := hide (E9.out.on hd10)
  have O10 := hide (Q9.out.wr hd10.2.1 (fun b hb _ => by omega))
  have hs10 : w9.heap.size ≤ w10.heap.size := by have := hd10.2.1.size; simp at this; omega
  clear hd10 hx10 hi3
  have HB := hide (HB1.out.trans (D10.out.2.1.below (by omega) (fun b hb => by omega)))
  have HO : Hid (OwO (w.heap.size + 1) w10 (.slice az n cz) os) := O10.out.mono (by omega)
  have HL : Hid (os.length ≤ 1048576) := by rw [Hid, HN.out]; exact hl
  go_wp2
  exact bodyPost_ret (v := .tuple #[.slice az n cz, .int .i64 x6, .int .i64 x10]) (by simp [results, Try.results14]) rfl ⟨_, os, _, _, rfl, HL.out, HB.out, HO.out⟩

set_option maxHeartbeats 1000000 in
set_option maxRecDepth 4000 in
theorem drawTakeLock {w : World} {v : Value} {bs : List Nat} (hv : RdB w.heap.size w v bs) :
    Calls Try.prog 5 #[v] w fun e w' => ∃ z os x y, e = .returned (.tuple #[z, .int .i64 x, .int .i64 y]) ∧ os.length ≤ 1048576 ∧ Below w.heap.size w w' ∧ OwO (w.heap.size + 1) w' z os := by
  have HV := hide hv
  obtain ⟨ao, c, rfl, h2, h3⟩ := hv
  clear h2 h3
  go_enter Try.func5, Try.ntmps5
  go_wp2_with fail
  refine (l6With HV.out).mono ?_
  rintro e w1 ⟨z, os, x, y, rfl, hl, hb, ho⟩
  have HB := hide hb
  have HO := hide ho
  have HL := hide hl
  clear hb ho hl
  go_wp2
  exact bodyPost_ret (v := .tuple #[z, .int .i64 x, .int .i64 y]) (by simp [results, Try.results5]) rfl ⟨_, os, _, _, rfl, HL.out, HB.out, HO.out⟩

set_option maxHeartbeats 1000000 in
set_option maxRecDepth 4000 in
theorem lwHas {S : Nat → Prop} {w : World} {v : Value} {xs : List Int} (a : Int) (hv : RdI S w v xs) (ha : a ∈ xs) :
    Calls Try.prog 13 #[v, .int .i64 a] w fun e w' => e = .returned (.bool true) ∧ w' = w := by
  have HV := hide hv
  have hml : xs.length ≤ 9223372036854775807 := by obtain ⟨_, _, _, h, _⟩ := hv; exact h
  obtain ⟨ao, c, rfl⟩ := hv.shape
  obtain ⟨n, hn⟩ : ∃ n, xs.length = n := ⟨_, rfl⟩
  have HN := hide hn
  have HA : Hid (∃ j, j < n ∧ xs.getD j 0 = a) := by
    obtain ⟨j, hj, e⟩ := List.mem_iff_getElem.1 ha
    exact ⟨j, by omega, by simp [List.getD, hj, e]⟩
  rw [hn] at HV hml ⊢
  clear hv hn ha
  go_enter Try.func13, Try.ntmps13
  go_wp2
  go_loopw [5] (fun i wr => ∃ k : Nat, k ≤ n ∧ i = .int .i64 (k : Int) ∧ Hid (∀ j, j < k → xs.getD j 0 ≠ a) ∧ wr = w) (fun i _ => n - (RowKit.intOf i).toNat)
  case atStart => exact ⟨0, Nat.zero_le _, rfl, fun j hj => absurd hj (Nat.not_lt_zero _), rfl⟩
  case round =>
    obtain ⟨k, hk, rfl, HB, rfl⟩ := hrel
    by_cases hlt : k < n
    · obtain ⟨b, off, rfl, q1⟩ : ∃ b off, ao = some ⟨b, off, none⟩ ∧ wr.cell? ⟨b, off + k, none⟩ = some (.int .i64 (xs.getD k 0)) := by
        obtain ⟨ao', c', e, _, h3⟩ := HV.out
        injection e with e1 _ _
        obtain ⟨b, off, f1, _, f3⟩ := h3 (by rintro rfl; have := HN.out; simp at this; omega)
        exact ⟨b, off, e1.trans f1, f3 k (by rw [HN.out]; exact hlt)⟩
      obtain ⟨x, hx⟩ : ∃ x, xs.getD k 0 = x := ⟨_, rfl⟩
      have HX := hide hx
      rw [hx] at q1
      have hk0 : (0 : Int) ≤ (k : Int) := Int.natCast_nonneg _
      have hk1 : (k : Int) < (n : Int) := by omega
      clear hx
      by_cases hxa : x = a
      · subst hxa
        go_wp2
        go_ret
        exact ⟨rfl, rfl⟩
      · have hxb : (x == a) = false := by simpa using hxa
        have HB' : Hid (∀ j, j < k + 1 → xs.getD j 0 ≠ a) := fun j hj => by
          by_cases e : j = k
          · subst e; rw [HX.out]; exact hxa
          · exact HB.out j (by omega)
        go_wp2
        go_roundw
        case rel => exact ⟨k + 1, hlt, by go_num, HB'.out, by trivial⟩
        case measure => simp [RowKit.intOf]; omega
    · exfalso
      obtain ⟨j, hj, e⟩ := HA.out
      exact HB.out j (by omega) e
end Go.Proofs.Ytkpkoapcmnapoab
