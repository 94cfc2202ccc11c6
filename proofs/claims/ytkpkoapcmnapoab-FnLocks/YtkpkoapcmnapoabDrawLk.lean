/- Chapter 6: the model's draws of owners, walked: 'l6Right', 'l6Bent', 'l6With', 'DrawTakeLock'. -/
import Derived.Test.YtkpkoapcmnapoabLkSpR
import Derived.Test.YtkpkoapcmnapoabLkMath
import Derived.Test.YtkpkoapcmnapoabDraw2
namespace Go.Proofs.Ytkpkoapcmnapoab
open Go.RowKit Go.Maps

set_option maxHeartbeats 4000000 in
set_option maxRecDepth 4000 in
theorem l6Right {s : Nat} {v : Value} {bs : List Nat} {w : World} {t : Nat} (hS : Src s v bs w t) (ht : t ≤ 1000000000) :
    Calls Try.prog 42 #[.pointer (some ⟨s, 0, none⟩)] w fun e w' => ∃ z os, e = .returned z ∧ Own os ∧ RwO w.heap.size w' z os ∧ ∃ t', Drawn 20 s v bs t t' w w' := by
  have HS := hide hS
  have hsl := hS.lt
  clear hS
  go_enter Try.func42, Try.ntmps42
  go_wp2_with fail
  have D0 := hide ((Drawn.refl HS.out).later (below_alloc w (.cells #[] 40)))
  refine (l1Next 9 D0.out.1 (by omega) (by omega) (by omega)).mono ?_
  rintro e w1 ⟨k1, rfl, k1a, k1b, t1, hd1⟩
  have k1c := k1b (by omega)
  obtain ⟨K, rfl⟩ : ∃ K : Nat, k1 = (K : Int) := ⟨k1.toNat, (Int.toNat_of_nonneg k1a).symm⟩
  have D1 := hide (D0.out.on hd1)
  have HR1 : Hid (RwO w.heap.size w1 (.slice (some ⟨w.heap.size, 0, none⟩) 0 0) []) := RwO.wr (World.ownsRow_made w #[] 0 (Nat.le_refl _) (by unfold maxLen; omega) (by simp)) hd1.2.1 hsl
  have HO1 : Hid (Own []) := own_made List.Pairwise.nil (fun o ho => by cases ho) (fun o ho => by cases ho)
  clear hd1 k1b D0
  go_wp2
  go_loopw [3, 4] (fun v' k wr => ∃ (K j : Nat) (ao : Option Addr) (n c : Nat) (os : List Wn) (t5 : Nat), K + j ≤ 9 ∧ k = .int .i64 (K : Int) ∧ v' = .slice ao n c ∧ Hid (os.length = n) ∧ Hid (Own os) ∧ Hid (RwO w.heap.size wr (.slice ao n c) os) ∧ Hid (Drawn (1 + 2 * j) s v bs t t5 w wr)) (fun _ k _ => (RowKit.intOf k).toNat)
  case atStart => exact ⟨K, 0, some ⟨w.heap.size, 0, none⟩, 0, 0, [], t1, by omega, rfl, rfl, rfl, HO1.out, HR1.out, D1.out.mono (by omega)⟩
  case round =>
    clear HR1 HO1 D1
    obtain ⟨K, j, ao, n, c, os, t5, hKj, rfl, rfl, HN, HO, HR, HD⟩ := hrel
    by_cases hK0 : 0 < K
    · obtain ⟨K', rfl⟩ : ∃ K', K = K' + 1 := ⟨K - 1, by omega⟩
      go_wp2_with fail
      refine (l1Next 4 HD.out.1 (by have := HD.out.2.2; omega) (by omega) (by omega)).mono ?_
      rintro e w2 ⟨a1, rfl, a1a, a1b, t2, hd2⟩
      have a1c := a1b (by omega)
      have D2 := hide (HD.out.on hd2)
      have HR2 := hide (HR.out.wr hd2.2.1 hsl)
      have hwa : IntKind.i64.wrap (1 + a1) = 1 + a1 := by simp [IntKind.wrap, IntKind.bits, IntKind.signed]; omega
      clear hd2 a1b
      go_wp2_with fail
      refine (l1Next 12 D2.out.1 (by have := D2.out.2.2; omega) (by omega) (by omega)).mono ?_
      rintro e w3 ⟨b1, rfl, b1a, b1b, t3, hd3⟩
      have b1c := b1b (by omega)
      have D3 := hide (D2.out.on hd3)
      have HR3 := hide (HR2.out.wr hd3.2.1 hsl)
      obtain ⟨tx, htx⟩ : ∃ tx, 1 + a1 = tx := ⟨_, rfl⟩
      have hx1 : 0 < tx := by omega
      have hx2 : tx ≤ 99 := by omega
      have hb40 : b1 < 40 := by omega
      rw [htx] at hwa
      have HTk := hide (l6TakeR tx b1 (HR3.out.ow (by have := HO.out.len; omega)).rd HO.out hx1)
      have HOw := hide (fun h => own_tkL HO.out (t := tx) (a := b1) ⟨hx1, hx2⟩ ⟨b1a, hb40⟩ h)
      generalize tkL os tx b1 = os2 at HTk HOw
      generalize tkF (ownr os) tx b1 = Z at HTk HOw
      clear hd3 b1b
      go_wp2_with fail
      refine HTk.out.mono ?_
      rintro e w4 ⟨z4, rfl, hb4, hr4⟩
      have D4 := hide ((D3.out.later hb4).later (below_alloc w4 (.cells #[.int .i64 Z, z4] 28)))
      have HR4 := hide ((HR3.out.later hb4).later (below_alloc w4 (.cells #[.int .i64 Z, z4] 28)))
      have HRn := hide ((hr4.mono (show w.heap.size ≤ w3.heap.size by have := D3.out.2.1.size; omega)).later (below_alloc w4 (.cells #[.int .i64 Z, z4] 28)))
      by_cases hZ : Z = 0
      · subst hZ
        rw [if_pos rfl] at HRn hr4
        have HOn := hide (HOw.out (by trivial))
        obtain ⟨a4, c4, rfl⟩ := hr4.shape
        obtain ⟨n2, hn2⟩ : ∃ n2, os2.length = n2 := ⟨_, rfl⟩
        rw [hn2] at HRn D4 HR4 ⊢
        have HN2 := hide hn2
        clear hb4 hr4 hn2
        go_wp2
        go_roundw
        case rel => exact ⟨K', j + 1, a4, n2, c4, os2, t3, by omega, by go_num, rfl, HN2.out, HOn.out, HRn.out, D4.out.mono (by omega)⟩
        case measure => simp [RowKit.intOf]
      · rw [if_neg hZ] at hr4
        obtain ⟨a4, c4, rfl⟩ := hr4.shape
        have hZb : (Z == 0) = false := by simpa using hZ
        clear hb4 hr4
        go_wp2
        go_roundw
        case rel => exact ⟨K', j + 1, ao, n, c, os, t3, by omega, by go_num, rfl, HN.out, HO.out, HR4.out, D4.out.mono (by omega)⟩
        case measure => simp [RowKit.intOf]
    · have hKz : K = 0 := by omega
      subst hKz
      go_wp2
      go_ret
      exact ⟨_, os, rfl, HO.out, HR.out, t5, HD.out.mono (by omega)⟩

theorem made82 : (madeCells #[Value.int .i64 0, Value.int .i64 0] 82).toList = cellsW (List.replicate 41 (0, 0)) := by
  have h1 : (madeCells #[Value.int .i64 0, Value.int .i64 0] 82).toList = List.replicate 82 (Value.int .i64 0) := by
    rw [List.eq_replicate_iff]
    refine ⟨by simp [madeCells], fun b hb => ?_⟩
    simp [madeCells] at hb
    obtain ⟨i, _, rfl⟩ := hb
    rcases Nat.mod_two_eq_zero_or_one i with e | e <;> simp [e]
  rw [h1]
  rfl
theorem run_make41 (w : World) : (Instr.makeSlice 24 (.int .i64 41) (.int .i64 41)).run Try.prog w = .ok (.slice (some ⟨w.heap.size, 0, none⟩) 41 41) (w.alloc (.cells (madeCells #[.int .i64 0, .int .i64 0] 82) 40)) := by
  obtain ⟨i0, hi, hz0, hz1, hz2⟩ := info_parts Try.infoOwner
  have h := run_make (P := Try.prog) w 24 40 i0 _ Try.underlying24 hi hz0 .i64 .i64 41 41 (by omega) (by omega) (by rw [hz2]; omega) (by omega)
  rw [hz1] at h
  exact h
theorem made41 (w : World) : OwO w.heap.size (w.alloc (.cells (madeCells #[.int .i64 0, .int .i64 0] 82) 40)) (.slice (some ⟨w.heap.size, 0, none⟩) 41 41) (List.replicate 41 (0, 0)) := by
  refine owO_of_row (n := 41) ⟨by rw [cellsW_len, List.length_replicate], Or.inr ⟨w.heap.size, 41, _, rfl, Nat.le_refl _, heap_alloc_new w _, Nat.le_refl _, by unfold maxLen; omega, size_madeCells _ _, ?_⟩⟩ (by simp) (by omega)
  rw [made82, List.take_of_length_le (by rw [cellsW_len, List.length_replicate]; omega)]

set_option maxHeartbeats 4000000 in
set_option maxRecDepth 4000 in
theorem l6Bent {s : Nat} {v : Value} {bs : List Nat} {w : World} {t : Nat} (hS : Src s v bs w t) (ht : t ≤ 900000000) :
    Calls Try.prog 29 #[.pointer (some ⟨s, 0, none⟩)] w fun e w' => ∃ z os, e = .returned z ∧ os.length ≤ 1048576 ∧ OwO w.heap.size w' z os ∧ ∃ t', Drawn 30 s v bs t t' w w' := by
  have HS := hide hS
  have hsl := hS.lt
  obtain ⟨i0, hi, hz0, hz1, hz2⟩ := info_parts Try.infoOwner
  clear hS
  go_enter Try.func29, Try.ntmps29
  go_wp2_with fail
  refine (l6Right HS.out (by omega)).mono ?_
  rintro e w1 ⟨z1, os, rfl, ho1, hr1, t1, hd1⟩
  have D1 := hide hd1
  have HR1 := hide hr1
  obtain ⟨a1, c1, rfl⟩ := hr1.shape
  have h40 := ho1.len
  obtain ⟨n, hn⟩ : ∃ n, os.length = n := ⟨_, rfl⟩
  rw [hn] at HR1 h40 ⊢
  have HN := hide hn
  clear hd1 hr1 ho1 hn
  go_wp2_with fail
  refine (l1Next 14 D1.out.1 (by have := D1.out.2.2; omega) (by omega) (by omega)).mono ?_
  rintro e w2 ⟨k, rfl, ka, kb, t2, hd2⟩
  have D2 := hide (D1.out.on hd2)
  have HR2 := hide (HR1.out.wr hd2.2.1 hsl)
  have hs1 := D1.out.2.1.size
  have hs2 := D2.out.2.1.size
  clear hd2 kb
  by_cases hk0 : k = 0
  · subst hk0
    go_wp2_with fail
    have H3 := hide (D2.out.later (below_alloc w2 (.cells #[.int .i64 (-1), .int .i64 40, .int .i64 39, .int .i64 0] 2)))
    have R3 := hide (HR2.out.later (below_alloc w2 (.cells #[.int .i64 (-1), .int .i64 40, .int .i64 39, .int .i64 0] 2)))
    refine (l1Pick (xs := [-1, 40, 39, 0]) H3.out.1 (by have := H3.out.2.2; omega) (RdI_new s w2 [-1, 40, 39, 0] 2 (by omega) (by simp)) (by simp) (by simp)).mono ?_
    rintro e w3 ⟨i, hi3, rfl, t3, hd3⟩
    obtain ⟨x, hx⟩ : ∃ x : Int, ([-1, 40, 39, 0] : List Int).getD i 0 = x := ⟨_, rfl⟩
    rw [hx]
    have H4 := hide (H3.out.on hd3)
    have R4 := hide (R3.out.wr hd3.2.1 hsl)
    have hs3 := H4.out.2.1.size
    clear hd3 hx hi3 H3 R3
    go_wp2_with fail
    have H5 := hide (H4.out.later (below_alloc w3 (.cells #[.int .i64 1, .int .i64 0, .int .i64 100] 2)))
    have R5 := hide (R4.out.later (below_alloc w3 (.cells #[.int .i64 1, .int .i64 0, .int .i64 100] 2)))
    refine (l1Pick (xs := [1, 0, 100]) H5.out.1 (by have := H5.out.2.2; omega) (RdI_new s w3 [1, 0, 100] 2 (by omega) (by simp)) (by simp) (by simp)).mono ?_
    rintro e w4 ⟨i, hi3, rfl, t4, hd4⟩
    obtain ⟨y, hy⟩ : ∃ y : Int, ([1, 0, 100] : List Int).getD i 0 = y := ⟨_, rfl⟩
    rw [hy]
    have H6 := hide (H5.out.on hd4)
    have R6 : Hid (w4.ownsRow w.heap.size 40 2 (.slice a1 n c1) n (cellsW os)) := by
      have h := R5.out.wr hd4.2.1 hsl
      unfold RwO at h
      rw [HN.out] at h
      exact h
    have hs4 := H6.out.2.1.size
    clear hd4 hy hi3 H5 R5
    go_wp2_with (at_builtin; refine wpList_append_lies _ rfl _ _ _ rfl w.heap.size 40 i0 (.agg #[.int .i64 0, .int .i64 0]) 2 16 Try.underlying24 hi hz0 hz1 hz2 rfl (by omega) (.slice a1 n c1) n _ (by rfl) (R6.out.alloc (.cells #[.int .i64 x, .int .i64 y] 40)) ⟨w4.heap.size, 0, none⟩ 1 1 [.int .i64 x, .int .i64 y] (by rfl) (by rfl) (World.news_of_block (cs := #[.int .i64 x, .int .i64 y]) (t := 40) (fr := (0, 0)) (heap_alloc_new w4 _)) (by simp [Value.oneCell']) (by omega) (by unfold maxLen; omega) (by omega) (by simp; omega) (w4.heap.size + 1) (by simp) ?_)
    intro g cap w7 hown hgrow hat hlt7
    have hO7 : OwO w.heap.size w7 (.slice (some ⟨g, 0, none⟩) (n + 1) cap) (os ++ [(x, y)]) := owO_of_row (n := n + 1) (by rw [cellsW_append]; exact hown) (by simp [HN.out]) (by omega)
    have hB7 : Below w.heap.size w4 w7 := ((below_alloc w4 _).mono hs4).grown hgrow (by simp; omega) (fun r hr => (R6.out.lt r hr).1)
    have HO7 := hide hO7
    have HD7 := hide (H6.out.onBelow HS.out hB7)
    have HL7 : Hid ((os ++ [(x, y)]).length ≤ 1048576) := by simp [Hid, HN.out]; omega
    clear hown hgrow hat hlt7 hO7 hB7
    go_wp2
    go_ret
    exact ⟨_, os ++ [(x, y)], rfl, HL7.out, HO7.out, t4, HD7.out.mono (by omega)⟩
  by_cases hk1 : k = 1
  · subst hk1
    have HO7 := hide ((made41 w2).mono hs2)
    have HD7 := hide (D2.out.later (below_alloc w2 (.cells (madeCells #[.int .i64 0, .int .i64 0] 82) 40)))
    have hmk := run_make41
    generalize madeCells #[Value.int .i64 0, Value.int .i64 0] 82 = Z at HO7 HD7 hmk
    go_wp2
    go_ret
    exact ⟨_, List.replicate 41 (0, 0), rfl, by simp, HO7.out, t2, HD7.out.mono (by omega)⟩
  · have hb0 : (k == 0) = false := by simpa using hk0
    have hb1 : (k == 1) = false := by simpa using hk1
    have HO7 := hide (HR2.out.ow (by rw [HN.out]; omega))
    go_wp2
    go_ret
    exact ⟨_, os, rfl, by rw [HN.out]; omega, HO7.out, t2, D2.out.mono (by omega)⟩
end Go.Proofs.Ytkpkoapcmnapoab
