/- Chapter 7, the model's draws: 'l7Draw', 'l7Bent', 'DrawUnpackMap', 'DrawTakeBlocks', walked. -/
import Derived.Test.YtolhpjeoagjnjaaMp5
import Derived.Test.YtolhpjeoagjnjaaDrawP
namespace Go.Proofs.Ytolhpjeoagjnjaa
open Go.RowKit

set_option maxHeartbeats 1000000 in
set_option maxRecDepth 4000 in
/-- 'l7Pack' once more: the row that it has built. -/
theorem l7PackOwn {S : Nat → Prop} {w : World} {u : Value} {xs : List Int} (hu : RdI S w u xs) (hx : ∀ x, x ∈ xs → 3 ≤ x ∧ x ≤ 22) :
    Calls Try.prog 34 #[u] w fun e w' => ∃ (a b : Int), e = .returned (.slice (some ⟨w.heap.size, 0, none⟩) 2 2) ∧ Below w.heap.size w w' ∧ w'.heap[w.heap.size]? = some (.cells #[.int .i64 a, .int .i64 b] 2 (0, 0)) := by
  have hml := hu.max
  obtain ⟨ao, c, rfl⟩ := hu.shape
  have HAt : Hid (∀ k, k < xs.length → 3 ≤ xs.getD k 0 ∧ xs.getD k 0 ≤ 22) := fun k hk => hx _ (by simp [List.getD, hk])
  have HU := hide hu
  obtain ⟨n, hn⟩ : ∃ n, xs.length = n := ⟨_, rfl⟩
  have HN := hide hn
  rw [hn] at HAt HU hml ⊢
  clear hn hu hx
  have HB1 := hide (below_alloc w (.cells #[.int .i64 0, .int .i64 0] 2))
  have HH1 := hide (heap_alloc_new w (.cells #[.int .i64 0, .int .i64 0] 2))
  go_enter Try.func34, Try.ntmps34
  go_wp2
  go_loopw [4] (fun i wr => ∃ (k : Nat) (a b : Int), k ≤ n ∧ i = .int .i64 k ∧ Hid (Below w.heap.size w wr) ∧ Hid (wr.heap[w.heap.size]? = some (.cells #[.int .i64 a, .int .i64 b] 2 (0, 0)))) (fun i _ => n - (RowKit.intOf i).toNat)
  case atStart => exact ⟨0, 0, 0, Nat.zero_le _, rfl, HB1.out, HH1.out⟩
  case round =>
    obtain ⟨k, a, b, hk, rfl, HW, HH⟩ := hrel
    by_cases hlt : k < n
    · have hx := HAt.out k hlt
      obtain ⟨bb, off, rfl, q0⟩ := HU.out.at (k := k) (by rw [HN.out]; exact hlt)
      have q1 := cell_later HW.out q0
      have g0 : wr.cell? ⟨w.heap.size, 0, none⟩ = some (.int .i64 a) := by have h := HH.out; simp [World.cell?, h]
      have g1 : wr.cell? ⟨w.heap.size, 1, none⟩ = some (.int .i64 b) := by have h := HH.out; simp [World.cell?, h]
      have F0 : wr.frozen? ⟨w.heap.size, 0, none⟩ = false := frozen_of_row _ _ _ _ _ HH.out
      have F1 : wr.frozen? ⟨w.heap.size, 1, none⟩ = false := frozen_of_row _ _ _ _ _ HH.out
      obtain ⟨x, hxe⟩ : ∃ x, xs.getD k 0 = x := ⟨_, rfl⟩
      rw [hxe] at hx q1
      clear hxe q0
      have hk0 : (0 : Int) ≤ (k : Int) := by omega
      have hk1 : (k : Int) < (n : Int) := by omega
      by_cases h13 : x < 13
      · obtain ⟨y, hy0⟩ : ∃ y : Nat, x - 3 = (y : Int) := ⟨(x - 3).toNat, by omega⟩
        have hy : y < 10 := by omega
        have hdiv : IntKind.i64.wrap (Int.tdiv (x - 3) 10) = 0 := by rw [Int.tdiv_eq_ediv_of_nonneg (by omega), show (x - 3) / 10 = 0 by omega]; decide
        have hmod : Int.tmod (x - 3) 10 = (y : Int) := by rw [Int.tmod_eq_emod_of_nonneg (by omega)]; omega
        have hshl : IntKind.i64.wrap (2 ^ y) = 2 ^ y := shl_ok y hy
        have huw : IntKind.u64.wrap (y : Int) = (y : Int) := by simp [IntKind.wrap, IntKind.bits, IntKind.signed]; omega
        clear hy0
        have HW2 : Hid (Below w.heap.size w (wr.setCell ⟨w.heap.size, 0, none⟩ (.int .i64 (bits .or .i64 a (2 ^ y))))) := HW.out.setCell (p := ⟨w.heap.size, 0, none⟩) (Nat.le_refl _) _
        have HH2 := hide (heap_setCell_same wr w.heap.size 0 #[.int .i64 a, .int .i64 b] 2 (.int .i64 (bits .or .i64 a (2 ^ y))) HH.out)
        go_wp2
        go_roundw
        case rel => exact ⟨k + 1, _, b, by omega, by go_num, HW2.out, HH2.out⟩
        case measure => simp [RowKit.intOf]; omega
      · obtain ⟨y, hy0⟩ : ∃ y : Nat, x - 13 = (y : Int) := ⟨(x - 13).toNat, by omega⟩
        have hy : y < 10 := by omega
        have hdiv : IntKind.i64.wrap (Int.tdiv (x - 3) 10) = 1 := by rw [Int.tdiv_eq_ediv_of_nonneg (by omega), show (x - 3) / 10 = 1 by omega]; decide
        have hmod : Int.tmod (x - 3) 10 = (y : Int) := by rw [Int.tmod_eq_emod_of_nonneg (by omega)]; omega
        have hshl : IntKind.i64.wrap (2 ^ y) = 2 ^ y := shl_ok y hy
        have huw : IntKind.u64.wrap (y : Int) = (y : Int) := by simp [IntKind.wrap, IntKind.bits, IntKind.signed]; omega
        clear hy0
        have HW2 : Hid (Below w.heap.size w (wr.setCell ⟨w.heap.size, 1, none⟩ (.int .i64 (bits .or .i64 b (2 ^ y))))) := HW.out.setCell (p := ⟨w.heap.size, 1, none⟩) (Nat.le_refl _) _
        have HH2 := hide (heap_setCell_same wr w.heap.size 1 #[.int .i64 a, .int .i64 b] 2 (.int .i64 (bits .or .i64 b (2 ^ y))) HH.out)
        go_wp2
        go_roundw
        case rel => exact ⟨k + 1, a, _, by omega, by go_num, HW2.out, HH2.out⟩
        case measure => simp [RowKit.intOf]; omega
    · go_wp2
      go_ret
      exact ⟨a, b, rfl, HW.out, HH.out⟩

set_option maxHeartbeats 4000000 in
set_option maxRecDepth 4000 in
/-- 'l7Draw': some blocks, in new memory. -/
theorem l7Draw {s : Nat} {v : Value} {bs : List Nat} {w : World} {t : Nat} (hS : Src s v bs w t) (ht : t ≤ 1000000000) :
    Calls Try.prog 35 #[.pointer (some ⟨s, 0, none⟩)] w fun e w' => ∃ (ao : Option Addr) (n c : Nat) (xs : List Int), e = .returned (.slice ao n c) ∧ xs.length = n ∧ n ≤ 20 ∧ (∀ x, x ∈ xs → 3 ≤ x ∧ x ≤ 22) ∧ w'.ownsRow w.heap.size 2 1 (.slice ao n c) n (xs.map (Value.int .i64)) ∧ ∃ t', Drawn 20 s v bs t t' w w' := by
  have HS := hide hS
  have hsl := hS.lt
  obtain ⟨i0, hi, hz0, hz1, hz2⟩ := info_parts Try.infoInt
  clear hS
  have D0 := hide ((Drawn.refl HS.out).later (below_alloc w (.cells #[] 2)))
  have O0 := hide (World.ownsRow_made (base := w.heap.size) (e := 2) (size := 1) w #[] 0 (Nat.le_refl _) (by unfold maxLen; omega) (by simp))
  go_enter Try.func35, Try.ntmps35
  go_wp2
  go_loopw [3, 4] (fun v' i wr => ∃ (k n : Nat) (ao : Option Addr) (c : Nat) (xs : List Int) (t5 : Nat), k ≤ 20 ∧ n ≤ k ∧ i = .int .i64 (3 + (k : Int)) ∧ v' = .slice ao n c ∧ Hid (xs.length = n) ∧ Hid (∀ x, x ∈ xs → 3 ≤ x ∧ x ≤ 22) ∧ Hid (wr.ownsRow w.heap.size 2 1 (.slice ao n c) n (xs.map (Value.int .i64))) ∧ Hid (Drawn k s v bs t t5 w wr)) (fun _ i _ => 23 - (RowKit.intOf i).toNat)
  case atStart => exact ⟨0, 0, _, _, [], t, by omega, by omega, rfl, rfl, rfl, fun x hx => absurd hx (by simp), O0.out, D0.out⟩
  case round =>
    obtain ⟨k, n, ao, c, xs, t5, hk, hnk, rfl, rfl, HL, HIn, HO, HD⟩ := hrel
    have hz := HD.out.2.1.size
    by_cases hlt : k < 20
    · have hle : (3 + (k : Int)) ≤ 22 := by omega
      go_wp2_with fail
      refine (l1Chance 3 HD.out.1 (by have := HD.out.2.2; omega) (by omega) (by omega)).mono ?_
      rintro e w6 ⟨r, rfl, t6, hd6⟩
      have D6 := hide (HD.out.on hd6)
      have O6 := hide (ownsRow_wr HO.out hd6.2.1 (ownBlock_ne HO.out hsl))
      have hz6 := hd6.2.1.size
      clear hd6
      cases r with
      | true =>
        go_wp2_with (at_builtin; refine wpList_append_lies _ rfl _ _ _ rfl w.heap.size 2 i0 (.int .i64 0) 1 8 Try.underlying24 hi hz0 hz1 hz2 rfl (by omega) _ n _ (by rfl) (O6.out.alloc (.cells #[.int .i64 (3 + (k : Int))] 2)) ⟨w6.heap.size, 0, none⟩ 1 1 [.int .i64 (3 + (k : Int))] (by rfl) (by rfl) (World.news_of_block (cs := #[.int .i64 (3 + (k : Int))]) (t := 2) (fr := (0, 0)) (heap_alloc_new w6 _)) (by simp [Value.oneCell']) (by omega) (by unfold maxLen; omega) (by omega) (by simp; omega) (w6.heap.size + 1) (by simp) ?_; intro g cap w7 hown hgrow hat hlt7)
        have HB7 := hide ((Below.mono (below_alloc w6 (.cells #[.int .i64 (3 + (k : Int))] 2)) (show w.heap.size ≤ w6.heap.size by omega)).grown hgrow (by simp; omega) (fun r hr => (O6.out.lt r hr).1))
        have D7 := hide (D6.out.onBelow HS.out HB7.out)
        have O7 : Hid (w7.ownsRow w.heap.size 2 1 (.slice (some ⟨g, 0, none⟩) (n + 1) cap) (n + 1) ((xs ++ [3 + (k : Int)]).map (Value.int .i64))) := by rw [Hid, List.map_append]; exact hown
        have HL7 : Hid ((xs ++ [3 + (k : Int)]).length = n + 1) := by unfold Hid; rw [List.length_append, HL.out]; rfl
        have HIn7 : Hid (∀ x, x ∈ xs ++ [3 + (k : Int)] → 3 ≤ x ∧ x ≤ 22) := fun x hx => by
          rcases List.mem_append.1 hx with h | h
          · exact HIn.out x h
          · rw [List.mem_singleton] at h; omega
        clear hown hgrow hat hlt7 HB7 O6 D6
        go_wp2
        go_roundw
        case rel => exact ⟨k + 1, n + 1, _, _, xs ++ [3 + (k : Int)], t6, by omega, by omega, by go_num, rfl, HL7.out, HIn7.out, O7.out, D7.out⟩
        case measure => simp [RowKit.intOf]; omega
      | false =>
        go_wp2
        go_roundw
        case rel => exact ⟨k + 1, n, _, _, xs, t6, by omega, by omega, by go_num, rfl, HL.out, HIn.out, O6.out, D6.out⟩
        case measure => simp [RowKit.intOf]; omega
    · have hk20 : k = 20 := by omega
      subst hk20
      go_wp2
      go_ret
      exact ⟨ao, n, c, xs, rfl, HL.out, by omega, HIn.out, HO.out, t5, HD.out⟩

set_option maxHeartbeats 4000000 in
set_option maxRecDepth 4000 in
/-- 'l7Bent': some numbers, in new memory. -/
theorem l7Bent {s : Nat} {v : Value} {bs : List Nat} {w : World} {t : Nat} (hS : Src s v bs w t) (ht : t ≤ 100000000) :
    Calls Try.prog 46 #[.pointer (some ⟨s, 0, none⟩)] w fun e w' => ∃ (ao : Option Addr) (n c : Nat) (xs : List Int), e = .returned (.slice ao n c) ∧ xs.length = n ∧ n ≤ 21 ∧ OwI w.heap.size w' (.slice ao n c) xs ∧ ∃ t', Drawn 22 s v bs t t' w w' := by
  have HS := hide hS
  have hsl := hS.lt
  obtain ⟨i0, hi, hz0, hz1, hz2⟩ := info_parts Try.infoInt
  clear hS
  go_enter Try.func46, Try.ntmps46
  go_wp2_with fail
  refine (l7Draw HS.out (by omega)).mono ?_
  rintro e w1 ⟨ao, n, c, xs, rfl, hl, hn20, _, hown, t1, hd1⟩
  have HL := hide hl
  have HO1 := hide hown
  have HD1 := hide hd1
  have hz1' := hd1.2.1.size
  have ht1 := hd1.2.2
  clear hl hown hd1
  go_wp2_with fail
  refine (l1Next 12 HD1.out.1 (by omega) (by omega) (by omega)).mono ?_
  rintro e w2 ⟨r, rfl, ra, rb, t2, hd2⟩
  have HO2 := hide (ownsRow_wr HO1.out hd2.2.1 (ownBlock_ne HO1.out hsl))
  have HD2 := hide (HD1.out.on hd2)
  have hz2' := hd2.2.1.size
  have ht2 := hd2.2.2
  clear hd2 rb HO1 HD1
  by_cases hr0 : r = 0
  · subst hr0
    have bA := below_alloc w2 (.cells #[.int .i64 2, .int .i64 23, .int .i64 22] 2)
    have HD3 := hide (HD2.out.later bA)
    have HO3 := hide (HO2.out.alloc (.cells #[.int .i64 2, .int .i64 23, .int .i64 22] 2))
    clear bA
    go_wp2_with fail
    refine (l1Pick (xs := [2, 23, 22]) HD3.out.1 (by have := HD3.out.2.2; omega) (RdI_new s w2 [2, 23, 22] 2 (by omega) (by simp)) (by simp) (by simp)).mono ?_
    rintro e w4 ⟨i, hi3, rfl, t4, hd4⟩
    obtain ⟨x, hx⟩ : ∃ x : Int, ([2, 23, 22] : List Int).getD i 0 = x := ⟨_, rfl⟩
    rw [hx]
    have HO4 := hide (ownsRow_wr HO3.out hd4.2.1 (ownBlock_ne HO2.out hsl))
    have HD4 := hide (HD3.out.on hd4)
    have hz4 := hd4.2.1.size
    simp only [World.size_alloc] at hz4
    clear hd4 hx hi3 HO3 HD3
    go_wp2_with (at_builtin; refine wpList_append_lies _ rfl _ _ _ rfl w.heap.size 2 i0 (.int .i64 0) 1 8 Try.underlying24 hi hz0 hz1 hz2 rfl (by omega) _ n _ (by rfl) (HO4.out.alloc (.cells #[.int .i64 x] 2)) ⟨w4.heap.size, 0, none⟩ 1 1 [.int .i64 x] (by rfl) (by rfl) (World.news_of_block (cs := #[.int .i64 x]) (t := 2) (fr := (0, 0)) (heap_alloc_new w4 _)) (by simp [Value.oneCell']) (by omega) (by unfold maxLen; omega) (by omega) (by simp; omega) (w4.heap.size + 1) (by simp) ?_; intro g cap w5 hown hgrow hat hlt5)
    have HB5 := hide ((Below.mono (below_alloc w4 (.cells #[.int .i64 x] 2)) (show w.heap.size ≤ w4.heap.size by omega)).grown hgrow (by simp; omega) (fun r hr => (HO4.out.lt r hr).1))
    have D5 := hide (HD4.out.onBelow HS.out HB5.out)
    have HL5 : Hid ((xs ++ [x]).length = n + 1) := by unfold Hid; rw [List.length_append, HL.out]; rfl
    have O5 : Hid (OwI w.heap.size w5 (.slice (some ⟨g, 0, none⟩) (n + 1) cap) (xs ++ [x])) := ow_of_owns HL5.out (by rw [List.map_append]; exact hown) (by rw [HL5.out]; omega)
    clear hown hgrow hat hlt5 HB5
    go_wp2
    go_ret
    exact ⟨_, n + 1, cap, xs ++ [x], rfl, HL5.out, by omega, O5.out, t4, D5.out.mono (by omega)⟩
  · have hr0b : (r == 0) = false := by simpa using hr0
    by_cases hr1 : r = 1
    · subst hr1
      by_cases hn0 : 0 < n
      · obtain ⟨b, off, hao, q0⟩ := (ow_of_owns HL.out HO2.out (by rw [HL.out]; omega)).rd.at (k := 0) (by rw [HL.out]; exact hn0)
        subst hao
        have q0' : w2.cell? ⟨b, off, none⟩ = some (.int .i64 (xs.getD 0 0)) := by simpa using q0
        obtain ⟨x, hx⟩ : ∃ x : Int, xs.getD 0 0 = x := ⟨_, rfl⟩
        rw [hx] at q0'
        have hn0i : (0 : Int) < (n : Int) := by omega
        clear hx q0
        go_wp2_with (at_builtin; refine wpList_append_lies _ rfl _ _ _ rfl w.heap.size 2 i0 (.int .i64 0) 1 8 Try.underlying24 hi hz0 hz1 hz2 rfl (by omega) _ n _ (by rfl) (HO2.out.alloc (.cells #[.int .i64 x] 2)) ⟨w2.heap.size, 0, none⟩ 1 1 [.int .i64 x] (by rfl) (by rfl) (World.news_of_block (cs := #[.int .i64 x]) (t := 2) (fr := (0, 0)) (heap_alloc_new w2 _)) (by simp [Value.oneCell']) (by omega) (by unfold maxLen; omega) (by omega) (by simp; omega) (w2.heap.size + 1) (by simp) ?_; intro g cap w5 hown hgrow hat hlt5)
        have HB5 := hide ((Below.mono (below_alloc w2 (.cells #[.int .i64 x] 2)) (show w.heap.size ≤ w2.heap.size by omega)).grown hgrow (by simp; omega) (fun r hr => (HO2.out.lt r hr).1))
        have D5 := hide (HD2.out.onBelow HS.out HB5.out)
        have HL5 : Hid ((xs ++ [x]).length = n + 1) := by unfold Hid; rw [List.length_append, HL.out]; rfl
        have O5 : Hid (OwI w.heap.size w5 (.slice (some ⟨g, 0, none⟩) (n + 1) cap) (xs ++ [x])) := ow_of_owns HL5.out (by rw [List.map_append]; exact hown) (by rw [HL5.out]; omega)
        clear hown hgrow hat hlt5 HB5
        go_wp2
        go_ret
        exact ⟨_, n + 1, cap, xs ++ [x], rfl, HL5.out, by omega, O5.out, t2, D5.out.mono (by omega)⟩
      · have hn0i : n = 0 := by omega
        subst hn0i
        have O5 := hide (ow_of_owns HL.out HO2.out (by rw [HL.out]; omega))
        go_wp2
        go_ret
        exact ⟨ao, 0, c, xs, rfl, HL.out, by omega, O5.out, t2, HD2.out.mono (by omega)⟩
    · have hr1b : (r == 1) = false := by simpa using hr1
      have O5 := hide (ow_of_owns HL.out HO2.out (by rw [HL.out]; omega))
      go_wp2
      go_ret
      exact ⟨ao, n, c, xs, rfl, HL.out, by omega, O5.out, t2, HD2.out.mono (by omega)⟩

set_option maxHeartbeats 4000000 in
set_option maxRecDepth 4000 in
/-- 'DrawTakeBlocks': some numbers and a number. -/
theorem drawTakeBlocks {w : World} {v : Value} {bs : List Nat} (hv : RdB w.heap.size w v bs) :
    Calls Try.prog 15 #[v] w fun e w' => ∃ (z : Value) (xs : List Int) (m : Int), e = .returned (.tuple #[z, .int .i64 m]) ∧ Below w.heap.size w w' ∧ xs.length ≤ 21 ∧ OwI w.heap.size w' z xs := by
  have HV := hide hv
  obtain ⟨ao, c, rfl, h2, h3⟩ := hv
  clear h2 h3
  go_enter Try.func15, Try.ntmps15
  go_wp2_with fail
  refine (l1Source HV.out).mono ?_
  rintro e w1 ⟨rfl, hb1, hz1, hS1⟩
  have HB1 := hide hb1
  have HS1 := hide hS1
  clear hb1 hS1
  go_wp2_with fail
  refine (l7Bent HS1.out (by omega)).mono ?_
  rintro e w2 ⟨a2, n2, c2, xs, rfl, hl2, hn2, ho2, t2, hd2⟩
  have HO2 := hide (ho2.mono (B' := w.heap.size + 1) (by omega))
  have HS2 := hide hd2.1
  have hz2 := hd2.2.1.size
  have ht2 := hd2.2.2
  have HB2 := hide (HB1.out.trans (hd2.2.1.below (by omega) (fun b hb => by omega)))
  clear hd2 ho2 HB1
  go_wp2_with fail
  refine (l1Next 8 HS2.out (by omega) (by omega) (by omega)).mono ?_
  rintro e w3 ⟨r3, rfl, ra3, rb3, t3, hd3⟩
  have HO3 := hide (HO2.out.wr hd3.2.1 (fun b h1 _ => by omega))
  have HS3 := hide hd3.1
  have hz3 := hd3.2.1.size
  have ht3 := hd3.2.2
  have HB3 := hide (HB2.out.trans (hd3.2.1.below (by omega) (fun b hb => by omega)))
  clear hd3 rb3 ra3 HO2 HB2 HS2
  go_wp2_with fail
  refine (l1Next 8 HS3.out (by omega) (by omega) (by omega)).mono ?_
  rintro e w4 ⟨r4, rfl, ra4, rb4, t4, hd4⟩
  have HO4 := hide (HO3.out.wr hd4.2.1 (fun b h1 _ => by omega))
  have HS4 := hide hd4.1
  have hz4 := hd4.2.1.size
  have ht4 := hd4.2.2
  have HB4 := hide (HB3.out.trans (hd4.2.1.below (by omega) (fun b hb => by omega)))
  clear hd4 rb4 ra4 HO3 HB3 HS3
  go_wp2_with fail
  refine (l1Next 21 HS4.out (by omega) (by omega) (by omega)).mono ?_
  rintro e w5 ⟨r5, rfl, ra5, rb5, t5, hd5⟩
  have HO5 := hide (HO4.out.wr hd5.2.1 (fun b h1 _ => by omega))
  have HS5 := hide hd5.1
  have hz5 := hd5.2.1.size
  have ht5 := hd5.2.2
  have HB5 := hide (HB4.out.trans (hd5.2.1.below (by omega) (fun b hb => by omega)))
  clear hd5 rb5 ra5 HO4 HB4 HS4
  have bA := below_alloc w5 (.cells #[.int .i64 r3, .int .i64 r4, .int .i64 r5, .int .i64 21, .int .i64 (-1)] 2)
  have HS6 := hide (HS5.out.later bA)
  have HO6 := hide (HO5.out.later bA)
  have HB6 := hide (HB5.out.trans (bA.mono (by omega)))
  clear bA
  go_wp2_with fail
  refine (l1Pick (xs := [r3, r4, r5, 21, -1]) HS6.out (by omega) (RdI_new w.heap.size w5 [r3, r4, r5, 21, -1] 2 (by omega) (by simp)) (by simp) (by simp)).mono ?_
  rintro e w7 ⟨i, hi3, rfl, t7, hd7⟩
  obtain ⟨x, hx⟩ : ∃ x : Int, ([r3, r4, r5, 21, -1] : List Int).getD i 0 = x := ⟨_, rfl⟩
  rw [hx]
  have HO7 := hide ((HO6.out.wr hd7.2.1 (fun b h1 _ => by omega)).mono (B' := w.heap.size) (by omega))
  have hz7 := hd7.2.1.size
  have HB7 := hide (HB6.out.trans (hd7.2.1.below (by simp; omega) (fun b hb => by omega)))
  have HL2 := hide hl2
  clear hd7 hx hi3 HO6 HB6 HS6 hl2
  go_wp2
  refine bodyPost_ret (v := .tuple #[.slice a2 n2 c2, .int .i64 x]) (by simp [results, Try.results15, go_sem]) rfl ⟨_, xs, x, rfl, HB7.out, by rw [HL2.out]; exact hn2, HO7.out⟩
end Go.Proofs.Ytolhpjeoagjnjaa
