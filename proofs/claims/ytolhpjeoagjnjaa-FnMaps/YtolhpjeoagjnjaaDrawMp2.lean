/- Chapter 7: the model's draw 'DrawUnpackMap', walked; a map is read back from its words. -/
import Derived.Test.YtolhpjeoagjnjaaDrawMp
import Derived.Test.YtolhpjeoagjnjaaMp7a
import Derived.Test.YtolhpjeoagjnjaaTk1
namespace Go.Proofs.Ytolhpjeoagjnjaa
open Go.RowKit

/-- Two words in a block of their own. -/
theorem rd_pair {w : World} {g : Nat} {a b : Int} (h : w.heap[g]? = some (.cells #[.int .i64 a, .int .i64 b] 2 (0, 0))) : RdI (fun _ => True) w (.slice (some ⟨g, 0, none⟩) 2 2) [a, b] := by
  refine ⟨_, 0, rfl, by simp, fun _ => ⟨g, 0, rfl, trivial, fun i hi => ?_⟩⟩
  simp only [List.length_cons, List.length_nil] at hi
  match i, hi with
  | 0, _ => simp [World.cell?, h]
  | 1, _ => simp [World.cell?, h]
theorem row_pair {w : World} {B g : Nat} {a b : Int} (hB : B ≤ g) (h : w.heap[g]? = some (.cells #[.int .i64 a, .int .i64 b] 2 (0, 0))) : w.ownsRow B 2 1 (.slice (some ⟨g, 0, none⟩) 2 2) 2 ([a, b].map (Value.int .i64)) :=
  ⟨rfl, .inr ⟨g, 2, _, rfl, hB, h, Nat.le_refl _, by unfold maxLen; omega, rfl, rfl⟩⟩

set_option linter.unusedSimpArgs false in
set_option maxHeartbeats 4000000 in
set_option maxRecDepth 4000 in
theorem drawUnpackMap {w : World} {v : Value} {bs : List Nat} (hv : RdB w.heap.size w v bs) :
    Calls Try.prog 10 #[v] w fun e w' => ∃ (z : Value) (ws : List Int), e = .returned z ∧ Below w.heap.size w w' ∧ ws.length ≤ 3 ∧ RdI (fun _ => True) w' z ws := by
  have HV := hide hv
  obtain ⟨i0, hi, hz0, hz1, hz2⟩ := info_parts Try.infoInt
  obtain ⟨ao, c, rfl, h2, h3⟩ := hv
  clear h2 h3
  go_enter Try.func10, Try.ntmps10
  go_wp2_with fail
  refine (l1Source HV.out).mono ?_
  rintro e w1 ⟨rfl, hb1, hs1, hS1⟩
  have HB1 := hide hb1
  have HS1 := hide hS1
  clear hb1 hS1
  go_wp2_with fail
  refine (l7Draw HS1.out (by omega)).mono ?_
  rintro e w2 ⟨a2, n2, c2, xs, rfl, hl2, hn2, hin, hown, t2, hd2⟩
  have HPk := hide (l7PackOwn (ow_of_owns hl2 hown (by omega)).rd hin)
  have HS2 := hide hd2.1
  have hs2 := hd2.2.1.size
  have ht2 := hd2.2.2
  have HB2 := hide (HB1.out.trans (hd2.2.1.below (by omega) (fun b hb => by omega)))
  clear hd2 hown hin hl2 HB1 HS1
  go_wp2_with fail
  refine HPk.out.mono ?_
  rintro e w3 ⟨a, b, rfl, hb3, hh3⟩
  have HS3 := hide (HS2.out.later hb3)
  have hs3 : w2.heap.size < w3.heap.size := (Array.getElem?_eq_some_iff.1 hh3).1
  have HB3 := hide (HB2.out.trans (hb3.mono (by omega)))
  have HH3 := hide hh3
  clear hb3 hh3 HPk HB2 HS2
  obtain ⟨g, hg⟩ : ∃ g, w2.heap.size = g := ⟨_, rfl⟩
  rw [hg] at HH3 hs3 hs2 ⊢
  clear hg
  go_wp2_with fail
  refine (l1Next 8 HS3.out (by omega) (by omega) (by omega)).mono ?_
  rintro e w4 ⟨r, rfl, ra, rb, t4, hd4⟩
  have HS4 := hide hd4.1
  have hs4 := hd4.2.1.size
  have ht4 := hd4.2.2
  have HB4 := hide (HB3.out.trans (hd4.2.1.below (by omega) (fun b hb => by omega)))
  have HH4 : Hid (w4.heap[g]? = some (.cells #[.int .i64 a, .int .i64 b] 2 (0, 0))) := (hd4.2.1.block g hs3 (fun e => by omega)).trans HH3.out
  clear hd4 rb HS3 HB3 HH3
  by_cases hr0 : r = 0
  · subst hr0
    have bA := below_alloc w4 (.cells #[.int .i64 1023, .int .i64 1024, .int .i64 (-1)] 2)
    have HS5 := hide (HS4.out.later bA)
    have HB5 := hide (HB4.out.trans (bA.mono (by omega)))
    have HH5 : Hid ((w4.alloc (.cells #[.int .i64 1023, .int .i64 1024, .int .i64 (-1)] 2)).heap[g]? = some (.cells #[.int .i64 a, .int .i64 b] 2 (0, 0))) := (bA.block g (by omega)).trans HH4.out
    clear bA
    go_wp2_with fail
    refine (l1Pick (xs := [1023, 1024, -1]) HS5.out (by omega) (RdI_new w.heap.size w4 [1023, 1024, -1] 2 (by omega) (by simp)) (by simp) (by simp)).mono ?_
    rintro e w6 ⟨i, hi3, rfl, t6, hd6⟩
    obtain ⟨x, hx⟩ : ∃ x : Int, ([1023, 1024, -1] : List Int).getD i 0 = x := ⟨_, rfl⟩
    rw [hx]
    have hs6 := hd6.2.1.size
    simp only [World.size_alloc] at hs6
    have HB6 := hide (HB5.out.trans (hd6.2.1.below (by simp; omega) (fun b hb => by omega)))
    have HH6 : Hid (w6.heap[g]? = some (.cells #[.int .i64 a, .int .i64 b] 2 (0, 0))) := (hd6.2.1.block g (by simp; omega) (fun e => by omega)).trans HH5.out
    have g0 : w6.cell? ⟨g, 0, none⟩ = some (.int .i64 a) := by have h := HH6.out; simp [World.cell?, h]
    have F0 : w6.frozen? ⟨g, 0, none⟩ = false := frozen_of_row _ _ _ _ _ HH6.out
    have HH7 := hide (heap_setCell_same w6 g 0 #[.int .i64 a, .int .i64 b] 2 (.int .i64 x) HH6.out)
    have HB7 : Hid (Below w.heap.size w (w6.setCell ⟨g, 0, none⟩ (.int .i64 x))) := HB6.out.setCell (p := ⟨g, 0, none⟩) (by dsimp only; omega) _
    clear hd6 hx hi3 HB5 HH5 HS5
    go_wp2
    go_ret
    exact ⟨_, [x, b], rfl, HB7.out, by simp, rd_pair HH7.out⟩
  · have hr0b : (r == 0) = false := by simpa using hr0
    by_cases hr1 : r = 1
    · subst hr1
      go_wp2_with fail
      refine (l1Next 2 HS4.out (by omega) (by omega) (by omega)).mono ?_
      rintro e w6 ⟨r', rfl, ra', rb', t6, hd6⟩
      have rb2 := rb' (by omega)
      obtain ⟨k, rfl⟩ : ∃ k : Nat, r' = (k : Int) := ⟨r'.toNat, (Int.toNat_of_nonneg ra').symm⟩
      have HB6 := hide (HB4.out.trans (hd6.2.1.below (by omega) (fun b hb => by omega)))
      have HH6 : Hid (w6.heap[g]? = some (.cells #[.int .i64 a, .int .i64 b] 2 (0, 0))) := (hd6.2.1.block g (by omega) (fun e => by omega)).trans HH4.out
      have HR6 := hide (rd_take (rd_pair HH6.out) (n := k) (by simp; omega)).1
      have hs1 : (k : Int) ≤ 2 := by omega
      have hs3' : ¬ (k : Int) < 0 := by omega
      have hk2 : k ≤ 2 := by omega
      clear hd6 rb'
      go_wp2
      go_ret
      exact ⟨_, [a, b].take k, rfl, HB6.out, by simp; omega, HR6.out⟩
    · have hr1b : (r == 1) = false := by simpa using hr1
      by_cases hr2 : r = 2
      · subst hr2
        have HO4 := hide (row_pair (B := w.heap.size) (by omega) HH4.out)
        go_wp2_with (at_builtin; refine wpList_append_lies _ rfl _ _ _ rfl w.heap.size 2 i0 (.int .i64 0) 1 8 Try.underlying24 hi hz0 hz1 hz2 rfl (by omega) _ 2 _ (by rfl) (HO4.out.alloc (.cells #[.int .i64 0] 2)) ⟨w4.heap.size, 0, none⟩ 1 1 [.int .i64 0] (by rfl) (by rfl) (World.news_of_block (cs := #[.int .i64 0]) (t := 2) (fr := (0, 0)) (heap_alloc_new w4 _)) (by simp [Value.oneCell']) (by omega) (by unfold maxLen; omega) (by omega) (by simp; omega) (w4.heap.size + 1) (by simp) ?_; intro g2 cap w5 hown hgrow hat hlt5)
        have HB5 := hide ((HB4.out.trans (Below.mono (below_alloc w4 (.cells #[.int .i64 0] 2)) (show w.heap.size ≤ w4.heap.size by omega))).grown hgrow (by simp; omega) (fun r hr => (HO4.out.lt r hr).1))
        have O5 : Hid (OwI w.heap.size w5 (.slice (some ⟨g2, 0, none⟩) (2 + 1) cap) [a, b, 0]) := ow_of_owns rfl hown (by simp)
        clear hown hgrow hat hlt5
        go_wp2
        go_ret
        exact ⟨_, [a, b, 0], rfl, HB5.out, by simp, O5.out.rd.narrow (fun _ _ _ => trivial)⟩
      · have hr2b : (r == 2) = false := by simpa using hr2
        go_wp2
        go_ret
        exact ⟨_, [a, b], rfl, HB4.out, by simp, rd_pair HH4.out⟩

/-- A word with the bits that are asked. -/
theorem bits_ex : ∀ (n : Nat) (p : Nat → Bool), ∃ m, m < 2 ^ n ∧ ∀ k, k < n → m.testBit k = p k
  | 0, _ => ⟨0, by decide, fun k h => by omega⟩
  | n + 1, p => by
    obtain ⟨m, h1, h2⟩ := bits_ex n (fun k => p (k + 1))
    refine ⟨2 * m + (p 0).toNat, ?_, fun k hk => ?_⟩
    · have : (p 0).toNat ≤ 1 := Bool.toNat_le _
      rw [Nat.pow_succ]; omega
    · cases k with
      | zero =>
        rw [Nat.testBit_zero]
        cases p 0 <;> simp [Bool.toNat] <;> omega
      | succ k =>
        rw [Nat.testBit_succ, show (2 * m + (p 0).toNat) / 2 = m by have : (p 0).toNat ≤ 1 := Bool.toNat_le _; omega]
        exact h2 k (by omega)
theorem fold_word (p : Nat → Bool) : ∃ m : Nat, m < 1024 ∧ ((List.range 10).filter p).foldl orW 0 = (m : Int) ∧ ∀ k, k < 10 → bitW (m : Int) k = p k := by
  obtain ⟨m, h1, h2⟩ := bits_ex 10 p
  refine ⟨m, h1, ?_, fun k hk => ?_⟩
  · have h := wordOf_all m h1
    unfold wordOf at h
    rw [← h]
    congr 1
    exact List.filter_congr fun k hk => (h2 k (List.mem_range.1 hk)).symm
  · rw [bitW_test (by omega) hk, Nat.mod_eq_of_lt h1]
    exact h2 k hk
/-- A map is read back from its words. -/
theorem map_back {xs : List Int} (h : IsMap xs) : umC (pkL xs) = 0 ∧ umR (pkL xs) = xs ∧ (pkL xs).length = 2 := by
  obtain ⟨m0, a1, a2, a3⟩ := fold_word (fun k : Nat => decide (3 + (k : Int) ∈ xs))
  obtain ⟨m1, b1, b2, b3⟩ := fold_word (fun k : Nat => decide (13 + (k : Int) ∈ xs))
  have hpk : pkL xs = [(m0 : Int), (m1 : Int)] := by
    unfold pkL
    have e := pk_blk (fun x => decide (x ∈ xs))
    rw [blk_of h] at e
    rw [e, a2, b2]
  have hwf : wordsF [(m0 : Int), (m1 : Int)] = 0 := by
    unfold wordsF
    refine wF_ok (by simp) fun i hi => ?_
    simp only [List.length_cons, List.length_nil] at hi
    match i, hi with
    | 0, _ => simp; omega
    | 1, _ => simp; omega
  have hc : umC [(m0 : Int), (m1 : Int)] = 0 := by
    unfold umC
    rw [if_neg (by rw [hwf]; simp), if_neg (by simp), if_pos (by simp; omega)]
  rw [hpk]
  refine ⟨hc, ?_, rfl⟩
  unfold umR
  rw [if_pos ⟨hc, rfl⟩]
  refine pair_ext (blk_up _) h.2 fun x => ?_
  rw [mem_blk]
  have key : ∀ x : Int, 3 ≤ x → x ≤ 22 → bitB (([(m0 : Int), (m1 : Int)] : List Int).getD 0 0) (([(m0 : Int), (m1 : Int)] : List Int).getD 1 0) x = decide (x ∈ xs) := fun x h1 h2 => by
    simp only [List.getD_cons_zero, List.getD_cons_succ]
    unfold bitB
    by_cases h13 : x < 13
    · rw [if_pos h13, a3 _ (by omega), show 3 + (((x - 3).toNat : Nat) : Int) = x by omega]
    · rw [if_neg h13, b3 _ (by omega), show 13 + (((x - 13).toNat : Nat) : Int) = x by omega]
  constructor
  · rintro ⟨⟨h1, h2⟩, h3⟩
    rw [key x h1 h2] at h3
    simpa using h3
  · intro hx
    obtain ⟨h1, h2⟩ := h.1 x hx
    exact ⟨⟨h1, h2⟩, by rw [key x h1 h2]; simpa using hx⟩
/-- Words that are a map's are packed again as they were. -/
theorem words_back {ws : List Int} (h : umC ws = 0) (hl : ws.length ≠ 0) : mapF (umR ws) = 0 ∧ pmR (umR ws) = ws := by
  have hz : wordsF ws = 0 := by
    by_cases h1 : wordsF ws = 0
    · exact h1
    · have := (umC_bad h1).1; rw [h] at this; exact absurd this.symm h1
  rcases umC_cases ws hz with ⟨h1, _⟩ | ⟨_, _, h1, _⟩ | ⟨_, v0, v1, rfl, hv0, hv1, h1⟩
  · exact absurd h1 hl
  · rw [h] at h1; exact absurd h1 (by decide)
  · rcases h1 with ⟨k0, k1, _, hr⟩ | ⟨_, h1, _⟩
    · rw [hr]
      have hm : mapF (blk (bitB v0 v1)) = 0 := mapF_iff.2 (blk_map _)
      refine ⟨hm, ?_⟩
      unfold pmR
      rw [if_pos hm]
      exact (pkL_bits hv0 hv1).2 ⟨k0, k1⟩
    · rw [h] at h1; exact absurd h1 (by decide)
/-- What is known of blocks that were taken. -/
structure TookB (xs : List Int) (n : Int) : Prop where
  len : ((tbR1 xs n).length : Int) = n
  free : ∀ x, x ∈ tbR1 xs n → usedB xs x = false
  used : ∀ x, x ∈ tbR1 xs n → usedB (tbR2 xs n) x = true
  map : mapF (tbR2 xs n) = 0
  backC : fbC (tbR2 xs n) (tbR1 xs n) = 0
  backR : fbR (tbR2 xs n) (tbR1 xs n) = xs
  packL : (pmR (tbR2 xs n)).length = 2
  unpack : umR (pmR (tbR2 xs n)) = tbR2 xs n
  l1 : (tbR1 xs n).length ≤ 20
  l2 : (tbR2 xs n).length ≤ 20
theorem took_b {xs : List Int} {n : Int} (h : tbC xs n = 0) : TookB xs n := by
  have e1 : tbR1 xs n = tbL xs n := by unfold tbR1; rw [if_pos h]
  have e2 : tbR2 xs n = tbU xs n := by unfold tbR2; rw [if_pos h]
  have hx : mapF xs = 0 := by
    by_cases h1 : mapF xs = 0
    · exact h1
    · unfold tbC at h; rw [if_pos h1] at h; exact absurd h h1
  unfold tbC at h
  rw [hx, if_neg (by simp)] at h
  have hn : 0 ≤ n ∧ n ≤ 20 := by
    by_cases h1 : 0 ≤ n ∧ n ≤ 20
    · exact h1
    · rw [if_pos h1] at h; exact absurd h (by decide)
  rw [if_neg (fun h' => h' hn)] at h
  have hg : ¬ ((frB xs).length : Int) < n := fun h' => by rw [if_pos h'] at h; exact absurd h (by decide)
  have hm := mapF_iff.1 hx
  have hfm : IsMap (frB xs) := blk_map _
  have hlm : IsMap (tbL xs n) := ⟨fun x hx => hfm.1 x (List.mem_of_mem_take hx), hfm.2.sublist (List.take_sublist _ _)⟩
  have hum : IsMap (tbU xs n) := blk_map _
  have hlf : ∀ x, x ∈ tbL xs n → x ∉ xs := fun x hx => by
    have := (mem_blk.1 (List.mem_of_mem_take hx)).2
    simpa using this
  have hlu : ∀ x, x ∈ tbL xs n → x ∈ tbU xs n := fun x hx => mem_blk.2 ⟨hlm.1 x hx, by simp [hx]⟩
  have hbc : fbC (tbU xs n) (tbL xs n) = 0 := by
    unfold fbC
    rw [mapF_iff.2 hum, mapF_iff.2 hlm, if_neg (by simp), if_neg (by simp), if_pos hlu]
  obtain ⟨k1, k2, k3⟩ := map_back hum
  have hpm : pmR (tbU xs n) = pkL (tbU xs n) := by unfold pmR; rw [if_pos (mapF_iff.2 hum)]
  refine ⟨?_, ?_, ?_, ?_, ?_, ?_, ?_, ?_, ?_, ?_⟩
  · rw [e1]; unfold tbL; rw [List.length_take]; omega
  · intro x hx'; rw [e1] at hx'; unfold usedB; rw [decide_eq_false (hlf x hx'), Bool.and_false]
  · intro x hx'; rw [e1] at hx'; rw [e2]; unfold usedB; rw [decide_eq_true (mapF_iff.2 hum), decide_eq_true (hlu x hx')]; rfl
  · rw [e2]; exact mapF_iff.2 hum
  · rw [e1, e2]; exact hbc
  · rw [e1, e2]
    unfold fbR
    rw [if_pos hbc]
    refine pair_ext (hum.2.filter _) hm.2 fun x => ?_
    rw [List.mem_filter]
    unfold tbU
    rw [mem_blk]
    simp only [Bool.or_eq_true, decide_eq_true_eq, Bool.not_eq_true', decide_eq_false_iff_not]
    constructor
    · rintro ⟨⟨_, h1 | h1⟩, h2⟩
      · exact h1
      · exact absurd h1 h2
    · intro hx'
      exact ⟨⟨hm.1 x hx', Or.inl hx'⟩, fun h' => hlf x h' hx'⟩
  · rw [e2, hpm]; exact k3
  · rw [e2, hpm]; exact k2
  · rw [e1]; exact tbL_len xs n
  · rw [e2]; exact tbU_len xs n
end Go.Proofs.Ytolhpjeoagjnjaa
