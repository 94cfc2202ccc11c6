/- Tk2 Fm in one text: what each says stands at its head below. -/
import Derived.Test.YtlmaopljihbdkaaGreatG16
import Derived.Test.YtlmaopljihbdkaaGreatG06
import Derived.Test.YtlmaopljihbdkaaGreatG13
import Derived.Test.YtlmaopljihbdkaaGreatG11
/- Chapter 7: 'TakeBlocks' of the model, walked. -/
namespace Go.Proofs.YtlmaopljihbdkaaGreat
open Go.RowKit

/-- What the loop has behind k blocks. -/
def lT (xs : List Int) (n k : Nat) : List Int := (blkTo (fun x => !decide (x ∈ xs)) k).take n
def aT (xs : List Int) (n k : Nat) : List Int := blkTo (fun x => decide (x ∈ xs) || decide (x ∈ tbL xs n)) k
theorem lT_len (xs : List Int) (n k : Nat) : (lT xs n k).length ≤ k := by
  unfold lT; rw [List.length_take]; have := blkTo_len (fun x => !decide (x ∈ xs)) k; omega
theorem aT_len (xs : List Int) (n k : Nat) : (aT xs n k).length ≤ k := blkTo_len _ k
theorem lT_all (xs : List Int) (n : Nat) : lT xs n 20 = tbL xs n := by unfold lT tbL frB; rw [blkTo_all]; rfl
theorem aT_all (xs : List Int) (n : Nat) : aT xs n 20 = tbU xs n := by unfold aT tbU; rw [blkTo_all]
theorem blk_split (p : Int → Bool) (k : Nat) : ∃ B, blk p = blkTo p (k + 1) ++ B := by
  refine ⟨(allB.drop (k + 1)).filter p, ?_⟩
  unfold blk blkTo
  rw [← List.filter_append, List.take_append_drop]
theorem mem_tbL (xs : List Int) (n : Nat) {k : Nat} (h : k < 20) (hx : 3 + (k : Int) ∉ xs) : (3 + (k : Int) ∈ tbL xs n) ↔ (lT xs n k).length < n := by
  obtain ⟨B, hB⟩ := blk_split (fun x => !decide (x ∈ xs)) k
  have hs : blkTo (fun x => !decide (x ∈ xs)) (k + 1) = blkTo (fun x => !decide (x ∈ xs)) k ++ [3 + (k : Int)] := by rw [blkTo_succ _ h, if_pos (by simp [hx])]
  rw [hs] at hB
  have hup := blk_up (fun x => !decide (x ∈ xs))
  unfold tbL frB lT
  rw [show ((n : Nat) : Int).toNat = n by omega, hB]
  rw [hB, List.append_assoc, List.pairwise_append] at hup
  generalize blkTo (fun x => !decide (x ∈ xs)) k = A at hup
  have hA : 3 + (k : Int) ∉ A := fun hm => by have := hup.2.2 _ hm (3 + (k : Int)) (by simp); omega
  have hBn : 3 + (k : Int) ∉ B := fun hm => by
    have h2 := hup.2.1
    rw [List.singleton_append, List.pairwise_cons] at h2
    have := h2.1 _ hm; omega
  rw [List.append_assoc, List.singleton_append, List.take_append, List.mem_append, List.length_take]
  constructor
  · rintro (hm | hm)
    · exact absurd (List.mem_of_mem_take hm) hA
    · by_cases hn : n - A.length = 0
      · rw [hn] at hm; simp at hm
      · omega
  · intro hl
    refine Or.inr ?_
    rw [show n - A.length = (n - A.length - 1) + 1 by omega, List.take_succ_cons]
    exact List.mem_cons_self
theorem tk_in (xs : List Int) (n : Nat) {k : Nat} (h : k < 20) (hx : 3 + (k : Int) ∈ xs) : lT xs n (k + 1) = lT xs n k ∧ aT xs n (k + 1) = aT xs n k ++ [3 + (k : Int)] := by
  unfold lT aT
  rw [blkTo_succ _ h, blkTo_succ _ h, if_neg (by simp [hx]), if_pos (by simp [hx]), List.append_nil]
  exact ⟨rfl, rfl⟩
theorem tk_new (xs : List Int) (n : Nat) {k : Nat} (h : k < 20) (hx : 3 + (k : Int) ∉ xs) (hl : (lT xs n k).length < n) : lT xs n (k + 1) = lT xs n k ++ [3 + (k : Int)] ∧ aT xs n (k + 1) = aT xs n k ++ [3 + (k : Int)] := by
  have hm := (mem_tbL xs n h hx).2 hl
  refine ⟨?_, ?_⟩
  · unfold lT at hl ⊢
    rw [blkTo_succ _ h, if_pos (by simp [hx])]
    generalize blkTo (fun x => !decide (x ∈ xs)) k = A at hl
    rw [List.length_take] at hl
    rw [List.take_of_length_le (by rw [List.length_append]; simp; omega), List.take_of_length_le (by omega)]
  · unfold aT
    rw [blkTo_succ _ h, if_pos (by simp [hm])]
theorem tk_not (xs : List Int) (n : Nat) {k : Nat} (h : k < 20) (hx : 3 + (k : Int) ∉ xs) (hl : ¬ (lT xs n k).length < n) : lT xs n (k + 1) = lT xs n k ∧ aT xs n (k + 1) = aT xs n k := by
  have hm : 3 + (k : Int) ∉ tbL xs n := fun h' => hl ((mem_tbL xs n h hx).1 h')
  refine ⟨?_, ?_⟩
  · unfold lT at hl ⊢
    rw [blkTo_succ _ h, if_pos (by simp [hx])]
    generalize blkTo (fun x => !decide (x ∈ xs)) k = A at hl
    rw [List.length_take] at hl
    rw [List.take_append_of_le_length (by omega)]
  · unfold aT
    rw [blkTo_succ _ h, if_neg (by simp [hx, hm]), List.append_nil]
/-- A row beside one that grows. -/
theorem row_beside {wr w4 : World} {O : Obj} {B t g7 j c g8 j' c' g : Nat} {L A : List Value} (h7 : wr.ownsRow B t 1 (.slice (some ⟨g7, 0, none⟩) j c) j L) (h8 : wr.ownsRow B t 1 (.slice (some ⟨g8, 0, none⟩) j' c') j' A) (hne : g7 ≠ g8)
    (hgrow : (wr.alloc O).grownBy w4 (Value.slice (some ⟨g7, 0, none⟩) j c).ownBlock) (hat : (Value.slice (some ⟨g7, 0, none⟩) j c).ownBlock = some g ∨ g = wr.heap.size + 1) :
    w4.ownsRow B t 1 (.slice (some ⟨g8, 0, none⟩) j' c') j' A ∧ g ≠ g8 := by
  refine ⟨(h8.alloc O).kept hgrow (Or.inr (by simp only [Value.ownBlock]; intro e; injection e with e; exact hne e.symm)), ?_⟩
  have hl := (h8.lt g8 (by simp [Value.ownBlock])).2
  have := (h7.lt g7 (by simp [Value.ownBlock])).2
  rcases hat with e | e
  · simp only [Value.ownBlock] at e
    injection e with e
    rw [← e]; exact hne
  · omega
theorem owK_rows {w : World} {B t g7 j c g8 j' c' : Nat} {L A : List Int} (hL : L.length = j) (hA : A.length = j') (h7 : w.ownsRow B t 1 (.slice (some ⟨g7, 0, none⟩) j c) j (L.map (Value.int .i64))) (h8 : w.ownsRow B t 1 (.slice (some ⟨g8, 0, none⟩) j' c') j' (A.map (Value.int .i64))) (hne : g7 ≠ g8) (hj : j ≤ 1048576) (hj' : j' ≤ 1048576) :
    OwK B w (.slice (some ⟨g7, 0, none⟩) j c) (.slice (some ⟨g8, 0, none⟩) j' c') L A := by
  obtain ⟨b1, r1, f1⟩ := ow_of_owns hL h7 (by omega)
  obtain ⟨b2, r2, f2⟩ := ow_of_owns hA h8 (by omega)
  refine ⟨b1, b2, r1, r2, f1, f2, fun hn hn' e => ?_⟩
  obtain ⟨a, c, e1, _, k1⟩ := r1
  obtain ⟨a', c', e2, _, k2⟩ := r2
  obtain ⟨x1, o1, m1, m2, _⟩ := k1 hn
  obtain ⟨x2, o2, n1, n2, _⟩ := k2 hn'
  injection e1 with e1 _ _
  injection e2 with e2 _ _
  rw [← e1] at m1
  rw [← e2] at n1
  injection m1 with m1
  injection m1 with m1 _
  injection n1 with n1
  injection n1 with n1 _
  subst m2 n2
  exact hne (by omega)

set_option maxHeartbeats 4000000 in
set_option maxRecDepth 4000 in
theorem l7Take {S : Nat → Prop} {w : World} {u : Value} {xs : List Int} (n : Nat) (hn20 : n ≤ 20) (hu : RdI S w u xs) :
    Calls Tryz.prog 116 #[u, .int .i64 n] w fun e w' => ∃ y z, e = .returned (.tuple #[y, z, .bool (decide ((tbL xs n).length = n))]) ∧ Below w.heap.size w w' ∧ OwK w.heap.size w' y z (tbL xs n) (tbU xs n) := by
  obtain ⟨i0, hi, hz0, hz1, hz2⟩ := info_parts Tryz.infoInt
  obtain ⟨ao, c, rfl⟩ := hu.shape
  have HU := hide hu
  clear hu
  have bA := below_on (below_alloc w (.cells #[] 2)) (below_alloc (w.alloc (.cells #[] 2)) (.cells #[] 2))
  have O7 := hide ((World.ownsRow_made (base := w.heap.size) (e := 2) (size := 1) w #[] 0 (Nat.le_refl _) (by unfold maxLen; omega) (by simp)).alloc (.cells #[] 2))
  have O8 := hide (World.ownsRow_made (base := w.heap.size) (e := 2) (size := 1) (w.alloc (.cells #[] 2)) #[] 0 (by simp) (by unfold maxLen; omega) (by simp))
  have HLa := hide (lT_all xs n)
  have HAa := hide (aT_all xs n)
  have HIn := hide (fun (k : Nat) => @tk_in xs n k)
  have HNew := hide (fun (k : Nat) => @tk_new xs n k)
  have HNot := hide (fun (k : Nat) => @tk_not xs n k)
  have HLn := hide (lT_len xs n)
  have HAn := hide (aT_len xs n)
  have HL0 : Hid (lT xs n 0 = []) := by unfold Hid lT blkTo; simp
  have HA0 : Hid (aT xs n 0 = []) := by unfold Hid aT blkTo; simp
  generalize tbL xs n = TL at HLa ⊢
  generalize tbU xs n = TU at HAa ⊢
  generalize lT xs n = LT at HLa HIn HNew HNot HLn HL0
  generalize aT xs n = AT at HAa HIn HNew HNot HAn HA0
  go_enter Tryz.func116, Tryz.ntmps116
  go_wp2
  go_loopw [7, 8, 9] (fun v7 v8 i wr => ∃ (k g7 j7 c7 g8 j8 c8 : Nat), k ≤ 20 ∧ i = .int .i64 (3 + (k : Int)) ∧ v7 = .slice (some ⟨g7, 0, none⟩) j7 c7 ∧ v8 = .slice (some ⟨g8, 0, none⟩) j8 c8 ∧ g7 ≠ g8 ∧ Hid ((LT k).length = j7) ∧ Hid ((AT k).length = j8) ∧
      Hid (wr.ownsRow w.heap.size 2 1 (.slice (some ⟨g7, 0, none⟩) j7 c7) j7 ((LT k).map (Value.int .i64))) ∧ Hid (wr.ownsRow w.heap.size 2 1 (.slice (some ⟨g8, 0, none⟩) j8 c8) j8 ((AT k).map (Value.int .i64))) ∧ Hid (Below w.heap.size w wr)) (fun _ _ i _ => 23 - (RowKit.intOf i).toNat)
  case atStart =>
    refine ⟨0, w.heap.size, 0, 0, w.heap.size + 1, 0, 0, by omega, rfl, rfl, by simp, by omega, by rw [Hid, HL0.out]; rfl, by rw [Hid, HA0.out]; rfl, ?_, ?_, bA⟩
    · rw [HL0.out]; exact O7.out
    · rw [HA0.out]; unfold Hid; simpa using O8.out
  case round =>
    obtain ⟨k, g7, j7, c7, g8, j8, c8, hk, rfl, rfl, rfl, hne, HJ7, HJ8, H7, H8, HB⟩ := hrel
    have hzz := HB.out.size
    by_cases hlt : k < 20
    · have hle : (3 + (k : Int)) ≤ 22 := by omega
      have hj7 : j7 ≤ 20 := by have := HLn.out k; rw [HJ7.out] at this; omega
      have hj8 : j8 ≤ 20 := by have := HAn.out k; rw [HJ8.out] at this; omega
      have HAm := hide (l7Among (3 + (k : Int)) (HU.out.later HB.out))
      by_cases hx : 3 + (k : Int) ∈ xs
      · obtain ⟨e7, e8⟩ := HIn.out k hlt hx
        rw [decide_eq_true hx] at HAm
        have E7 := hide e7
        have E8 := hide e8
        clear e7 e8 hx
        go_wp2_with fail
        refine HAm.out.mono ?_
        rintro e w1 ⟨hw, rfl⟩
        have hw := hw.symm
        subst hw
        go_wp2_with (at_builtin; refine wpList_append_lies _ rfl _ _ _ rfl w.heap.size 2 i0 (.int .i64 0) 1 8 Tryz.underlying22 hi hz0 hz1 hz2 rfl (by omega) _ j8 _ (by rfl) (H8.out.alloc (.cells #[.int .i64 (3 + (k : Int))] 2)) ⟨wr.heap.size, 0, none⟩ 1 1 [.int .i64 (3 + (k : Int))] (by rfl) (by rfl) (World.news_of_block (cs := #[.int .i64 (3 + (k : Int))]) (t := 2) (fr := (0, 0)) (heap_alloc_new wr _)) (by simp [Value.oneCell']) (by omega) (by unfold maxLen; omega) (by omega) (by simp; omega) (wr.heap.size + 1) (by simp) ?_; intro g cap w4 hown hgrow hat hltg)
        obtain ⟨H7', hne'⟩ := row_beside H8.out H7.out (Ne.symm hne) hgrow hat
        have H7' := hide H7'
        have HB4 := hide ((below_on HB.out (below_alloc wr (.cells #[.int .i64 (3 + (k : Int))] 2))).grown hgrow (by simp; omega) (fun r hr => (H8.out.lt r hr).1))
        have H8' : Hid (w4.ownsRow w.heap.size 2 1 (.slice (some ⟨g, 0, none⟩) (j8 + 1) cap) (j8 + 1) ((AT (k + 1)).map (Value.int .i64))) := by rw [Hid, E8.out]; simpa using hown
        have HJ8' : Hid ((AT (k + 1)).length = j8 + 1) := by rw [Hid, E8.out, List.length_append, HJ8.out]; rfl
        rw [← E7.out] at H7' HJ7
        clear hown hgrow hat hltg
        go_wp2
        go_roundw
        case rel => exact ⟨k + 1, g7, j7, c7, g, j8 + 1, cap, by omega, by go_num, rfl, rfl, Ne.symm hne', HJ7.out, HJ8'.out, H7'.out, H8'.out, HB4.out⟩
        case measure => simp [RowKit.intOf]; omega
      · rw [decide_eq_false hx] at HAm
        by_cases hl : j7 < n
        · obtain ⟨e7, e8⟩ := HNew.out k hlt hx (by rw [HJ7.out]; exact hl)
          have E7 := hide e7
          have E8 := hide e8
          have hli : (j7 : Int) < (n : Int) := by omega
          clear e7 e8 hx
          go_wp2_with fail
          refine HAm.out.mono ?_
          rintro e w1 ⟨hw, rfl⟩
          have hw := hw.symm
          subst hw
          go_wp2_with (first
            | ((at_builtin; refine wpList_append_lies _ rfl _ _ _ rfl w.heap.size 2 i0 (.int .i64 0) 1 8 Tryz.underlying22 hi hz0 hz1 hz2 rfl (by omega) _ j7 _ (by rfl) (H7.out.alloc (.cells #[.int .i64 (3 + (k : Int))] 2)) ⟨wr.heap.size, 0, none⟩ 1 1 [.int .i64 (3 + (k : Int))] (by rfl) (by rfl) (World.news_of_block (cs := #[.int .i64 (3 + (k : Int))]) (t := 2) (fr := (0, 0)) (heap_alloc_new wr _)) (by simp [Value.oneCell']) (by omega) (by unfold maxLen; omega) (by omega) (by simp; omega) (wr.heap.size + 1) (by simp) ?_; intro g cap w4 hown hgrow hat hltg); obtain ⟨h8n, hne'⟩ := row_beside H7.out H8.out hne hgrow hat; have H8' := hide h8n; have HB4 := hide ((below_on HB.out (below_alloc wr (.cells #[.int .i64 (3 + (k : Int))] 2))).grown hgrow (by simp; omega) (fun r hr => (H7.out.lt r hr).1)); have H7' : Hid (w4.ownsRow w.heap.size 2 1 (.slice (some ⟨g, 0, none⟩) (j7 + 1) cap) (j7 + 1) ((LT (k + 1)).map (Value.int .i64))) := (by rw [Hid, E7.out]; simpa using hown); have HJ7' : Hid ((LT (k + 1)).length = j7 + 1) := (by rw [Hid, E7.out, List.length_append, HJ7.out]; rfl); have hz4 := HB4.out.size; clear hown hgrow hat hltg h8n)
            | (at_builtin; refine wpList_append_lies _ rfl _ _ _ rfl w.heap.size 2 i0 (.int .i64 0) 1 8 Tryz.underlying22 hi hz0 hz1 hz2 rfl (by omega) _ j8 _ (by rfl) (H8'.out.alloc (.cells #[.int .i64 (3 + (k : Int))] 2)) ⟨w4.heap.size, 0, none⟩ 1 1 [.int .i64 (3 + (k : Int))] (by rfl) (by rfl) (World.news_of_block (cs := #[.int .i64 (3 + (k : Int))]) (t := 2) (fr := (0, 0)) (heap_alloc_new w4 _)) (by simp [Value.oneCell']) (by omega) (by unfold maxLen; omega) (by omega) (by simp; omega) (w4.heap.size + 1) (by simp) ?_; intro g2 cap2 w5 hown hgrow hat hltg))
          obtain ⟨H7'', hne''⟩ := row_beside H8'.out H7'.out (Ne.symm hne') hgrow hat
          have H7'' := hide H7''
          have HB5 := hide ((below_on HB4.out (below_alloc w4 (.cells #[.int .i64 (3 + (k : Int))] 2))).grown hgrow (by simp; omega) (fun r hr => (H8'.out.lt r hr).1))
          have H8'' : Hid (w5.ownsRow w.heap.size 2 1 (.slice (some ⟨g2, 0, none⟩) (j8 + 1) cap2) (j8 + 1) ((AT (k + 1)).map (Value.int .i64))) := by rw [Hid, E8.out]; simpa using hown
          have HJ8' : Hid ((AT (k + 1)).length = j8 + 1) := by rw [Hid, E8.out, List.length_append, HJ8.out]; rfl
          clear hown hgrow hat hltg
          go_wp2
          go_roundw
          case rel => exact ⟨k + 1, g, j7 + 1, cap, g2, j8 + 1, cap2, by omega, by go_num, rfl, rfl, Ne.symm hne'', HJ7'.out, HJ8'.out, H7''.out, H8''.out, HB5.out⟩
          case measure => simp [RowKit.intOf]; omega
        · obtain ⟨e7, e8⟩ := HNot.out k hlt hx (by rw [HJ7.out]; exact hl)
          have E7 := hide e7
          have E8 := hide e8
          have hli : ¬ (j7 : Int) < (n : Int) := by omega
          clear e7 e8 hx
          rw [← E7.out] at H7 HJ7
          rw [← E8.out] at H8 HJ8
          go_wp2_with fail
          refine HAm.out.mono ?_
          rintro e w1 ⟨hw, rfl⟩
          have hw := hw.symm
          subst hw
          go_wp2
          go_roundw
          case rel => exact ⟨k + 1, g7, j7, c7, g8, j8, c8, by omega, by go_num, rfl, rfl, hne, HJ7.out, HJ8.out, H7.out, H8.out, HB.out⟩
          case measure => simp [RowKit.intOf]; omega
    · have hk20 : k = 20 := by omega
      subst hk20
      rw [HLa.out] at H7 HJ7
      rw [HAa.out] at H8 HJ8
      have hj7 : j7 ≤ 20 := by have := HLn.out 20; rw [HLa.out, HJ7.out] at this; omega
      have hj8 : j8 ≤ 20 := by have := HAn.out 20; rw [HAa.out, HJ8.out] at this; omega
      have HF := hide (owK_rows HJ7.out HJ8.out H7.out H8.out hne (by omega) (by omega))
      by_cases hjn : j7 = n
      · subst hjn
        have hd : Hid (decide (TL.length = j7) = true) := by rw [Hid, HJ7.out]; simp
        go_wp2
        refine bodyPost_ret (v := .tuple #[.slice (some ⟨g7, 0, none⟩) j7 c7, .slice (some ⟨g8, 0, none⟩) j8 c8, .bool true]) (by simp [results, Tryz.results116, go_sem]) rfl ⟨_, _, by rw [hd.out], HB.out, HF.out⟩
      · have hd : Hid (decide (TL.length = n) = false) := by rw [Hid, HJ7.out]; simpa using hjn
        have hjb : ((j7 : Int) == (n : Int)) = false := by simp; omega
        go_wp2
        refine bodyPost_ret (v := .tuple #[.slice (some ⟨g7, 0, none⟩) j7 c7, .slice (some ⟨g8, 0, none⟩) j8 c8, .bool false]) (by simp [results, Tryz.results116, go_sem]) rfl ⟨_, _, by rw [hd.out], HB.out, HF.out⟩

end Go.Proofs.YtlmaopljihbdkaaGreat
/- Chapter 8: the mathematics of files: the fault of a list of files. -/
namespace Go.Proofs.YtlmaopljihbdkaaGreat
open Go.RowKit

/-- How many blocks so many words need. -/
def nbF (s : Int) : Int := (s + 7) / 8
def inB (x : Int) : Bool := decide (3 ≤ x ∧ x ≤ 22)
/-- The fault of one file. -/
def oneF (p : Oj) : Int :=
  if ¬ ((1 ≤ p.1 ∧ p.1 ≤ 99) ∧ 0 ≤ p.2.1 ∧ p.2.1 ≤ 40) then 3 else if (p.2.2.length : Int) ≠ nbF p.2.1 then 1 else if p.2.2.all inB = true then 0 else 3
/-- What is asked of the i-th file. -/
def flS (fs : List Oj) (i : Nat) : Int :=
  if oneF (fs.getD i oj0) = 0 then (if 0 < i ∧ (fs.getD i oj0).1 ≤ (fs.getD (i - 1) oj0).1 then 1 else 0) else oneF (fs.getD i oj0)
/-- All blocks, file by file. -/
def blksF : List Oj → List Int
  | [] => []
  | p :: r => p.2.2 ++ blksF r
theorem blksF_snoc : ∀ (fs : List Oj) (p : Oj), blksF (fs ++ [p]) = blksF fs ++ p.2.2
  | [], p => by simp [blksF]
  | q :: r, p => by simp [blksF, blksF_snoc r p]
theorem blksF_append : ∀ (fs gs : List Oj), blksF (fs ++ gs) = blksF fs ++ blksF gs
  | [], gs => by simp [blksF]
  | q :: r, gs => by simp [blksF, blksF_append r gs]
theorem blksF_mem {x : Int} : ∀ {fs : List Oj}, x ∈ blksF fs ↔ ∃ p, p ∈ fs ∧ x ∈ p.2.2
  | [] => by simp [blksF]
  | q :: r => by
    simp only [blksF, List.mem_append, blksF_mem (fs := r), List.mem_cons]
    constructor
    · rintro (h | ⟨p, h1, h2⟩)
      · exact ⟨q, Or.inl rfl, h⟩
      · exact ⟨p, Or.inr h1, h2⟩
    · rintro ⟨p, rfl | h1, h2⟩
      · exact Or.inl h2
      · exact Or.inr ⟨p, h1, h2⟩
/-- The fault of a list of files. -/
def filF (fs : List Oj) : Int :=
  if 4 < fs.length then 2 else if cfr (flS fs) fs.length 0 = 0 then (if (blksF fs).Nodup then 0 else 7) else cfr (flS fs) fs.length 0
/-- What files without a fault are. -/
structure IsFi (fs : List Oj) : Prop where
  len : fs.length ≤ 4
  one : ∀ p, p ∈ fs → oneF p = 0
  up : fs.Pairwise (fun p q => p.1 < q.1)
  nd : (blksF fs).Nodup
theorem oneF_iff {p : Oj} : oneF p = 0 ↔ ((1 ≤ p.1 ∧ p.1 ≤ 99) ∧ 0 ≤ p.2.1 ∧ p.2.1 ≤ 40) ∧ (p.2.2.length : Int) = nbF p.2.1 ∧ p.2.2.all inB = true := by
  unfold oneF
  by_cases h1 : (1 ≤ p.1 ∧ p.1 ≤ 99) ∧ 0 ≤ p.2.1 ∧ p.2.1 ≤ 40
  · rw [if_neg (fun h => h h1)]
    by_cases h2 : (p.2.2.length : Int) = nbF p.2.1
    · rw [if_neg (fun h => h h2)]
      by_cases h3 : p.2.2.all inB = true
      · rw [if_pos h3]; exact ⟨fun _ => ⟨h1, h2, h3⟩, fun _ => rfl⟩
      · rw [if_neg h3]; exact ⟨fun h => absurd h (by decide), fun h => absurd h.2.2 h3⟩
    · rw [if_pos h2]; exact ⟨fun h => absurd h (by decide), fun h => absurd h.2.1 h2⟩
  · rw [if_pos h1]; exact ⟨fun h => absurd h (by decide), fun h => absurd h.1 h1⟩
theorem oneF_len {p : Oj} (h : oneF p = 0) : p.2.2.length ≤ 5 := by
  obtain ⟨h1, h2, _⟩ := oneF_iff.1 h
  unfold nbF at h2
  omega
theorem oneF_in {p : Oj} (h : oneF p = 0) : ∀ x, x ∈ p.2.2 → 3 ≤ x ∧ x ≤ 22 := by
  intro x hx
  have := List.all_eq_true.1 (oneF_iff.1 h).2.2 x hx
  simpa [inB] using this
theorem flS_iff {fs : List Oj} {i : Nat} : flS fs i = 0 ↔ oneF (fs.getD i oj0) = 0 ∧ ¬ (0 < i ∧ (fs.getD i oj0).1 ≤ (fs.getD (i - 1) oj0).1) := by
  unfold flS
  by_cases h1 : oneF (fs.getD i oj0) = 0
  · rw [if_pos h1]
    by_cases h2 : 0 < i ∧ (fs.getD i oj0).1 ≤ (fs.getD (i - 1) oj0).1
    · rw [if_pos h2]; exact ⟨fun h => absurd h (by decide), fun h => absurd h2 h.2⟩
    · rw [if_neg h2]; exact ⟨fun _ => ⟨h1, h2⟩, fun _ => rfl⟩
  · rw [if_neg h1]; exact ⟨fun h => absurd h h1, fun h => absurd h.1 h1⟩
theorem cfl_iff {fs : List Oj} : cfr (flS fs) fs.length 0 = 0 ↔ (∀ p, p ∈ fs → oneF p = 0) ∧ fs.Pairwise (fun p q => p.1 < q.1) := by
  rw [cfr_all]
  constructor
  · intro h
    have hs : ∀ i, i < fs.length → oneF (fs.getD i oj0) = 0 ∧ ¬ (0 < i ∧ (fs.getD i oj0).1 ≤ (fs.getD (i - 1) oj0).1) := fun i hi => flS_iff.1 (h i (Nat.zero_le _) (by omega))
    refine ⟨fun p hp => ?_, ?_⟩
    · obtain ⟨i, hi, rfl⟩ := List.mem_iff_getElem.1 hp
      have := (hs i hi).1
      simpa [List.getD, hi] using this
    · rw [List.pairwise_iff_getElem]
      intro i j hi hj hij
      have up : ∀ (i j : Nat), i < j → j < fs.length → (fs.getD i oj0).1 < (fs.getD j oj0).1 := by
        intro i j
        induction j with
        | zero => intro h; omega
        | succ j ih =>
          intro h1 h2
          have h3 := (hs (j + 1) h2).2
          rw [show j + 1 - 1 = j by omega] at h3
          by_cases e : i = j
          · rw [e]; omega
          · have := ih (by omega) (by omega); omega
      have := up i j hij hj
      simpa [List.getD, hi, hj] using this
  · rintro ⟨h1, h2⟩ i _ hi
    rw [Nat.zero_add] at hi
    rw [flS_iff]
    refine ⟨?_, fun ⟨h0, h⟩ => ?_⟩
    · have := h1 fs[i] (List.getElem_mem hi)
      simpa [List.getD, hi] using this
    · rw [List.pairwise_iff_getElem] at h2
      have := h2 (i - 1) i (by omega) hi (by omega)
      have h3 : i - 1 < fs.length := by omega
      simp [List.getD, hi, h3] at h
      omega
theorem filF_iff {fs : List Oj} : filF fs = 0 ↔ IsFi fs := by
  unfold filF
  by_cases h1 : 4 < fs.length
  · rw [if_pos h1]; exact ⟨fun h => absurd h (by decide), fun h => absurd h1 (by have := h.len; omega)⟩
  · rw [if_neg h1]
    by_cases h2 : cfr (flS fs) fs.length 0 = 0
    · rw [if_pos h2]
      obtain ⟨h3, h4⟩ := cfl_iff.1 h2
      by_cases h5 : (blksF fs).Nodup
      · rw [if_pos h5]; exact ⟨fun _ => ⟨by omega, h3, h4, h5⟩, fun _ => rfl⟩
      · rw [if_neg h5]; exact ⟨fun h => absurd h (by decide), fun h => absurd h.nd h5⟩
    · rw [if_neg h2]; exact ⟨fun h => absurd h h2, fun h => absurd (cfl_iff.2 ⟨h.one, h.up⟩) h2⟩
theorem filF_many {fs : List Oj} (h : 4 < fs.length) : filF fs = 2 := by unfold filF; rw [if_pos h]
theorem filF_one {fs : List Oj} (h : ¬ 4 < fs.length) (h2 : cfr (flS fs) fs.length 0 ≠ 0) : filF fs = cfr (flS fs) fs.length 0 := by unfold filF; rw [if_neg h, if_neg h2]
theorem filF_tk {fs : List Oj} (h : ¬ 4 < fs.length) (h2 : cfr (flS fs) fs.length 0 = 0) : filF fs = if (blksF fs).Nodup then 0 else 7 := by unfold filF; rw [if_neg h, if_pos h2]
theorem blksF_len : ∀ {fs : List Oj}, (∀ p, p ∈ fs → oneF p = 0) → (blksF fs).length ≤ fs.length * 5
  | [], _ => by simp [blksF]
  | q :: r, h => by
    have h1 := oneF_len (h q (by simp))
    have h2 := blksF_len (fs := r) (fun p hp => h p (by simp [hp]))
    simp only [blksF, List.length_append, List.length_cons]
    omega
theorem blksF_in {fs : List Oj} (h : ∀ p, p ∈ fs → oneF p = 0) : ∀ x, x ∈ blksF fs → 3 ≤ x ∧ x ≤ 22 := by
  intro x hx
  obtain ⟨p, h1, h2⟩ := blksF_mem.1 hx
  exact oneF_in (h p h1) x h2
/-- Sorted, the blocks are a map just where none stands twice. -/
theorem map_of_sorted {xs ys : List Int} (hp : ys.Perm xs) (hs : ys.Pairwise (· ≤ ·)) (hin : ∀ x, x ∈ xs → 3 ≤ x ∧ x ≤ 22) : mapF ys = 0 ↔ xs.Nodup := by
  rw [mapF_iff]
  constructor
  · rintro ⟨_, h⟩
    exact (hp.nodup_iff).1 (h.imp fun h => by omega)
  · intro h
    refine ⟨fun x hx => hin x (hp.mem_iff.1 hx), ?_⟩
    have hn := (hp.nodup_iff).2 h
    exact hs.imp₂ (fun a b h1 h2 => by have : a ≠ b := h2; omega) hn
end Go.Proofs.YtlmaopljihbdkaaGreat
