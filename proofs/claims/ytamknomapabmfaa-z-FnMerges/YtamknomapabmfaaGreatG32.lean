/- Obj1 Cont Obj3 in one text: what each says stands at its head below. -/
import Derived.Test.YtamknomapabmfaaGreatG16
import Derived.Test.YtamknomapabmfaaGreatG02
import Derived.Test.YtamknomapabmfaaGreatG04
import Derived.Test.YtamknomapabmfaaGreatG03
import Derived.Test.YtamknomapabmfaaGreatG05
import Derived.Laws.CopyOwn
/- Chapter 5: the fault of an object, of the program and of the model, walked. -/
namespace Go.Proofs.YtamknomapabmfaaGreat
open Go.RowKit

/-- The fault of an object. -/
def objF (a f : Int) (xs : List Int) : Int :=
  if 0 ≤ a ∧ a ≤ 39 ∧ 0 ≤ f ∧ f ≤ 63 then (if xs.length < 1 ∨ 16 < xs.length ∨ 64 < f + (xs.length : Int) then 2 else wordsF xs) else 3
theorem objF_range {a f : Int} {xs : List Int} (h : ¬ (0 ≤ a ∧ a ≤ 39 ∧ 0 ≤ f ∧ f ≤ 63)) : objF a f xs = 3 := by unfold objF; rw [if_neg h]
theorem objF_many {a f : Int} {xs : List Int} (h : 0 ≤ a ∧ a ≤ 39 ∧ 0 ≤ f ∧ f ≤ 63) (h2 : xs.length < 1 ∨ 16 < xs.length ∨ 64 < f + (xs.length : Int)) : objF a f xs = 2 := by unfold objF; rw [if_pos h, if_pos h2]
theorem objF_words {a f : Int} {xs : List Int} (h : 0 ≤ a ∧ a ≤ 39 ∧ 0 ≤ f ∧ f ≤ 63) (h2 : ¬ (xs.length < 1 ∨ 16 < xs.length ∨ 64 < f + (xs.length : Int))) : objF a f xs = wordsF xs := by unfold objF; rw [if_pos h, if_neg h2]
theorem objF_zero {a f : Int} {xs : List Int} (h : objF a f xs = 0) : (0 ≤ a ∧ a ≤ 39 ∧ 0 ≤ f ∧ f ≤ 63) ∧ ¬ (xs.length < 1 ∨ 16 < xs.length ∨ 64 < f + (xs.length : Int)) ∧ wordsF xs = 0 := by
  unfold objF at h
  split at h
  · rename_i h1
    split at h
    · exact absurd h (by decide)
    · rename_i h2
      exact ⟨h1, h2, h⟩
  · exact absurd h (by decide)

theorem partOf (w : World) (a f : Int) (ay : Option Addr) (l c : Nat) : Calls Tryz.prog 17 #[.agg #[.int .i64 a, .int .i64 f, .slice ay l c]] w fun e w' => e = .returned (.agg #[.int .i64 a, .int .i64 f, .slice ay l c]) ∧ Below w.heap.size w w' := by
  go_enter Tryz.func17, Tryz.ntmps17
  go_wp2
  refine bodyPost_ret (v := .agg #[.int .i64 a, .int .i64 f, .slice ay l c]) (by simp [results, Tryz.results17, go_sem]) rfl ⟨rfl, ?_⟩
  repeat (first | exact below_on (below_alloc _ _) (below_alloc _ _) | refine Below.setCell ?_ (by first | (simp; done) | (simp; omega) | omega) _)
theorem partEnd (w : World) (a f : Int) (ay : Option Addr) (l c : Nat) (h0 : 0 ≤ f) (h1 : f ≤ 64) (h2 : l ≤ 1048576) : Calls Tryz.prog 33 #[.agg #[.int .i64 a, .int .i64 f, .slice ay l c]] w fun e w' => e = .returned (.int .i64 (f + (l : Int))) ∧ Below w.heap.size w w' := by
  go_enter Tryz.func33, Tryz.ntmps33
  go_wp2
  go_ret
  exact ⟨by go_num, below_alloc _ _⟩
theorem inside_yes (w : World) (a f : Int) (h : 0 ≤ a ∧ a ≤ 39 ∧ 0 ≤ f ∧ f ≤ 63) : Calls Tryz.prog 32 #[.agg #[.int .i64 a, .int .i64 f]] w fun e w' => e = .returned (.bool true) ∧ Below w.heap.size w w' := by
  obtain ⟨h1, h2, h3, h4⟩ := h
  have h5 : f < 64 := by omega
  go_enter Tryz.func32, Tryz.ntmps32
  go_wp2_with fail
  refine (isHome_yes a h1 (by omega) _).mono ?_
  rintro e w1 ⟨rfl, rfl⟩
  go_wp2
  go_ret
  exact ⟨rfl, below_alloc _ _⟩
theorem inside_no (w : World) (a f : Int) (h : ¬ (0 ≤ a ∧ a ≤ 39 ∧ 0 ≤ f ∧ f ≤ 63)) : Calls Tryz.prog 32 #[.agg #[.int .i64 a, .int .i64 f]] w fun e w' => e = .returned (.bool false) ∧ Below w.heap.size w w' := by
  by_cases ha : 0 ≤ a ∧ a < 40
  · by_cases h3 : 0 ≤ f
    · have h5 : ¬ f < 64 := by omega
      have h6 : 64 ≤ f := by omega
      clear h
      go_enter Tryz.func32, Tryz.ntmps32
      go_wp2_with fail
      refine (isHome_yes a ha.1 ha.2 _).mono ?_
      rintro e w1 ⟨rfl, rfl⟩
      go_wp2
      go_ret
      exact ⟨by simp [h6], below_alloc _ _⟩
    · clear h
      go_enter Tryz.func32, Tryz.ntmps32
      go_wp2_with fail
      refine (isHome_yes a ha.1 ha.2 _).mono ?_
      rintro e w1 ⟨rfl, rfl⟩
      go_wp2
      go_ret
      exact ⟨rfl, below_alloc _ _⟩
  · clear h
    have HA := hide ha
    clear ha
    go_enter Tryz.func32, Tryz.ntmps32
    go_wp2_with fail
    refine (isHome_no a HA.out _).mono ?_
    rintro e w1 ⟨rfl, rfl⟩
    go_wp2
    go_ret
    exact ⟨rfl, below_alloc _ _⟩

set_option maxHeartbeats 2000000 in
set_option maxRecDepth 4000 in
theorem implObjectFault {S : Nat → Prop} {w : World} {y : Value} {xs : List Int} (a f : Int) (hy : RdI S w y xs) :
    Calls Tryz.prog 11 #[.agg #[.int .i64 a, .int .i64 f, y]] w fun e w' => e = .returned (.int .i64 (objF a f xs)) ∧ Below w.heap.size w w' := by
  have HY := hide hy
  have hyl : xs.length ≤ 9223372036854775807 := by obtain ⟨_, _, _, h, _⟩ := hy; exact h
  obtain ⟨ay, cy, rfl⟩ := hy.shape
  obtain ⟨n, hn⟩ : ∃ n, xs.length = n := ⟨_, rfl⟩
  have HN := hide hn
  rw [hn] at HY hyl ⊢
  clear hy hn
  obtain ⟨z, hz⟩ : ∃ z, objF a f xs = z := ⟨_, rfl⟩
  have HZ := hide hz
  rw [hz]
  clear hz
  go_enter Tryz.func11, Tryz.ntmps11
  go_wp2_with fail
  refine (partOf _ a f ay n cy).mono ?_
  rintro e w1 ⟨rfl, hb⟩
  have B1 := hide (below_on (below_alloc w (.cells #[.int .i64 a, .int .i64 f, .slice ay n cy] 26)) hb)
  clear hb
  by_cases h1 : 0 ≤ a ∧ a ≤ 39 ∧ 0 ≤ f ∧ f ≤ 63
  · have H1 := hide h1
    obtain ⟨_, _, hf0, hf1⟩ := h1
    go_wp2_with fail
    refine (inside_yes _ a f H1.out).mono ?_
    rintro e w2 ⟨rfl, hb⟩
    obtain ⟨c0, c1, c2⟩ := (Var3_new w1 (.int .i64 a) (.int .i64 f) (.slice ay n cy) 48).later hb
    have B2 := hide (below_on (below_on B1.out (below_alloc w1 (.cells #[.int .i64 a, .int .i64 f, .slice ay n cy] 48))) hb)
    clear hb B1
    by_cases k1 : n < 1
    · have hz2 : z = 2 := HZ.out.symm.trans (objF_many H1.out (by rw [HN.out]; exact Or.inl k1))
      subst hz2
      go_wp2
      go_ret
      exact ⟨rfl, B2.out⟩
    by_cases k2 : 16 < n
    · have hz2 : z = 2 := HZ.out.symm.trans (objF_many H1.out (by rw [HN.out]; exact Or.inr (Or.inl k2)))
      subst hz2
      go_wp2
      go_ret
      exact ⟨rfl, B2.out⟩
    go_wp2_with fail
    refine (partEnd _ a f ay n cy hf0 (by omega) (by omega)).mono ?_
    rintro e w3 ⟨rfl, hb⟩
    have d2 := cell_later hb c2
    have B3 := hide (below_on B2.out hb)
    clear hb B2 c0 c1 c2
    by_cases k3 : 64 < f + (n : Int)
    · have hz2 : z = 2 := HZ.out.symm.trans (objF_many H1.out (by rw [HN.out]; exact Or.inr (Or.inr k3)))
      subst hz2
      go_wp2
      go_ret
      exact ⟨rfl, B3.out⟩
    have hzw := HZ.out.symm.trans (objF_words H1.out (by rw [HN.out]; omega))
    go_wp2_with fail
    refine (wordsFault (HY.out.later B3.out)).mono ?_
    rintro e w4 ⟨he, q, rfl⟩
    rw [← hzw] at he
    subst he
    clear hzw
    go_wp2
    go_ret
    exact ⟨rfl, below_on B3.out (below_drewN _ _)⟩
  · have hz3 : z = 3 := HZ.out.symm.trans (objF_range h1)
    subst hz3
    have H1 := hide h1
    clear h1
    go_wp2_with fail
    refine (inside_no _ a f H1.out).mono ?_
    rintro e w2 ⟨rfl, hb⟩
    have B2 := hide (below_on (below_on B1.out (below_alloc w1 (.cells #[.int .i64 a, .int .i64 f, .slice ay n cy] 48))) hb)
    clear hb B1
    go_wp2
    go_ret
    exact ⟨rfl, B2.out⟩

set_option maxHeartbeats 2000000 in
set_option maxRecDepth 4000 in
theorem specObjectFault {S : Nat → Prop} {w : World} {y : Value} {xs : List Int} (a f : Int) (hy : RdI S w y xs) :
    Calls Tryz.prog 19 #[.agg #[.int .i64 a, .int .i64 f, y]] w fun e w' => e = .returned (.int .i64 (objF a f xs)) ∧ Below w.heap.size w w' := by
  have HY := hide hy
  have hyl : xs.length ≤ 9223372036854775807 := by obtain ⟨_, _, _, h, _⟩ := hy; exact h
  obtain ⟨ay, cy, rfl⟩ := hy.shape
  obtain ⟨n, hn⟩ : ∃ n, xs.length = n := ⟨_, rfl⟩
  have HN := hide hn
  rw [hn] at HY hyl ⊢
  clear hy hn
  obtain ⟨z, hz⟩ : ∃ z, objF a f xs = z := ⟨_, rfl⟩
  have HZ := hide hz
  rw [hz]
  clear hz
  have A0 := hide (below_alloc w (.cells #[.int .i64 a, .int .i64 f, .slice ay n cy] 26))
  by_cases ha : 0 ≤ a ∧ a ≤ 39
  · by_cases hf : 0 ≤ f ∧ f ≤ 63
    · have H1 := hide (show 0 ≤ a ∧ a ≤ 39 ∧ 0 ≤ f ∧ f ≤ 63 from ⟨ha.1, ha.2, hf.1, hf.2⟩)
      obtain ⟨hf0, hf1⟩ := hf
      go_enter Tryz.func19, Tryz.ntmps19
      go_wp2_with fail
      refine (l2Home_yes a ha.1 ha.2 _).mono ?_
      rintro e w1 ⟨rfl, rfl⟩
      go_wp2_with fail
      refine (l1In_yes f 0 63 hf0 hf1 _).mono ?_
      rintro e w1 ⟨rfl, rfl⟩
      by_cases k1 : n < 1
      · have hz2 : z = 2 := HZ.out.symm.trans (objF_many H1.out (by rw [HN.out]; exact Or.inl k1))
        subst hz2
        go_wp2
        go_ret
        exact ⟨rfl, A0.out⟩
      by_cases k2 : 16 < n
      · have hz2 : z = 2 := HZ.out.symm.trans (objF_many H1.out (by rw [HN.out]; exact Or.inr (Or.inl k2)))
        subst hz2
        go_wp2
        go_ret
        exact ⟨rfl, A0.out⟩
      by_cases k3 : 64 < f + (n : Int)
      · have hz2 : z = 2 := HZ.out.symm.trans (objF_many H1.out (by rw [HN.out]; exact Or.inr (Or.inr k3)))
        subst hz2
        go_wp2
        go_ret
        exact ⟨rfl, A0.out⟩
      have hzw := HZ.out.symm.trans (objF_words H1.out (by rw [HN.out]; omega))
      go_wp2_with fail
      refine (l1Words (HY.out.later A0.out)).mono ?_
      rintro e w4 ⟨he, q, rfl⟩
      rw [← hzw] at he
      subst he
      clear hzw
      go_wp2
      go_ret
      exact ⟨rfl, below_on A0.out (below_drewN _ _)⟩
    · have hz3 : z = 3 := HZ.out.symm.trans (objF_range (fun h => hf ⟨h.2.2.1, h.2.2.2⟩))
      subst hz3
      go_enter Tryz.func19, Tryz.ntmps19
      go_wp2_with fail
      refine (l2Home_yes a ha.1 ha.2 _).mono ?_
      rintro e w1 ⟨rfl, rfl⟩
      go_wp2_with fail
      refine (l1In_no f 0 63 (by omega) _).mono ?_
      rintro e w1 ⟨rfl, rfl⟩
      go_wp2
      go_ret
      exact ⟨rfl, A0.out⟩
  · have hz3 : z = 3 := HZ.out.symm.trans (objF_range (fun h => ha ⟨h.1, h.2.1⟩))
    subst hz3
    go_enter Tryz.func19, Tryz.ntmps19
    go_wp2_with fail
    refine (l2Home_no a (by omega) _).mono ?_
    rintro e w1 ⟨rfl, rfl⟩
    go_wp2
    go_ret
    exact ⟨rfl, A0.out⟩
end Go.Proofs.YtamknomapabmfaaGreat
/- slices.Index, slices.Contains over numbers, walked. -/
namespace Go.Proofs.YtamknomapabmfaaGreat
open Go.RowKit

set_option maxHeartbeats 1000000 in
set_option maxRecDepth 4000 in
theorem indexI {S : Nat → Prop} {w : World} {u : Value} {xs : List Int} (x : Int) (hu : RdI S w u xs) :
    Calls Tryz.prog 74 #[u, .int .i64 x] w fun e w' => w' = w ∧ ((e = .returned (.int .i64 (-1)) ∧ x ∉ xs) ∨ ∃ i : Nat, e = .returned (.int .i64 (i : Int)) ∧ x ∈ xs) := by
  have hml : xs.length ≤ 9223372036854775807 := by obtain ⟨_, _, _, h, _⟩ := hu; exact h
  obtain ⟨au, cu, rfl⟩ := hu.shape
  have HU := hide hu
  obtain ⟨n, hn⟩ : ∃ n, xs.length = n := ⟨_, rfl⟩
  have HN := hide hn
  rw [hn] at HU hml ⊢
  clear hu hn
  go_enter Tryz.func74, Tryz.ntmps74
  go_wp2
  go_loopw [8] (fun i wr => ∃ k : Nat, k ≤ n ∧ i = .int .i64 (k : Int) ∧ Hid (∀ j, j < k → xs.getD j 0 ≠ x) ∧ wr = w) (fun i _ => n - (RowKit.intOf i).toNat)
  case atStart => exact ⟨0, Nat.zero_le _, rfl, fun j hj => absurd hj (Nat.not_lt_zero _), rfl⟩
  case round =>
    obtain ⟨k, hk, rfl, HA, rfl⟩ := hrel
    by_cases hlt : k < n
    · obtain ⟨b, off, rfl, q1⟩ := HU.out.at (k := k) (by rw [HN.out]; exact hlt)
      obtain ⟨y, hy⟩ : ∃ y, xs.getD k 0 = y := ⟨_, rfl⟩
      rw [hy] at q1
      have HY := hide hy
      have hk0 : (0 : Int) ≤ (k : Int) := by omega
      have hk1 : (k : Int) < (n : Int) := by omega
      clear hy
      by_cases hxy : x = y
      · subst hxy
        have HIn : Hid (x ∈ xs) := by
          rw [Hid, ← HY.out]
          simp [List.getD, show k < xs.length by rw [HN.out]; exact hlt]
        go_wp2
        go_ret
        exact ⟨rfl, Or.inr ⟨k, rfl, HIn.out⟩⟩
      · have HA' : Hid (∀ j, j < k + 1 → xs.getD j 0 ≠ x) := fun j hj => by
          by_cases e : j = k
          · subst e; rw [HY.out]; exact fun e => hxy e.symm
          · exact HA.out j (by omega)
        have hxb : (x == y) = false := by simpa using hxy
        go_wp2
        go_roundw
        case rel => exact ⟨k + 1, hlt, by go_num, HA'.out, by first | rfl | trivial⟩
        case measure => simp [RowKit.intOf]; omega
    · have hkn : k = n := by omega
      subst hkn
      have HNo : Hid (x ∉ xs) := fun h => by
        obtain ⟨j, hj⟩ := List.mem_iff_getElem?.1 h
        have hl := (List.getElem?_eq_some_iff.1 hj).1
        exact HA.out j (by rw [HN.out] at hl; exact hl) (by simp [List.getD, hj])
      go_wp2
      go_ret
      exact ⟨rfl, Or.inl ⟨rfl, HNo.out⟩⟩
theorem containsI {S : Nat → Prop} {w : World} {u : Value} {xs : List Int} (x : Int) (hu : RdI S w u xs) :
    Calls Tryz.prog 54 #[u, .int .i64 x] w fun e w' => w' = w ∧ e = .returned (.bool (decide (x ∈ xs))) := by
  have HI := hide (indexI x hu)
  obtain ⟨au, cu, rfl⟩ := hu.shape
  clear hu
  go_enter Tryz.func54, Tryz.ntmps54
  go_wp2_with fail
  refine HI.out.mono ?_
  rintro e w' ⟨hw, h⟩
  have hw := hw.symm
  subst hw
  rcases h with ⟨rfl, h⟩ | ⟨i, rfl, h⟩
  · go_wp2
    go_ret
    exact ⟨rfl, by simp [h]⟩
  · have h0 : (0 : Int) ≤ (i : Int) := by omega
    go_wp2
    go_ret
    exact ⟨rfl, by simp [h]⟩
end Go.Proofs.YtamknomapabmfaaGreat
/- Chapter 5: ReadObject of the program, walked: rows that are made and copied over. -/
namespace Go.Proofs.YtamknomapabmfaaGreat
open Go.RowKit

/-- A made row that is known whole. -/
theorem owns_row {w : World} {g n t : Nat} {xs : List Int} (hg : w.heap[g]? = some (.cells (xs.map (Value.int .i64)).toArray t (0, 0))) (hn : xs.length = n) (hm : n ≤ 1048576) :
    w.ownsRow g t 1 (.slice (some ⟨g, 0, none⟩) n n) n (xs.map (Value.int .i64)) :=
  ⟨by simp [hn], Or.inr ⟨g, n, _, rfl, Nat.le_refl _, hg, Nat.le_refl _, by unfold maxLen; omega, by simp [hn], by simp [List.take_of_length_le, hn]⟩⟩
theorem ow_row {w : World} {g n t : Nat} {xs : List Int} (hg : w.heap[g]? = some (.cells (xs.map (Value.int .i64)).toArray t (0, 0))) (hn : xs.length = n) (hm : n ≤ 1048576) :
    OwI g w (.slice (some ⟨g, 0, none⟩) n n) xs := ow_of_owns hn (owns_row hg hn hm) (by omega)
theorem made_rep (n : Nat) : madeCells #[Value.int .i64 0] n = (List.replicate n (Value.int .i64 0)).toArray := by
  apply Array.ext'
  rw [List.toList_toArray, List.eq_replicate_iff]
  refine ⟨by simp [madeCells], fun b hb => ?_⟩
  simp [madeCells] at hb
  obtain ⟨i, _, rfl⟩ := hb
  simp [Nat.mod_one]

/-- The n words from f on; 0 where there are none. -/
def readL (xs : List Int) (f n : Nat) : List Int := (List.range n).map fun i => xs.getD (f + i) 0
theorem readL_len (xs : List Int) (f n : Nat) : (readL xs f n).length = n := by simp [readL]
theorem readL_none (xs : List Int) (f n : Nat) (h : xs.length ≤ f) : readL xs f n = List.replicate n 0 := by
  unfold readL
  rw [List.eq_replicate_iff]
  refine ⟨by simp, fun b hb => ?_⟩
  obtain ⟨i, _, rfl⟩ := List.mem_map.1 hb
  simp [List.getD, List.getElem?_eq_none (show xs.length ≤ f + i by omega)]
theorem splice_read (xs : List Int) (f n : Nat) : splice (List.replicate n (Value.int .i64 0)) 0 (((xs.drop f).take n).map (Value.int .i64)) = (readL xs f n).map (Value.int .i64) := by
  unfold splice readL
  apply List.ext_getElem?
  intro i
  simp only [List.take_zero, List.nil_append, Nat.zero_add, List.length_map, List.map_map]
  by_cases hi : i < n
  · by_cases hl : i < ((xs.drop f).take n).length
    · have hl' : i < n ∧ i < xs.length - f := by simpa [List.length_take, Nat.lt_min] using hl
      rw [List.getElem?_append_left (by simpa using hl)]
      simp [hi, List.getD, List.getElem?_drop, List.getElem?_eq_getElem (show f + i < xs.length by omega)]
    · have hl' : xs.length ≤ f + i := by
        simp [List.length_take, Nat.lt_min] at hl
        omega
      rw [List.getElem?_append_right (by simpa using hl)]
      simp [hi, List.getD, List.getElem?_eq_none hl', List.getElem?_replicate]
      simp [List.length_take] at hl
      omega
  · rw [List.getElem?_eq_none (by simp [List.length_take]; omega), List.getElem?_eq_none (by simp; omega)]

/-- copy, run: what lies there goes over the row that is known whole. -/
theorem copy_run {w : World} {g o dLen dCap b p sLen sCap : Nat} {cur X : List Value} (hg : w.heap[g]? = some (.cells cur.toArray 2 (0, 0))) (hn : X.length = Nat.min sLen dLen)
    (hsrc : ∀ j v, X[j]? = some v → w.cell? ((⟨b, p, none⟩ : Addr).add j) = some v) (hfit : o + X.length ≤ cur.length) (h1 : ∀ v ∈ X, v.oneCell' = true) :
    ∃ w', (Builtin.copy_ #[24, 24] 3 #[.slice (some ⟨g, o, none⟩) dLen dCap, .slice (some ⟨b, p, none⟩) sLen sCap]).run Tryz.prog w = .ok (goInt X.length) w' ∧
      w'.heap[g]? = some (.cells (splice cur o X).toArray 2 (0, 0)) ∧ Below g w w' :=
  ⟨_, run_copy_row (P := Tryz.prog) w 24 24 3 2 g o dLen dCap ⟨b, p, none⟩ sLen sCap cur.toArray 2 X Tryz.underlying24 (by kernel_rfl) hg hn hsrc (by simpa using hfit) h1,
    by simpa [splice] using setRow_heap w g _ _ 2 _ hg, below_setRow (Below.refl _ _) (Nat.le_refl _) _⟩

/-- The code of ReadObject. -/
def readC (xs : List Int) (f n : Int) : Int := if wordsF xs = 0 then (if 0 ≤ f ∧ f ≤ 64 ∧ 0 ≤ n ∧ f + n ≤ 64 then 0 else 3) else wordsF xs
/-- What ReadObject tells. -/
def rdL (xs : List Int) (f n : Int) : List Int := if wordsF xs = 0 then (if 0 ≤ f ∧ f ≤ 64 ∧ 0 ≤ n ∧ f + n ≤ 64 then readL xs f.toNat n.toNat else []) else []
theorem rdL_len (xs : List Int) (f n : Int) : (rdL xs f n).length ≤ 64 := by
  unfold rdL
  split
  · split
    · rw [readL_len]; omega
    · simp
  · simp

end Go.Proofs.YtamknomapabmfaaGreat
