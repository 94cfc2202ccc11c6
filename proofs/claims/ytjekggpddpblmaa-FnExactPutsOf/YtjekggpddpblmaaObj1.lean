/- Chapter 5: the fault of an object, of the program and of the model, walked. -/
import Derived.Test.YtjekggpddpblmaaImpl2
import Derived.Test.YtjekggpddpblmaaFault
import Derived.Test.YtjekggpddpblmaaIv
namespace Go.Proofs.Ytjekggpddpblmaa
open Go.RowKit

/-- The fault of an object. -/
def objF (a f : Int) (xs : List Int) : Int :=
  if 0 ≤ a ∧ a ≤ 39 ∧ 0 ≤ f ∧ f ≤ 63 then (if xs.length < 1 ∨ 16 < xs.length ∨ 64 < f + (xs.length : Int) then 2 else wordsF xs) else 3
theorem objF_range {a f : Int} {xs : List Int} (h : ¬ (0 ≤ a ∧ a ≤ 39 ∧ 0 ≤ f ∧ f ≤ 63)) : objF a f xs = 3 := by unfold objF; rw [if_neg h]
theorem objF_many {a f : Int} {xs : List Int} (h : 0 ≤ a ∧ a ≤ 39 ∧ 0 ≤ f ∧ f ≤ 63) (h2 : xs.length < 1 ∨ 16 < xs.length ∨ 64 < f + (xs.length : Int)) : objF a f xs = 2 := by unfold objF; rw [if_pos h, if_pos h2]
theorem objF_words {a f : Int} {xs : List Int} (h : 0 ≤ a ∧ a ≤ 39 ∧ 0 ≤ f ∧ f ≤ 63) (h2 : ¬ (xs.length < 1 ∨ 16 < xs.length ∨ 64 < f + (xs.length : Int))) : objF a f xs = wordsF xs := by unfold objF; rw [if_pos h, if_neg h2]
theorem objF_zero {a f : Int} {xs : List Int} (h : objF a f xs = 0) : (0 ≤ a ∧ a ≤ 39 ∧ 0 ≤ f ∧ f ≤ 63) ∧ ¬ (xs.length < 1 ∨ 16 < xs.length ∨ 64 < f + (xs.length : Int)) ∧ wordsF xs = 0 := by
  unfold objF at h
  split at h
  · rename_i h1
    split at h
    · exact absurd h (by decide)
    · rename_i h2
      exact ⟨h1, h2, h⟩
  · exact absurd h (by decide)

theorem partOf (w : World) (a f : Int) (ay : Option Addr) (l c : Nat) : Calls Try.prog 45 #[.agg #[.int .i64 a, .int .i64 f, .slice ay l c]] w fun e w' => e = .returned (.agg #[.int .i64 a, .int .i64 f, .slice ay l c]) ∧ Below w.heap.size w w' := by
  go_enter Try.func45, Try.ntmps45
  go_wp2
  refine bodyPost_ret (v := .agg #[.int .i64 a, .int .i64 f, .slice ay l c]) (by simp [results, Try.results45, go_sem]) rfl ⟨rfl, ?_⟩
  repeat (first | exact below_on (below_alloc _ _) (below_alloc _ _) | refine Below.setCell ?_ (by first | (simp; done) | (simp; omega) | omega) _)
theorem partEnd (w : World) (a f : Int) (ay : Option Addr) (l c : Nat) (h0 : 0 ≤ f) (h1 : f ≤ 64) (h2 : l ≤ 1048576) : Calls Try.prog 53 #[.agg #[.int .i64 a, .int .i64 f, .slice ay l c]] w fun e w' => e = .returned (.int .i64 (f + (l : Int))) ∧ Below w.heap.size w w' := by
  go_enter Try.func53, Try.ntmps53
  go_wp2
  go_ret
  exact ⟨by go_num, below_alloc _ _⟩
theorem inside_yes (w : World) (a f : Int) (h : 0 ≤ a ∧ a ≤ 39 ∧ 0 ≤ f ∧ f ≤ 63) : Calls Try.prog 52 #[.agg #[.int .i64 a, .int .i64 f]] w fun e w' => e = .returned (.bool true) ∧ Below w.heap.size w w' := by
  obtain ⟨h1, h2, h3, h4⟩ := h
  have h5 : f < 64 := by omega
  go_enter Try.func52, Try.ntmps52
  go_wp2_with fail
  refine (isHome_yes a h1 (by omega) _).mono ?_
  rintro e w1 ⟨rfl, rfl⟩
  go_wp2
  go_ret
  exact ⟨rfl, below_alloc _ _⟩
theorem inside_no (w : World) (a f : Int) (h : ¬ (0 ≤ a ∧ a ≤ 39 ∧ 0 ≤ f ∧ f ≤ 63)) : Calls Try.prog 52 #[.agg #[.int .i64 a, .int .i64 f]] w fun e w' => e = .returned (.bool false) ∧ Below w.heap.size w w' := by
  by_cases ha : 0 ≤ a ∧ a < 40
  · by_cases h3 : 0 ≤ f
    · have h5 : ¬ f < 64 := by omega
      have h6 : 64 ≤ f := by omega
      clear h
      go_enter Try.func52, Try.ntmps52
      go_wp2_with fail
      refine (isHome_yes a ha.1 ha.2 _).mono ?_
      rintro e w1 ⟨rfl, rfl⟩
      go_wp2
      go_ret
      exact ⟨by simp [h6], below_alloc _ _⟩
    · clear h
      go_enter Try.func52, Try.ntmps52
      go_wp2_with fail
      refine (isHome_yes a ha.1 ha.2 _).mono ?_
      rintro e w1 ⟨rfl, rfl⟩
      go_wp2
      go_ret
      exact ⟨rfl, below_alloc _ _⟩
  · clear h
    have HA := hide ha
    clear ha
    go_enter Try.func52, Try.ntmps52
    go_wp2_with fail
    refine (isHome_no a HA.out _).mono ?_
    rintro e w1 ⟨rfl, rfl⟩
    go_wp2
    go_ret
    exact ⟨rfl, below_alloc _ _⟩

set_option maxHeartbeats 2000000 in
set_option maxRecDepth 4000 in
theorem implObjectFault {S : Nat → Prop} {w : World} {y : Value} {xs : List Int} (a f : Int) (hy : RdI S w y xs) :
    Calls Try.prog 42 #[.agg #[.int .i64 a, .int .i64 f, y]] w fun e w' => e = .returned (.int .i64 (objF a f xs)) ∧ Below w.heap.size w w' := by
  have HY := hide hy
  have hyl : xs.length ≤ 9223372036854775807 := by obtain ⟨_, _, _, h, _⟩ := hy; exact h
  obtain ⟨ay, cy, rfl⟩ := hy.shape
  obtain ⟨n, hn⟩ : ∃ n, xs.length = n := ⟨_, rfl⟩
  have HN := hide hn
  rw [hn] at HY hyl ⊢
  clear hy hn
  obtain ⟨z, hz⟩ : ∃ z, objF a f xs = z := ⟨_, rfl⟩
  have HZ := hide hz
  rw [hz]
  clear hz
  go_enter Try.func42, Try.ntmps42
  go_wp2_with fail
  refine (partOf _ a f ay n cy).mono ?_
  rintro e w1 ⟨rfl, hb⟩
  have B1 := hide (below_on (below_alloc w (.cells #[.int .i64 a, .int .i64 f, .slice ay n cy] 49)) hb)
  clear hb
  by_cases h1 : 0 ≤ a ∧ a ≤ 39 ∧ 0 ≤ f ∧ f ≤ 63
  · have H1 := hide h1
    obtain ⟨_, _, hf0, hf1⟩ := h1
    go_wp2_with fail
    refine (inside_yes _ a f H1.out).mono ?_
    rintro e w2 ⟨rfl, hb⟩
    obtain ⟨c0, c1, c2⟩ := (Var3_new w1 (.int .i64 a) (.int .i64 f) (.slice ay n cy) 76).later hb
    have B2 := hide (below_on (below_on B1.out (below_alloc w1 (.cells #[.int .i64 a, .int .i64 f, .slice ay n cy] 76))) hb)
    clear hb B1
    by_cases k1 : n < 1
    · have hz2 : z = 2 := HZ.out.symm.trans (objF_many H1.out (by rw [HN.out]; exact Or.inl k1))
      subst hz2
      go_wp2
      go_ret
      exact ⟨rfl, B2.out⟩
    by_cases k2 : 16 < n
    · have hz2 : z = 2 := HZ.out.symm.trans (objF_many H1.out (by rw [HN.out]; exact Or.inr (Or.inl k2)))
      subst hz2
      go_wp2
      go_ret
      exact ⟨rfl, B2.out⟩
    go_wp2_with fail
    refine (partEnd _ a f ay n cy hf0 (by omega) (by omega)).mono ?_
    rintro e w3 ⟨rfl, hb⟩
    have d2 := cell_later hb c2
    have B3 := hide (below_on B2.out hb)
    clear hb B2 c0 c1 c2
    by_cases k3 : 64 < f + (n : Int)
    · have hz2 : z = 2 := HZ.out.symm.trans (objF_many H1.out (by rw [HN.out]; exact Or.inr (Or.inr k3)))
      subst hz2
      go_wp2
      go_ret
      exact ⟨rfl, B3.out⟩
    have hzw := HZ.out.symm.trans (objF_words H1.out (by rw [HN.out]; omega))
    go_wp2_with fail
    refine (wordsFault (HY.out.later B3.out)).mono ?_
    rintro e w4 ⟨he, q, rfl⟩
    rw [← hzw] at he
    subst he
    clear hzw
    go_wp2
    go_ret
    exact ⟨rfl, below_on B3.out (below_drewN _ _)⟩
  · have hz3 : z = 3 := HZ.out.symm.trans (objF_range h1)
    subst hz3
    have H1 := hide h1
    clear h1
    go_wp2_with fail
    refine (inside_no _ a f H1.out).mono ?_
    rintro e w2 ⟨rfl, hb⟩
    have B2 := hide (below_on (below_on B1.out (below_alloc w1 (.cells #[.int .i64 a, .int .i64 f, .slice ay n cy] 76))) hb)
    clear hb B1
    go_wp2
    go_ret
    exact ⟨rfl, B2.out⟩

set_option maxHeartbeats 2000000 in
set_option maxRecDepth 4000 in
theorem specObjectFault {S : Nat → Prop} {w : World} {y : Value} {xs : List Int} (a f : Int) (hy : RdI S w y xs) :
    Calls Try.prog 20 #[.agg #[.int .i64 a, .int .i64 f, y]] w fun e w' => e = .returned (.int .i64 (objF a f xs)) ∧ Below w.heap.size w w' := by
  have HY := hide hy
  have hyl : xs.length ≤ 9223372036854775807 := by obtain ⟨_, _, _, h, _⟩ := hy; exact h
  obtain ⟨ay, cy, rfl⟩ := hy.shape
  obtain ⟨n, hn⟩ : ∃ n, xs.length = n := ⟨_, rfl⟩
  have HN := hide hn
  rw [hn] at HY hyl ⊢
  clear hy hn
  obtain ⟨z, hz⟩ : ∃ z, objF a f xs = z := ⟨_, rfl⟩
  have HZ := hide hz
  rw [hz]
  clear hz
  have A0 := hide (below_alloc w (.cells #[.int .i64 a, .int .i64 f, .slice ay n cy] 49))
  by_cases ha : 0 ≤ a ∧ a ≤ 39
  · by_cases hf : 0 ≤ f ∧ f ≤ 63
    · have H1 := hide (show 0 ≤ a ∧ a ≤ 39 ∧ 0 ≤ f ∧ f ≤ 63 from ⟨ha.1, ha.2, hf.1, hf.2⟩)
      obtain ⟨hf0, hf1⟩ := hf
      go_enter Try.func20, Try.ntmps20
      go_wp2_with fail
      refine (l2Home_yes a ha.1 ha.2 _).mono ?_
      rintro e w1 ⟨rfl, rfl⟩
      go_wp2_with fail
      refine (l1In_yes f 0 63 hf0 hf1 _).mono ?_
      rintro e w1 ⟨rfl, rfl⟩
      by_cases k1 : n < 1
      · have hz2 : z = 2 := HZ.out.symm.trans (objF_many H1.out (by rw [HN.out]; exact Or.inl k1))
        subst hz2
        go_wp2
        go_ret
        exact ⟨rfl, A0.out⟩
      by_cases k2 : 16 < n
      · have hz2 : z = 2 := HZ.out.symm.trans (objF_many H1.out (by rw [HN.out]; exact Or.inr (Or.inl k2)))
        subst hz2
        go_wp2
        go_ret
        exact ⟨rfl, A0.out⟩
      by_cases k3 : 64 < f + (n : Int)
      · have hz2 : z = 2 := HZ.out.symm.trans (objF_many H1.out (by rw [HN.out]; exact Or.inr (Or.inr k3)))
        subst hz2
        go_wp2
        go_ret
        exact ⟨rfl, A0.out⟩
      have hzw := HZ.out.symm.trans (objF_words H1.out (by rw [HN.out]; omega))
      go_wp2_with fail
      refine (l1Words (HY.out.later A0.out)).mono ?_
      rintro e w4 ⟨he, q, rfl⟩
      rw [← hzw] at he
      subst he
      clear hzw
      go_wp2
      go_ret
      exact ⟨rfl, below_on A0.out (below_drewN _ _)⟩
    · have hz3 : z = 3 := HZ.out.symm.trans (objF_range (fun h => hf ⟨h.2.2.1, h.2.2.2⟩))
      subst hz3
      go_enter Try.func20, Try.ntmps20
      go_wp2_with fail
      refine (l2Home_yes a ha.1 ha.2 _).mono ?_
      rintro e w1 ⟨rfl, rfl⟩
      go_wp2_with fail
      refine (l1In_no f 0 63 (by omega) _).mono ?_
      rintro e w1 ⟨rfl, rfl⟩
      go_wp2
      go_ret
      exact ⟨rfl, A0.out⟩
  · have hz3 : z = 3 := HZ.out.symm.trans (objF_range (fun h => ha ⟨h.1, h.2.1⟩))
    subst hz3
    go_enter Try.func20, Try.ntmps20
    go_wp2_with fail
    refine (l2Home_no a (by omega) _).mono ?_
    rintro e w1 ⟨rfl, rfl⟩
    go_wp2
    go_ret
    exact ⟨rfl, A0.out⟩
end Go.Proofs.Ytjekggpddpblmaa
