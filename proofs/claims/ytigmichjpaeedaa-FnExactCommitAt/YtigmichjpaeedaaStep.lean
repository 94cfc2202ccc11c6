/- Chapter 3: a step; the laws' helpers over it, and 'StepFault' of the model and of the program, walked. -/
import Derived.Test.YtigmichjpaeedaaIv
import Derived.Test.YtigmichjpaeedaaSz
import Derived.Test.YtigmichjpaeedaaFault
import Derived.Test.YtigmichjpaeedaaIv4
namespace Go.Proofs.Ytigmichjpaeedaa
open Go.RowKit

set_option maxHeartbeats 1000000 in
set_option maxRecDepth 4000 in
theorem toStep {S : Nat → Prop} {w : World} {y : Value} {xs : List Int} (a0 : Bool) (a1 : Int) (hy : RdI S w y xs) (hm : xs.length ≤ 1048576) :
    Calls Try.prog 35 #[.agg #[.bool a0, .int .i64 a1, y]] w fun e w' => ∃ z, e = .returned (.agg #[.bool a0, .int .i64 a1, z]) ∧ Below w.heap.size w w' ∧ OwI w.heap.size w' z xs := by
  have HY := hide hy
  obtain ⟨ay, cy, rfl⟩ := hy.shape
  clear hy
  go_enter Try.func35, Try.ntmps35
  go_wp2_with fail
  refine (toI' (((HY.out.later (below_alloc _ _)).later (below_alloc _ _)).later (below_alloc _ _)) hm).mono ?_
  rintro e w1 ⟨z, rfl, hb, ho⟩
  obtain ⟨az, cz, rfl⟩ := ho.shape
  obtain ⟨l, hl⟩ : ∃ l, xs.length = l := ⟨_, rfl⟩
  rw [hl] at ho ⊢
  have v0 : w1.cell? ⟨w.heap.size + 1, 0, none⟩ = some (.bool false) := cell_later hb (by simp [go_sem])
  have f0 : w1.frozen? ⟨w.heap.size + 1, 0, none⟩ = false := ((bcell hb).2 _ _ (by simp)).trans (by simp [go_sem])
  have o0 : w1.cell? ⟨w.heap.size + 2, 0, none⟩ = some (.bool a0) := cell_later hb (by simp [go_sem])
  have g0 : w1.frozen? ⟨w.heap.size + 2, 0, none⟩ = false := ((bcell hb).2 _ _ (by simp)).trans (by simp [go_sem])
  have v1 : w1.cell? ⟨w.heap.size + 1, 1, none⟩ = some (.int .i64 0) := cell_later hb (by simp [go_sem])
  have f1 : w1.frozen? ⟨w.heap.size + 1, 1, none⟩ = false := ((bcell hb).2 _ _ (by simp)).trans (by simp [go_sem])
  have o1 : w1.cell? ⟨w.heap.size + 2, 1, none⟩ = some (.int .i64 a1) := cell_later hb (by simp [go_sem])
  have g1 : w1.frozen? ⟨w.heap.size + 2, 1, none⟩ = false := ((bcell hb).2 _ _ (by simp)).trans (by simp [go_sem])
  have v2 : w1.cell? ⟨w.heap.size + 1, 2, none⟩ = some (.slice none 0 0) := cell_later hb (by simp [go_sem])
  have f2 : w1.frozen? ⟨w.heap.size + 1, 2, none⟩ = false := ((bcell hb).2 _ _ (by simp)).trans (by simp [go_sem])
  have o2 : w1.cell? ⟨w.heap.size + 2, 2, none⟩ = some (.slice none 0 0) := cell_later hb (by simp [go_sem])
  have g2 : w1.frozen? ⟨w.heap.size + 2, 2, none⟩ = false := ((bcell hb).2 _ _ (by simp)).trans (by simp [go_sem])
  have HB := hide (below_on (below_on (below_on (below_alloc _ _) (below_alloc _ _)) (below_alloc _ _)) hb)
  have HO := hide ho
  clear hb ho
  go_wp2
  refine bodyPost_ret (v := .agg #[.bool a0, .int .i64 a1, .slice az l cz]) (by simp [results, Try.results35, go_sem, v0, v1, v2]) rfl ⟨_, rfl, ?_, ?_⟩
  · repeat (first | refine Below.setCell ?_ (by first | (simp; done) | (simp; omega) | omega) _ | exact HB.out)
  · refine OwI.mono (OwI.wr HO.out (T := fun b => b < w.heap.size + 3) ?_ (fun b hb _ => by simp at hb; omega)) (by simp; omega)
    repeat (first | refine Wr.setCell ?_ (by first | (simp; done) | (simp; omega) | omega) _ | exact Wr.refl _ _)

set_option maxRecDepth 4000 in
theorem szStep {S : Nat → Prop} {w : World} {y : Value} {xs : List Int} {left : Int} (a0 : Bool) (a1 : Int) (hy : RdI S w y xs) (h0 : 0 ≤ left) (h1 : left ≤ 1048576) :
    Calls Try.prog 33 #[.agg #[.bool a0, .int .i64 a1, y], .int .i64 left] w fun e w' => e = .returned (.int .i64 (szv left (xs.length : Int))) ∧ Below w.heap.size w w' := by
  have HY := hide hy
  obtain ⟨ay, cy, rfl⟩ := hy.shape
  clear hy
  obtain ⟨l, hl⟩ : ∃ l, xs.length = l := ⟨_, rfl⟩
  have HL := hide hl
  rw [hl] at HY ⊢
  clear hl
  by_cases h : (l : Int) ≤ left
  · have HZ := hide (szv_yes h)
    rw [HZ.out]
    have hnn : 0 ≤ left - (l : Int) := by omega
    go_enter Try.func33, Try.ntmps33
    go_wp2_with fail
    refine (szI' (HY.out.later (below_alloc _ _)) HL.out h0 h1).mono ?_
    rintro e w1 ⟨he, hb⟩
    rw [HZ.out] at he
    subst he
    have HB := hide (below_on (below_alloc _ _) hb)
    clear hb
    go_wp2
    go_ret
    exact ⟨rfl, HB.out⟩
  · have HZ := hide (szv_no (left := left) (s := (l : Int)) (by omega))
    have hneg : ¬ (0 : Int) ≤ -1 := by decide
    rw [HZ.out]
    go_enter Try.func33, Try.ntmps33
    go_wp2_with fail
    refine (szI' (HY.out.later (below_alloc _ _)) HL.out h0 h1).mono ?_
    rintro e w1 ⟨he, hb⟩
    rw [HZ.out] at he
    subst he
    have HB := hide (below_on (below_alloc _ _) hb)
    clear hb
    go_wp2
    go_ret
    exact ⟨rfl, HB.out⟩

set_option maxRecDepth 4000 in
theorem eqStep {S T : Nat → Prop} {w : World} {y z : Value} {xs : List Int} (a0 : Bool) (a1 : Int) (hy : RdI S w y xs) (hz : RdI T w z xs) :
    Calls Try.prog 38 #[.agg #[.bool a0, .int .i64 a1, y], .agg #[.bool a0, .int .i64 a1, z]] w fun e w' => e = .returned (.bool true) ∧ Below w.heap.size w w' := by
  have HY := hide hy
  have HZ := hide hz
  obtain ⟨ay, cy, rfl⟩ := hy.shape
  obtain ⟨az, cz, rfl⟩ := hz.shape
  clear hy hz
  go_enter Try.func38, Try.ntmps38
  go_wp2_with fail
  refine (eqI' ((HY.out.later (below_alloc _ _)).later (below_alloc _ _)) ((HZ.out.later (below_alloc _ _)).later (below_alloc _ _))).mono ?_
  rintro e w1 ⟨rfl, hb⟩
  have HB := hide (below_on (below_on (below_alloc _ _) (below_alloc _ _)) hb)
  clear hb
  go_wp2
  go_ret
  exact ⟨rfl, HB.out⟩

/-- The fault of a step. -/
def stepF (f : Bool) (a : Int) (xs : List Int) : Int := if f = true ∧ (a ≠ 0 ∨ xs.length ≠ 0) then 1 else if 0 ≤ a ∧ a < 66 then wordsF xs else 3

set_option maxHeartbeats 1000000 in
set_option maxRecDepth 4000 in
theorem implStepFault {S : Nat → Prop} {w : World} {y : Value} {xs : List Int} (f : Bool) (a : Int) (hy : RdI S w y xs) :
    Calls Try.prog 36 #[.agg #[.bool f, .int .i64 a, y]] w fun e w' => e = .returned (.int .i64 (stepF f a xs)) ∧ Below w.heap.size w w' := by
  unfold stepF
  have HY := hide hy
  obtain ⟨ay, cy, rfl⟩ := hy.shape
  obtain ⟨l, hl⟩ : ∃ l, xs.length = l := ⟨_, rfl⟩
  have HW := hide (fun (w' : World) (hb : Below w.heap.size w w') => wordsFault (hy.later hb))
  rw [hl] at HW HY ⊢
  clear hy hl
  generalize wordsF xs = z at HW ⊢
  by_cases h : f = true ∧ (a ≠ 0 ∨ l ≠ 0)
  · rw [if_pos h]
    obtain ⟨rfl, h2⟩ := h
    by_cases h0 : a = 0
    · subst h0
      have h3 : ¬ ((l : Int) = 0) := by omega
      go_enter Try.func36, Try.ntmps36
      go_wp2
      go_ret
      exact ⟨rfl, below_alloc _ _⟩
    · go_enter Try.func36, Try.ntmps36
      go_wp2
      go_ret
      exact ⟨rfl, below_alloc _ _⟩
  · rw [if_neg h]
    by_cases ha : 0 ≤ a ∧ a < 66
    · rw [if_pos ha]
      obtain ⟨h1, h2⟩ := ha
      cases f with
      | false =>
        go_enter Try.func36, Try.ntmps36
        go_wp2_with fail
        refine (HW.out _ (below_alloc _ _)).mono ?_
        rintro e w1 ⟨rfl, q, rfl⟩
        go_wp2
        go_ret
        exact ⟨rfl, below_on (below_alloc _ _) (below_drewN _ _)⟩
      | true =>
        have h0 : a = 0 := Classical.byContradiction fun hn => h ⟨rfl, Or.inl hn⟩
        have h3 : l = 0 := Classical.byContradiction fun hn => h ⟨rfl, Or.inr hn⟩
        subst h0 h3
        go_enter Try.func36, Try.ntmps36
        go_wp2_with fail
        refine (HW.out _ (below_alloc _ _)).mono ?_
        rintro e w1 ⟨rfl, q, rfl⟩
        go_wp2
        go_ret
        exact ⟨rfl, below_on (below_alloc _ _) (below_drewN _ _)⟩
    · rw [if_neg ha]
      cases f with
      | false =>
        by_cases h1 : a < 0
        · go_enter Try.func36, Try.ntmps36
          go_wp2
          go_ret
          exact ⟨rfl, below_alloc _ _⟩
        · have h2 : 66 ≤ a := by omega
          go_enter Try.func36, Try.ntmps36
          go_wp2
          go_ret
          exact ⟨rfl, below_alloc _ _⟩
      | true =>
        have h0 : a = 0 := Classical.byContradiction fun hn => h ⟨rfl, Or.inl hn⟩
        subst h0
        exact absurd ⟨by omega, by omega⟩ ha

set_option maxHeartbeats 1000000 in
set_option maxRecDepth 4000 in
theorem specStepFault {S : Nat → Prop} {w : World} {y : Value} {xs : List Int} (f : Bool) (a : Int) (hy : RdI S w y xs) :
    Calls Try.prog 34 #[.agg #[.bool f, .int .i64 a, y]] w fun e w' => e = .returned (.int .i64 (stepF f a xs)) ∧ Below w.heap.size w w' := by
  unfold stepF
  have HY := hide hy
  obtain ⟨ay, cy, rfl⟩ := hy.shape
  obtain ⟨l, hl⟩ : ∃ l, xs.length = l := ⟨_, rfl⟩
  have HW := hide (fun (w' : World) (hb : Below w.heap.size w w') => l1Words (hy.later hb))
  rw [hl] at HW HY ⊢
  clear hy hl
  generalize wordsF xs = z at HW ⊢
  by_cases h : f = true ∧ (a ≠ 0 ∨ l ≠ 0)
  · rw [if_pos h]
    obtain ⟨rfl, h2⟩ := h
    by_cases h0 : a = 0
    · subst h0
      have h3 : (0 : Int) < (l : Int) := by omega
      go_enter Try.func34, Try.ntmps34
      go_wp2
      go_ret
      exact ⟨rfl, below_alloc _ _⟩
    · go_enter Try.func34, Try.ntmps34
      go_wp2
      go_ret
      exact ⟨rfl, below_alloc _ _⟩
  · rw [if_neg h]
    by_cases ha : 0 ≤ a ∧ a < 66
    · rw [if_pos ha]
      obtain ⟨h1, h2⟩ := ha
      have h2' : a ≤ 65 := by omega
      cases f with
      | false =>
        go_enter Try.func34, Try.ntmps34
        go_wp2_with fail
        refine (l1In_yes _ _ _ h1 h2' _).mono ?_
        rintro e w' ⟨rfl, rfl⟩
        go_wp2_with fail
        refine (HW.out _ (below_alloc _ _)).mono ?_
        rintro e w1 ⟨rfl, q, rfl⟩
        go_wp2
        go_ret
        exact ⟨rfl, below_on (below_alloc _ _) (below_drewN _ _)⟩
      | true =>
        have h0 : a = 0 := Classical.byContradiction fun hn => h ⟨rfl, Or.inl hn⟩
        have h3 : l = 0 := Classical.byContradiction fun hn => h ⟨rfl, Or.inr hn⟩
        subst h0 h3
        go_enter Try.func34, Try.ntmps34
        go_wp2_with fail
        refine (l1In_yes _ _ _ h1 h2' _).mono ?_
        rintro e w' ⟨rfl, rfl⟩
        go_wp2_with fail
        refine (HW.out _ (below_alloc _ _)).mono ?_
        rintro e w1 ⟨rfl, q, rfl⟩
        go_wp2
        go_ret
        exact ⟨rfl, below_on (below_alloc _ _) (below_drewN _ _)⟩
    · rw [if_neg ha]
      have HA := hide (show a < 0 ∨ 65 < a by omega)
      cases f with
      | false =>
        clear ha h
        go_enter Try.func34, Try.ntmps34
        go_wp2_with fail
        refine (l1In_no _ _ _ HA.out _).mono ?_
        rintro e w' ⟨rfl, rfl⟩
        go_wp2
        go_ret
        exact ⟨rfl, below_alloc _ _⟩
      | true =>
        have h0 : a = 0 := Classical.byContradiction fun hn => h ⟨rfl, Or.inl hn⟩
        subst h0
        exact absurd ⟨by omega, by omega⟩ ha
end Go.Proofs.Ytigmichjpaeedaa
