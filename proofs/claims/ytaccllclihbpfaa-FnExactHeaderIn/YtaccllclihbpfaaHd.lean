/- The laws' helpers over Header and HeaderResult. Made by program (genflat.py). -/
import Derived.Test.YtaccllclihbpfaaIv
import Derived.Test.YtaccllclihbpfaaSz
import Derived.Test.YtaccllclihbpfaaHeld
import Derived.Test.YtaccllclihbpfaaMark
namespace Go.Proofs.Ytaccllclihbpfaa
open Go.RowKit

theorem markIMk {lo hi : Nat} {w : World} {u : Value} {xs : List Int} {k : Int} (hu : IvI lo hi w u xs) (hk0 : 0 ≤ k) (hk : k + (xs.length : Int) ≤ 9223372036854775807) :
    Calls Try.prog 43 #[u, .int .i64 k] w fun e w' => e = .returned (.int .i64 (k + (xs.length : Int))) ∧ MkI k lo hi w' u xs.length ∧ Wr (fun b => lo ≤ b ∧ b < hi) w w' := by
  obtain ⟨b, h1, h2⟩ := hu
  refine (markI h1 (fun hne => (h2 hne).2.2.2) hk0 hk).mono fun e w' ⟨he, hr, hw⟩ => ⟨he, RdI.narrow hr (fun hne y hy => ?_), hw.mono fun y ⟨e, hne⟩ => e ▸ ⟨(h2 hne).1, (h2 hne).2.1⟩⟩
  subst hy
  have hne' : xs ≠ [] := by rintro rfl; exact hne rfl
  exact ⟨(h2 hne').1, (h2 hne').2.1⟩
theorem heldI' {lo hi : Nat} {w : World} {u : Value} {n : Nat} {k : Int} (hu : MkI k lo hi w u n) (hk0 : 0 ≤ k) (hk : k + (n : Int) ≤ 9223372036854775807) :
    Calls Try.prog 109 #[u, .int .i64 k] w fun e w' => e = .returned (.int .i64 (k + (n : Int))) ∧ Below w.heap.size w w' :=
  (heldI hu hk0 hk).mono (by rintro e w' ⟨he, q, rfl⟩; exact ⟨he, below_drewN _ _⟩)

set_option maxRecDepth 4000 in
theorem eqHeader {S T : Nat → Prop} {w : World} {y z : Value} {xs : List Int} (a0 a1 : Int) (hy : RdI S w y xs) (hz : RdI T w z xs) :
    Calls Try.prog 110 #[.agg #[.int .i64 a0, .int .i64 a1, y], .agg #[.int .i64 a0, .int .i64 a1, z]] w fun e w' => e = .returned (.bool true) ∧ Below w.heap.size w w' := by
  have HY := hide hy
  have HZ := hide hz
  obtain ⟨ay, cy, rfl⟩ := hy.shape
  obtain ⟨az, cz, rfl⟩ := hz.shape
  clear hy hz
  go_enter Try.func110, Try.ntmps110
  go_wp2_with fail
  refine (eqI' ((HY.out.later (below_alloc _ _)).later (below_alloc _ _)) ((HZ.out.later (below_alloc _ _)).later (below_alloc _ _))).mono ?_
  rintro e w1 ⟨rfl, hb⟩
  have HB := hide (below_on (below_on (below_alloc _ _) (below_alloc _ _)) hb)
  clear hb
  go_wp2
  go_ret
  exact ⟨rfl, HB.out⟩

set_option maxRecDepth 4000 in
theorem markHeader {lo hi : Nat} {w : World} {y : Value} {xs : List Int} {k : Int} (a0 a1 : Int) (hy : IvI lo hi w y xs) (hk0 : 0 ≤ k) (hk : k + (xs.length : Int) ≤ 9223372036854775807) :
    Calls Try.prog 111 #[.agg #[.int .i64 a0, .int .i64 a1, y], .int .i64 k] w fun e w' => e = .returned (.int .i64 (k + (xs.length : Int))) ∧ MkI k lo hi w' y xs.length ∧ Wr (fun b => lo ≤ b ∧ b < hi) w w' := by
  have HY := hide hy
  obtain ⟨ay, cy, rfl⟩ := hy.rd.shape
  clear hy
  obtain ⟨l, hl⟩ : ∃ l, xs.length = l := ⟨_, rfl⟩
  have HL := hide hl
  rw [hl] at HY hk ⊢
  clear hl
  go_enter Try.func111, Try.ntmps111
  go_wp2_with fail
  refine (markIMk (HY.out.later (below_alloc _ _)) hk0 (by rw [HL.out]; exact hk)).mono ?_
  rintro e w1 ⟨he, hm, hw⟩
  rw [HL.out] at he hm
  subst he
  have HM := hide hm
  have HW := hide (wr_on (below_alloc _ _) hw)
  clear hm hw
  go_wp2
  go_ret
  exact ⟨rfl, HM.out, HW.out⟩

set_option maxRecDepth 4000 in
theorem heldHeader {lo hi : Nat} {w : World} {y : Value} {n : Nat} {k : Int} (a0 a1 : Int) (hy : MkI k lo hi w y n) (hk0 : 0 ≤ k) (hk : k + (n : Int) ≤ 9223372036854775807) :
    Calls Try.prog 112 #[.agg #[.int .i64 a0, .int .i64 a1, y], .int .i64 k] w fun e w' => e = .returned (.int .i64 (k + (n : Int))) ∧ Below w.heap.size w w' := by
  have HY := hide hy
  obtain ⟨ay, cy, rfl⟩ := RdI.shape hy
  clear hy
  go_enter Try.func112, Try.ntmps112
  go_wp2_with fail
  refine (heldI' (MkI.later HY.out (below_alloc _ _)) hk0 hk).mono ?_
  rintro e w1 ⟨rfl, hb⟩
  have HB := hide (below_on (below_alloc _ _) hb)
  clear hb
  have hpos : 0 ≤ k + (n : Int) := by omega
  go_wp2
  go_ret
  exact ⟨rfl, HB.out⟩

set_option maxRecDepth 4000 in
theorem eqHeaderResult {S T : Nat → Prop} {w : World} {y z : Value} {xs : List Int} (a a0 a1 : Int) (hy : RdI S w y xs) (hz : RdI T w z xs) :
    Calls Try.prog 50 #[.agg #[.int .i64 a, .int .i64 a0, .int .i64 a1, y], .agg #[.int .i64 a, .int .i64 a0, .int .i64 a1, z]] w fun e w' => e = .returned (.bool true) ∧ Below w.heap.size w w' := by
  have HY := hide hy
  have HZ := hide hz
  obtain ⟨ay, cy, rfl⟩ := hy.shape
  obtain ⟨az, cz, rfl⟩ := hz.shape
  clear hy hz
  go_enter Try.func50, Try.ntmps50
  go_wp2_with fail
  refine (eqHeader a0 a1 ((HY.out.later (below_alloc _ _)).later (below_alloc _ _)) ((HZ.out.later (below_alloc _ _)).later (below_alloc _ _))).mono ?_
  rintro e w1 ⟨rfl, hb⟩
  have HB := hide (below_on (below_on (below_alloc _ _) (below_alloc _ _)) hb)
  clear hb
  go_wp2
  go_ret
  exact ⟨rfl, HB.out⟩

set_option maxRecDepth 4000 in
theorem markHeaderResult {lo hi : Nat} {w : World} {y : Value} {xs : List Int} {k : Int} (a a0 a1 : Int) (hy : IvI lo hi w y xs) (hk0 : 0 ≤ k) (hk : k + (xs.length : Int) ≤ 9223372036854775807) :
    Calls Try.prog 51 #[.agg #[.int .i64 a, .int .i64 a0, .int .i64 a1, y], .int .i64 k] w fun e w' => e = .returned (.int .i64 (k + (xs.length : Int))) ∧ MkI k lo hi w' y xs.length ∧ Wr (fun b => lo ≤ b ∧ b < hi) w w' := by
  have HY := hide hy
  obtain ⟨ay, cy, rfl⟩ := hy.rd.shape
  clear hy
  obtain ⟨l, hl⟩ : ∃ l, xs.length = l := ⟨_, rfl⟩
  have HL := hide hl
  rw [hl] at HY hk ⊢
  clear hl
  go_enter Try.func51, Try.ntmps51
  go_wp2_with fail
  refine (markHeader a0 a1 (HY.out.later (below_alloc _ _)) hk0 (by rw [HL.out]; exact hk)).mono ?_
  rintro e w1 ⟨he, hm, hw⟩
  rw [HL.out] at he hm
  subst he
  have HM := hide hm
  have HW := hide (wr_on (below_alloc _ _) hw)
  clear hm hw
  go_wp2
  go_ret
  exact ⟨rfl, HM.out, HW.out⟩

set_option maxRecDepth 4000 in
theorem heldHeaderResult {lo hi : Nat} {w : World} {y : Value} {n : Nat} {k : Int} (a a0 a1 : Int) (hy : MkI k lo hi w y n) (hk0 : 0 ≤ k) (hk : k + (n : Int) ≤ 9223372036854775807) :
    Calls Try.prog 52 #[.agg #[.int .i64 a, .int .i64 a0, .int .i64 a1, y], .int .i64 k] w fun e w' => e = .returned (.int .i64 (k + (n : Int))) ∧ Below w.heap.size w w' := by
  have HY := hide hy
  obtain ⟨ay, cy, rfl⟩ := RdI.shape hy
  clear hy
  go_enter Try.func52, Try.ntmps52
  go_wp2_with fail
  refine (heldHeader a0 a1 (MkI.later HY.out (below_alloc _ _)) hk0 hk).mono ?_
  rintro e w1 ⟨rfl, hb⟩
  have HB := hide (below_on (below_alloc _ _) hb)
  clear hb
  have hpos : 0 ≤ k + (n : Int) := by omega
  go_wp2
  go_ret
  exact ⟨rfl, HB.out⟩

end Go.Proofs.Ytaccllclihbpfaa
