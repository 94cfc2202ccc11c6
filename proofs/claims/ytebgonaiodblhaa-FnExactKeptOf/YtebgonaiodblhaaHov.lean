/- Chapter 10: what is over of a term (hardOver of the program). -/
import Derived.Test.YtebgonaiodblhaaRa3
namespace Go.Proofs.Ytebgonaiodblhaa
open Go.RowKit

/-- A term of which it is over. -/
def OverH (a b t v : Int) : Prop := t < a ∨ (t = a ∧ b ≠ 0 ∧ v ≠ b)
set_option maxHeartbeats 2000000 in
theorem hardOverI (a b c d t v : Int) (ay az : Option Addr) (l cy m cz : Nat) (h0 : 0 ≤ a) (h1 : a ≤ 999) (w : World) : Calls Try.prog 25 #[.agg #[.int .i64 a, .int .i64 b, .int .i64 c, .int .i64 d, .slice ay l cy, .slice az m cz], .int .i64 t, .int .i64 v] w fun e w' => (OverH a b t v → ∃ x, e = .returned (.iface 74 (.agg #[.int .i64 x]))) ∧ (¬ OverH a b t v → e = .returned .nilIface) ∧ Below w.heap.size w w' := by
  have BA := hide (below_alloc w (.cells #[.int .i64 a, .int .i64 b, .int .i64 c, .int .i64 d, .slice ay l cy, .slice az m cz] 37))
  have e1 : IntKind.i64.wrap (a + 1) = a + 1 := by simp [IntKind.wrap, IntKind.bits, IntKind.signed]; omega
  by_cases hb : b = 0
  · subst hb
    by_cases ht : t < a
    · have HP : Hid (OverH a 0 t v) := Or.inl ht
      skip
      go_enter Try.func25, Try.ntmps25
      go_wp2
      go_ret
      exact ⟨fun _ => ⟨_, rfl⟩, fun h => absurd HP.out h, BA.out⟩
    · have HP : Hid (¬ (OverH a 0 t v)) := by rintro (h | ⟨_, h, _⟩); exact ht h; exact h rfl
      skip
      go_enter Try.func25, Try.ntmps25
      go_wp2
      go_ret
      exact ⟨fun h => absurd h HP.out, fun _ => rfl, BA.out⟩
  · have hb1 : (b != 0) = true := by simp [hb]
    have hb2 : (b == 0) = false := by simp [hb]
    by_cases hv : b = v
    · subst hv
      by_cases ht : t < a
      · have HP : Hid (OverH a b t b) := Or.inl ht
        clear hb
        go_enter Try.func25, Try.ntmps25
        go_wp2
        go_ret
        exact ⟨fun _ => ⟨_, rfl⟩, fun h => absurd HP.out h, BA.out⟩
      · have HP : Hid (¬ (OverH a b t b)) := by rintro (h | ⟨_, _, h⟩); exact ht h; exact h rfl
        clear hb
        go_enter Try.func25, Try.ntmps25
        go_wp2
        go_ret
        exact ⟨fun h => absurd h HP.out, fun _ => rfl, BA.out⟩
    · have hv1 : (b != v) = true := by simp [hv]
      have hv2 : (b == v) = false := by simp [hv]
      by_cases ht : t < a + 1
      · have HP : Hid (OverH a b t v) := by rcases Int.lt_or_le t a with h | h; exact Or.inl h; exact Or.inr ⟨by omega, hb, fun e => hv e.symm⟩
        clear hb hv
        go_enter Try.func25, Try.ntmps25
        go_wp2
        go_ret
        exact ⟨fun _ => ⟨_, rfl⟩, fun h => absurd HP.out h, BA.out⟩
      · have HP : Hid (¬ (OverH a b t v)) := by rintro (h | ⟨h, _, _⟩) <;> omega
        clear hb hv
        go_enter Try.func25, Try.ntmps25
        go_wp2
        go_ret
        exact ⟨fun h => absurd h HP.out, fun _ => rfl, BA.out⟩
end Go.Proofs.Ytebgonaiodblhaa
