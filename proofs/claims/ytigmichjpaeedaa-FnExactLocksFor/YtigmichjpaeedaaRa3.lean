/- Chapter 10: the fault of a store, of the program, walked. Made by program (genra3.py). -/
import Derived.Test.YtigmichjpaeedaaRaM
import Derived.Test.YtigmichjpaeedaaIv6
import Derived.BigQuiet
namespace Go.Proofs.Ytigmichjpaeedaa
open Go.RowKit
theorem snapFaultI {S : Nat → Prop} {w : World} {v : Value} {xs : List Int} (hv : RdI S w v xs) :
    Calls Try.prog 29 #[v] w fun e w' => e = .returned (.int .i64 (daF xs)) ∧ ∃ q, w' = w.drewN q := by
  have hm : xs.length ≤ 9223372036854775807 := hv.maxR
  have HW := hide (wordsFault hv)
  obtain ⟨ao, c, rfl⟩ := hv.shape
  have HD : Hid (daF xs = if 40 < xs.length then 2 else wordsF xs) := rfl
  obtain ⟨l, hl⟩ : ∃ l, xs.length = l := ⟨_, rfl⟩
  rw [HD.out]
  rw [hl] at hm HW ⊢
  clear HD hl hv
  by_cases h : 40 < l
  · have h' : (40 : Int) < (l : Int) := by omega
    rw [if_pos h]
    go_enter Try.func29, Try.ntmps29
    go_wp2
    go_ret
    exact ⟨rfl, 0, rfl⟩
  · have h' : ¬ (40 : Int) < (l : Int) := by omega
    rw [if_neg h]
    go_enter Try.func29, Try.ntmps29
    go_wp2_with fail
    refine HW.out.mono ?_
    rintro e w1 ⟨rfl, q, rfl⟩
    go_wp2
    go_ret
    exact ⟨rfl, q, rfl⟩

/-- A list goes on behind an index of a term, up to a term. -/
def gon (l : List Oj) (i t m : Int) : Prop := l ≠ [] → (l.getD 0 oj0).1 - 1 = i ∧ t ≤ (l.getD 0 oj0).2.1 ∧ (l.getD (l.length - 1) oj0).2.1 ≤ m
instance (l : List Oj) (i t m : Int) : Decidable (gon l i t m) := by unfold gon; infer_instance
theorem gon_fit (r : Rf) (i t : Int) (l : List Oj) : gon l i t r.tm ↔ fitR r i t l := Iff.rfl
theorem gon_link (r : Rf) : gon r.lg r.si r.st r.tm ↔ lkR r := by
  unfold gon lkR
  constructor <;> intro h hn <;> obtain ⟨h1, h2⟩ := h hn <;> exact ⟨by omega, h2⟩

end Go.Proofs.Ytigmichjpaeedaa
