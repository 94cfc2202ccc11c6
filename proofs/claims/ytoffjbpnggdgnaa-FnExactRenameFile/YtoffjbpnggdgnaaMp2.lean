/- Chapter 7: which blocks are taken is a closure; the blocks that it tells, rising. -/
import Derived.Test.YtoffjbpnggdgnaaMp1
import Derived.Test.YtoffjbpnggdgnaaCont
import Derived.Test.YtoffjbpnggdgnaaBuilt
import Derived.Deep.AppendLies
namespace Go.Proofs.Ytoffjbpnggdgnaa
open Go.RowKit

/-- The blocks that a map can have. -/
def allB : List Int := [3, 4, 5, 6, 7, 8, 9, 10, 11, 12, 13, 14, 15, 16, 17, 18, 19, 20, 21, 22]
def blkTo (p : Int → Bool) (i : Nat) : List Int := (allB.take i).filter p
def blk (p : Int → Bool) : List Int := allB.filter p
theorem blkTo_all (p : Int → Bool) : blkTo p 20 = blk p := by unfold blkTo blk; rw [List.take_of_length_le (by decide)]
theorem allB_at : ∀ i : Nat, i < 20 → allB[i]? = some (3 + (i : Int)) := by decide
theorem blkTo_succ (p : Int → Bool) {i : Nat} (h : i < 20) : blkTo p (i + 1) = blkTo p i ++ if p (3 + (i : Int)) then [3 + (i : Int)] else [] := by
  unfold blkTo
  rw [List.take_add_one, allB_at i h, List.filter_append]
  by_cases hp : p (3 + (i : Int)) = true
  · simp [hp]
  · simp [hp]
theorem blkTo_len (p : Int → Bool) (i : Nat) : (blkTo p i).length ≤ i := by
  unfold blkTo
  refine Nat.le_trans (List.length_filter_le _ _) ?_
  rw [List.length_take]; omega
/-- A function value that answers p of a block. -/
def Fp (w : World) (f : Value) (p : Int → Bool) : Prop :=
  ∃ (N : Nat) (caps : Array Value), f = .func (.func N) #[] caps ∧ (∀ args w', Sem.run Try.prog (callFunc N args) w' = .ok (.enter N args) w') ∧ ∀ w', Below w.heap.size w w' → ∀ x : Int, 3 ≤ x → x ≤ 22 → Calls Try.prog N (#[.int .i64 x] ++ caps) w' fun e w'' => e = .returned (.bool (p x)) ∧ Below w'.heap.size w' w''
theorem Fp.later {w w' : World} {f : Value} {p : Int → Bool} (h : Fp w f p) (hb : Below w.heap.size w w') : Fp w' f p := by
  obtain ⟨N, caps, e, hn, h⟩ := h
  exact ⟨N, caps, e, hn, fun w'' h' => h w'' (below_on hb h')⟩

theorem owns_shapeM {w : World} {B e s : Nat} {v : Value} {n : Nat} {xs : List Value} (h : w.ownsRow B e s v n xs) : ∃ ao c, v = .slice ao n c := by
  rcases h.2 with ⟨rfl, rfl⟩ | ⟨g, cap, cur, rfl, _⟩
  · exact ⟨_, _, rfl⟩
  · exact ⟨_, _, rfl⟩
theorem enter_of {f : FuncId} {fn : Func} (hf : Try.prog.funcs[f]? = some fn) (hn : (fn.name == "runtime.NumGoroutine") = false) (hb : fn.body.isNone = false) (args : Array Value) (w : World) : Sem.run Try.prog (callFunc f args) w = .ok (.enter f args) w := by
  have h1 : fn.name ≠ "runtime.NumGoroutine" := by simpa using hn
  have h2 : fn.body ≠ none := by intro h; rw [h] at hb; cases hb
  simp [callFunc, hf, h1, h2]
end Go.Proofs.Ytoffjbpnggdgnaa
