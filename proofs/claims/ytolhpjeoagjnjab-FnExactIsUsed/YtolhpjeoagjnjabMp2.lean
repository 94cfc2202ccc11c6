/- Chapter 7: which blocks are taken is a closure; the blocks that it tells, rising. -/
import Derived.Test.YtolhpjeoagjnjabMp1
import Derived.Test.YtolhpjeoagjnjabCont
import Derived.Test.YtolhpjeoagjnjabBuilt
import Derived.Deep.AppendLies
namespace Go.Proofs.Ytolhpjeoagjnjab
open Go.RowKit

/-- The blocks that a map can have. -/
def allB : List Int := [3, 4, 5, 6, 7, 8, 9, 10, 11, 12, 13, 14, 15, 16, 17, 18, 19, 20, 21, 22]
def blkTo (p : Int → Bool) (i : Nat) : List Int := (allB.take i).filter p
def blk (p : Int → Bool) : List Int := allB.filter p
theorem blkTo_all (p : Int → Bool) : blkTo p 20 = blk p := by unfold blkTo blk; rw [List.take_of_length_le (by decide)]
theorem allB_at : ∀ i : Nat, i < 20 → allB[i]? = some (3 + (i : Int)) := by decide
theorem blkTo_succ (p : Int → Bool) {i : Nat} (h : i < 20) : blkTo p (i + 1) = blkTo p i ++ if p (3 + (i : Int)) then [3 + (i : Int)] else [] := by
  unfold blkTo
  rw [List.take_add_one, allB_at i h, List.filter_append]
  by_cases hp : p (3 + (i : Int)) = true
  · simp [hp]
  · simp [hp]
theorem blkTo_len (p : Int → Bool) (i : Nat) : (blkTo p i).length ≤ i := by
  unfold blkTo
  refine Nat.le_trans (List.length_filter_le _ _) ?_
  rw [List.length_take]; omega
/-- A function value that answers p of a block. -/
def Fp (w : World) (f : Value) (p : Int → Bool) : Prop :=
  ∃ (N : Nat) (caps : Array Value), f = .func (.func N) #[] caps ∧ (∀ args w', Sem.run Try.prog (callFunc N args) w' = .ok (.enter N args) w') ∧ ∀ w', Below w.heap.size w w' → ∀ x : Int, 3 ≤ x → x ≤ 22 → Calls Try.prog N (#[.int .i64 x] ++ caps) w' fun e w'' => e = .returned (.bool (p x)) ∧ Below w'.heap.size w' w''
theorem Fp.later {w w' : World} {f : Value} {p : Int → Bool} (h : Fp w f p) (hb : Below w.heap.size w w') : Fp w' f p := by
  obtain ⟨N, caps, e, hn, h⟩ := h
  exact ⟨N, caps, e, hn, fun w'' h' => h w'' (below_on hb h')⟩

theorem enter_of {f : FuncId} {fn : Func} (hf : Try.prog.funcs[f]? = some fn) (hn : (fn.name == "runtime.NumGoroutine") = false) (hb : fn.body.isNone = false) (args : Array Value) (w : World) : Sem.run Try.prog (callFunc f args) w = .ok (.enter f args) w := by
  have h1 : fn.name ≠ "runtime.NumGoroutine" := by simpa using hn
  have h2 : fn.body ≠ none := by intro h; rw [h] at hb; cases hb
  simp [callFunc, hf, h1, h2]
/-- 'takenIn$1': whether a block is in the list. -/
theorem takenIn1 {S : Nat → Prop} {w : World} {u : Value} {xs : List Int} {b : Nat} (x : Int) (hc : w.cell? ⟨b, 0, none⟩ = some u) (hu : RdI S w u xs) :
    Calls Try.prog 13 #[.int .i64 x, .pointer (some ⟨b, 0, none⟩)] w fun e w' => w' = w ∧ e = .returned (.bool (decide (x ∈ xs))) := by
  obtain ⟨ao, c, rfl⟩ := hu.shape
  have HU := hide hu
  clear hu
  go_enter Try.func13, Try.ntmps13
  go_wp2_with fail
  refine (containsI x HU.out).mono ?_
  rintro e w' ⟨hw, rfl⟩
  have hw := hw.symm
  subst hw
  go_wp2
  go_ret
  exact ⟨rfl, rfl⟩
/-- What 'takenIn' leaves: a function value with its list in a cell. -/
def TkIn (w : World) (f : Value) (xs : List Int) : Prop := ∃ (b : Nat) (u : Value) (S : Nat → Prop), f = .func (.func 13) #[] #[.pointer (some ⟨b, 0, none⟩)] ∧ w.cell? ⟨b, 0, none⟩ = some u ∧ RdI S w u xs
theorem TkIn.later {w w' : World} {f : Value} {xs : List Int} (h : TkIn w f xs) (hb : Below w.heap.size w w') : TkIn w' f xs := by
  obtain ⟨b, u, S, e, h1, h2⟩ := h
  exact ⟨b, u, S, e, cell_later hb h1, h2.later hb⟩
theorem TkIn.fp {w : World} {f : Value} {xs : List Int} (h : TkIn w f xs) : Fp w f (fun x => decide (x ∈ xs)) := by
  obtain ⟨b, u, S, e, h1, h2⟩ := h
  refine ⟨_, _, e, fun args w' => ?_, fun w' hb x _ _ => ?_⟩
  · exact enter_of Try.func13 (by kernel_rfl) (by kernel_rfl) args w'
  · exact (takenIn1 x (cell_later hb h1) (h2.later hb)).mono fun e w'' ⟨hw, he⟩ => ⟨he, hw ▸ Below.refl _ _⟩
theorem takenIn {S : Nat → Prop} {w : World} {u : Value} {xs : List Int} (hu : RdI S w u xs) :
    Calls Try.prog 11 #[u] w fun e w' => ∃ f, e = .returned f ∧ Below w.heap.size w w' ∧ TkIn w' f xs := by
  obtain ⟨ao, c, rfl⟩ := hu.shape
  have HU := hide hu
  clear hu
  have hmf : ∀ (fn : Fn) (first cap : Array Value) (w : World), (Instr.makeFunc fn first cap).run Try.prog w = .ok (.func fn first cap) w := fun _ _ _ _ => rfl
  go_enter Try.func11, Try.ntmps11
  go_wp2
  go_ret
  exact ⟨_, rfl, below_alloc _ _, _, _, _, rfl, by simp [go_sem], HU.out.later (below_alloc _ _)⟩
end Go.Proofs.Ytolhpjeoagjnjab
