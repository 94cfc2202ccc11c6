/- Eq Sz in one text: what each says stands at its head below. -/
import Derived.Test.YtcbapclpopbjbaaDoorG01
/- The walks of the laws' comparing functions: two readings of one datum are equal. -/
namespace Go.Proofs.YtcbapclpopbjbaaDoor
open Go.RowKit

theorem eqI_cells (X : Nat → Int) (n b off c b' off' c' : Nat) (w : World) (hm : n ≤ 9223372036854775807)
    (hx : ∀ i, i < n → w.cell? ⟨b, off + i, none⟩ = some (.int .i64 (X i)))
    (hy : ∀ i, i < n → w.cell? ⟨b', off' + i, none⟩ = some (.int .i64 (X i))) :
    Calls Tryd.prog 37 #[.slice (some ⟨b, off, none⟩) n c, .slice (some ⟨b', off', none⟩) n c'] w fun e w' =>
      e = .returned (.bool true) ∧ ∃ q, w' = w.drewN q := by
  go_enter Tryd.func37, Tryd.ntmps37
  go_wp2
  go_loopw [5] (fun i wr => ∃ k q : Nat, k ≤ n ∧ i = .int .i64 k ∧ wr = w.drewN q) (fun i _ => n - (intOf i).toNat)
  case atStart => exact ⟨0, 0, Nat.zero_le _, rfl, rfl⟩
  case round =>
    obtain ⟨k, q, hk, rfl, rfl⟩ := hrel
    by_cases hlt : k < n
    · have g1 := hx k hlt
      have g2 := hy k hlt
      go_wp2
      go_quiet (fail)
      go_wp2
      go_roundw
      case rel => exact ⟨k + 1, _, by omega, by go_num, rfl⟩
      case measure => simp [intOf]; omega
    · go_wp2
      go_ret
      exact ⟨rfl, _, rfl⟩

theorem eqI_none (ao ao' : Option Addr) (c c' : Nat) (w : World) :
    Calls Tryd.prog 37 #[.slice ao 0 c, .slice ao' 0 c'] w fun e w' => e = .returned (.bool true) ∧ ∃ q, w' = w.drewN q := by
  go_enter Tryd.func37, Tryd.ntmps37
  go_wp2
  go_loopw [5] (fun i wr => i = .int .i64 0 ∧ wr = w) (fun _ _ => 0)
  case atStart => exact ⟨rfl, rfl⟩
  case round =>
    obtain ⟨rfl, rfl⟩ := hrel
    go_wp2
    go_ret
    exact ⟨rfl, 0, rfl⟩

/-- 'eqInt64S' of two readings of one list. -/
theorem eqI {S T : Nat → Prop} {w : World} {u v : Value} {xs : List Int} (hu : RdI S w u xs) (hv : RdI T w v xs) :
    Calls Tryd.prog 37 #[u, v] w fun e w' => e = .returned (.bool true) ∧ ∃ q, w' = w.drewN q := by
  obtain ⟨ao, c, rfl, hm, h⟩ := hu
  obtain ⟨ao', c', rfl, _, h'⟩ := hv
  cases xs with
  | nil => exact eqI_none _ _ _ _ _
  | cons x xs =>
    obtain ⟨b, off, rfl, _, hc⟩ := h (by simp)
    obtain ⟨b', off', rfl, _, hc'⟩ := h' (by simp)
    exact eqI_cells (fun i => (x :: xs).getD i 0) _ _ _ _ _ _ _ _ hm hc hc'

end Go.Proofs.YtcbapclpopbjbaaDoor
/- The walks of the laws' functions that reckon sizes. -/
namespace Go.Proofs.YtcbapclpopbjbaaDoor
open Go.RowKit

/-- What is left of 'left' behind s; -1 where it does not suffice. -/
def szv (left s : Int) : Int := if s ≤ left then left - s else -1
theorem szv_yes {left s : Int} (h : s ≤ left) : szv left s = left - s := by unfold szv; rw [if_pos h]
theorem szv_no {left s : Int} (h : left < s) : szv left s = -1 := by unfold szv; rw [if_neg (by omega)]

/-- How many words the first i puts hold. -/
def totW (ps : List (Int × List Int)) (i : Nat) : Nat := ((ps.take i).map fun p => p.2.length).sum
theorem totW_zero (ps : List (Int × List Int)) : totW ps 0 = 0 := by simp [totW]
theorem totW_succ (ps : List (Int × List Int)) (i : Nat) (h : i < ps.length) : totW ps (i + 1) = totW ps i + (ps.getD i (0, [])).2.length := by
  unfold totW
  rw [List.take_succ_eq_append_getElem h]
  simp only [List.map_append, List.sum_append, List.map_cons, List.map_nil, List.sum_cons, List.sum_nil]
  simp [List.getD, h]
theorem totW_le (ps : List (Int × List Int)) : ∀ (i j : Nat), i ≤ j → totW ps i ≤ totW ps j := by
  intro i j h
  unfold totW
  have : ps.take j = ps.take i ++ (ps.drop i).take (j - i) := by
    rw [← List.take_add]; congr 1; omega
  rw [this]; simp
theorem totP_eq (ps : List (Int × List Int)) : ∀ j, j ≤ ps.length → totP ps j = totW ps j + j := by
  intro j
  induction j with
  | zero => intro _; simp [totP, totW]
  | succ j ih => intro h; rw [totP_succ ps j h, totW_succ ps j h, ih (by omega)]; omega

theorem szI (n c : Nat) (ao : Option Addr) (left : Int) (w : World) (hn : n ≤ 9223372036854775807) (h0 : 0 ≤ left) (h1 : left ≤ 1048576) :
    Calls Tryd.prog 28 #[.slice ao n c, .int .i64 left] w fun e w' => e = .returned (.int .i64 (szv left n)) ∧ w' = w := by
  by_cases h : (n : Int) ≤ left
  · rw [szv_yes h]
    go_enter Tryd.func28, Tryd.ntmps28
    go_wp2
    go_ret
    exact ⟨rfl, rfl⟩
  · rw [szv_no (by omega)]
    go_enter Tryd.func28, Tryd.ntmps28
    go_wp2
    go_ret
    exact ⟨rfl, rfl⟩

theorem szI' {S : Nat → Prop} {w : World} {v : Value} {xs : List Int} {left : Int} {m : Nat} (hv : RdI S w v xs) (hl : xs.length = m) (h0 : 0 ≤ left) (h1 : left ≤ 1048576) :
    Calls Tryd.prog 28 #[v, .int .i64 left] w fun e w' => e = .returned (.int .i64 (szv left (m : Int))) ∧ Below w.heap.size w w' := by
  obtain ⟨ao, c, rfl, hm, _⟩ := hv
  subst hl
  exact (szI _ _ _ _ _ hm h0 h1).mono fun e w' ⟨he, hw⟩ => ⟨he, hw ▸ Below.refl _ _⟩

/-- How much a disk holds. -/
def szD (xss : List (List Int)) (ps : List (Int × List Int)) : Int := (xss.length : Int) + (tot xss xss.length : Int) + ((ps.length : Int) + (totW ps ps.length : Int))

end Go.Proofs.YtcbapclpopbjbaaDoor
