/- Chapter 2, the model's side: 'spec.l2Side', 'spec.HeaderIn', walked. Made by program in part. -/
import Derived.Test.YtkdbkkhmaiomkaaSpec2e
import Derived.Test.YtkdbkkhmaiomkaaBlockAt2
namespace Go.Proofs.Ytkdbkkhmaiomkaa
open Go.RowKit

/-- The header at one of the two blocks, if it belongs there. -/
def sideF (ws : List Int) (at_ : Int) : Int := if unpF ws = 0 then (if unpS ws % 2 = at_ then 0 else 5) else unpF ws
def sideS (ws : List Int) (at_ : Int) : Int := if unpF ws = 0 ∧ unpS ws % 2 ≠ at_ then 0 else unpS ws
def sideT (ws : List Int) (at_ : Int) : Int := if unpF ws = 0 ∧ unpS ws % 2 ≠ at_ then 0 else unpT ws
def sideA (ws : List Int) (at_ : Int) : List Int := if unpF ws = 0 ∧ unpS ws % 2 ≠ at_ then [] else unpA ws

theorem unp_pos {ws : List Int} (h : unpF ws = 0) : 0 ≤ unpS ws := by
  unfold unpS
  rw [if_pos h]
  unfold unpF at h
  split at h
  · split at h
    · rename_i h1 h2
      have := ((okUb_iff ws).1 h2).2.2.1
      have := (headF_zero this).1
      omega
    · exact absurd h (by decide)
  · rename_i h1
    exact absurd h h1
theorem unpA_len (ws : List Int) (hw : ws.length ≤ 1048576) : (unpA ws).length ≤ 1048576 := by
  unfold unpA
  split
  · unfold addrsOf; simp; omega
  · simp
theorem sideA_len (ws : List Int) (at_ : Int) (hw : ws.length ≤ 1048576) : (sideA ws at_).length ≤ 1048576 := by
  unfold sideA
  split
  · simp
  · exact unpA_len ws hw

end Go.Proofs.Ytkdbkkhmaiomkaa
