/- What is small enough to be copied; a disk that lies in blocks of its own. -/
import Derived.Test.YtcbapclpopbjbaaDoorSz
import Derived.Test.YtcbapclpopbjbaaDoorTo
namespace Go.Proofs.YtcbapclpopbjbaaDoor
open Go.RowKit

theorem len_le_tot (xss : List (List Int)) (i : Nat) (h : i < xss.length) : (xss.getD i []).length ≤ tot xss xss.length := by
  have h1 := tot_succ xss i h
  have h2 := tot_le xss (i + 1) xss.length h
  omega
theorem len_le_totW (ps : List (Int × List Int)) (i : Nat) (h : i < ps.length) : (ps.getD i (0, [])).2.length ≤ totW ps ps.length := by
  have h1 := totW_succ ps i h
  have h2 := totW_le ps (i + 1) ps.length h
  omega

/-- What is small enough to be copied. -/
structure Small (xss : List (List Int)) (ps : List (Int × List Int)) : Prop where
  rows : xss.length ≤ 1048576
  row : ∀ i, i < xss.length → (xss.getD i []).length ≤ 1048576
  puts : ps.length ≤ 1048576
  put : ∀ i, i < ps.length → (ps.getD i (0, [])).2.length ≤ 1048576
  all : tot xss xss.length + totW ps ps.length ≤ 1048576

theorem Small.of {xss : List (List Int)} {ps : List (Int × List Int)} (h : szD xss ps ≤ 1048576) : Small xss ps := by
  unfold szD at h
  exact ⟨by omega, fun i hi => by have := len_le_tot xss i hi; omega, by omega, fun i hi => by have := len_le_totW ps i hi; omega, by omega⟩

theorem OwD.rdII {B : Nat} {w : World} {u v : Value} {xss : List (List Int)} {ps : List (Int × List Int)} (h : OwD B w u v xss ps) : RdII (fun b => B ≤ b ∧ b < w.heap.size) w u xss := by
  obtain ⟨S, T, h1, h2, h3, h4, h5⟩ := h
  exact (h4.mono h1).rd
theorem OwD.rdP {B : Nat} {w : World} {u v : Value} {xss : List (List Int)} {ps : List (Int × List Int)} (h : OwD B w u v xss ps) : RdP (fun b => B ≤ b ∧ b < w.heap.size) w v ps := by
  obtain ⟨S, T, h1, h2, h3, h4, h5⟩ := h
  exact (h5.mono h2).rd
theorem OwD.shape {B : Nat} {w : World} {u v : Value} {xss : List (List Int)} {ps : List (Int × List Int)} (h : OwD B w u v xss ps) : ∃ ao c ao' c', u = .slice ao xss.length c ∧ v = .slice ao' ps.length c' := by
  obtain ⟨S, T, h1, h2, h3, h4, h5⟩ := h
  obtain ⟨ao, c, rfl⟩ := h4.shape
  obtain ⟨ao', c', rfl⟩ := h5.shape
  exact ⟨_, _, _, _, rfl, rfl⟩
end Go.Proofs.YtcbapclpopbjbaaDoor
