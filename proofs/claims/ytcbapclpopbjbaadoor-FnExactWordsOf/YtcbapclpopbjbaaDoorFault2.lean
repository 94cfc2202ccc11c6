/- 'DiskFault' of the program and of the model, walked. -/
import Derived.Test.YtcbapclpopbjbaaDoorFault
namespace Go.Proofs.YtcbapclpopbjbaaDoor
open Go.RowKit
theorem RdII.at {S : Nat → Prop} {w : World} {ao : Option Addr} {n c : Nat} {xss : List (List Int)} (h : RdII S w (.slice ao n c) xss) {k : Nat} (hk : k < xss.length) :
    ∃ b off V, ao = some ⟨b, off, none⟩ ∧ w.cell? ⟨b, off + k, none⟩ = some V ∧ RdI S w V (xss.getD k []) := by
  obtain ⟨ao', c', e, _, h3⟩ := h
  injection e with e1 e2 e3
  subst e1
  obtain ⟨b, off, V, rfl, _, hc⟩ := h3 (by rintro rfl; exact absurd hk (Nat.not_lt_zero _))
  exact ⟨b, off, V k, rfl, (hc k hk).1, (hc k hk).2⟩

theorem RdP.at {S : Nat → Prop} {w : World} {ao : Option Addr} {n c : Nat} {ps : List (Int × List Int)} (h : RdP S w (.slice ao n c) ps) {k : Nat} (hk : k < ps.length) :
    ∃ b off V, ao = some ⟨b, off, none⟩ ∧ w.cell? ⟨b, off + k * 2, none⟩ = some (.int .i64 (ps.getD k (0, [])).1) ∧ w.cell? ⟨b, off + k * 2 + 1, none⟩ = some V ∧ RdI S w V (ps.getD k (0, [])).2 := by
  obtain ⟨ao', c', e, _, h3⟩ := h
  injection e with e1 e2 e3
  subst e1
  obtain ⟨b, off, V, rfl, _, hc⟩ := h3 (by rintro rfl; exact absurd hk (Nat.not_lt_zero _))
  exact ⟨b, off, V k, rfl, (hc k hk).1, (hc k hk).2.1, (hc k hk).2.2⟩

theorem RdII.shape {S : Nat → Prop} {w : World} {v : Value} {xss : List (List Int)} (h : RdII S w v xss) : ∃ ao c, v = .slice ao xss.length c ∧ xss.length ≤ 9223372036854775807 := by
  obtain ⟨ao, c, h1, h2, _⟩ := h
  exact ⟨ao, c, h1, h2⟩
theorem RdP.shape {S : Nat → Prop} {w : World} {v : Value} {ps : List (Int × List Int)} (h : RdP S w v ps) : ∃ ao c, v = .slice ao ps.length c ∧ ps.length ≤ 9223372036854775807 := by
  obtain ⟨ao, c, h1, h2, _⟩ := h
  exact ⟨ao, c, h1, h2⟩

end Go.Proofs.YtcbapclpopbjbaaDoor
