/- The model's draws: 'spec.l1Next', 'spec.l1Pick', 'spec.l1Source', walked: what they answer is some number in its bounds. -/
import Derived.Test.YtkippafmeggjeaaCopy
namespace Go.Proofs.Ytkippafmeggjeaa
open Go.RowKit

/-- The slice value v reads as the bytes bs; none of them in block s. -/
def RdB (s : Nat) (w : World) (v : Value) (bs : List Nat) : Prop :=
  ∃ (ao : Option Addr) (c : Nat), v = .slice ao bs.length c ∧ bs.length ≤ 2097152 ∧
    (bs ≠ [] → ∃ b off, ao = some ⟨b, off, none⟩ ∧ b ≠ s ∧ ∀ i, i < bs.length → w.cell? ⟨b, off + i, none⟩ = some (.int .u8 ((bs.getD i 0 : Nat) : Int)) ∧ bs.getD i 0 ≤ 255)

/-- A source of draws in block s; t numbers have been drawn. -/
structure Src (s : Nat) (v : Value) (bs : List Nat) (w : World) (t : Nat) : Prop where
  code : w.cell? ⟨s, 0, none⟩ = some v
  at_ : w.cell? ⟨s, 1, none⟩ = some (.int .i64 (t : Int))
  free : ∀ o, w.frozen? ⟨s, o, none⟩ = false
  rd : RdB s w v bs

theorem RdB.wr {s : Nat} {w w' : World} {v : Value} {bs : List Nat} (h : RdB s w v bs) (hw : Wr (· = s) w w') : RdB s w' v bs := by
  obtain ⟨ao, c, e1, e2, e3⟩ := h
  refine ⟨ao, c, e1, e2, fun hne => ?_⟩
  obtain ⟨b, off, f1, f2, f3⟩ := e3 hne
  exact ⟨b, off, f1, f2, fun i hi => ⟨cell_wr hw (f3 i hi).1 f2, (f3 i hi).2⟩⟩

theorem Src.set {s : Nat} {v : Value} {bs : List Nat} {w : World} {t : Nat} (h : Src s v bs w t) : Src s v bs (w.setCell ⟨s, 1, none⟩ (.int .i64 ((t : Int) + 1))) (t + 1) := by
  refine ⟨?_, ?_, fun o => by rw [World.frozen?_setCell]; exact h.free o, h.rd.wr ((Wr.refl (· = s) w).setCell (p := ⟨s, 1, none⟩) rfl _)⟩
  · rw [World.cell?_setCell_other _ _ _ _ (by simp)]; exact h.code
  · rw [World.cell?_setCell_same _ _ _ h.at_]; simp

theorem Src.drewN {s : Nat} {v : Value} {bs : List Nat} {w : World} {t : Nat} (h : Src s v bs w t) (q : Nat) : Src s v bs (w.drewN q) t := ⟨h.code, h.at_, h.free, h.rd⟩
theorem Src.lt {s : Nat} {v : Value} {bs : List Nat} {w : World} {t : Nat} (h : Src s v bs w t) : s < w.heap.size := World.block_lt_of_cell? _ _ h.code
theorem Src.later {s : Nat} {v : Value} {bs : List Nat} {w w' : World} {t : Nat} (h : Src s v bs w t) (hb : Below w.heap.size w w') : Src s v bs w' t := by
  refine ⟨cell_later hb h.code, cell_later hb h.at_, fun o => ((bcell hb).2 _ _ h.lt).trans (h.free o), ?_⟩
  obtain ⟨ao, c, e1, e2, e3⟩ := h.rd
  refine ⟨ao, c, e1, e2, fun hne => ?_⟩
  obtain ⟨b, off, f1, f2, f3⟩ := e3 hne
  exact ⟨b, off, f1, f2, fun i hi => ⟨cell_later hb (f3 i hi).1, (f3 i hi).2⟩⟩

/-- What a draw leaves. -/
def Drawn (N s : Nat) (v : Value) (bs : List Nat) (t t' : Nat) (w w' : World) : Prop := Src s v bs w' t' ∧ Wr (· = s) w w' ∧ t' ≤ t + N

theorem drawn_one {s : Nat} {v : Value} {bs : List Nat} {w : World} {t : Nat} (h : Src s v bs w t) (q : Nat) : Drawn 1 s v bs t (t + 1) w ((w.setCell ⟨s, 1, none⟩ (.int .i64 ((t : Int) + 1))).drewN q) :=
  ⟨h.set.drewN q, ((Wr.refl (· = s) w).setCell (p := ⟨s, 1, none⟩) rfl _).drewN q, Nat.le_refl _⟩

set_option maxHeartbeats 2000000 in
set_option maxRecDepth 4000 in
/-- 'l1Next': some number below n. -/
theorem l1Next {s : Nat} {v : Value} {bs : List Nat} {w : World} {t : Nat} (n : Int) (hS : Src s v bs w t) (ht : t ≤ 1073741824) (hn : n ≤ 1073741824) (hn1 : -1073741824 ≤ n) :
    Calls Try.prog 25 #[.pointer (some ⟨s, 0, none⟩), .int .i64 n] w fun e w' => ∃ r : Int, e = .returned (.int .i64 r) ∧ 0 ≤ r ∧ (1 ≤ n → r < n) ∧ ∃ t', Drawn 1 s v bs t t' w w' := by
  have HS := hide hS
  have c1 := hS.at_
  have c0 := hS.code
  have f1 := hS.free 1
  obtain ⟨ao, c, rfl, hk, hrd⟩ := hS.rd
  have HR := hide hrd
  clear hrd hS
  obtain ⟨k, hk'⟩ : ∃ k, bs.length = k := ⟨_, rfl⟩
  have HK := hide hk'
  rw [hk'] at hk c0 HS ⊢
  clear hk'
  by_cases hlt : n < 1
  · go_enter Try.func25, Try.ntmps25
    go_wp2
    go_ret
    exact ⟨0, rfl, by omega, fun h => by omega, t + 1, drawn_one HS.out 0⟩
  · have hn0 : ¬ n = 0 := by omega
    by_cases hk0 : k = 0
    · subst hk0
      go_enter Try.func25, Try.ntmps25
      go_wp2
      go_ret
      exact ⟨_, rfl, Int.emod_nonneg _ hn0, Int.emod_lt_of_pos _ (by omega), t + 1, drawn_one HS.out 0⟩
    · obtain ⟨b, off, rfl, hbs, hc⟩ := HR.out (by rintro rfl; exact hk0 (by rw [← HK.out]; rfl))
      have hkz : ¬ (k : Int) = 0 := by omega
      have hj : t % k < k := Nat.mod_lt _ (by omega)
      have hj2 : (t + 1) % k < k := Nat.mod_lt _ (by omega)
      obtain ⟨g1, g1b⟩ := hc (t % k) (by rw [HK.out]; exact hj)
      obtain ⟨g2, g2b⟩ := hc ((t + 1) % k) (by rw [HK.out]; exact hj2)
      obtain ⟨j, hje⟩ : ∃ j, t % k = j := ⟨_, rfl⟩
      obtain ⟨j2, hje2⟩ : ∃ j, (t + 1) % k = j := ⟨_, rfl⟩
      obtain ⟨d, hde⟩ : ∃ d, t / k = d := ⟨_, rfl⟩
      have m1 : (t : Int) % (k : Int) = (j : Int) := by omega
      have m2 : ((t : Int) + 1) % (k : Int) = (j2 : Int) := by rw [← hje2]; simp
      have m3 : (t : Int) / (k : Int) = (d : Int) := by omega
      have hd : d ≤ 1073741824 := by rw [← hde]; exact Nat.le_trans (Nat.div_le_self _ _) ht
      rw [hje] at g1 g1b hj
      rw [hje2] at g2 g2b hj2
      obtain ⟨x, hx⟩ : ∃ x, bs.getD j 0 = x := ⟨_, rfl⟩
      obtain ⟨x2, hx2⟩ : ∃ x, bs.getD j2 0 = x := ⟨_, rfl⟩
      rw [hx] at g1 g1b
      rw [hx2] at g2 g2b
      clear hje hje2 hde hx hx2 hc HR
      have hsb : ¬ s = b := fun e => hbs e.symm
      have j1 : (j : Int) < (k : Int) := by omega
      have j3 : (j2 : Int) < (k : Int) := by omega
      by_cases h200 : 200 < n
      · go_enter Try.func25, Try.ntmps25
        go_wp2_with fail
        go_quiet (fail)
        go_wp2_with fail
        go_quiet (fail)
        go_wp2
        go_ret
        exact ⟨_, rfl, Int.emod_nonneg _ hn0, fun _ => Int.emod_lt_of_pos _ (by omega), t + 1, drawn_one HS.out _⟩
      · go_enter Try.func25, Try.ntmps25
        go_wp2_with fail
        go_quiet (fail)
        go_wp2
        go_ret
        exact ⟨_, rfl, Int.emod_nonneg _ hn0, fun _ => Int.emod_lt_of_pos _ (by omega), t + 1, drawn_one HS.out _⟩
end Go.Proofs.Ytkippafmeggjeaa
