/- Ef1 in one text: what each says stands at its head below. -/
import Derived.Test.YtehamhldnpngiaaDoorG17
import Derived.Test.YtehamhldnpngiaaDoorG27
import Derived.Test.YtehamhldnpngiaaDoorG26
import Derived.Test.YtehamhldnpngiaaDoorG35
/- Chapter 10: a log as a list that begins at an index: its end, what is in reach, what is from an index on. -/
namespace Go.Proofs.YtehamhldnpngiaaDoor
open Go.RowKit

theorem endE (f : Int) (ao : Option Addr) (n c : Nat) (h0 : 0 ≤ f) (h1 : f ≤ 10000) (h2 : n ≤ 100) (w : World) :
    Calls Tryd.prog 68 #[.agg #[.int .i64 f, .slice ao n c]] w fun e w' => e = .returned (.int .i64 (f + n)) ∧ Below w.heap.size w w' := by
  have hw : IntKind.i64.wrap (f + (n : Int)) = f + n := by simp [IntKind.wrap, IntKind.bits, IntKind.signed]; omega
  go_enter Tryd.func68, Tryd.ntmps68
  go_wp2
  go_ret
  exact ⟨rfl, below_alloc _ _⟩
theorem reachLoE (f i : Int) (ao : Option Addr) (n c : Nat) (h : i < f) (w : World) :
    Calls Tryd.prog 67 #[.agg #[.int .i64 f, .slice ao n c], .int .i64 i] w fun e w' => e = .returned (.iface 91 (.agg #[.int .i64 f])) ∧ Below w.heap.size w w' := by
  go_enter Tryd.func67, Tryd.ntmps67
  go_wp2
  go_ret
  exact ⟨rfl, below_alloc _ _⟩
set_option maxHeartbeats 1000000 in
theorem reachHiE (f i : Int) (ao : Option Addr) (n c : Nat) (h0 : 0 ≤ f) (h1 : f ≤ 10000) (h2 : n ≤ 100) (h : f + n < i) (w : World) (a : Addr) (ha : w.cell? ⟨0, 0, none⟩ = some (.iface 128 (.pointer (some a)))) :
    Calls Tryd.prog 67 #[.agg #[.int .i64 f, .slice ao n c], .int .i64 i] w fun e w' => e = .returned (.iface 128 (.pointer (some a))) ∧ Below w.heap.size w w' := by
  have HE := hide (endE f ao n c h0 h1 h2)
  have hl : ¬ i < f := by omega
  obtain ⟨s, hs⟩ : ∃ s, f + (n : Int) = s := ⟨_, rfl⟩
  rw [hs] at HE h
  have BA := hide (below_alloc w (.cells #[.int .i64 f, .slice ao n c] 62))
  clear hs h0 h1 h2
  go_enter Tryd.func67, Tryd.ntmps67
  go_wp2_with fail
  refine (HE.out _).mono ?_
  rintro e w1 ⟨rfl, hb⟩
  have g := cell_later (below_on BA.out hb) ha
  have BB := hide (below_on BA.out hb)
  clear hb
  go_wp2
  go_ret
  exact ⟨rfl, BB.out⟩
set_option maxHeartbeats 1000000 in
theorem reachInE (f i : Int) (ao : Option Addr) (n c : Nat) (h0 : 0 ≤ f) (h1 : f ≤ 10000) (h2 : n ≤ 100) (h3 : f ≤ i) (h : i ≤ f + n) (w : World) :
    Calls Tryd.prog 67 #[.agg #[.int .i64 f, .slice ao n c], .int .i64 i] w fun e w' => e = .returned .nilIface ∧ Below w.heap.size w w' := by
  have HE := hide (endE f ao n c h0 h1 h2)
  have hl : ¬ i < f := by omega
  obtain ⟨s, hs⟩ : ∃ s, f + (n : Int) = s := ⟨_, rfl⟩
  rw [hs] at HE h
  have hr : ¬ s < i := by omega
  have BA := hide (below_alloc w (.cells #[.int .i64 f, .slice ao n c] 62))
  clear hs h0 h1 h2 h
  go_enter Tryd.func67, Tryd.ntmps67
  go_wp2_with fail
  refine (HE.out _).mono ?_
  rintro e w1 ⟨rfl, hb⟩
  have BB := hide (below_on BA.out hb)
  clear hb
  go_wp2
  go_ret
  exact ⟨rfl, BB.out⟩
/-- Where a part of a row of entries begins. -/
def slE (ao : Option Addr) (c i : Nat) : Option Addr := if c = i then ao else ao.map (fun x => x.add (i * 3))
theorem RdJ.fromE {S : Nat → Prop} {w : World} {ao : Option Addr} {n c : Nat} {gs : List Oj} (h : RdJ S w (.slice ao n c) gs) (i : Nat) (hi : i ≤ n) (hc : n ≤ c) : RdJ S w (.slice (slE ao c i) (n - i) (c - i)) (gs.drop i) := by
  obtain ⟨ao', c', e1, e2, e3⟩ := h
  injection e1 with e1 e4 e5
  subst e1 e4 e5
  have hl : (gs.drop i).length = gs.length - i := by simp
  refine ⟨slE ao c i, c - i, by rw [hl], by rw [hl]; omega, fun hne => ?_⟩
  have hlt : i < gs.length := by
    have := List.length_pos_iff.2 hne
    rw [hl] at this; omega
  obtain ⟨b, off, V, f1, f2, f3⟩ := e3 (by rintro rfl; simp at hlt)
  refine ⟨b, off + i * 3, fun j => V (i + j), ?_, f2, fun j hj => ?_⟩
  · unfold slE
    rw [if_neg (by omega), f1]
    simp [Addr.add_lit]
  · rw [hl] at hj
    have e : (gs.drop i).getD j oj0 = gs.getD (i + j) oj0 := by simp [List.getD, List.getElem?_drop]
    have ea : off + i * 3 + j * 3 = off + (i + j) * 3 := by omega
    rw [e, ea]
    exact f3 (i + j) (by omega)
theorem RdJ.uptoE {S : Nat → Prop} {w : World} {ao : Option Addr} {n c : Nat} {gs : List Oj} (h : RdJ S w (.slice ao n c) gs) (m : Nat) (hm : m ≤ n) : RdJ S w (.slice ao m c) (gs.take m) := by
  obtain ⟨ao', c', e1, e2, e3⟩ := h
  injection e1 with e1 e4 e5
  subst e1 e4
  have hl : (gs.take m).length = m := by simp; omega
  refine ⟨ao, c, by rw [hl], by rw [hl]; omega, fun hne => ?_⟩
  obtain ⟨b, off, V, f1, f2, f3⟩ := e3 (by rintro rfl; simp at hne)
  refine ⟨b, off, V, f1, f2, fun j hj => ?_⟩
  rw [hl] at hj
  have e : (gs.take m).getD j oj0 = gs.getD j oj0 := by simp [List.getD, hj]
  rw [e]
  exact f3 j (by omega)
theorem logOfE (a b c d : Int) (ay az : Option Addr) (l cy m cz : Nat) (h0 : 0 ≤ c) (h1 : c ≤ 9999) (w : World) :
    Calls Tryd.prog 30 #[.agg #[.int .i64 a, .int .i64 b, .int .i64 c, .int .i64 d, .slice ay l cy, .slice az m cz]] w fun e w' => e = .returned (.agg #[.int .i64 (c + 1), .slice az m cz]) ∧ Below w.heap.size w w' := by
  have e1 : IntKind.i64.wrap (c + 1) = c + 1 := by simp [IntKind.wrap, IntKind.bits, IntKind.signed]; omega
  go_enter Tryd.func30, Tryd.ntmps30
  go_wp2
  refine bodyPost_ret (v := .agg #[.int .i64 (c + 1), .slice az m cz]) (by simp [results, Tryd.results30, go_sem]) rfl ⟨rfl, ?_⟩
  repeat (first | refine Below.setCell ?_ (by simp) _ | exact below_on (below_alloc _ _) (below_alloc _ _))
end Go.Proofs.YtehamhldnpngiaaDoor
