/- Cp1 in one text: what each says stands at its head below. -/
import Derived.Test.YtehamhldnpngiaaDoorG36
import Derived.Test.YtehamhldnpngiaaDoorG39
/- Chapter 10: what is at an index of a log, the fault of a store with data, a store with another snapshot: the program's side. Made by program (gencp.py). -/
namespace Go.Proofs.YtehamhldnpngiaaDoor
open Go.RowKit

/-- The variables of 'at' as they were made. -/
structure AtV (w wr : World) (f : Int) (s : Value) : Prop where
  below : Below w.heap.size w wr
  l : Var2 wr w.heap.size (.int .i64 f) s
  r : Var3 wr (w.heap.size + 1) (.int .i64 0) (.int .i64 0) (.slice none 0 0)
  i : Var3 wr (w.heap.size + 2) (.int .i64 0) (.int .i64 0) (.slice none 0 0)
  fr : ∀ o, wr.frozen? ⟨w.heap.size + 1, o, none⟩ = false
theorem AtV.later {w wr w1 : World} {f : Int} {s : Value} (h : AtV w wr f s) (hb : Below wr.heap.size wr w1) : AtV w w1 f s :=
  ⟨below_on h.below hb, h.l.later hb, h.r.later hb, h.i.later hb, fun o => ((bcell hb).2 _ _ h.r.lt).trans (h.fr o)⟩
theorem AtV.start (w : World) (f : Int) (s : Value) : AtV w (((w.alloc (.cells #[.int .i64 f, s] 62)).alloc (.cells #[.int .i64 0, .int .i64 0, .slice none 0 0] 55)).alloc (.cells #[.int .i64 0, .int .i64 0, .slice none 0 0] 55)) f s := by
  refine ⟨below_on (below_on (below_alloc _ _) (below_alloc _ _)) (below_alloc _ _), ?_, ?_, ?_, fun o => by simp [go_sem]⟩
  · refine ⟨?_, ?_⟩ <;> simp [go_sem]
  · refine ⟨?_, ?_, ?_⟩ <;> simp [go_sem]
  · refine ⟨?_, ?_, ?_⟩ <;> simp [go_sem]
theorem AtV.shut {w wr : World} {f : Int} {s : Value} (h : AtV w wr f s) (x y z : Value) : Below w.heap.size w (((wr.setCell ⟨w.heap.size + 1, 0, none⟩ x).setCell ⟨w.heap.size + 1, 1, none⟩ y).setCell ⟨w.heap.size + 1, 2, none⟩ z) :=
  ((h.below.setCell (p := ⟨w.heap.size + 1, 0, none⟩) (Nat.le_succ _) _).setCell (p := ⟨w.heap.size + 1, 1, none⟩) (Nat.le_succ _) _).setCell (p := ⟨w.heap.size + 1, 2, none⟩) (Nat.le_succ _) _

set_option maxHeartbeats 2000000 in
theorem atLoE (f i : Int) (ao : Option Addr) (n c : Nat) (h : i < f) (w : World) : Calls Tryd.prog 47 #[.agg #[.int .i64 f, .slice ao n c], .int .i64 i] w fun e w' => e = .returned (.tuple #[.agg #[.int .i64 0, .int .i64 0, .slice none 0 0], .iface 91 (.agg #[.int .i64 f])]) ∧ Below w.heap.size w w' := by
  have HE := hide (reachLoE f i ao n c h)
  clear h
  have AA := hide (AtV.start w f (.slice ao n c))
  obtain ⟨W, hW⟩ : ∃ W, (((w.alloc (.cells #[.int .i64 f, .slice ao n c] 62)).alloc (.cells #[.int .i64 0, .int .i64 0, .slice none 0 0] 55)).alloc (.cells #[.int .i64 0, .int .i64 0, .slice none 0 0] 55)) = W := ⟨_, rfl⟩
  rw [hW] at AA
  obtain ⟨_, ⟨l0, l1⟩, ⟨r0, r1, r2⟩, ⟨i0, i1, i2⟩, F⟩ := AA.out
  have f0 := F 0
  have f1 := F 1
  have f2 := F 2
  clear F
  go_enter Tryd.func47, Tryd.ntmps47
  go_wp2_with fail
  clear hW
  refine (HE.out _).mono ?_
  rintro e w1 ⟨rfl, hb⟩
  have AB := hide (AA.out.later hb)
  clear hb
  clear l0 l1 r0 r1 r2 i0 i1 i2 f0 f1 f2
  obtain ⟨_, ⟨l0, l1⟩, ⟨r0, r1, r2⟩, ⟨i0, i1, i2⟩, F⟩ := AB.out
  have f0 := F 0
  have f1 := F 1
  have f2 := F 2
  clear F
  have hne := run_neq_iface_nilR (P := Tryd.prog) w1 91 (.agg #[.int .i64 f]) Tryd.underlying73
  go_wp2
  refine bodyPost_ret (v := .tuple #[.agg #[.int .i64 0, .int .i64 0, .slice none 0 0], .iface 91 (.agg #[.int .i64 f])]) (by simp [results, Tryd.results47, go_sem, r0, r1, r2]) rfl ⟨rfl, AB.out.shut _ _ _⟩
set_option maxHeartbeats 4000000 in
theorem atHiE (f i : Int) (ao : Option Addr) (n c : Nat) (h0 : 0 ≤ f) (h1 : f ≤ 10000) (h2 : n ≤ 100) (h : f + n ≤ i) (w : World) (a : Addr) (ha : w.cell? ⟨0, 0, none⟩ = some (.iface 128 (.pointer (some a)))) : Calls Tryd.prog 47 #[.agg #[.int .i64 f, .slice ao n c], .int .i64 i] w fun e w' => e = .returned (.tuple #[.agg #[.int .i64 0, .int .i64 0, .slice none 0 0], .iface 128 (.pointer (some a))]) ∧ Below w.heap.size w w' := by
  have AA := hide (AtV.start w f (.slice ao n c))
  obtain ⟨W, hW⟩ : ∃ W, (((w.alloc (.cells #[.int .i64 f, .slice ao n c] 62)).alloc (.cells #[.int .i64 0, .int .i64 0, .slice none 0 0] 55)).alloc (.cells #[.int .i64 0, .int .i64 0, .slice none 0 0] 55)) = W := ⟨_, rfl⟩
  rw [hW] at AA
  have hac := cell_later AA.out.below ha
  by_cases hh : f + n < i
  · have HE := hide (reachHiE f i ao n c h0 h1 h2 hh W a hac)
    clear h h0 h1 h2 hh ha hac
    obtain ⟨_, ⟨l0, l1⟩, ⟨r0, r1, r2⟩, ⟨i0, i1, i2⟩, F⟩ := AA.out
    have f0 := F 0
    have f1 := F 1
    have f2 := F 2
    clear F
    go_enter Tryd.func47, Tryd.ntmps47
    go_wp2_with fail
    clear hW
    refine HE.out.mono ?_
    rintro e w1 ⟨rfl, hb⟩
    have AB := hide (AA.out.later hb)
    clear hb
    clear l0 l1 r0 r1 r2 i0 i1 i2 f0 f1 f2
    obtain ⟨_, ⟨l0, l1⟩, ⟨r0, r1, r2⟩, ⟨i0, i1, i2⟩, F⟩ := AB.out
    have f0 := F 0
    have f1 := F 1
    have f2 := F 2
    clear F
    have hne := run_neq_iface_nilR (P := Tryd.prog) w1 128 (.pointer (some a)) Tryd.underlying73
    go_wp2
    refine bodyPost_ret (v := .tuple #[.agg #[.int .i64 0, .int .i64 0, .slice none 0 0], .iface 128 (.pointer (some a))]) (by simp [results, Tryd.results47, go_sem, r0, r1, r2]) rfl ⟨rfl, AB.out.shut _ _ _⟩
  · have he : i = f + n := by omega
    subst he
    have HE := hide (reachInE f (f + n) ao n c h0 h1 h2 (by omega) (by omega))
    have HN := hide (endE f ao n c h0 h1 h2)
    obtain ⟨s, hs⟩ : ∃ s, f + (n : Int) = s := ⟨_, rfl⟩
    rw [hs] at HE HN ⊢
    have HAc := hide hac
    clear h h0 h1 h2 hh hs ha hac
    obtain ⟨_, ⟨l0, l1⟩, ⟨r0, r1, r2⟩, ⟨i0, i1, i2⟩, F⟩ := AA.out
    have f0 := F 0
    have f1 := F 1
    have f2 := F 2
    clear F
    go_enter Tryd.func47, Tryd.ntmps47
    go_wp2_with fail
    clear hW
    refine (HE.out _).mono ?_
    rintro e w1 ⟨rfl, hb⟩
    have AB := hide (AA.out.later hb)
    have HBc := hide (cell_later hb HAc.out)
    clear hb
    clear l0 l1 r0 r1 r2 i0 i1 i2 f0 f1 f2
    obtain ⟨_, ⟨l0, l1⟩, ⟨r0, r1, r2⟩, ⟨i0, i1, i2⟩, F⟩ := AB.out
    have f0 := F 0
    have f1 := F 1
    have f2 := F 2
    clear F
    have hne := run_neq_nil_nilR (P := Tryd.prog) w1 Tryd.underlying73
    go_wp2_with fail
    refine (HN.out _).mono ?_
    rintro e w2 ⟨rfl, hb⟩
    have AC := hide (AB.out.later hb)
    have g2 := cell_later hb HBc.out
    clear hb hne
    clear l0 l1 r0 r1 r2 i0 i1 i2 f0 f1 f2
    obtain ⟨_, ⟨l0, l1⟩, ⟨r0, r1, r2⟩, ⟨i0, i1, i2⟩, F⟩ := AC.out
    have f0 := F 0
    have f1 := F 1
    have f2 := F 2
    clear F
    go_wp2_with fail
    go_region
    all_goals go_wp2
    all_goals refine bodyPost_ret (v := .tuple #[.agg #[.int .i64 0, .int .i64 0, .slice none 0 0], .iface 128 (.pointer (some a))]) (by simp [results, Tryd.results47, go_sem, r0, r1, r2]) rfl ⟨rfl, ?_⟩
    all_goals exact below_on (AC.out.shut _ _ _) (below_drewN _ 1)
set_option maxHeartbeats 4000000 in
theorem atInE {S : Nat → Prop} {w : World} {ao : Option Addr} {n c : Nat} {ps : List Oj} (f i : Int) (j : Nat) (hv : RdJ S w (.slice ao n c) ps) (hn : ps.length = n) (h0 : 0 ≤ f) (h1 : f ≤ 10000) (h2 : n ≤ 100) (hij : i - f = (j : Int)) (hjn : j < n) :
    Calls Tryd.prog 47 #[.agg #[.int .i64 f, .slice ao n c], .int .i64 i] w fun e w' => ∃ q k d, e = .returned (.tuple #[.agg #[.int .i64 (ps.getD j oj0).1, .int .i64 (ps.getD j oj0).2.1, .slice q k d], .nilIface]) ∧ Below w.heap.size w w' := by
  obtain ⟨bb, off, rfl, y0, q0, q1, q2, q3⟩ := hv.file (k := j) (by omega)
  obtain ⟨a3, c3, rfl⟩ := q3.shape
  obtain ⟨x, hx⟩ : ∃ x, (ps.getD j oj0).1 = x := ⟨_, rfl⟩
  obtain ⟨t, ht⟩ : ∃ t, (ps.getD j oj0).2.1 = t := ⟨_, rfl⟩
  obtain ⟨l3, hl3⟩ : ∃ l, (ps.getD j oj0).2.2.length = l := ⟨_, rfl⟩
  rw [hx] at q0 ⊢
  rw [ht] at q1 ⊢
  rw [hl3] at q2
  clear hx ht hl3 q3 hv hn
  have HE := hide (reachInE f i (some ⟨bb, off, none⟩) n c h0 h1 h2 (by omega) (by omega))
  have HN := hide (endE f (some ⟨bb, off, none⟩) n c h0 h1 h2)
  have hwr : IntKind.i64.wrap (i - f) = (j : Int) := by rw [hij]; simp [IntKind.wrap, IntKind.bits, IntKind.signed]; omega
  have hj1 : (j : Int) < (n : Int) := by omega
  have hj0 : (0 : Int) ≤ (j : Int) := by omega
  obtain ⟨s, hs⟩ : ∃ s, f + (n : Int) = s := ⟨_, rfl⟩
  rw [hs] at HN
  have hne : (i == s) = false := by simp; omega
  have hned : decide (i = s) = false := by simp; omega
  have AA := hide (AtV.start w f (.slice (some ⟨bb, off, none⟩) n c))
  obtain ⟨W, hW⟩ : ∃ W, (((w.alloc (.cells #[.int .i64 f, .slice (some ⟨bb, off, none⟩) n c] 62)).alloc (.cells #[.int .i64 0, .int .i64 0, .slice none 0 0] 55)).alloc (.cells #[.int .i64 0, .int .i64 0, .slice none 0 0] 55)) = W := ⟨_, rfl⟩
  rw [hW] at AA
  have G0 := hide (cell_later AA.out.below q0)
  have G1 := hide (cell_later AA.out.below q1)
  have G2 := hide (cell_later AA.out.below q2)
  clear q0 q1 q2 hs h0 h1 h2 hij
  obtain ⟨_, ⟨l0, l1⟩, ⟨r0, r1, r2⟩, ⟨i0, i1, i2⟩, F⟩ := AA.out
  have f0 := F 0
  have f1 := F 1
  have f2 := F 2
  clear F
  go_enter Tryd.func47, Tryd.ntmps47
  go_wp2_with fail
  clear hW
  refine (HE.out _).mono ?_
  rintro e w1 ⟨rfl, hb⟩
  have AB := hide (AA.out.later hb)
  have B0 := hide hb
  clear hb
  clear l0 l1 r0 r1 r2 i0 i1 i2 f0 f1 f2
  obtain ⟨_, ⟨l0, l1⟩, ⟨r0, r1, r2⟩, ⟨i0, i1, i2⟩, F⟩ := AB.out
  have f0 := F 0
  have f1 := F 1
  have f2 := F 2
  clear F
  have hnn := run_neq_nil_nilR (P := Tryd.prog) w1 Tryd.underlying73
  go_wp2_with fail
  refine (HN.out _).mono ?_
  rintro e w2 ⟨rfl, hb⟩
  have AC := hide (AB.out.later hb)
  have g0 := cell_later hb (cell_later B0.out G0.out)
  have g1 := cell_later hb (cell_later B0.out G1.out)
  have g2 := cell_later hb (cell_later B0.out G2.out)
  clear hb hnn
  clear l0 l1 r0 r1 r2 i0 i1 i2 f0 f1 f2
  obtain ⟨_, ⟨l0, l1⟩, ⟨r0, r1, r2⟩, ⟨i0, i1, i2⟩, F⟩ := AC.out
  have f0 := F 0
  have f1 := F 1
  have f2 := F 2
  clear F
  go_wp2
  refine bodyPost_ret (v := .tuple #[.agg #[.int .i64 x, .int .i64 t, .slice a3 l3 c3], .nilIface]) (by simp [results, Tryd.results47, go_sem, r0, r1, r2]) rfl ⟨_, _, _, rfl, AC.out.shut _ _ _⟩
end Go.Proofs.YtehamhldnpngiaaDoor
