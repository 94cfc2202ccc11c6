/- Rt2 in one text: what each says stands at its head below. -/
import Derived.Test.YtehamhldnpngiaaDoorG27
import Derived.Test.YtehamhldnpngiaaDoorG28
/- Chapter 10: a list that begins at an index: its end, what is in reach, what is at an index; the term at an index, of the program and of the model. -/
namespace Go.Proofs.YtehamhldnpngiaaDoor
open Go.RowKit

theorem endI (f : Int) (ao : Option Addr) (n c : Nat) (h0 : 0 ≤ f) (h1 : f ≤ 10000) (h2 : n ≤ 100) (w : World) :
    Calls Tryd.prog 64 #[.agg #[.int .i64 f, .slice ao n c]] w fun e w' => e = .returned (.int .i64 (f + n)) ∧ Below w.heap.size w w' := by
  have hw : IntKind.i64.wrap (f + (n : Int)) = f + n := by simp [IntKind.wrap, IntKind.bits, IntKind.signed]; omega
  go_enter Tryd.func64, Tryd.ntmps64
  go_wp2
  go_ret
  exact ⟨rfl, below_alloc _ _⟩
theorem reachLoI (f i : Int) (ao : Option Addr) (n c : Nat) (h : i < f) (w : World) :
    Calls Tryd.prog 63 #[.agg #[.int .i64 f, .slice ao n c], .int .i64 i] w fun e w' => e = .returned (.iface 91 (.agg #[.int .i64 f])) ∧ Below w.heap.size w w' := by
  go_enter Tryd.func63, Tryd.ntmps63
  go_wp2
  go_ret
  exact ⟨rfl, below_alloc _ _⟩
set_option maxHeartbeats 1000000 in
theorem reachHiI (f i : Int) (ao : Option Addr) (n c : Nat) (h0 : 0 ≤ f) (h1 : f ≤ 10000) (h2 : n ≤ 100) (h : f + n < i) (w : World) (a : Addr) (ha : w.cell? ⟨0, 0, none⟩ = some (.iface 128 (.pointer (some a)))) :
    Calls Tryd.prog 63 #[.agg #[.int .i64 f, .slice ao n c], .int .i64 i] w fun e w' => e = .returned (.iface 128 (.pointer (some a))) ∧ Below w.heap.size w w' := by
  have HE := hide (endI f ao n c h0 h1 h2)
  have hl : ¬ i < f := by omega
  obtain ⟨s, hs⟩ : ∃ s, f + (n : Int) = s := ⟨_, rfl⟩
  rw [hs] at HE h
  have BA := hide (below_alloc w (.cells #[.int .i64 f, .slice ao n c] 76))
  clear hs h0 h1 h2
  go_enter Tryd.func63, Tryd.ntmps63
  go_wp2_with fail
  refine (HE.out _).mono ?_
  rintro e w1 ⟨rfl, hb⟩
  have g := cell_later (below_on BA.out hb) ha
  have BB := hide (below_on BA.out hb)
  clear hb
  go_wp2
  go_ret
  exact ⟨rfl, BB.out⟩
set_option maxHeartbeats 1000000 in
theorem reachInI (f i : Int) (ao : Option Addr) (n c : Nat) (h0 : 0 ≤ f) (h1 : f ≤ 10000) (h2 : n ≤ 100) (h3 : f ≤ i) (h : i ≤ f + n) (w : World) :
    Calls Tryd.prog 63 #[.agg #[.int .i64 f, .slice ao n c], .int .i64 i] w fun e w' => e = .returned .nilIface ∧ Below w.heap.size w w' := by
  have HE := hide (endI f ao n c h0 h1 h2)
  have hl : ¬ i < f := by omega
  obtain ⟨s, hs⟩ : ∃ s, f + (n : Int) = s := ⟨_, rfl⟩
  rw [hs] at HE h
  have hr : ¬ s < i := by omega
  have BA := hide (below_alloc w (.cells #[.int .i64 f, .slice ao n c] 76))
  clear hs h0 h1 h2 h
  go_enter Tryd.func63, Tryd.ntmps63
  go_wp2_with fail
  refine (HE.out _).mono ?_
  rintro e w1 ⟨rfl, hb⟩
  have BB := hide (below_on BA.out hb)
  clear hb
  go_wp2
  go_ret
  exact ⟨rfl, BB.out⟩
theorem run_neq_iface_nilR {P : Program} (w : World) {ti : TypeId} {ms : Array (String × TypeId)} (tp : TypeId) (v : Value) (hi : P.underlying ti = some (.interface ms)) :
    (binOp .neq ti (.iface tp v) .nilIface).run P w = .ok (.bool true) w := by
  have h : ∀ d : Nat, (Op.equalIn (d + 1) ti (.iface tp v) .nilIface).run P w = .ok false w := fun d => by simp [Op.equalIn, run_underlying hi]
  simp only [binOp]
  simp [Op.equal, Op.maxDepth, h 9999]
theorem run_neq_nil_nilR {P : Program} (w : World) {ti : TypeId} {ms : Array (String × TypeId)} (hi : P.underlying ti = some (.interface ms)) :
    (binOp .neq ti .nilIface .nilIface).run P w = .ok (.bool false) w := by
  have h : ∀ d : Nat, (Op.equalIn (d + 1) ti .nilIface .nilIface).run P w = .ok true w := fun d => by simp [Op.equalIn, run_underlying hi]
  simp only [binOp]
  simp [Op.equal, Op.maxDepth, h 9999]
set_option maxHeartbeats 1000000 in
theorem atLoI (f i : Int) (ao : Option Addr) (n c : Nat) (h : i < f) (w : World) :
    Calls Tryd.prog 45 #[.agg #[.int .i64 f, .slice ao n c], .int .i64 i] w fun e w' => e = .returned (.tuple #[.int .i64 0, .iface 91 (.agg #[.int .i64 f])]) ∧ Below w.heap.size w w' := by
  have HE := hide (reachLoI f i ao n c h)
  have BA := hide (below_alloc w (.cells #[.int .i64 f, .slice ao n c] 76))
  clear h
  go_enter Tryd.func45, Tryd.ntmps45
  go_wp2_with fail
  refine (HE.out _).mono ?_
  rintro e w1 ⟨rfl, hb⟩
  have BB := hide (below_on BA.out hb)
  clear hb
  have hne := run_neq_iface_nilR (P := Tryd.prog) w1 91 (.agg #[.int .i64 f]) Tryd.underlying73
  go_wp2
  refine bodyPost_ret (v := .tuple #[.int .i64 0, .iface 91 (.agg #[.int .i64 f])]) (by simp [results, Tryd.results45, go_sem]) rfl ⟨rfl, BB.out⟩
set_option maxHeartbeats 2000000 in
theorem atHiI (f i : Int) (ao : Option Addr) (n c : Nat) (h0 : 0 ≤ f) (h1 : f ≤ 10000) (h2 : n ≤ 100) (h : f + n ≤ i) (w : World) (a : Addr) (ha : w.cell? ⟨0, 0, none⟩ = some (.iface 128 (.pointer (some a)))) :
    Calls Tryd.prog 45 #[.agg #[.int .i64 f, .slice ao n c], .int .i64 i] w fun e w' => e = .returned (.tuple #[.int .i64 0, .iface 128 (.pointer (some a))]) ∧ Below w.heap.size w w' := by
  have BA := hide (below_alloc w (.cells #[.int .i64 f, .slice ao n c] 76))
  have VA := hide (Var2_new w (.int .i64 f) (.slice ao n c) 76)
  have hac := cell_later BA.out ha
  by_cases hh : f + n < i
  · have HE := hide (reachHiI f i ao n c h0 h1 h2 hh _ a hac)
    clear h h0 h1 h2 hh ha hac
    go_enter Tryd.func45, Tryd.ntmps45
    go_wp2_with fail
    refine HE.out.mono ?_
    rintro e w1 ⟨rfl, hb⟩
    have BB := hide (below_on BA.out hb)
    clear hb
    have hne := run_neq_iface_nilR (P := Tryd.prog) w1 128 (.pointer (some a)) Tryd.underlying73
    go_wp2
    refine bodyPost_ret (v := .tuple #[.int .i64 0, .iface 128 (.pointer (some a))]) (by simp [results, Tryd.results45, go_sem]) rfl ⟨rfl, BB.out⟩
  · have he : i = f + n := by omega
    subst he
    have HE := hide (reachInI f (f + n) ao n c h0 h1 h2 (by omega) (by omega))
    have HN := hide (endI f ao n c h0 h1 h2)
    obtain ⟨s, hs⟩ : ∃ s, f + (n : Int) = s := ⟨_, rfl⟩
    rw [hs] at HE HN ⊢
    clear h h0 h1 h2 hh hs
    go_enter Tryd.func45, Tryd.ntmps45
    go_wp2_with fail
    refine (HE.out _).mono ?_
    rintro e w1 ⟨rfl, hb⟩
    have BB := hide (below_on BA.out hb)
    obtain ⟨v0, v1⟩ := VA.out.later hb
    have g := cell_later hb hac
    clear hb
    have hne := run_neq_nil_nilR (P := Tryd.prog) w1 Tryd.underlying73
    go_wp2_with fail
    refine (HN.out _).mono ?_
    rintro e w2 ⟨rfl, hb⟩
    have BC := hide (below_on BB.out hb)
    have g2 := cell_later hb g
    clear hb v0 v1 g
    go_wp2_with fail
    go_quiet (fail)
    go_wp2
    refine bodyPost_ret (v := .tuple #[.int .i64 0, .iface 128 (.pointer (some a))]) (by simp [results, Tryd.results45, go_sem]) rfl ⟨rfl, below_on BC.out (below_drewN _ _)⟩
set_option maxHeartbeats 2000000 in
theorem atInI {S : Nat → Prop} {w : World} {v : Value} {xs : List Int} (f i : Int) (hv : RdI S w v xs) (h0 : 0 ≤ f) (h1 : f ≤ 10000) (h2 : xs.length ≤ 100) (h3 : f ≤ i) (h : i < f + xs.length) :
    Calls Tryd.prog 45 #[.agg #[.int .i64 f, v], .int .i64 i] w fun e w' => e = .returned (.tuple #[.int .i64 (xs.getD (i - f).toNat 0), .nilIface]) ∧ Below w.heap.size w w' := by
  have hxl : (i - f).toNat < xs.length := by omega
  obtain ⟨ao, c, rfl, _, hc⟩ := hv
  obtain ⟨bb, off, rfl, _, hcell⟩ := hc (by intro e; rw [e] at hxl; simp at hxl)
  have g := hcell _ hxl
  obtain ⟨x, hx⟩ : ∃ x, xs.getD (i - f).toNat 0 = x := ⟨_, rfl⟩
  rw [hx] at g ⊢
  have HE := hide (reachInI f i (some ⟨bb, off, none⟩) xs.length (xs.length + c) h0 h1 h2 h3 (by omega))
  have HN := hide (endI f (some ⟨bb, off, none⟩) xs.length (xs.length + c) h0 h1 h2)
  obtain ⟨n, hn⟩ : ∃ n, xs.length = n := ⟨_, rfl⟩
  rw [hn] at HE HN h h2 ⊢
  obtain ⟨j, hj⟩ : ∃ j, (i - f).toNat = j := ⟨_, rfl⟩
  rw [hj] at g
  have hij : i - f = (j : Int) := by omega
  have hwr : IntKind.i64.wrap (i - f) = (j : Int) := by simp [IntKind.wrap, IntKind.bits, IntKind.signed]; omega
  have hjn : (j : Int) < (n : Int) := by omega
  have hj0 : (0 : Int) ≤ (j : Int) := by omega
  obtain ⟨s, hs⟩ : ∃ s, f + (n : Int) = s := ⟨_, rfl⟩
  rw [hs] at HN h
  have hne : (i == s) = false := by simp; omega
  have hned : decide (i = s) = false := by simp; omega
  have BA := hide (below_alloc w (.cells #[.int .i64 f, .slice (some ⟨bb, off, none⟩) n (n + c)] 76))
  have VA := hide (Var2_new w (.int .i64 f) (.slice (some ⟨bb, off, none⟩) n (n + c)) 76)
  have HG := hide g
  clear g hcell hc hx hn hj hs h0 h1 h2 h3 h hxl hij
  go_enter Tryd.func45, Tryd.ntmps45
  go_wp2_with fail
  refine (HE.out _).mono ?_
  rintro e w1 ⟨rfl, hb⟩
  have BB := hide (below_on BA.out hb)
  have VB := hide (VA.out.later hb)
  clear hb
  obtain ⟨v0, v1⟩ := VB.out
  have hnn := run_neq_nil_nilR (P := Tryd.prog) w1 Tryd.underlying73
  go_wp2_with fail
  refine (HN.out _).mono ?_
  rintro e w2 ⟨rfl, hb⟩
  have BC := hide (below_on BB.out hb)
  obtain ⟨u0, u1⟩ := VB.out.later hb
  have g2 := cell_later BC.out HG.out
  clear hb v0 v1
  go_wp2
  refine bodyPost_ret (v := .tuple #[.int .i64 x, .nilIface]) (by simp [results, Tryd.results45, go_sem]) rfl ⟨rfl, BC.out⟩
end Go.Proofs.YtehamhldnpngiaaDoor
