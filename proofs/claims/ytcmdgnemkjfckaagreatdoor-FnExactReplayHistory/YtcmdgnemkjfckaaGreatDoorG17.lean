/- Rt2 Hov Sh1 Sh2 in one text: what each says stands at its head below. -/
import Derived.Test.YtcmdgnemkjfckaaGreatDoorG14
import Derived.Test.YtcmdgnemkjfckaaGreatDoorG16
import Derived.Test.YtcmdgnemkjfckaaGreatDoorG12
import Derived.Test.YtcmdgnemkjfckaaGreatDoorG09
import Derived.Test.YtcmdgnemkjfckaaGreatDoorG13
/- Chapter 10: a list that begins at an index: its end, what is in reach, what is at an index; the term at an index, of the program and of the model. -/
namespace Go.Proofs.YtcmdgnemkjfckaaGreatDoor
open Go.RowKit

theorem endI (f : Int) (ao : Option Addr) (n c : Nat) (h0 : 0 ≤ f) (h1 : f ≤ 10000) (h2 : n ≤ 100) (w : World) :
    Calls Tryz.prog 119 #[.agg #[.int .i64 f, .slice ao n c]] w fun e w' => e = .returned (.int .i64 (f + n)) ∧ Below w.heap.size w w' := by
  have hw : IntKind.i64.wrap (f + (n : Int)) = f + n := by simp [IntKind.wrap, IntKind.bits, IntKind.signed]; omega
  go_enter Tryz.func119, Tryz.ntmps119
  go_wp2
  go_ret
  exact ⟨rfl, below_alloc _ _⟩
theorem reachLoI (f i : Int) (ao : Option Addr) (n c : Nat) (h : i < f) (w : World) :
    Calls Tryz.prog 118 #[.agg #[.int .i64 f, .slice ao n c], .int .i64 i] w fun e w' => e = .returned (.iface 152 (.agg #[.int .i64 f])) ∧ Below w.heap.size w w' := by
  go_enter Tryz.func118, Tryz.ntmps118
  go_wp2
  go_ret
  exact ⟨rfl, below_alloc _ _⟩
set_option maxHeartbeats 1000000 in
theorem reachHiI (f i : Int) (ao : Option Addr) (n c : Nat) (h0 : 0 ≤ f) (h1 : f ≤ 10000) (h2 : n ≤ 100) (h : f + n < i) (w : World) (a : Addr) (ha : w.cell? ⟨0, 0, none⟩ = some (.iface 192 (.pointer (some a)))) :
    Calls Tryz.prog 118 #[.agg #[.int .i64 f, .slice ao n c], .int .i64 i] w fun e w' => e = .returned (.iface 192 (.pointer (some a))) ∧ Below w.heap.size w w' := by
  have HE := hide (endI f ao n c h0 h1 h2)
  have hl : ¬ i < f := by omega
  obtain ⟨s, hs⟩ : ∃ s, f + (n : Int) = s := ⟨_, rfl⟩
  rw [hs] at HE h
  have BA := hide (below_alloc w (.cells #[.int .i64 f, .slice ao n c] 148))
  clear hs h0 h1 h2
  go_enter Tryz.func118, Tryz.ntmps118
  go_wp2_with fail
  refine (HE.out _).mono ?_
  rintro e w1 ⟨rfl, hb⟩
  have g := cell_later (below_on BA.out hb) ha
  have BB := hide (below_on BA.out hb)
  clear hb
  go_wp2
  go_ret
  exact ⟨rfl, BB.out⟩
set_option maxHeartbeats 1000000 in
theorem reachInI (f i : Int) (ao : Option Addr) (n c : Nat) (h0 : 0 ≤ f) (h1 : f ≤ 10000) (h2 : n ≤ 100) (h3 : f ≤ i) (h : i ≤ f + n) (w : World) :
    Calls Tryz.prog 118 #[.agg #[.int .i64 f, .slice ao n c], .int .i64 i] w fun e w' => e = .returned .nilIface ∧ Below w.heap.size w w' := by
  have HE := hide (endI f ao n c h0 h1 h2)
  have hl : ¬ i < f := by omega
  obtain ⟨s, hs⟩ : ∃ s, f + (n : Int) = s := ⟨_, rfl⟩
  rw [hs] at HE h
  have hr : ¬ s < i := by omega
  have BA := hide (below_alloc w (.cells #[.int .i64 f, .slice ao n c] 148))
  clear hs h0 h1 h2 h
  go_enter Tryz.func118, Tryz.ntmps118
  go_wp2_with fail
  refine (HE.out _).mono ?_
  rintro e w1 ⟨rfl, hb⟩
  have BB := hide (below_on BA.out hb)
  clear hb
  go_wp2
  go_ret
  exact ⟨rfl, BB.out⟩
theorem run_neq_iface_nilR {P : Program} (w : World) {ti : TypeId} {ms : Array (String × TypeId)} (tp : TypeId) (v : Value) (hi : P.underlying ti = some (.interface ms)) :
    (binOp .neq ti (.iface tp v) .nilIface).run P w = .ok (.bool true) w := by
  have h : ∀ d : Nat, (Op.equalIn (d + 1) ti (.iface tp v) .nilIface).run P w = .ok false w := fun d => by simp [Op.equalIn, run_underlying hi]
  simp only [binOp]
  simp [Op.equal, Op.maxDepth, h 9999]
theorem run_neq_nil_nilR {P : Program} (w : World) {ti : TypeId} {ms : Array (String × TypeId)} (hi : P.underlying ti = some (.interface ms)) :
    (binOp .neq ti .nilIface .nilIface).run P w = .ok (.bool false) w := by
  have h : ∀ d : Nat, (Op.equalIn (d + 1) ti .nilIface .nilIface).run P w = .ok true w := fun d => by simp [Op.equalIn, run_underlying hi]
  simp only [binOp]
  simp [Op.equal, Op.maxDepth, h 9999]
set_option maxHeartbeats 1000000 in
theorem atLoI (f i : Int) (ao : Option Addr) (n c : Nat) (h : i < f) (w : World) :
    Calls Tryz.prog 110 #[.agg #[.int .i64 f, .slice ao n c], .int .i64 i] w fun e w' => e = .returned (.tuple #[.int .i64 0, .iface 152 (.agg #[.int .i64 f])]) ∧ Below w.heap.size w w' := by
  have HE := hide (reachLoI f i ao n c h)
  have BA := hide (below_alloc w (.cells #[.int .i64 f, .slice ao n c] 148))
  clear h
  go_enter Tryz.func110, Tryz.ntmps110
  go_wp2_with fail
  refine (HE.out _).mono ?_
  rintro e w1 ⟨rfl, hb⟩
  have BB := hide (below_on BA.out hb)
  clear hb
  have hne := run_neq_iface_nilR (P := Tryz.prog) w1 152 (.agg #[.int .i64 f]) Tryz.underlying134
  go_wp2
  refine bodyPost_ret (v := .tuple #[.int .i64 0, .iface 152 (.agg #[.int .i64 f])]) (by simp [results, Tryz.results110, go_sem]) rfl ⟨rfl, BB.out⟩
set_option maxHeartbeats 2000000 in
theorem atHiI (f i : Int) (ao : Option Addr) (n c : Nat) (h0 : 0 ≤ f) (h1 : f ≤ 10000) (h2 : n ≤ 100) (h : f + n ≤ i) (w : World) (a : Addr) (ha : w.cell? ⟨0, 0, none⟩ = some (.iface 192 (.pointer (some a)))) :
    Calls Tryz.prog 110 #[.agg #[.int .i64 f, .slice ao n c], .int .i64 i] w fun e w' => e = .returned (.tuple #[.int .i64 0, .iface 192 (.pointer (some a))]) ∧ Below w.heap.size w w' := by
  have BA := hide (below_alloc w (.cells #[.int .i64 f, .slice ao n c] 148))
  have VA := hide (Var2_new w (.int .i64 f) (.slice ao n c) 148)
  have hac := cell_later BA.out ha
  by_cases hh : f + n < i
  · have HE := hide (reachHiI f i ao n c h0 h1 h2 hh _ a hac)
    clear h h0 h1 h2 hh ha hac
    go_enter Tryz.func110, Tryz.ntmps110
    go_wp2_with fail
    refine HE.out.mono ?_
    rintro e w1 ⟨rfl, hb⟩
    have BB := hide (below_on BA.out hb)
    clear hb
    have hne := run_neq_iface_nilR (P := Tryz.prog) w1 192 (.pointer (some a)) Tryz.underlying134
    go_wp2
    refine bodyPost_ret (v := .tuple #[.int .i64 0, .iface 192 (.pointer (some a))]) (by simp [results, Tryz.results110, go_sem]) rfl ⟨rfl, BB.out⟩
  · have he : i = f + n := by omega
    subst he
    have HE := hide (reachInI f (f + n) ao n c h0 h1 h2 (by omega) (by omega))
    have HN := hide (endI f ao n c h0 h1 h2)
    obtain ⟨s, hs⟩ : ∃ s, f + (n : Int) = s := ⟨_, rfl⟩
    rw [hs] at HE HN ⊢
    clear h h0 h1 h2 hh hs
    go_enter Tryz.func110, Tryz.ntmps110
    go_wp2_with fail
    refine (HE.out _).mono ?_
    rintro e w1 ⟨rfl, hb⟩
    have BB := hide (below_on BA.out hb)
    obtain ⟨v0, v1⟩ := VA.out.later hb
    have g := cell_later hb hac
    clear hb
    have hne := run_neq_nil_nilR (P := Tryz.prog) w1 Tryz.underlying134
    go_wp2_with fail
    refine (HN.out _).mono ?_
    rintro e w2 ⟨rfl, hb⟩
    have BC := hide (below_on BB.out hb)
    have g2 := cell_later hb g
    clear hb v0 v1 g
    go_wp2_with fail
    go_quiet (fail)
    go_wp2
    refine bodyPost_ret (v := .tuple #[.int .i64 0, .iface 192 (.pointer (some a))]) (by simp [results, Tryz.results110, go_sem]) rfl ⟨rfl, below_on BC.out (below_drewN _ _)⟩
set_option maxHeartbeats 2000000 in
theorem atInI {S : Nat → Prop} {w : World} {v : Value} {xs : List Int} (f i : Int) (hv : RdI S w v xs) (h0 : 0 ≤ f) (h1 : f ≤ 10000) (h2 : xs.length ≤ 100) (h3 : f ≤ i) (h : i < f + xs.length) :
    Calls Tryz.prog 110 #[.agg #[.int .i64 f, v], .int .i64 i] w fun e w' => e = .returned (.tuple #[.int .i64 (xs.getD (i - f).toNat 0), .nilIface]) ∧ Below w.heap.size w w' := by
  have hxl : (i - f).toNat < xs.length := by omega
  obtain ⟨ao, c, rfl, _, hc⟩ := hv
  obtain ⟨bb, off, rfl, _, hcell⟩ := hc (by intro e; rw [e] at hxl; simp at hxl)
  have g := hcell _ hxl
  obtain ⟨x, hx⟩ : ∃ x, xs.getD (i - f).toNat 0 = x := ⟨_, rfl⟩
  rw [hx] at g ⊢
  have HE := hide (reachInI f i (some ⟨bb, off, none⟩) xs.length (xs.length + c) h0 h1 h2 h3 (by omega))
  have HN := hide (endI f (some ⟨bb, off, none⟩) xs.length (xs.length + c) h0 h1 h2)
  obtain ⟨n, hn⟩ : ∃ n, xs.length = n := ⟨_, rfl⟩
  rw [hn] at HE HN h h2 ⊢
  obtain ⟨j, hj⟩ : ∃ j, (i - f).toNat = j := ⟨_, rfl⟩
  rw [hj] at g
  have hij : i - f = (j : Int) := by omega
  have hwr : IntKind.i64.wrap (i - f) = (j : Int) := by simp [IntKind.wrap, IntKind.bits, IntKind.signed]; omega
  have hjn : (j : Int) < (n : Int) := by omega
  have hj0 : (0 : Int) ≤ (j : Int) := by omega
  obtain ⟨s, hs⟩ : ∃ s, f + (n : Int) = s := ⟨_, rfl⟩
  rw [hs] at HN h
  have hne : (i == s) = false := by simp; omega
  have hned : decide (i = s) = false := by simp; omega
  have BA := hide (below_alloc w (.cells #[.int .i64 f, .slice (some ⟨bb, off, none⟩) n (n + c)] 148))
  have VA := hide (Var2_new w (.int .i64 f) (.slice (some ⟨bb, off, none⟩) n (n + c)) 148)
  have HG := hide g
  clear g hcell hc hx hn hj hs h0 h1 h2 h3 h hxl hij
  go_enter Tryz.func110, Tryz.ntmps110
  go_wp2_with fail
  refine (HE.out _).mono ?_
  rintro e w1 ⟨rfl, hb⟩
  have BB := hide (below_on BA.out hb)
  have VB := hide (VA.out.later hb)
  clear hb
  obtain ⟨v0, v1⟩ := VB.out
  have hnn := run_neq_nil_nilR (P := Tryz.prog) w1 Tryz.underlying134
  go_wp2_with fail
  refine (HN.out _).mono ?_
  rintro e w2 ⟨rfl, hb⟩
  have BC := hide (below_on BB.out hb)
  obtain ⟨u0, u1⟩ := VB.out.later hb
  have g2 := cell_later BC.out HG.out
  clear hb v0 v1
  go_wp2
  refine bodyPost_ret (v := .tuple #[.int .i64 x, .nilIface]) (by simp [results, Tryz.results110, go_sem]) rfl ⟨rfl, BC.out⟩
end Go.Proofs.YtcmdgnemkjfckaaGreatDoor
/- Chapter 10: what is over of a term (hardOver of the program). -/
namespace Go.Proofs.YtcmdgnemkjfckaaGreatDoor
open Go.RowKit

/-- A term of which it is over. -/
def OverH (a b t v : Int) : Prop := t < a ∨ (t = a ∧ b ≠ 0 ∧ v ≠ b)
set_option maxHeartbeats 2000000 in
theorem hardOverI (a b c d t v : Int) (ay az : Option Addr) (l cy m cz : Nat) (h0 : 0 ≤ a) (h1 : a ≤ 999) (w : World) : Calls Tryz.prog 100 #[.agg #[.int .i64 a, .int .i64 b, .int .i64 c, .int .i64 d, .slice ay l cy, .slice az m cz], .int .i64 t, .int .i64 v] w fun e w' => (OverH a b t v → ∃ x, e = .returned (.iface 152 (.agg #[.int .i64 x]))) ∧ (¬ OverH a b t v → e = .returned .nilIface) ∧ Below w.heap.size w w' := by
  have BA := hide (below_alloc w (.cells #[.int .i64 a, .int .i64 b, .int .i64 c, .int .i64 d, .slice ay l cy, .slice az m cz] 33))
  have e1 : IntKind.i64.wrap (a + 1) = a + 1 := by simp [IntKind.wrap, IntKind.bits, IntKind.signed]; omega
  by_cases hb : b = 0
  · subst hb
    by_cases ht : t < a
    · have HP : Hid (OverH a 0 t v) := Or.inl ht
      skip
      go_enter Tryz.func100, Tryz.ntmps100
      go_wp2
      go_ret
      exact ⟨fun _ => ⟨_, rfl⟩, fun h => absurd HP.out h, BA.out⟩
    · have HP : Hid (¬ (OverH a 0 t v)) := by rintro (h | ⟨_, h, _⟩); exact ht h; exact h rfl
      skip
      go_enter Tryz.func100, Tryz.ntmps100
      go_wp2
      go_ret
      exact ⟨fun h => absurd h HP.out, fun _ => rfl, BA.out⟩
  · have hb1 : (b != 0) = true := by simp [hb]
    have hb2 : (b == 0) = false := by simp [hb]
    by_cases hv : b = v
    · subst hv
      by_cases ht : t < a
      · have HP : Hid (OverH a b t b) := Or.inl ht
        clear hb
        go_enter Tryz.func100, Tryz.ntmps100
        go_wp2
        go_ret
        exact ⟨fun _ => ⟨_, rfl⟩, fun h => absurd HP.out h, BA.out⟩
      · have HP : Hid (¬ (OverH a b t b)) := by rintro (h | ⟨_, _, h⟩); exact ht h; exact h rfl
        clear hb
        go_enter Tryz.func100, Tryz.ntmps100
        go_wp2
        go_ret
        exact ⟨fun h => absurd h HP.out, fun _ => rfl, BA.out⟩
    · have hv1 : (b != v) = true := by simp [hv]
      have hv2 : (b == v) = false := by simp [hv]
      by_cases ht : t < a + 1
      · have HP : Hid (OverH a b t v) := by rcases Int.lt_or_le t a with h | h; exact Or.inl h; exact Or.inr ⟨by omega, hb, fun e => hv e.symm⟩
        clear hb hv
        go_enter Tryz.func100, Tryz.ntmps100
        go_wp2
        go_ret
        exact ⟨fun _ => ⟨_, rfl⟩, fun h => absurd HP.out h, BA.out⟩
      · have HP : Hid (¬ (OverH a b t v)) := by rintro (h | ⟨h, _, _⟩) <;> omega
        clear hb hv
        go_enter Tryz.func100, Tryz.ntmps100
        go_wp2
        go_ret
        exact ⟨fun h => absurd h HP.out, fun _ => rfl, BA.out⟩
end Go.Proofs.YtcmdgnemkjfckaaGreatDoor
/- Chapter 10: the variable of a code with a store, 'l10Bad', and what is over of a term. Made by program (gensh.py). -/
namespace Go.Proofs.YtcmdgnemkjfckaaGreatDoor
open Go.RowKit

/-- The variable of a result (a code, a store) as it was made. -/
structure Res7 (w wr : World) (r : Nat) : Prop where
  below : Below w.heap.size w wr
  v : Var7 wr r (.int .i64 0) (.int .i64 0) (.int .i64 0) (.int .i64 0) (.int .i64 0) (.slice none 0 0) (.slice none 0 0)
  fr : ∀ o, wr.frozen? ⟨r, o, none⟩ = false
  ge : w.heap.size ≤ r
theorem Res7.lt {w wr : World} {r : Nat} (h : Res7 w wr r) : r < wr.heap.size := h.v.lt
theorem Res7.later {w wr w1 : World} {r : Nat} (h : Res7 w wr r) (hb : Below wr.heap.size wr w1) : Res7 w w1 r :=
  ⟨below_on h.below hb, h.v.later hb, fun o => ((bcell hb).2 _ _ h.lt).trans (h.fr o), h.ge⟩
theorem Res7.start (w : World) (o : Obj) (t : TypeId) : Res7 w ((w.alloc o).alloc (.cells #[.int .i64 0, .int .i64 0, .int .i64 0, .int .i64 0, .int .i64 0, .slice none 0 0, .slice none 0 0] t)) (w.heap.size + 1) :=
  ⟨below_on (below_alloc _ _) (below_alloc _ _), by have h := Var7_new (w.alloc o) (.int .i64 0) (.int .i64 0) (.int .i64 0) (.int .i64 0) (.int .i64 0) (.slice none 0 0) (.slice none 0 0) t; simpa using h, fun o => by simp [go_sem], Nat.le_succ _⟩
theorem ret_raft {w w3 : World} {r lo : Nat} {x0 x1 x2 x3 x4 y z : Value} {xs : List Int} {ps : List Oj} (hb : Below w.heap.size w w3) (hr : w.heap.size ≤ r) (ho : IvR lo w3.heap.size w3 y z xs ps) (hlo : r < lo) :
    Below w.heap.size w (((((((w3.setCell ⟨r, 0, none⟩ x0).setCell ⟨r, 1, none⟩ x1).setCell ⟨r, 2, none⟩ x2).setCell ⟨r, 3, none⟩ x3).setCell ⟨r, 4, none⟩ x4).setCell ⟨r, 5, none⟩ y).setCell ⟨r, 6, none⟩ z) ∧ IvR w.heap.size (((((((w3.setCell ⟨r, 0, none⟩ x0).setCell ⟨r, 1, none⟩ x1).setCell ⟨r, 2, none⟩ x2).setCell ⟨r, 3, none⟩ x3).setCell ⟨r, 4, none⟩ x4).setCell ⟨r, 5, none⟩ y).setCell ⟨r, 6, none⟩ z).heap.size (((((((w3.setCell ⟨r, 0, none⟩ x0).setCell ⟨r, 1, none⟩ x1).setCell ⟨r, 2, none⟩ x2).setCell ⟨r, 3, none⟩ x3).setCell ⟨r, 4, none⟩ x4).setCell ⟨r, 5, none⟩ y).setCell ⟨r, 6, none⟩ z) y z xs ps := by
  have hw : Wr (fun q => q = r) w3 (((((((w3.setCell ⟨r, 0, none⟩ x0).setCell ⟨r, 1, none⟩ x1).setCell ⟨r, 2, none⟩ x2).setCell ⟨r, 3, none⟩ x3).setCell ⟨r, 4, none⟩ x4).setCell ⟨r, 5, none⟩ y).setCell ⟨r, 6, none⟩ z) := ((((((((Wr.refl (fun q => q = r) _).setCell (p := ⟨r, 0, none⟩) rfl _).setCell (p := ⟨r, 1, none⟩) rfl _).setCell (p := ⟨r, 2, none⟩) rfl _).setCell (p := ⟨r, 3, none⟩) rfl _).setCell (p := ⟨r, 4, none⟩) rfl _).setCell (p := ⟨r, 5, none⟩) rfl _).setCell (p := ⟨r, 6, none⟩) rfl _)
  exact ⟨(((((((hb.setCell (p := ⟨r, 0, none⟩) hr _).setCell (p := ⟨r, 1, none⟩) hr _).setCell (p := ⟨r, 2, none⟩) hr _).setCell (p := ⟨r, 3, none⟩) hr _).setCell (p := ⟨r, 4, none⟩) hr _).setCell (p := ⟨r, 5, none⟩) hr _).setCell (p := ⟨r, 6, none⟩) hr _), IvR.up (ho.wr hw (fun b h1 _ e => by omega)) (by omega) hw.size⟩
theorem ret_none {w w3 : World} {r : Nat} {x0 x1 x2 x3 x4 : Value} (hb : Below w.heap.size w w3) (hr : w.heap.size ≤ r) :
    Below w.heap.size w (((((((w3.setCell ⟨r, 0, none⟩ x0).setCell ⟨r, 1, none⟩ x1).setCell ⟨r, 2, none⟩ x2).setCell ⟨r, 3, none⟩ x3).setCell ⟨r, 4, none⟩ x4).setCell ⟨r, 5, none⟩ (.slice none 0 0)).setCell ⟨r, 6, none⟩ (.slice none 0 0)) ∧ IvR w.heap.size (((((((w3.setCell ⟨r, 0, none⟩ x0).setCell ⟨r, 1, none⟩ x1).setCell ⟨r, 2, none⟩ x2).setCell ⟨r, 3, none⟩ x3).setCell ⟨r, 4, none⟩ x4).setCell ⟨r, 5, none⟩ (.slice none 0 0)).setCell ⟨r, 6, none⟩ (.slice none 0 0)).heap.size (((((((w3.setCell ⟨r, 0, none⟩ x0).setCell ⟨r, 1, none⟩ x1).setCell ⟨r, 2, none⟩ x2).setCell ⟨r, 3, none⟩ x3).setCell ⟨r, 4, none⟩ x4).setCell ⟨r, 5, none⟩ (.slice none 0 0)).setCell ⟨r, 6, none⟩ (.slice none 0 0)) (.slice none 0 0) (.slice none 0 0) [] [] :=
  ⟨(((((((hb.setCell (p := ⟨r, 0, none⟩) hr _).setCell (p := ⟨r, 1, none⟩) hr _).setCell (p := ⟨r, 2, none⟩) hr _).setCell (p := ⟨r, 3, none⟩) hr _).setCell (p := ⟨r, 4, none⟩) hr _).setCell (p := ⟨r, 5, none⟩) hr _).setCell (p := ⟨r, 6, none⟩) hr _), IvR_nil _ _⟩

theorem l10BadI (x : Int) (w : World) : Calls Tryz.prog 71 #[.int .i64 x] w fun e w' => e = .returned (.agg #[.int .i64 x, .int .i64 0, .int .i64 0, .int .i64 0, .int .i64 0, .slice none 0 0, .slice none 0 0]) ∧ Below w.heap.size w w' := by
  go_enter Tryz.func71, Tryz.ntmps71
  go_wp2
  refine bodyPost_ret (v := .agg #[.int .i64 x, .int .i64 0, .int .i64 0, .int .i64 0, .int .i64 0, .slice none 0 0, .slice none 0 0]) (by simp [results, Tryz.results71, go_sem]) rfl ⟨rfl, ?_⟩
  repeat (first | refine Below.setCell ?_ (by simp) _ | exact below_alloc _ _)
end Go.Proofs.YtcmdgnemkjfckaaGreatDoor
/- Chapter 10: 'SetHard' of both sides, walked. Made by program (gensh2.py). -/
namespace Go.Proofs.YtcmdgnemkjfckaaGreatDoor
open Go.RowKit

theorem rf_room {r : Rf} (h : rfF r = 0) : r.sn.length ≤ 40 ∧ r.lg.length ≤ 14 ∧ (∀ i, i < r.lg.length → (r.lg.getD i oj0).2.2.length ≤ 1048576) := by
  have hi := rfF_iff.1 h
  obtain ⟨h1, h2, _⟩ := logF_iff.1 hi.lo
  exact ⟨daF_len hi.da, h1, fun i hi => by have := (entF_zero (h2 i hi)).2.1; omega⟩
theorem sh_bad {r : Rf} {t v : Int} (h : rfF r ≠ 0) : shC r t v = rfF r ∧ shR r t v = rf0 := by
  have hc : shC r t v = rfF r := by unfold shC; rw [if_neg h]
  exact ⟨hc, by unfold shR; rw [if_neg (by rw [hc]; exact h)]⟩
theorem sh_rng {r : Rf} {t v : Int} (h : rfF r = 0) (h1 : ¬ ((0 ≤ t ∧ t ≤ 999) ∧ (0 ≤ v ∧ v ≤ 9))) : shC r t v = 3 ∧ shR r t v = rf0 := by
  have hc : shC r t v = 3 := by unfold shC; rw [if_pos h, if_neg h1]
  exact ⟨hc, by unfold shR; rw [if_neg (by rw [hc]; decide)]⟩
theorem sh_old {r : Rf} {t v : Int} (h : rfF r = 0) (h1 : (0 ≤ t ∧ t ≤ 999) ∧ (0 ≤ v ∧ v ≤ 9)) (h2 : OverH r.tm r.vt t v) : shC r t v = 6 ∧ shR r t v = rf0 := by
  have hc : shC r t v = 6 := by unfold shC; rw [if_pos h, if_pos h1, if_pos (show t < r.tm ∨ (t = r.tm ∧ r.vt ≠ 0 ∧ v ≠ r.vt) from h2)]
  exact ⟨hc, by unfold shR; rw [if_neg (by rw [hc]; decide)]⟩
theorem sh_ok {r : Rf} {t v : Int} (h : rfF r = 0) (h1 : (0 ≤ t ∧ t ≤ 999) ∧ (0 ≤ v ∧ v ≤ 9)) (h2 : ¬ OverH r.tm r.vt t v) : shC r t v = 0 ∧ shR r t v = ⟨t, v, r.si, r.st, r.sn, r.lg⟩ := by
  have hc : shC r t v = 0 := by unfold shC; rw [if_pos h, if_pos h1, if_neg (show ¬ (t < r.tm ∨ (t = r.tm ∧ r.vt ≠ 0 ∧ v ≠ r.vt)) from h2)]
  exact ⟨hc, by unfold shR; rw [if_pos hc]⟩

set_option maxHeartbeats 4000000 in
set_option maxRecDepth 4000 in
theorem implSetHard {S T : Nat → Prop} {w : World} {y z : Value} (r : Rf) (t v : Int) (hg : Gl w) (hy : RdI S w y r.sn) (hz : RdJ T w z r.lg) :
    Calls Tryz.prog 84 #[.agg #[.int .i64 r.tm, .int .i64 r.vt, .int .i64 r.si, .int .i64 r.st, y, z], .int .i64 t, .int .i64 v] w (EndsRf (shC r t v) (shR r t v) w) := by
  obtain ⟨ay, cy, rfl⟩ := hy.shape
  obtain ⟨az, cz, rfl, _⟩ := hz.shape
  have HG := hide hg
  have BA0 := below_on (below_alloc w (.cells #[.int .i64 r.tm, .int .i64 r.vt, .int .i64 r.si, .int .i64 r.st, .slice ay r.sn.length cy, .slice az r.lg.length cz] 33)) (below_alloc _ (.cells #[.int .i64 0, .int .i64 0, .int .i64 0, .int .i64 0, .int .i64 0, .slice none 0 0, .slice none 0 0] 94))
  have VA0 := (Var6_new w (.int .i64 r.tm) (.int .i64 r.vt) (.int .i64 r.si) (.int .i64 r.st) (.slice ay r.sn.length cy) (.slice az r.lg.length cz) 33).later (below_alloc _ (.cells #[.int .i64 0, .int .i64 0, .int .i64 0, .int .i64 0, .int .i64 0, .slice none 0 0, .slice none 0 0] 94))
  have RA := hide (Res7.start w (.cells #[.int .i64 r.tm, .int .i64 r.vt, .int .i64 r.si, .int .i64 r.st, .slice ay r.sn.length cy, .slice az r.lg.length cz] 33) 94)
  have HF := hide (implRaftFault r (hy.later BA0) (hz.later BA0))
  have BA := hide BA0
  have VA := hide VA0
  clear BA0 VA0
  have HCp := hide (fun (h : rfF r = 0) (w' : World) (hb : Below w.heap.size w w') => copyRaftI r.tm r.vt r.si r.st (hy.later hb) (hz.later hb) (Nat.le_trans (rf_room h).1 (by decide)) (Nat.le_trans (rf_room h).2.1 (by decide)) (rf_room h).2.2)
  have HRg := hide (fun (h : rfF r = 0) => (rfF_iff.1 h).rg.1.1)
  have HBad := hide (@sh_bad r t v)
  have HRng := hide (@sh_rng r t v)
  have HOld := hide (@sh_old r t v)
  have HOk := hide (@sh_ok r t v)
  obtain ⟨C, hC⟩ : ∃ C, shC r t v = C := ⟨_, rfl⟩
  obtain ⟨R, hR⟩ : ∃ R, shR r t v = R := ⟨_, rfl⟩
  rw [hC, hR] at HBad HRng HOld HOk ⊢
  clear hC hR
  obtain ⟨Z, hZ⟩ : ∃ Z, rfF r = Z := ⟨_, rfl⟩
  rw [hZ] at HF HCp HRg HBad HRng HOld HOk
  clear hZ hy hz hg
  generalize r.sn.length = l at *
  generalize r.lg.length = m at *
  generalize r.tm = a at *
  generalize r.vt = b at *
  generalize r.si = c at *
  generalize r.st = d at *
  obtain ⟨W, hW⟩ : ∃ W, ((w.alloc (.cells #[.int .i64 a, .int .i64 b, .int .i64 c, .int .i64 d, .slice ay l cy, .slice az m cz] 33)).alloc (.cells #[.int .i64 0, .int .i64 0, .int .i64 0, .int .i64 0, .int .i64 0, .slice none 0 0, .slice none 0 0] 94)) = W := ⟨_, rfl⟩
  rw [hW] at BA VA RA HF
  obtain ⟨v0, v1, v2, v3, v4, v5⟩ := VA.out
  go_enter Tryz.func84, Tryz.ntmps84
  go_wp2_with fail
  clear hW
  refine HF.out.mono ?_
  rintro e w1 ⟨rfl, hb⟩
  have BB := hide (below_on BA.out hb)
  have VB := hide (VA.out.later hb)
  have RB := hide (RA.out.later hb)
  clear hb v0 v1 v2 v3 v4 v5 VA RA BA
  by_cases h0 : Z = 0
  · subst h0
    have hrg := HRg.out (by first | trivial | rfl)
    obtain ⟨v0, v1, v2, v3, v4, v5⟩ := VB.out
    go_wp2_with fail
    refine (isHardB t v _).mono ?_
    rintro e w2 ⟨rfl, rfl⟩
    clear v0 v1 v2 v3 v4 v5
    by_cases h1 : (0 ≤ t ∧ t ≤ 999) ∧ (0 ≤ v ∧ v ≤ 9)
    · skip
      rw [decide_eq_true h1]
      have H1 := hide h1
      clear h1
      have HOv := hide (hardOverI a b c d t v ay az l cy m cz hrg.1 hrg.2)
      obtain ⟨v0, v1, v2, v3, v4, v5⟩ := VB.out
      go_wp2_with fail
      refine (HOv.out _).mono ?_
      rintro e w3 ⟨hyes, hno, hb⟩
      have BC := hide (below_on BB.out hb)
      have VC := hide (VB.out.later hb)
      have RC := hide (RB.out.later hb)
      clear hb v0 v1 v2 v3 v4 v5 VB RB BB HOv
      by_cases h2 : OverH a b t v
      · obtain ⟨x, rfl⟩ := hyes h2
        obtain ⟨rfl, rfl⟩ := HOld.out (by first | trivial | rfl) H1.out h2
        clear hyes hno h2
        go_wp2_with fail
        refine (codeOver x _ (HG.out.later BC.out)).mono ?_
        rintro e w4 ⟨rfl, hb⟩
        have RD := hide (RC.out.later hb)
        have BD := hide (below_on BC.out hb)
        clear hb
        have HFn := hide (ret_none (x0 := .int .i64 6) (x1 := .int .i64 0) (x2 := .int .i64 0) (x3 := .int .i64 0) (x4 := .int .i64 0) RD.out.below RD.out.ge)
        obtain ⟨_, ⟨c0, c1, c2, c3, c4, c5, c6⟩, F, _⟩ := RD.out
        have f0 := F 0
        have f1 := F 1
        have f2 := F 2
        have f3 := F 3
        have f4 := F 4
        have f5 := F 5
        have f6 := F 6
        clear F
        go_wp2
        refine bodyPost_ret (v := .agg #[.int .i64 6, .int .i64 0, .int .i64 0, .int .i64 0, .int .i64 0, .slice none 0 0, .slice none 0 0]) (by simp [results, Tryz.results84, go_sem, c0, c1, c2, c3, c4, c5, c6]) rfl ⟨_, _, rfl, HFn.out.1, HFn.out.2⟩
      · obtain rfl := hno h2
        obtain ⟨rfl, rfl⟩ := HOk.out (by first | trivial | rfl) H1.out h2
        clear hyes hno h2
        go_wp2_with fail
        refine (codeNil _ (HG.out.later BC.out)).mono ?_
        rintro e w4 ⟨rfl, hb⟩
        have RD := hide (RC.out.later hb)
        have BD := hide (below_on BC.out hb)
        have VD := hide (VC.out.later hb)
        clear hb VC RC BC
        obtain ⟨v0, v1, v2, v3, v4, v5⟩ := VD.out
        have HCq := hide (HCp.out (by first | trivial | rfl) _ BD.out)
        go_wp2_with fail
        refine HCq.out.mono ?_
        rintro e w5 ⟨y5, z5, rfl, hb, ho⟩
        obtain ⟨a5, k5, g5, j5, hy5, hz5⟩ := ho.shape
        obtain ⟨l5, hl5⟩ : ∃ x, r.sn.length = x := ⟨_, rfl⟩
        obtain ⟨m5, hm5⟩ : ∃ x, r.lg.length = x := ⟨_, rfl⟩
        rw [hl5] at hy5
        rw [hm5] at hz5
        clear hl5 hm5
        subst hy5
        subst hz5
        have hlt := RD.out.lt
        have hge := RD.out.ge
        have hsz := hb.size
        have RE := hide (RD.out.later hb)
        have RE2 := hide (RE.out.later (below_alloc w5 (.cells #[.int .i64 t, .int .i64 v, .int .i64 c, .int .i64 d, .slice a5 l5 k5, .slice g5 m5 j5] 33)))
        have HFn := hide (ret_raft (w3 := w5.alloc (.cells #[.int .i64 t, .int .i64 v, .int .i64 c, .int .i64 d, .slice a5 l5 k5, .slice g5 m5 j5] 33)) (r := w.heap.size + 1) (x0 := .int .i64 0) (x1 := .int .i64 t) (x2 := .int .i64 v) (x3 := .int .i64 c) (x4 := .int .i64 d) RE2.out.below RE2.out.ge (IvR.up (ho.later (below_alloc w5 (.cells #[.int .i64 t, .int .i64 v, .int .i64 c, .int .i64 d, .slice a5 l5 k5, .slice g5 m5 j5] 33))) (Nat.le_refl _) (by simp)) (by omega))
        clear hb ho v0 v1 v2 v3 v4 v5 HCq VD RD
        obtain ⟨_, ⟨c0, c1, c2, c3, c4, c5, c6⟩, F, _⟩ := RE2.out
        have f0 := F 0
        have f1 := F 1
        have f2 := F 2
        have f3 := F 3
        have f4 := F 4
        have f5 := F 5
        have f6 := F 6
        clear F
        go_wp2
        refine bodyPost_ret (v := .agg #[.int .i64 0, .int .i64 t, .int .i64 v, .int .i64 c, .int .i64 d, .slice a5 l5 k5, .slice g5 m5 j5]) (by simp [results, Tryz.results84, go_sem, c0, c1, c2, c3, c4, c5, c6]) rfl ⟨_, _, rfl, HFn.out.1, HFn.out.2⟩
    · rw [decide_eq_false h1]
      obtain ⟨rfl, rfl⟩ := HRng.out (by first | trivial | rfl) h1
      clear h1
      have HFn := hide (ret_none (x0 := .int .i64 3) (x1 := .int .i64 0) (x2 := .int .i64 0) (x3 := .int .i64 0) (x4 := .int .i64 0) RB.out.below RB.out.ge)
      obtain ⟨_, ⟨c0, c1, c2, c3, c4, c5, c6⟩, F, _⟩ := RB.out
      have f0 := F 0
      have f1 := F 1
      have f2 := F 2
      have f3 := F 3
      have f4 := F 4
      have f5 := F 5
      have f6 := F 6
      clear F
      go_wp2
      refine bodyPost_ret (v := .agg #[.int .i64 3, .int .i64 0, .int .i64 0, .int .i64 0, .int .i64 0, .slice none 0 0, .slice none 0 0]) (by simp [results, Tryz.results84, go_sem, c0, c1, c2, c3, c4, c5, c6]) rfl ⟨_, _, rfl, HFn.out.1, HFn.out.2⟩
  · obtain ⟨rfl, rfl⟩ := HBad.out h0
    have h0b : (C == 0) = false := by simpa using h0
    have h0c : (C != 0) = true := by simp [h0]
    clear h0
    have HFn := hide (ret_none (x0 := .int .i64 C) (x1 := .int .i64 0) (x2 := .int .i64 0) (x3 := .int .i64 0) (x4 := .int .i64 0) RB.out.below RB.out.ge)
    obtain ⟨_, ⟨c0, c1, c2, c3, c4, c5, c6⟩, F, _⟩ := RB.out
    have f0 := F 0
    have f1 := F 1
    have f2 := F 2
    have f3 := F 3
    have f4 := F 4
    have f5 := F 5
    have f6 := F 6
    clear F
    go_wp2
    refine bodyPost_ret (v := .agg #[.int .i64 C, .int .i64 0, .int .i64 0, .int .i64 0, .int .i64 0, .slice none 0 0, .slice none 0 0]) (by simp [results, Tryz.results84, go_sem, c0, c1, c2, c3, c4, c5, c6]) rfl ⟨_, _, rfl, HFn.out.1, HFn.out.2⟩
end Go.Proofs.YtcmdgnemkjfckaaGreatDoor
