/- Sh1 Sh2 Cp1 in one text: what each says stands at its head below. -/
import Derived.Test.YtlljcajfdeiigaaGreatDoorG14
import Derived.Test.YtlljcajfdeiigaaGreatDoorG09
import Derived.Test.YtlljcajfdeiigaaGreatDoorG15
import Derived.Test.YtlljcajfdeiigaaGreatDoorG11
import Derived.Test.YtlljcajfdeiigaaGreatDoorG12
/- Chapter 10: the variable of a code with a store, 'l10Bad', and what is over of a term. Made by program (gensh.py). -/
namespace Go.Proofs.YtlljcajfdeiigaaGreatDoor
open Go.RowKit

/-- The variable of a result (a code, a store) as it was made. -/
structure Res7 (w wr : World) (r : Nat) : Prop where
  below : Below w.heap.size w wr
  v : Var7 wr r (.int .i64 0) (.int .i64 0) (.int .i64 0) (.int .i64 0) (.int .i64 0) (.slice none 0 0) (.slice none 0 0)
  fr : ∀ o, wr.frozen? ⟨r, o, none⟩ = false
  ge : w.heap.size ≤ r
theorem Res7.lt {w wr : World} {r : Nat} (h : Res7 w wr r) : r < wr.heap.size := h.v.lt
theorem Res7.later {w wr w1 : World} {r : Nat} (h : Res7 w wr r) (hb : Below wr.heap.size wr w1) : Res7 w w1 r :=
  ⟨below_on h.below hb, h.v.later hb, fun o => ((bcell hb).2 _ _ h.lt).trans (h.fr o), h.ge⟩
theorem Res7.start (w : World) (o : Obj) (t : TypeId) : Res7 w ((w.alloc o).alloc (.cells #[.int .i64 0, .int .i64 0, .int .i64 0, .int .i64 0, .int .i64 0, .slice none 0 0, .slice none 0 0] t)) (w.heap.size + 1) :=
  ⟨below_on (below_alloc _ _) (below_alloc _ _), by have h := Var7_new (w.alloc o) (.int .i64 0) (.int .i64 0) (.int .i64 0) (.int .i64 0) (.int .i64 0) (.slice none 0 0) (.slice none 0 0) t; simpa using h, fun o => by simp [go_sem], Nat.le_succ _⟩
theorem ret_raft {w w3 : World} {r lo : Nat} {x0 x1 x2 x3 x4 y z : Value} {xs : List Int} {ps : List Oj} (hb : Below w.heap.size w w3) (hr : w.heap.size ≤ r) (ho : IvR lo w3.heap.size w3 y z xs ps) (hlo : r < lo) :
    Below w.heap.size w (((((((w3.setCell ⟨r, 0, none⟩ x0).setCell ⟨r, 1, none⟩ x1).setCell ⟨r, 2, none⟩ x2).setCell ⟨r, 3, none⟩ x3).setCell ⟨r, 4, none⟩ x4).setCell ⟨r, 5, none⟩ y).setCell ⟨r, 6, none⟩ z) ∧ IvR w.heap.size (((((((w3.setCell ⟨r, 0, none⟩ x0).setCell ⟨r, 1, none⟩ x1).setCell ⟨r, 2, none⟩ x2).setCell ⟨r, 3, none⟩ x3).setCell ⟨r, 4, none⟩ x4).setCell ⟨r, 5, none⟩ y).setCell ⟨r, 6, none⟩ z).heap.size (((((((w3.setCell ⟨r, 0, none⟩ x0).setCell ⟨r, 1, none⟩ x1).setCell ⟨r, 2, none⟩ x2).setCell ⟨r, 3, none⟩ x3).setCell ⟨r, 4, none⟩ x4).setCell ⟨r, 5, none⟩ y).setCell ⟨r, 6, none⟩ z) y z xs ps := by
  have hw : Wr (fun q => q = r) w3 (((((((w3.setCell ⟨r, 0, none⟩ x0).setCell ⟨r, 1, none⟩ x1).setCell ⟨r, 2, none⟩ x2).setCell ⟨r, 3, none⟩ x3).setCell ⟨r, 4, none⟩ x4).setCell ⟨r, 5, none⟩ y).setCell ⟨r, 6, none⟩ z) := ((((((((Wr.refl (fun q => q = r) _).setCell (p := ⟨r, 0, none⟩) rfl _).setCell (p := ⟨r, 1, none⟩) rfl _).setCell (p := ⟨r, 2, none⟩) rfl _).setCell (p := ⟨r, 3, none⟩) rfl _).setCell (p := ⟨r, 4, none⟩) rfl _).setCell (p := ⟨r, 5, none⟩) rfl _).setCell (p := ⟨r, 6, none⟩) rfl _)
  exact ⟨(((((((hb.setCell (p := ⟨r, 0, none⟩) hr _).setCell (p := ⟨r, 1, none⟩) hr _).setCell (p := ⟨r, 2, none⟩) hr _).setCell (p := ⟨r, 3, none⟩) hr _).setCell (p := ⟨r, 4, none⟩) hr _).setCell (p := ⟨r, 5, none⟩) hr _).setCell (p := ⟨r, 6, none⟩) hr _), IvR.up (ho.wr hw (fun b h1 _ e => by omega)) (by omega) hw.size⟩
theorem ret_none {w w3 : World} {r : Nat} {x0 x1 x2 x3 x4 : Value} (hb : Below w.heap.size w w3) (hr : w.heap.size ≤ r) :
    Below w.heap.size w (((((((w3.setCell ⟨r, 0, none⟩ x0).setCell ⟨r, 1, none⟩ x1).setCell ⟨r, 2, none⟩ x2).setCell ⟨r, 3, none⟩ x3).setCell ⟨r, 4, none⟩ x4).setCell ⟨r, 5, none⟩ (.slice none 0 0)).setCell ⟨r, 6, none⟩ (.slice none 0 0)) ∧ IvR w.heap.size (((((((w3.setCell ⟨r, 0, none⟩ x0).setCell ⟨r, 1, none⟩ x1).setCell ⟨r, 2, none⟩ x2).setCell ⟨r, 3, none⟩ x3).setCell ⟨r, 4, none⟩ x4).setCell ⟨r, 5, none⟩ (.slice none 0 0)).setCell ⟨r, 6, none⟩ (.slice none 0 0)).heap.size (((((((w3.setCell ⟨r, 0, none⟩ x0).setCell ⟨r, 1, none⟩ x1).setCell ⟨r, 2, none⟩ x2).setCell ⟨r, 3, none⟩ x3).setCell ⟨r, 4, none⟩ x4).setCell ⟨r, 5, none⟩ (.slice none 0 0)).setCell ⟨r, 6, none⟩ (.slice none 0 0)) (.slice none 0 0) (.slice none 0 0) [] [] :=
  ⟨(((((((hb.setCell (p := ⟨r, 0, none⟩) hr _).setCell (p := ⟨r, 1, none⟩) hr _).setCell (p := ⟨r, 2, none⟩) hr _).setCell (p := ⟨r, 3, none⟩) hr _).setCell (p := ⟨r, 4, none⟩) hr _).setCell (p := ⟨r, 5, none⟩) hr _).setCell (p := ⟨r, 6, none⟩) hr _), IvR_nil _ _⟩

/-- A term of which it is over. -/
def OverH (a b t v : Int) : Prop := t < a ∨ (t = a ∧ b ≠ 0 ∧ v ≠ b)
theorem l10BadI (x : Int) (w : World) : Calls Tryz.prog 69 #[.int .i64 x] w fun e w' => e = .returned (.agg #[.int .i64 x, .int .i64 0, .int .i64 0, .int .i64 0, .int .i64 0, .slice none 0 0, .slice none 0 0]) ∧ Below w.heap.size w w' := by
  go_enter Tryz.func69, Tryz.ntmps69
  go_wp2
  refine bodyPost_ret (v := .agg #[.int .i64 x, .int .i64 0, .int .i64 0, .int .i64 0, .int .i64 0, .slice none 0 0, .slice none 0 0]) (by simp [results, Tryz.results69, go_sem]) rfl ⟨rfl, ?_⟩
  repeat (first | refine Below.setCell ?_ (by simp) _ | exact below_alloc _ _)

set_option maxHeartbeats 2000000 in
theorem hardOverI (a b c d t v : Int) (ay az : Option Addr) (l cy m cz : Nat) (h0 : 0 ≤ a) (h1 : a ≤ 999) (w : World) : Calls Tryz.prog 91 #[.agg #[.int .i64 a, .int .i64 b, .int .i64 c, .int .i64 d, .slice ay l cy, .slice az m cz], .int .i64 t, .int .i64 v] w fun e w' => (OverH a b t v → ∃ x, e = .returned (.iface 128 (.agg #[.int .i64 x]))) ∧ (¬ OverH a b t v → e = .returned .nilIface) ∧ Below w.heap.size w w' := by
  have BA := hide (below_alloc w (.cells #[.int .i64 a, .int .i64 b, .int .i64 c, .int .i64 d, .slice ay l cy, .slice az m cz] 32))
  have e1 : IntKind.i64.wrap (a + 1) = a + 1 := by simp [IntKind.wrap, IntKind.bits, IntKind.signed]; omega
  by_cases hb : b = 0
  · subst hb
    by_cases ht : t < a
    · have HP : Hid (OverH a 0 t v) := Or.inl ht
      skip
      go_enter Tryz.func91, Tryz.ntmps91
      go_wp2
      go_ret
      exact ⟨fun _ => ⟨_, rfl⟩, fun h => absurd HP.out h, BA.out⟩
    · have HP : Hid (¬ (OverH a 0 t v)) := by rintro (h | ⟨_, h, _⟩); exact ht h; exact h rfl
      skip
      go_enter Tryz.func91, Tryz.ntmps91
      go_wp2
      go_ret
      exact ⟨fun h => absurd h HP.out, fun _ => rfl, BA.out⟩
  · have hb1 : (b != 0) = true := by simp [hb]
    have hb2 : (b == 0) = false := by simp [hb]
    by_cases hv : b = v
    · subst hv
      by_cases ht : t < a
      · have HP : Hid (OverH a b t b) := Or.inl ht
        clear hb
        go_enter Tryz.func91, Tryz.ntmps91
        go_wp2
        go_ret
        exact ⟨fun _ => ⟨_, rfl⟩, fun h => absurd HP.out h, BA.out⟩
      · have HP : Hid (¬ (OverH a b t b)) := by rintro (h | ⟨_, _, h⟩); exact ht h; exact h rfl
        clear hb
        go_enter Tryz.func91, Tryz.ntmps91
        go_wp2
        go_ret
        exact ⟨fun h => absurd h HP.out, fun _ => rfl, BA.out⟩
    · have hv1 : (b != v) = true := by simp [hv]
      have hv2 : (b == v) = false := by simp [hv]
      by_cases ht : t < a + 1
      · have HP : Hid (OverH a b t v) := by rcases Int.lt_or_le t a with h | h; exact Or.inl h; exact Or.inr ⟨by omega, hb, fun e => hv e.symm⟩
        clear hb hv
        go_enter Tryz.func91, Tryz.ntmps91
        go_wp2
        go_ret
        exact ⟨fun _ => ⟨_, rfl⟩, fun h => absurd HP.out h, BA.out⟩
      · have HP : Hid (¬ (OverH a b t v)) := by rintro (h | ⟨h, _, _⟩) <;> omega
        clear hb hv
        go_enter Tryz.func91, Tryz.ntmps91
        go_wp2
        go_ret
        exact ⟨fun h => absurd h HP.out, fun _ => rfl, BA.out⟩
end Go.Proofs.YtlljcajfdeiigaaGreatDoor
/- Chapter 10: 'SetHard' of both sides, walked. Made by program (gensh2.py). -/
namespace Go.Proofs.YtlljcajfdeiigaaGreatDoor
open Go.RowKit

theorem rf_room {r : Rf} (h : rfF r = 0) : r.sn.length ≤ 40 ∧ r.lg.length ≤ 14 ∧ (∀ i, i < r.lg.length → (r.lg.getD i oj0).2.2.length ≤ 1048576) := by
  have hi := rfF_iff.1 h
  obtain ⟨h1, h2, _⟩ := logF_iff.1 hi.lo
  exact ⟨daF_len hi.da, h1, fun i hi => by have := (entF_zero (h2 i hi)).2.1; omega⟩
theorem sh_bad {r : Rf} {t v : Int} (h : rfF r ≠ 0) : shC r t v = rfF r ∧ shR r t v = rf0 := by
  have hc : shC r t v = rfF r := by unfold shC; rw [if_neg h]
  exact ⟨hc, by unfold shR; rw [if_neg (by rw [hc]; exact h)]⟩
theorem sh_rng {r : Rf} {t v : Int} (h : rfF r = 0) (h1 : ¬ ((0 ≤ t ∧ t ≤ 999) ∧ (0 ≤ v ∧ v ≤ 9))) : shC r t v = 3 ∧ shR r t v = rf0 := by
  have hc : shC r t v = 3 := by unfold shC; rw [if_pos h, if_neg h1]
  exact ⟨hc, by unfold shR; rw [if_neg (by rw [hc]; decide)]⟩
theorem sh_old {r : Rf} {t v : Int} (h : rfF r = 0) (h1 : (0 ≤ t ∧ t ≤ 999) ∧ (0 ≤ v ∧ v ≤ 9)) (h2 : OverH r.tm r.vt t v) : shC r t v = 6 ∧ shR r t v = rf0 := by
  have hc : shC r t v = 6 := by unfold shC; rw [if_pos h, if_pos h1, if_pos (show t < r.tm ∨ (t = r.tm ∧ r.vt ≠ 0 ∧ v ≠ r.vt) from h2)]
  exact ⟨hc, by unfold shR; rw [if_neg (by rw [hc]; decide)]⟩
theorem sh_ok {r : Rf} {t v : Int} (h : rfF r = 0) (h1 : (0 ≤ t ∧ t ≤ 999) ∧ (0 ≤ v ∧ v ≤ 9)) (h2 : ¬ OverH r.tm r.vt t v) : shC r t v = 0 ∧ shR r t v = ⟨t, v, r.si, r.st, r.sn, r.lg⟩ := by
  have hc : shC r t v = 0 := by unfold shC; rw [if_pos h, if_pos h1, if_neg (show ¬ (t < r.tm ∨ (t = r.tm ∧ r.vt ≠ 0 ∧ v ≠ r.vt)) from h2)]
  exact ⟨hc, by unfold shR; rw [if_pos hc]⟩

set_option maxHeartbeats 4000000 in
set_option maxRecDepth 4000 in
theorem implSetHard {S T : Nat → Prop} {w : World} {y z : Value} (r : Rf) (t v : Int) (hg : Gl w) (hy : RdI S w y r.sn) (hz : RdJ T w z r.lg) :
    Calls Tryz.prog 77 #[.agg #[.int .i64 r.tm, .int .i64 r.vt, .int .i64 r.si, .int .i64 r.st, y, z], .int .i64 t, .int .i64 v] w (EndsRf (shC r t v) (shR r t v) w) := by
  obtain ⟨ay, cy, rfl⟩ := hy.shape
  obtain ⟨az, cz, rfl, _⟩ := hz.shape
  have HG := hide hg
  have BA0 := below_on (below_alloc w (.cells #[.int .i64 r.tm, .int .i64 r.vt, .int .i64 r.si, .int .i64 r.st, .slice ay r.sn.length cy, .slice az r.lg.length cz] 32)) (below_alloc _ (.cells #[.int .i64 0, .int .i64 0, .int .i64 0, .int .i64 0, .int .i64 0, .slice none 0 0, .slice none 0 0] 79))
  have VA0 := (Var6_new w (.int .i64 r.tm) (.int .i64 r.vt) (.int .i64 r.si) (.int .i64 r.st) (.slice ay r.sn.length cy) (.slice az r.lg.length cz) 32).later (below_alloc _ (.cells #[.int .i64 0, .int .i64 0, .int .i64 0, .int .i64 0, .int .i64 0, .slice none 0 0, .slice none 0 0] 79))
  have RA := hide (Res7.start w (.cells #[.int .i64 r.tm, .int .i64 r.vt, .int .i64 r.si, .int .i64 r.st, .slice ay r.sn.length cy, .slice az r.lg.length cz] 32) 79)
  have HF := hide (implRaftFault r (hy.later BA0) (hz.later BA0))
  have BA := hide BA0
  have VA := hide VA0
  clear BA0 VA0
  have HCp := hide (fun (h : rfF r = 0) (w' : World) (hb : Below w.heap.size w w') => copyRaftI r.tm r.vt r.si r.st (hy.later hb) (hz.later hb) (Nat.le_trans (rf_room h).1 (by decide)) (Nat.le_trans (rf_room h).2.1 (by decide)) (rf_room h).2.2)
  have HRg := hide (fun (h : rfF r = 0) => (rfF_iff.1 h).rg.1.1)
  have HBad := hide (@sh_bad r t v)
  have HRng := hide (@sh_rng r t v)
  have HOld := hide (@sh_old r t v)
  have HOk := hide (@sh_ok r t v)
  obtain ⟨C, hC⟩ : ∃ C, shC r t v = C := ⟨_, rfl⟩
  obtain ⟨R, hR⟩ : ∃ R, shR r t v = R := ⟨_, rfl⟩
  rw [hC, hR] at HBad HRng HOld HOk ⊢
  clear hC hR
  obtain ⟨Z, hZ⟩ : ∃ Z, rfF r = Z := ⟨_, rfl⟩
  rw [hZ] at HF HCp HRg HBad HRng HOld HOk
  clear hZ hy hz hg
  generalize r.sn.length = l at *
  generalize r.lg.length = m at *
  generalize r.tm = a at *
  generalize r.vt = b at *
  generalize r.si = c at *
  generalize r.st = d at *
  obtain ⟨W, hW⟩ : ∃ W, ((w.alloc (.cells #[.int .i64 a, .int .i64 b, .int .i64 c, .int .i64 d, .slice ay l cy, .slice az m cz] 32)).alloc (.cells #[.int .i64 0, .int .i64 0, .int .i64 0, .int .i64 0, .int .i64 0, .slice none 0 0, .slice none 0 0] 79)) = W := ⟨_, rfl⟩
  rw [hW] at BA VA RA HF
  obtain ⟨v0, v1, v2, v3, v4, v5⟩ := VA.out
  go_enter Tryz.func77, Tryz.ntmps77
  go_wp2_with fail
  clear hW
  refine HF.out.mono ?_
  rintro e w1 ⟨rfl, hb⟩
  have BB := hide (below_on BA.out hb)
  have VB := hide (VA.out.later hb)
  have RB := hide (RA.out.later hb)
  clear hb v0 v1 v2 v3 v4 v5 VA RA BA
  by_cases h0 : Z = 0
  · subst h0
    have hrg := HRg.out (by first | trivial | rfl)
    obtain ⟨v0, v1, v2, v3, v4, v5⟩ := VB.out
    go_wp2_with fail
    refine (isHardB t v _).mono ?_
    rintro e w2 ⟨rfl, rfl⟩
    clear v0 v1 v2 v3 v4 v5
    by_cases h1 : (0 ≤ t ∧ t ≤ 999) ∧ (0 ≤ v ∧ v ≤ 9)
    · skip
      rw [decide_eq_true h1]
      have H1 := hide h1
      clear h1
      have HOv := hide (hardOverI a b c d t v ay az l cy m cz hrg.1 hrg.2)
      obtain ⟨v0, v1, v2, v3, v4, v5⟩ := VB.out
      go_wp2_with fail
      refine (HOv.out _).mono ?_
      rintro e w3 ⟨hyes, hno, hb⟩
      have BC := hide (below_on BB.out hb)
      have VC := hide (VB.out.later hb)
      have RC := hide (RB.out.later hb)
      clear hb v0 v1 v2 v3 v4 v5 VB RB BB HOv
      by_cases h2 : OverH a b t v
      · obtain ⟨x, rfl⟩ := hyes h2
        obtain ⟨rfl, rfl⟩ := HOld.out (by first | trivial | rfl) H1.out h2
        clear hyes hno h2
        go_wp2_with fail
        refine (codeOver x _ (HG.out.later BC.out)).mono ?_
        rintro e w4 ⟨rfl, hb⟩
        have RD := hide (RC.out.later hb)
        have BD := hide (below_on BC.out hb)
        clear hb
        have HFn := hide (ret_none (x0 := .int .i64 6) (x1 := .int .i64 0) (x2 := .int .i64 0) (x3 := .int .i64 0) (x4 := .int .i64 0) RD.out.below RD.out.ge)
        obtain ⟨_, ⟨c0, c1, c2, c3, c4, c5, c6⟩, F, _⟩ := RD.out
        have f0 := F 0
        have f1 := F 1
        have f2 := F 2
        have f3 := F 3
        have f4 := F 4
        have f5 := F 5
        have f6 := F 6
        clear F
        go_wp2
        refine bodyPost_ret (v := .agg #[.int .i64 6, .int .i64 0, .int .i64 0, .int .i64 0, .int .i64 0, .slice none 0 0, .slice none 0 0]) (by simp [results, Tryz.results77, go_sem, c0, c1, c2, c3, c4, c5, c6]) rfl ⟨_, _, rfl, HFn.out.1, HFn.out.2⟩
      · obtain rfl := hno h2
        obtain ⟨rfl, rfl⟩ := HOk.out (by first | trivial | rfl) H1.out h2
        clear hyes hno h2
        go_wp2_with fail
        refine (codeNil _ (HG.out.later BC.out)).mono ?_
        rintro e w4 ⟨rfl, hb⟩
        have RD := hide (RC.out.later hb)
        have BD := hide (below_on BC.out hb)
        have VD := hide (VC.out.later hb)
        clear hb VC RC BC
        obtain ⟨v0, v1, v2, v3, v4, v5⟩ := VD.out
        have HCq := hide (HCp.out (by first | trivial | rfl) _ BD.out)
        go_wp2_with fail
        refine HCq.out.mono ?_
        rintro e w5 ⟨y5, z5, rfl, hb, ho⟩
        obtain ⟨a5, k5, g5, j5, hy5, hz5⟩ := ho.shape
        obtain ⟨l5, hl5⟩ : ∃ x, r.sn.length = x := ⟨_, rfl⟩
        obtain ⟨m5, hm5⟩ : ∃ x, r.lg.length = x := ⟨_, rfl⟩
        rw [hl5] at hy5
        rw [hm5] at hz5
        clear hl5 hm5
        subst hy5
        subst hz5
        have hlt := RD.out.lt
        have hge := RD.out.ge
        have hsz := hb.size
        have RE := hide (RD.out.later hb)
        have RE2 := hide (RE.out.later (below_alloc w5 (.cells #[.int .i64 t, .int .i64 v, .int .i64 c, .int .i64 d, .slice a5 l5 k5, .slice g5 m5 j5] 32)))
        have HFn := hide (ret_raft (w3 := w5.alloc (.cells #[.int .i64 t, .int .i64 v, .int .i64 c, .int .i64 d, .slice a5 l5 k5, .slice g5 m5 j5] 32)) (r := w.heap.size + 1) (x0 := .int .i64 0) (x1 := .int .i64 t) (x2 := .int .i64 v) (x3 := .int .i64 c) (x4 := .int .i64 d) RE2.out.below RE2.out.ge (IvR.up (ho.later (below_alloc w5 (.cells #[.int .i64 t, .int .i64 v, .int .i64 c, .int .i64 d, .slice a5 l5 k5, .slice g5 m5 j5] 32))) (Nat.le_refl _) (by simp)) (by omega))
        clear hb ho v0 v1 v2 v3 v4 v5 HCq VD RD
        obtain ⟨_, ⟨c0, c1, c2, c3, c4, c5, c6⟩, F, _⟩ := RE2.out
        have f0 := F 0
        have f1 := F 1
        have f2 := F 2
        have f3 := F 3
        have f4 := F 4
        have f5 := F 5
        have f6 := F 6
        clear F
        go_wp2
        refine bodyPost_ret (v := .agg #[.int .i64 0, .int .i64 t, .int .i64 v, .int .i64 c, .int .i64 d, .slice a5 l5 k5, .slice g5 m5 j5]) (by simp [results, Tryz.results77, go_sem, c0, c1, c2, c3, c4, c5, c6]) rfl ⟨_, _, rfl, HFn.out.1, HFn.out.2⟩
    · rw [decide_eq_false h1]
      obtain ⟨rfl, rfl⟩ := HRng.out (by first | trivial | rfl) h1
      clear h1
      have HFn := hide (ret_none (x0 := .int .i64 3) (x1 := .int .i64 0) (x2 := .int .i64 0) (x3 := .int .i64 0) (x4 := .int .i64 0) RB.out.below RB.out.ge)
      obtain ⟨_, ⟨c0, c1, c2, c3, c4, c5, c6⟩, F, _⟩ := RB.out
      have f0 := F 0
      have f1 := F 1
      have f2 := F 2
      have f3 := F 3
      have f4 := F 4
      have f5 := F 5
      have f6 := F 6
      clear F
      go_wp2
      refine bodyPost_ret (v := .agg #[.int .i64 3, .int .i64 0, .int .i64 0, .int .i64 0, .int .i64 0, .slice none 0 0, .slice none 0 0]) (by simp [results, Tryz.results77, go_sem, c0, c1, c2, c3, c4, c5, c6]) rfl ⟨_, _, rfl, HFn.out.1, HFn.out.2⟩
  · obtain ⟨rfl, rfl⟩ := HBad.out h0
    have h0b : (C == 0) = false := by simpa using h0
    have h0c : (C != 0) = true := by simp [h0]
    clear h0
    have HFn := hide (ret_none (x0 := .int .i64 C) (x1 := .int .i64 0) (x2 := .int .i64 0) (x3 := .int .i64 0) (x4 := .int .i64 0) RB.out.below RB.out.ge)
    obtain ⟨_, ⟨c0, c1, c2, c3, c4, c5, c6⟩, F, _⟩ := RB.out
    have f0 := F 0
    have f1 := F 1
    have f2 := F 2
    have f3 := F 3
    have f4 := F 4
    have f5 := F 5
    have f6 := F 6
    clear F
    go_wp2
    refine bodyPost_ret (v := .agg #[.int .i64 C, .int .i64 0, .int .i64 0, .int .i64 0, .int .i64 0, .slice none 0 0, .slice none 0 0]) (by simp [results, Tryz.results77, go_sem, c0, c1, c2, c3, c4, c5, c6]) rfl ⟨_, _, rfl, HFn.out.1, HFn.out.2⟩
end Go.Proofs.YtlljcajfdeiigaaGreatDoor
/- Chapter 10: what is at an index of a log, the fault of a store with data, a store with another snapshot: the program's side. Made by program (gencp.py). -/
namespace Go.Proofs.YtlljcajfdeiigaaGreatDoor
open Go.RowKit

/-- The variables of 'at' as they were made. -/
structure AtV (w wr : World) (f : Int) (s : Value) : Prop where
  below : Below w.heap.size w wr
  l : Var2 wr w.heap.size (.int .i64 f) s
  r : Var3 wr (w.heap.size + 1) (.int .i64 0) (.int .i64 0) (.slice none 0 0)
  i : Var3 wr (w.heap.size + 2) (.int .i64 0) (.int .i64 0) (.slice none 0 0)
  fr : ∀ o, wr.frozen? ⟨w.heap.size + 1, o, none⟩ = false
theorem AtV.later {w wr w1 : World} {f : Int} {s : Value} (h : AtV w wr f s) (hb : Below wr.heap.size wr w1) : AtV w w1 f s :=
  ⟨below_on h.below hb, h.l.later hb, h.r.later hb, h.i.later hb, fun o => ((bcell hb).2 _ _ h.r.lt).trans (h.fr o)⟩
theorem AtV.start (w : World) (f : Int) (s : Value) : AtV w (((w.alloc (.cells #[.int .i64 f, s] 115)).alloc (.cells #[.int .i64 0, .int .i64 0, .slice none 0 0] 76)).alloc (.cells #[.int .i64 0, .int .i64 0, .slice none 0 0] 76)) f s := by
  refine ⟨below_on (below_on (below_alloc _ _) (below_alloc _ _)) (below_alloc _ _), ?_, ?_, ?_, fun o => by simp [go_sem]⟩
  · refine ⟨?_, ?_⟩ <;> simp [go_sem]
  · refine ⟨?_, ?_, ?_⟩ <;> simp [go_sem]
  · refine ⟨?_, ?_, ?_⟩ <;> simp [go_sem]
theorem AtV.shut {w wr : World} {f : Int} {s : Value} (h : AtV w wr f s) (x y z : Value) : Below w.heap.size w (((wr.setCell ⟨w.heap.size + 1, 0, none⟩ x).setCell ⟨w.heap.size + 1, 1, none⟩ y).setCell ⟨w.heap.size + 1, 2, none⟩ z) :=
  ((h.below.setCell (p := ⟨w.heap.size + 1, 0, none⟩) (Nat.le_succ _) _).setCell (p := ⟨w.heap.size + 1, 1, none⟩) (Nat.le_succ _) _).setCell (p := ⟨w.heap.size + 1, 2, none⟩) (Nat.le_succ _) _

set_option maxHeartbeats 2000000 in
theorem atLoE (f i : Int) (ao : Option Addr) (n c : Nat) (h : i < f) (w : World) : Calls Tryz.prog 96 #[.agg #[.int .i64 f, .slice ao n c], .int .i64 i] w fun e w' => e = .returned (.tuple #[.agg #[.int .i64 0, .int .i64 0, .slice none 0 0], .iface 128 (.agg #[.int .i64 f])]) ∧ Below w.heap.size w w' := by
  have HE := hide (reachLoE f i ao n c h)
  clear h
  have AA := hide (AtV.start w f (.slice ao n c))
  obtain ⟨W, hW⟩ : ∃ W, (((w.alloc (.cells #[.int .i64 f, .slice ao n c] 115)).alloc (.cells #[.int .i64 0, .int .i64 0, .slice none 0 0] 76)).alloc (.cells #[.int .i64 0, .int .i64 0, .slice none 0 0] 76)) = W := ⟨_, rfl⟩
  rw [hW] at AA
  obtain ⟨_, ⟨l0, l1⟩, ⟨r0, r1, r2⟩, ⟨i0, i1, i2⟩, F⟩ := AA.out
  have f0 := F 0
  have f1 := F 1
  have f2 := F 2
  clear F
  go_enter Tryz.func96, Tryz.ntmps96
  go_wp2_with fail
  clear hW
  refine (HE.out _).mono ?_
  rintro e w1 ⟨rfl, hb⟩
  have AB := hide (AA.out.later hb)
  clear hb
  clear l0 l1 r0 r1 r2 i0 i1 i2 f0 f1 f2
  obtain ⟨_, ⟨l0, l1⟩, ⟨r0, r1, r2⟩, ⟨i0, i1, i2⟩, F⟩ := AB.out
  have f0 := F 0
  have f1 := F 1
  have f2 := F 2
  clear F
  have hne := run_neq_iface_nilR (P := Tryz.prog) w1 128 (.agg #[.int .i64 f]) Tryz.underlying110
  go_wp2
  refine bodyPost_ret (v := .tuple #[.agg #[.int .i64 0, .int .i64 0, .slice none 0 0], .iface 128 (.agg #[.int .i64 f])]) (by simp [results, Tryz.results96, go_sem, r0, r1, r2]) rfl ⟨rfl, AB.out.shut _ _ _⟩
set_option maxHeartbeats 4000000 in
theorem atHiE (f i : Int) (ao : Option Addr) (n c : Nat) (h0 : 0 ≤ f) (h1 : f ≤ 10000) (h2 : n ≤ 100) (h : f + n ≤ i) (w : World) (a : Addr) (ha : w.cell? ⟨0, 0, none⟩ = some (.iface 168 (.pointer (some a)))) : Calls Tryz.prog 96 #[.agg #[.int .i64 f, .slice ao n c], .int .i64 i] w fun e w' => e = .returned (.tuple #[.agg #[.int .i64 0, .int .i64 0, .slice none 0 0], .iface 168 (.pointer (some a))]) ∧ Below w.heap.size w w' := by
  have AA := hide (AtV.start w f (.slice ao n c))
  obtain ⟨W, hW⟩ : ∃ W, (((w.alloc (.cells #[.int .i64 f, .slice ao n c] 115)).alloc (.cells #[.int .i64 0, .int .i64 0, .slice none 0 0] 76)).alloc (.cells #[.int .i64 0, .int .i64 0, .slice none 0 0] 76)) = W := ⟨_, rfl⟩
  rw [hW] at AA
  have hac := cell_later AA.out.below ha
  by_cases hh : f + n < i
  · have HE := hide (reachHiE f i ao n c h0 h1 h2 hh W a hac)
    clear h h0 h1 h2 hh ha hac
    obtain ⟨_, ⟨l0, l1⟩, ⟨r0, r1, r2⟩, ⟨i0, i1, i2⟩, F⟩ := AA.out
    have f0 := F 0
    have f1 := F 1
    have f2 := F 2
    clear F
    go_enter Tryz.func96, Tryz.ntmps96
    go_wp2_with fail
    clear hW
    refine HE.out.mono ?_
    rintro e w1 ⟨rfl, hb⟩
    have AB := hide (AA.out.later hb)
    clear hb
    clear l0 l1 r0 r1 r2 i0 i1 i2 f0 f1 f2
    obtain ⟨_, ⟨l0, l1⟩, ⟨r0, r1, r2⟩, ⟨i0, i1, i2⟩, F⟩ := AB.out
    have f0 := F 0
    have f1 := F 1
    have f2 := F 2
    clear F
    have hne := run_neq_iface_nilR (P := Tryz.prog) w1 168 (.pointer (some a)) Tryz.underlying110
    go_wp2
    refine bodyPost_ret (v := .tuple #[.agg #[.int .i64 0, .int .i64 0, .slice none 0 0], .iface 168 (.pointer (some a))]) (by simp [results, Tryz.results96, go_sem, r0, r1, r2]) rfl ⟨rfl, AB.out.shut _ _ _⟩
  · have he : i = f + n := by omega
    subst he
    have HE := hide (reachInE f (f + n) ao n c h0 h1 h2 (by omega) (by omega))
    have HN := hide (endE f ao n c h0 h1 h2)
    obtain ⟨s, hs⟩ : ∃ s, f + (n : Int) = s := ⟨_, rfl⟩
    rw [hs] at HE HN ⊢
    have HAc := hide hac
    clear h h0 h1 h2 hh hs ha hac
    obtain ⟨_, ⟨l0, l1⟩, ⟨r0, r1, r2⟩, ⟨i0, i1, i2⟩, F⟩ := AA.out
    have f0 := F 0
    have f1 := F 1
    have f2 := F 2
    clear F
    go_enter Tryz.func96, Tryz.ntmps96
    go_wp2_with fail
    clear hW
    refine (HE.out _).mono ?_
    rintro e w1 ⟨rfl, hb⟩
    have AB := hide (AA.out.later hb)
    have HBc := hide (cell_later hb HAc.out)
    clear hb
    clear l0 l1 r0 r1 r2 i0 i1 i2 f0 f1 f2
    obtain ⟨_, ⟨l0, l1⟩, ⟨r0, r1, r2⟩, ⟨i0, i1, i2⟩, F⟩ := AB.out
    have f0 := F 0
    have f1 := F 1
    have f2 := F 2
    clear F
    have hne := run_neq_nil_nilR (P := Tryz.prog) w1 Tryz.underlying110
    go_wp2_with fail
    refine (HN.out _).mono ?_
    rintro e w2 ⟨rfl, hb⟩
    have AC := hide (AB.out.later hb)
    have g2 := cell_later hb HBc.out
    clear hb hne
    clear l0 l1 r0 r1 r2 i0 i1 i2 f0 f1 f2
    obtain ⟨_, ⟨l0, l1⟩, ⟨r0, r1, r2⟩, ⟨i0, i1, i2⟩, F⟩ := AC.out
    have f0 := F 0
    have f1 := F 1
    have f2 := F 2
    clear F
    go_wp2_with fail
    go_region
    all_goals go_wp2
    all_goals refine bodyPost_ret (v := .tuple #[.agg #[.int .i64 0, .int .i64 0, .slice none 0 0], .iface 168 (.pointer (some a))]) (by simp [results, Tryz.results96, go_sem, r0, r1, r2]) rfl ⟨rfl, ?_⟩
    all_goals exact below_on (AC.out.shut _ _ _) (below_drewN _ 1)
set_option maxHeartbeats 4000000 in
theorem atInE {S : Nat → Prop} {w : World} {ao : Option Addr} {n c : Nat} {ps : List Oj} (f i : Int) (j : Nat) (hv : RdJ S w (.slice ao n c) ps) (hn : ps.length = n) (h0 : 0 ≤ f) (h1 : f ≤ 10000) (h2 : n ≤ 100) (hij : i - f = (j : Int)) (hjn : j < n) :
    Calls Tryz.prog 96 #[.agg #[.int .i64 f, .slice ao n c], .int .i64 i] w fun e w' => ∃ q k d, e = .returned (.tuple #[.agg #[.int .i64 (ps.getD j oj0).1, .int .i64 (ps.getD j oj0).2.1, .slice q k d], .nilIface]) ∧ Below w.heap.size w w' := by
  obtain ⟨bb, off, rfl, y0, q0, q1, q2, q3⟩ := hv.file (k := j) (by omega)
  obtain ⟨a3, c3, rfl⟩ := q3.shape
  obtain ⟨x, hx⟩ : ∃ x, (ps.getD j oj0).1 = x := ⟨_, rfl⟩
  obtain ⟨t, ht⟩ : ∃ t, (ps.getD j oj0).2.1 = t := ⟨_, rfl⟩
  obtain ⟨l3, hl3⟩ : ∃ l, (ps.getD j oj0).2.2.length = l := ⟨_, rfl⟩
  rw [hx] at q0 ⊢
  rw [ht] at q1 ⊢
  rw [hl3] at q2
  clear hx ht hl3 q3 hv hn
  have HE := hide (reachInE f i (some ⟨bb, off, none⟩) n c h0 h1 h2 (by omega) (by omega))
  have HN := hide (endE f (some ⟨bb, off, none⟩) n c h0 h1 h2)
  have hwr : IntKind.i64.wrap (i - f) = (j : Int) := by rw [hij]; simp [IntKind.wrap, IntKind.bits, IntKind.signed]; omega
  have hj1 : (j : Int) < (n : Int) := by omega
  have hj0 : (0 : Int) ≤ (j : Int) := by omega
  obtain ⟨s, hs⟩ : ∃ s, f + (n : Int) = s := ⟨_, rfl⟩
  rw [hs] at HN
  have hne : (i == s) = false := by simp; omega
  have hned : decide (i = s) = false := by simp; omega
  have AA := hide (AtV.start w f (.slice (some ⟨bb, off, none⟩) n c))
  obtain ⟨W, hW⟩ : ∃ W, (((w.alloc (.cells #[.int .i64 f, .slice (some ⟨bb, off, none⟩) n c] 115)).alloc (.cells #[.int .i64 0, .int .i64 0, .slice none 0 0] 76)).alloc (.cells #[.int .i64 0, .int .i64 0, .slice none 0 0] 76)) = W := ⟨_, rfl⟩
  rw [hW] at AA
  have G0 := hide (cell_later AA.out.below q0)
  have G1 := hide (cell_later AA.out.below q1)
  have G2 := hide (cell_later AA.out.below q2)
  clear q0 q1 q2 hs h0 h1 h2 hij
  obtain ⟨_, ⟨l0, l1⟩, ⟨r0, r1, r2⟩, ⟨i0, i1, i2⟩, F⟩ := AA.out
  have f0 := F 0
  have f1 := F 1
  have f2 := F 2
  clear F
  go_enter Tryz.func96, Tryz.ntmps96
  go_wp2_with fail
  clear hW
  refine (HE.out _).mono ?_
  rintro e w1 ⟨rfl, hb⟩
  have AB := hide (AA.out.later hb)
  have B0 := hide hb
  clear hb
  clear l0 l1 r0 r1 r2 i0 i1 i2 f0 f1 f2
  obtain ⟨_, ⟨l0, l1⟩, ⟨r0, r1, r2⟩, ⟨i0, i1, i2⟩, F⟩ := AB.out
  have f0 := F 0
  have f1 := F 1
  have f2 := F 2
  clear F
  have hnn := run_neq_nil_nilR (P := Tryz.prog) w1 Tryz.underlying110
  go_wp2_with fail
  refine (HN.out _).mono ?_
  rintro e w2 ⟨rfl, hb⟩
  have AC := hide (AB.out.later hb)
  have g0 := cell_later hb (cell_later B0.out G0.out)
  have g1 := cell_later hb (cell_later B0.out G1.out)
  have g2 := cell_later hb (cell_later B0.out G2.out)
  clear hb hnn
  clear l0 l1 r0 r1 r2 i0 i1 i2 f0 f1 f2
  obtain ⟨_, ⟨l0, l1⟩, ⟨r0, r1, r2⟩, ⟨i0, i1, i2⟩, F⟩ := AC.out
  have f0 := F 0
  have f1 := F 1
  have f2 := F 2
  clear F
  go_wp2
  refine bodyPost_ret (v := .tuple #[.agg #[.int .i64 x, .int .i64 t, .slice a3 l3 c3], .nilIface]) (by simp [results, Tryz.results96, go_sem, r0, r1, r2]) rfl ⟨_, _, _, rfl, AC.out.shut _ _ _⟩
end Go.Proofs.YtlljcajfdeiigaaGreatDoor
