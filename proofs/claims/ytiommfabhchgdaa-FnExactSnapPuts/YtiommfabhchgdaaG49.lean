/- Sn4 in one text: what each says stands at its head below. -/
import Derived.Test.YtiommfabhchgdaaG47
import Derived.Test.YtiommfabhchgdaaG48
/- Chapter 11: 'spec.SnapPuts', walked. Made by program (gensn2.py, out of Im2). -/
namespace Go.Proofs.Ytiommfabhchgdaa
open Go.RowKit

set_option maxHeartbeats 2000000 in
set_option maxRecDepth 4000 in
theorem specSnapPuts {S T : Nat → Prop} {w : World} {y z : Value} (r : Rf) (hy : RdI S w y r.sn) (hz : RdJ T w z r.lg) (hcy : capE y) :
    Calls Try.prog 6 #[.agg #[.int .i64 r.tm, .int .i64 r.vt, .int .i64 r.si, .int .i64 r.st, y, z]] w (EndsP (rfF r) (snR r) w) := by
  obtain ⟨ay, cy, rfl⟩ := hy.shape
  obtain ⟨az, cz, rfl, _⟩ := hz.shape
  have BA0 := below_on (below_alloc w (.cells #[.int .i64 r.tm, .int .i64 r.vt, .int .i64 r.si, .int .i64 r.st, .slice ay r.sn.length cy, .slice az r.lg.length cz] 33)) (below_alloc _ (.cells #[.int .i64 0, .slice none 0 0] 29))
  have VA0 := (Var6_new w (.int .i64 r.tm) (.int .i64 r.vt) (.int .i64 r.si) (.int .i64 r.st) (.slice ay r.sn.length cy) (.slice az r.lg.length cz) 33).later (below_alloc _ (.cells #[.int .i64 0, .slice none 0 0] 29))
  have HF := hide (l10Fault r VA0 (hy.later BA0) (hz.later BA0))
  have HT := hide (fun (h : rfF r = 0) (w' : World) (hb : Below w.heap.size w w') (hv : Var6 w' w.heap.size (.int .i64 r.tm) (.int .i64 r.vt) (.int .i64 r.si) (.int .i64 r.st) (.slice ay r.sn.length cy) (.slice az r.lg.length cz)) => l11SnapP r hv (hy.later hb) (rf_words h) hcy)
  have BA := hide BA0
  have VA := hide VA0
  clear BA0 VA0
  have HOk := hide (@snR_ok r)
  have HBad := hide (@snR_bad r)
  obtain ⟨Z, hZ⟩ : ∃ Z, rfF r = Z := ⟨_, rfl⟩
  obtain ⟨R, hR⟩ : ∃ R, snR r = R := ⟨_, rfl⟩
  obtain ⟨L, hL⟩ : ∃ L, snP r = L := ⟨_, rfl⟩
  rw [hZ] at HF HT HOk HBad ⊢
  rw [hR] at HOk HBad ⊢
  rw [hL] at HOk HT
  clear hZ hR hL hy hz
  generalize r.sn.length = l at *
  generalize r.lg.length = m at *
  generalize r.tm = a at *
  generalize r.vt = b at *
  generalize r.si = c at *
  generalize r.st = d at *
  have RA : Hid (((w.alloc (.cells #[.int .i64 a, .int .i64 b, .int .i64 c, .int .i64 d, .slice ay l cy, .slice az m cz] 33)).alloc (.cells #[.int .i64 0, .slice none 0 0] 29)).cell? ⟨w.heap.size + 1, 0, none⟩ = some (.int .i64 0) ∧ ((w.alloc (.cells #[.int .i64 a, .int .i64 b, .int .i64 c, .int .i64 d, .slice ay l cy, .slice az m cz] 33)).alloc (.cells #[.int .i64 0, .slice none 0 0] 29)).cell? ⟨w.heap.size + 1, 1, none⟩ = some (.slice none 0 0) ∧ (∀ o, ((w.alloc (.cells #[.int .i64 a, .int .i64 b, .int .i64 c, .int .i64 d, .slice ay l cy, .slice az m cz] 33)).alloc (.cells #[.int .i64 0, .slice none 0 0] 29)).frozen? ⟨w.heap.size + 1, o, none⟩ = false) ∧ w.heap.size + 1 < ((w.alloc (.cells #[.int .i64 a, .int .i64 b, .int .i64 c, .int .i64 d, .slice ay l cy, .slice az m cz] 33)).alloc (.cells #[.int .i64 0, .slice none 0 0] 29)).heap.size) := by
    refine ⟨?_, ?_, ?_, ?_⟩
    · simp [go_sem]
    · simp [go_sem]
    · intro o; simp [go_sem]
    · simp
  obtain ⟨W, hW⟩ : ∃ W, ((w.alloc (.cells #[.int .i64 a, .int .i64 b, .int .i64 c, .int .i64 d, .slice ay l cy, .slice az m cz] 33)).alloc (.cells #[.int .i64 0, .slice none 0 0] 29)) = W := ⟨_, rfl⟩
  rw [hW] at BA VA RA HF
  obtain ⟨v0, v1, v2, v3, v4, v5⟩ := VA.out
  go_enter Try.func6, Try.ntmps6
  go_wp2_with fail
  clear hW
  refine HF.out.mono ?_
  rintro e w1 ⟨rfl, hb⟩
  have BB := hide (below_on BA.out hb)
  have VB := hide (VA.out.later hb)
  have RB : Hid (w1.cell? ⟨w.heap.size + 1, 0, none⟩ = some (.int .i64 0) ∧ w1.cell? ⟨w.heap.size + 1, 1, none⟩ = some (.slice none 0 0) ∧ (∀ o, w1.frozen? ⟨w.heap.size + 1, o, none⟩ = false) ∧ w.heap.size + 1 < w1.heap.size) := ⟨cell_later hb RA.out.1, cell_later hb RA.out.2.1, fun o => ((bcell hb).2 _ _ RA.out.2.2.2).trans (RA.out.2.2.1 o), Nat.lt_of_lt_of_le RA.out.2.2.2 hb.size⟩
  clear hb v0 v1 v2 v3 v4 v5 VA RA BA
  by_cases h0 : Z = 0
  · subst h0
    have hRe := HOk.out (by first | trivial | rfl)
    subst hRe
    have HTt := hide (HT.out (by first | trivial | rfl) _ BB.out VB.out)
    obtain ⟨v0, v1, v2, v3, v4, v5⟩ := VB.out
    go_wp2_with fail
    refine HTt.out.mono ?_
    rintro e w2 ⟨u, rfl, hb, ho⟩
    have RC : Hid (w2.cell? ⟨w.heap.size + 1, 0, none⟩ = some (.int .i64 0) ∧ w2.cell? ⟨w.heap.size + 1, 1, none⟩ = some (.slice none 0 0) ∧ (∀ o, w2.frozen? ⟨w.heap.size + 1, o, none⟩ = false) ∧ w.heap.size + 1 < w2.heap.size) := ⟨cell_later hb RB.out.1, cell_later hb RB.out.2.1, fun o => ((bcell hb).2 _ _ RB.out.2.2.2).trans (RB.out.2.2.1 o), Nat.lt_of_lt_of_le RB.out.2.2.2 hb.size⟩
    have BC := hide (below_on BB.out hb)
    have hz1 := RB.out.2.2.2
    have hzb := hb.size
    have HFn := hide (ret_putsS (r := w.heap.size + 1) (x := .int .i64 0) BC.out (by omega) ho (fun b hb => ⟨by omega, hb.2⟩))
    obtain ⟨au, nu, cu, hu⟩ : ∃ au nu cu, u = .slice au nu cu := by obtain ⟨x1, x2, x3, _⟩ := ho.rd; exact ⟨_, _, _, x3⟩
    subst hu
    clear hb ho v0 v1 v2 v3 v4 v5 HTt HT VB RB BB hzb hz1
    obtain ⟨c0, c1, F0, F1⟩ := RC.out
    have f0 := F0 0
    have f1 := F0 1
    clear F0 F1
    go_wp2
    refine bodyPost_ret (v := .agg #[.int .i64 0, .slice au nu cu]) (by simp [results, Try.results6, go_sem, c0, c1]) rfl ⟨_, rfl, HFn.out.1, HFn.out.2⟩
  · have hRe := HBad.out h0
    subst hRe
    have h0b : (Z == 0) = false := by simpa using h0
    have h0c : (Z != 0) = true := by simp [h0]
    have HFn := hide (ret_putsS (r := w.heap.size + 1) (x := .int .i64 Z) BB.out (by omega) (OwP_nil (fun _ => False) w1) (fun b hb => hb.elim))
    clear h0
    obtain ⟨v0, v1, v2, v3, v4, v5⟩ := VB.out
    obtain ⟨c0, c1, F0, F1⟩ := RB.out
    have f0 := F0 0
    have f1 := F0 1
    clear F0 F1
    go_wp2
    refine bodyPost_ret (v := .agg #[.int .i64 Z, .slice none 0 0]) (by simp [results, Try.results6, go_sem, c0, c1]) rfl ⟨_, rfl, HFn.out.1, HFn.out.2⟩
end Go.Proofs.Ytiommfabhchgdaa
