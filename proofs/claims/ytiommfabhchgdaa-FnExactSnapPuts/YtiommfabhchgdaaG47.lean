/- Sn2 in one text: what each says stands at its head below. -/
import Derived.Test.YtiommfabhchgdaaG46
/- Chapter 11: 'impl.SnapPuts', walked. Made by program (gensn2.py, out of Im2). -/
namespace Go.Proofs.Ytiommfabhchgdaa
open Go.RowKit Go.Shelf
theorem snP_words (r : Rf) (i : Nat) : ((snP r).getD i (0, [])).2.length ≤ 8 := by
  rcases Nat.lt_or_ge i (sbL r).length with h | h
  · rw [snP_at h]
    simp only [List.length_take]
    omega
  · have : (snP r).getD i (0, []) = (0, []) := by simp [List.getD, snP_len, h]
    rw [this]
    simp
theorem totP_le11 {ps : List (Int × List Int)} {c : Nat} (h : ∀ i, (ps.getD i (0, [])).2.length ≤ c) : ∀ i, i ≤ ps.length → totP ps i ≤ i * (c + 1)
  | 0, _ => by simp [totP]
  | i + 1, hi => by
    have := totP_le11 h i (by omega)
    have h2 := h i
    rw [totP_succ _ _ (by omega), Nat.add_mul]
    omega
theorem snR_tot (r : Rf) : totP (snR r) (snR r).length ≤ 1048576 := by
  unfold snR
  split
  · rename_i h
    have h1 := totP_le11 (snP_words r) _ (Nat.le_refl _)
    have h2 := (sbL_some (rf_words h)).1
    rw [snP_len] at h1 ⊢
    omega
  · simp [totP]
theorem snR_bad {r : Rf} (h : rfF r ≠ 0) : snR r = [] := by unfold snR; rw [if_neg h]
theorem snR_ok {r : Rf} (h : rfF r = 0) : snR r = snP r := by unfold snR; rw [if_pos h]
theorem ret_putsS {w w3 : World} {P : Nat → Prop} {r : Nat} {z x : Value} {ps : List (Int × List Int)} (hb : Below w.heap.size w w3) (hr : w.heap.size ≤ r) (ho : OwP P w3 z ps) (hP : ∀ b, P b → r < b ∧ b < w3.heap.size) :
    Below w.heap.size w ((w3.setCell ⟨r, 0, none⟩ x).setCell ⟨r, 1, none⟩ z) ∧ OwP (fun b => w.heap.size ≤ b ∧ b < ((w3.setCell ⟨r, 0, none⟩ x).setCell ⟨r, 1, none⟩ z).heap.size) ((w3.setCell ⟨r, 0, none⟩ x).setCell ⟨r, 1, none⟩ z) z ps := by
  have hw : Wr (fun q => q = r) w3 ((w3.setCell ⟨r, 0, none⟩ x).setCell ⟨r, 1, none⟩ z) := ((Wr.refl (fun q => q = r) _).setCell (p := ⟨r, 0, none⟩) rfl _).setCell (p := ⟨r, 1, none⟩) rfl _
  exact ⟨(hb.setCell (p := ⟨r, 0, none⟩) hr _).setCell (p := ⟨r, 1, none⟩) hr _, (ho.wr hw (fun b h e => by have := hP b h; omega)).mono fun b h => ⟨by have := hP b h; omega, Nat.lt_of_lt_of_le (hP b h).2 hw.size⟩⟩

set_option maxHeartbeats 2000000 in
set_option maxRecDepth 4000 in
theorem snapBlocksI (a b c d : Int) (ay : Option Addr) (l cy : Nat) (az : Option Addr) (m cz : Nat) (w : World) :
    Calls Try.prog 28 #[.agg #[.int .i64 a, .int .i64 b, .int .i64 c, .int .i64 d, .slice ay l cy, .slice az m cz]] w fun e w' => e = .returned (.func (.func 56) #[] #[.pointer (some ⟨w.heap.size, 0, none⟩)]) ∧ w' = w.alloc (.cells #[.int .i64 a, .int .i64 b, .int .i64 c, .int .i64 d, .slice ay l cy, .slice az m cz] 33) := by
  go_enter Try.func28, Try.ntmps28
  go_wp2
  go_ret
  exact ⟨rfl, rfl⟩
theorem snapCollect {S T : Nat → Prop} {w : World} {ay az : Option Addr} {cy cz : Nat} (r : Rf) (hy : RdI S w (.slice ay r.sn.length cy) r.sn) (hz : RdJ T w (.slice az r.lg.length cz) r.lg) (hl : r.sn.length ≤ 40) (hcy : capE (.slice ay r.sn.length cy)) :
    Calls Try.prog 27 #[.func (.func 56) #[] #[.pointer (some ⟨w.heap.size, 0, none⟩)]] (w.alloc (.cells #[.int .i64 r.tm, .int .i64 r.vt, .int .i64 r.si, .int .i64 r.st, .slice ay r.sn.length cy, .slice az r.lg.length cz] 33)) fun e w' =>
      ∃ u, e = .returned u ∧ Below (w.alloc (.cells #[.int .i64 r.tm, .int .i64 r.vt, .int .i64 r.si, .int .i64 r.st, .slice ay r.sn.length cy, .slice az r.lg.length cz] 33)).heap.size (w.alloc (.cells #[.int .i64 r.tm, .int .i64 r.vt, .int .i64 r.si, .int .i64 r.st, .slice ay r.sn.length cy, .slice az r.lg.length cz] 33)) w' ∧ OwP (fun b => w.heap.size + 1 ≤ b ∧ b < w'.heap.size) w' u (snP r) := by
  have hbA := below_alloc w (.cells #[.int .i64 r.tm, .int .i64 r.vt, .int .i64 r.si, .int .i64 r.st, .slice ay r.sn.length cy, .slice az r.lg.length cz] 33)
  have hl5 := (sbL_some hl).1
  refine (collectP (enters_of Try.func56 (by kernel_rfl) rfl) (fun m => snapSeq r (by simp [go_sem]) (by simp [go_sem]) (by simp [go_sem]) (by simp [go_sem]) (by simp [go_sem]) (by simp [go_sem]) (hy.inw.later hbA) (hz.later hbA) hl hcy (fun b hb => by simp; omega) m) (fun b hb => by simp; omega) (by rw [snP_len]; omega)).mono ?_
  rintro e w' ⟨u, rfl, hb, hbl⟩
  exact ⟨u, rfl, hbl, (hb.ow rfl (by rw [snP_len]; omega)).mono fun b h => ⟨by have := h.1; simp at this; omega, h.2⟩⟩

set_option maxHeartbeats 2000000 in
set_option maxRecDepth 4000 in
theorem implSnapPuts {S T : Nat → Prop} {w : World} {y z : Value} (r : Rf) (hy : RdI S w y r.sn) (hz : RdJ T w z r.lg) (hcy : capE y) :
    Calls Try.prog 8 #[.agg #[.int .i64 r.tm, .int .i64 r.vt, .int .i64 r.si, .int .i64 r.st, y, z]] w (EndsP (rfF r) (snR r) w) := by
  obtain ⟨ay, cy, rfl⟩ := hy.shape
  obtain ⟨az, cz, rfl, _⟩ := hz.shape
  have BA0 := below_on (below_alloc w (.cells #[.int .i64 r.tm, .int .i64 r.vt, .int .i64 r.si, .int .i64 r.st, .slice ay r.sn.length cy, .slice az r.lg.length cz] 33)) (below_alloc _ (.cells #[.int .i64 0, .slice none 0 0] 29))
  have VA0 := (Var6_new w (.int .i64 r.tm) (.int .i64 r.vt) (.int .i64 r.si) (.int .i64 r.st) (.slice ay r.sn.length cy) (.slice az r.lg.length cz) 33).later (below_alloc _ (.cells #[.int .i64 0, .slice none 0 0] 29))
  have HF := hide (implRaftFault r (hy.later BA0) (hz.later BA0))
  have HT := hide (fun (h : rfF r = 0) (w' : World) (hb : Below w.heap.size w w') => snapCollect r (hy.later hb) (hz.later hb) (rf_words h) hcy)
  have BA := hide BA0
  have VA := hide VA0
  clear BA0 VA0
  have HOk := hide (@snR_ok r)
  have HBad := hide (@snR_bad r)
  obtain ⟨Z, hZ⟩ : ∃ Z, rfF r = Z := ⟨_, rfl⟩
  obtain ⟨R, hR⟩ : ∃ R, snR r = R := ⟨_, rfl⟩
  obtain ⟨L, hL⟩ : ∃ L, snP r = L := ⟨_, rfl⟩
  rw [hZ] at HF HT HOk HBad ⊢
  rw [hR] at HOk HBad ⊢
  rw [hL] at HOk HT
  clear hZ hR hL hy hz
  generalize r.sn.length = l at *
  generalize r.lg.length = m at *
  generalize r.tm = a at *
  generalize r.vt = b at *
  generalize r.si = c at *
  generalize r.st = d at *
  have RA : Hid (((w.alloc (.cells #[.int .i64 a, .int .i64 b, .int .i64 c, .int .i64 d, .slice ay l cy, .slice az m cz] 33)).alloc (.cells #[.int .i64 0, .slice none 0 0] 29)).cell? ⟨w.heap.size + 1, 0, none⟩ = some (.int .i64 0) ∧ ((w.alloc (.cells #[.int .i64 a, .int .i64 b, .int .i64 c, .int .i64 d, .slice ay l cy, .slice az m cz] 33)).alloc (.cells #[.int .i64 0, .slice none 0 0] 29)).cell? ⟨w.heap.size + 1, 1, none⟩ = some (.slice none 0 0) ∧ (∀ o, ((w.alloc (.cells #[.int .i64 a, .int .i64 b, .int .i64 c, .int .i64 d, .slice ay l cy, .slice az m cz] 33)).alloc (.cells #[.int .i64 0, .slice none 0 0] 29)).frozen? ⟨w.heap.size + 1, o, none⟩ = false) ∧ w.heap.size + 1 < ((w.alloc (.cells #[.int .i64 a, .int .i64 b, .int .i64 c, .int .i64 d, .slice ay l cy, .slice az m cz] 33)).alloc (.cells #[.int .i64 0, .slice none 0 0] 29)).heap.size) := by
    refine ⟨?_, ?_, ?_, ?_⟩
    · simp [go_sem]
    · simp [go_sem]
    · intro o; simp [go_sem]
    · simp
  obtain ⟨W, hW⟩ : ∃ W, ((w.alloc (.cells #[.int .i64 a, .int .i64 b, .int .i64 c, .int .i64 d, .slice ay l cy, .slice az m cz] 33)).alloc (.cells #[.int .i64 0, .slice none 0 0] 29)) = W := ⟨_, rfl⟩
  rw [hW] at BA VA RA HF
  obtain ⟨v0, v1, v2, v3, v4, v5⟩ := VA.out
  go_enter Try.func8, Try.ntmps8
  go_wp2_with fail
  clear hW
  refine HF.out.mono ?_
  rintro e w1 ⟨rfl, hb⟩
  have BB := hide (below_on BA.out hb)
  have VB := hide (VA.out.later hb)
  have RB : Hid (w1.cell? ⟨w.heap.size + 1, 0, none⟩ = some (.int .i64 0) ∧ w1.cell? ⟨w.heap.size + 1, 1, none⟩ = some (.slice none 0 0) ∧ (∀ o, w1.frozen? ⟨w.heap.size + 1, o, none⟩ = false) ∧ w.heap.size + 1 < w1.heap.size) := ⟨cell_later hb RA.out.1, cell_later hb RA.out.2.1, fun o => ((bcell hb).2 _ _ RA.out.2.2.2).trans (RA.out.2.2.1 o), Nat.lt_of_lt_of_le RA.out.2.2.2 hb.size⟩
  clear hb v0 v1 v2 v3 v4 v5 VA RA BA
  by_cases h0 : Z = 0
  · subst h0
    have hRe := HOk.out (by first | trivial | rfl)
    subst hRe
    have HTt := hide (HT.out (by first | trivial | rfl) _ BB.out)
    obtain ⟨v0, v1, v2, v3, v4, v5⟩ := VB.out
    go_wp2_with fail
    refine (snapBlocksI a b c d ay l cy az m cz _).mono ?_
    rintro e wq ⟨rfl, hwq⟩
    have hbq : Below w1.heap.size w1 wq := by rw [hwq]; exact below_alloc _ _
    rw [← hwq] at HTt
    clear v0 v1 v2 v3 v4 v5 hwq
    go_wp2_with fail
    refine HTt.out.mono ?_
    rintro e w2 ⟨u, rfl, hb, ho⟩
    replace hb := below_on hbq hb
    clear hbq
    have RC : Hid (w2.cell? ⟨w.heap.size + 1, 0, none⟩ = some (.int .i64 0) ∧ w2.cell? ⟨w.heap.size + 1, 1, none⟩ = some (.slice none 0 0) ∧ (∀ o, w2.frozen? ⟨w.heap.size + 1, o, none⟩ = false) ∧ w.heap.size + 1 < w2.heap.size) := ⟨cell_later hb RB.out.1, cell_later hb RB.out.2.1, fun o => ((bcell hb).2 _ _ RB.out.2.2.2).trans (RB.out.2.2.1 o), Nat.lt_of_lt_of_le RB.out.2.2.2 hb.size⟩
    have BC := hide (below_on BB.out hb)
    have hz1 := RB.out.2.2.2
    have hzb := hb.size
    have HFn := hide (ret_putsS (r := w.heap.size + 1) (x := .int .i64 0) BC.out (by omega) ho (fun b hb => ⟨by omega, hb.2⟩))
    obtain ⟨au, nu, cu, hu⟩ : ∃ au nu cu, u = .slice au nu cu := by obtain ⟨x1, x2, x3, _⟩ := ho.rd; exact ⟨_, _, _, x3⟩
    subst hu
    clear hb ho HTt HT VB RB BB hzb hz1
    obtain ⟨c0, c1, F0, F1⟩ := RC.out
    have f0 := F0 0
    have f1 := F0 1
    clear F0 F1
    go_wp2
    refine bodyPost_ret (v := .agg #[.int .i64 0, .slice au nu cu]) (by simp [results, Try.results8, go_sem, c0, c1]) rfl ⟨_, rfl, HFn.out.1, HFn.out.2⟩
  · have hRe := HBad.out h0
    subst hRe
    have h0b : (Z == 0) = false := by simpa using h0
    have h0c : (Z != 0) = true := by simp [h0]
    have HFn := hide (ret_putsS (r := w.heap.size + 1) (x := .int .i64 Z) BB.out (by omega) (OwP_nil (fun _ => False) w1) (fun b hb => hb.elim))
    clear h0
    obtain ⟨v0, v1, v2, v3, v4, v5⟩ := VB.out
    obtain ⟨c0, c1, F0, F1⟩ := RB.out
    have f0 := F0 0
    have f1 := F0 1
    clear F0 F1
    go_wp2
    refine bodyPost_ret (v := .agg #[.int .i64 Z, .slice none 0 0]) (by simp [results, Try.results8, go_sem, c0, c1]) rfl ⟨_, rfl, HFn.out.1, HFn.out.2⟩

end Go.Proofs.Ytiommfabhchgdaa
