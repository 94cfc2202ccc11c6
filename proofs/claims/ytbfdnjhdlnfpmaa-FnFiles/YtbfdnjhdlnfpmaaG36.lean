/- Fr2 in one text: what each says stands at its head below. -/
import Derived.Test.YtbfdnjhdlnfpmaaG35
import Derived.Deep.CutRange
/- Chapter 8: 'RenameFile' of the model, walked. -/
namespace Go.Proofs.Ytbfdnjhdlnfpmaa
open Go.RowKit

theorem set2_fi {w : World} {b h o : Nat} {x y : Value} (hb : b ≠ h) : ((w.setCell ⟨h, 0, none⟩ x).setCell ⟨h, 1, none⟩ y).cell? ⟨b, o, none⟩ = w.cell? ⟨b, o, none⟩ := by
  rw [World.cell?_setCell_other _ _ _ _ (by intro e; injection e with e1 _; exact hb e1.symm), World.cell?_setCell_other _ _ _ _ (by intro e; injection e with e1 _; exact hb e1.symm)]
/-- A file that was laid at the block hf. -/
def LaidF (w1 : World) (t s : Int) (xs : List Int) (hf : Nat) (az : Option Addr) (lx cz : Nat) (wx : World) : Prop :=
  wx.cell? ⟨hf, 0, none⟩ = some (.int .i64 t) ∧ wx.cell? ⟨hf, 1, none⟩ = some (.int .i64 s) ∧ wx.cell? ⟨hf, 2, none⟩ = some (.slice az lx cz) ∧ RdI (fun _ => True) wx (.slice az lx cz) xs ∧ Below w1.heap.size w1 wx ∧ w1.heap.size ≤ hf

set_option maxHeartbeats 4000000 in
set_option maxRecDepth 4000 in
theorem specRenameFile {S : Nat → Prop} {w : World} {v : Value} {fs : List Oj} (a t : Int) (hv : RdJ S w v fs) :
    Calls Try.prog 20 #[v, .int .i64 a, .int .i64 t] w (EndsFi (rnC fs a t) (rnR fs a t) w) := by
  obtain ⟨av, cv, rfl, hm⟩ := hv.shape
  have HV := hide hv
  obtain ⟨n, hn⟩ : ∃ n, fs.length = n := ⟨_, rfl⟩
  have HN := hide hn
  rw [hn] at HV hm ⊢
  clear hv hn
  have HC := hide (specL8Fault (HV.out.later (below_alloc w (.cells #[.int .i64 0, .slice none 0 0] 28))))
  obtain ⟨z, hz⟩ : ∃ z, filF fs = z := ⟨_, rfl⟩
  have HZ := hide hz
  rw [hz] at HC
  clear hz
  by_cases h0 : z = 0
  · subst h0
    have HLe := hide (lens_of HZ.out)
    go_enter Try.func20, Try.ntmps20
    go_wp2_with fail
    refine HC.out.mono ?_
    rintro e w1 ⟨rfl, hb⟩
    have HRs := hide ((ResF.start w 28).later hb)
    have hw1 := HRs.out.lt
    have HC2 := hide (l8At a (HV.out.later HRs.out.below))
    clear hb HC
    go_wp2_with fail
    refine HC2.out.mono ?_
    rintro e w2 ⟨hw, h⟩
    have hw := hw.symm
    subst hw
    rcases h with ⟨k, hat, rfl⟩ | ⟨hno, rfl⟩
    · have HEc := hide (faC_at hat HZ.out)
      have hk0 : ¬ (k : Int) < 0 := by omega
      by_cases ht : 1 ≤ t ∧ t ≤ 99
      · have HRc : Hid (rnC fs a t = 0) := by unfold rnC; rw [Hid, if_pos HEc.out, if_pos ht]
        have HRr : Hid (rnR fs a t = putF (fs.filter (notN a)) (t, (fs.getD k oj0).2.1, (fs.getD k oj0).2.2)) := by unfold rnR; rw [Hid, if_pos HRc.out, flF_at HZ.out hat]
        have HT := hide (fun W => l1In_yes t 1 99 ht.1 ht.2 W)
        obtain ⟨b, off, rfl, hfp⟩ := HV.out.file hat.1
        have hkn : k < n := by have := hat.1; rw [HN.out] at this; exact this
        have hlk := one_len HZ.out hat.1
        obtain ⟨y, _, g1, g2, g3⟩ := hfp.later HRs.out.below
        obtain ⟨ay, cy, hy⟩ := g3.shape
        subst hy
        obtain ⟨q, hq⟩ : ∃ q, fs.getD k oj0 = q := ⟨_, rfl⟩
        rw [hq] at g1 g2 g3 HRr hlk
        obtain ⟨x, s, xs⟩ := q
        dsimp only at g1 g2 g3 HRr hlk
        obtain ⟨lx, hlx⟩ : ∃ lx, xs.length = lx := ⟨_, rfl⟩
        have HLx := hide hlx
        rw [hlx] at g2 g3 hlk
        have HG3 := hide g3
        have hk1 : (0 : Int) ≤ (k : Int) := by omega
        have hk2 : (k : Int) < (n : Int) := by omega
        have hbl : b < w1.heap.size := World.block_lt_of_cell? _ _ g1
        have hbv : b ≠ w1.heap.size := Nat.ne_of_lt hbl
        clear ht hat hfp hq hlx g3 HC2
        go_wp2_with fail
        refine (HT.out _).mono ?_
        rintro e w9 ⟨rfl, hw9⟩
        have hw9 := hw9.symm
        subst hw9
        obtain ⟨W1, hW1⟩ : ∃ W1, w1.drew = W1 := ⟨_, rfl⟩
        obtain ⟨W2, hW2⟩ : ∃ W2, (w1.alloc (.cells #[.int .i64 0, .int .i64 0, .slice none 0 0] 35)).drew = W2 := ⟨_, rfl⟩
        have HW1 := hide hW1
        have HW2 := hide hW2
        have HBW1 : Hid (Below w1.heap.size w1 W1) := by rw [Hid, ← hW1]; exact below_drewN _ 1
        have HBW2 : Hid (Below w1.heap.size w1 W2) := by rw [Hid, ← hW2]; exact below_on (below_alloc _ _) (below_drewN _ 1)
        have HZ2 : Hid (W2.cell? ⟨w1.heap.size, 0, none⟩ = some (.int .i64 0) ∧ W2.cell? ⟨w1.heap.size, 1, none⟩ = some (.int .i64 0) ∧ W2.cell? ⟨w1.heap.size, 2, none⟩ = some (.slice none 0 0) ∧ (∀ o, W2.frozen? ⟨w1.heap.size, o, none⟩ = false) ∧ W2.heap.size = w1.heap.size + 1) := by
          rw [Hid, ← hW2]
          exact ⟨by simp [go_sem], by simp [go_sem], by simp [go_sem], fun o => by simp [go_sem], by simp⟩
        clear hW1 hW2
        go_upto_region 9 with fail
        go_cut [9] from 26 to 38 (fun v wx => ∃ (hf cz : Nat) (az : Option Addr), v = .pointer (some ⟨hf, 0, none⟩) ∧ Hid (LaidF w1 t s xs hf az lx cz wx))
        case first =>
          go_region_held3 (fun w' => w'.cell? ⟨b, off + k * 3 + 1, none⟩ = some (.int .i64 s) ∧ w'.cell? ⟨b, off + k * 3 + 2, none⟩ = some (.slice ay lx cy)) (first | exact ⟨g1, g2⟩ | exact ⟨e1, e2⟩ | exact ⟨cell_later (below_alloc _ _) e1, cell_later (below_alloc _ _) e2⟩ | exact ⟨(set3_fi hbv).trans e1, (set3_fi hbv).trans e2⟩ | (simp [go_sem, *]))
            (first
              | (go_at_call 48; rw [HW1.out]; refine (l1Ints (HG3.out.later HBW1.out) (by rw [HLx.out]; omega)).mono ?_; rintro e w3 ⟨z3, rfl, hb3, ho3⟩; obtain ⟨az, cz, hz3⟩ := ho3.shape; rw [HLx.out] at hz3; subst hz3; have e1 := cell_later (below_on HBW1.out hb3) g1; have e2 := cell_later (below_on HBW1.out hb3) g2; have HB3 := hide (below_on HBW1.out hb3); have HO3 := hide ho3; have hs3 := HB3.out.size; clear hb3 ho3 HZ2)
              | (go_at_call 48; rw [HW2.out]; refine (l1Ints (HG3.out.later HBW2.out) (by rw [HLx.out]; omega)).mono ?_; rintro e w3 ⟨z3, rfl, hb3, ho3⟩; obtain ⟨az, cz, hz3⟩ := ho3.shape; rw [HLx.out] at hz3; subst hz3; have e1 := cell_later (below_on HBW2.out hb3) g1; have e2 := cell_later (below_on HBW2.out hb3) g2; have HB3 := hide (below_on HBW2.out hb3); have HO3 := hide ho3; have hs3 := HB3.out.size; have y0 := cell_later hb3 HZ2.out.1; have y1 := cell_later hb3 HZ2.out.2.1; have y2 := cell_later hb3 HZ2.out.2.2.1; have yf0 := ((bcell hb3).2 _ _ (show w1.heap.size < W2.heap.size by have := HZ2.out.2.2.2.2; omega)).trans (HZ2.out.2.2.2.1 0); have yf1 := ((bcell hb3).2 _ _ (show w1.heap.size < W2.heap.size by have := HZ2.out.2.2.2.2; omega)).trans (HZ2.out.2.2.2.1 1); have yf2 := ((bcell hb3).2 _ _ (show w1.heap.size < W2.heap.size by have := HZ2.out.2.2.2.2; omega)).trans (HZ2.out.2.2.2.1 2); have hW2s := HZ2.out.2.2.2.2; clear hb3 ho3 HZ2))
          · have HLd : Hid (LaidF w1 t s xs w3.heap.size az lx cz (w3.alloc (.cells #[.int .i64 t, .int .i64 s, .slice az lx cz] 35))) := ⟨by simp [go_sem], by simp [go_sem], by simp [go_sem], (HO3.out.rd.narrow (fun _ _ _ => trivial)).later (below_alloc _ _), below_on HB3.out (below_alloc _ _), hs3⟩
            go_wp2_with fail
            go_meet
            case rel => exact ⟨_, cz, az, rfl, HLd.out⟩
          · have hwr : Wr (fun y => y = w1.heap.size) w3 (((w3.setCell ⟨w1.heap.size, 0, none⟩ (.int .i64 t)).setCell ⟨w1.heap.size, 1, none⟩ (.int .i64 s)).setCell ⟨w1.heap.size, 2, none⟩ (.slice az lx cz)) := (((Wr.refl (fun y => y = w1.heap.size) _).setCell (p := ⟨w1.heap.size, 0, none⟩) rfl _).setCell (p := ⟨w1.heap.size, 1, none⟩) rfl _).setCell (p := ⟨w1.heap.size, 2, none⟩) rfl _
            have HLd : Hid (LaidF w1 t s xs w1.heap.size az lx cz (((w3.setCell ⟨w1.heap.size, 0, none⟩ (.int .i64 t)).setCell ⟨w1.heap.size, 1, none⟩ (.int .i64 s)).setCell ⟨w1.heap.size, 2, none⟩ (.slice az lx cz))) := ⟨by simp [go_sem, y0], by simp [go_sem, y1], by simp [go_sem, y2], (HO3.out.wr hwr (fun b h1 _ e => by omega)).rd.narrow (fun _ _ _ => trivial), ((HB3.out.setCell (p := ⟨w1.heap.size, 0, none⟩) (Nat.le_refl _) _).setCell (p := ⟨w1.heap.size, 1, none⟩) (Nat.le_refl _) _).setCell (p := ⟨w1.heap.size, 2, none⟩) (Nat.le_refl _) _, Nat.le_refl _⟩
            clear hwr
            go_wp2_with fail
            go_meet
            case rel => exact ⟨_, cz, az, rfl, HLd.out⟩
        case rest =>
          obtain ⟨hf, cz, az, rfl, HLd⟩ := hcut
          obtain ⟨l0, l1, l2, l3, l4, l5⟩ := HLd.out
          have HRs2 := hide (HRs.out.later l4)
          have HL3 := hide l3
          have hzc := l4.size
          have HSub := hide (filF_sub (notN a) HZ.out)
          have HI := hide (filF_iff.1 HSub.out)
          have HLe2 := hide (lens_of HSub.out)
          have HC5 := hide (l8Without a (HV.out.later (below_on HRs2.out.below (below_drewN wc 1))) HLe.out.1 HLe.out.2)
          obtain ⟨G, hG⟩ : ∃ G, fs.filter (notN a) = G := ⟨_, rfl⟩
          rw [hG] at HC5 HSub HI HLe2 HRr
          have hfn : hf ≠ w.heap.size := by omega
          have r0 := HRs2.out.c0
          have r1 := HRs2.out.c1
          have HFr := hide HRs2.out.fr
          have hG4 := HI.out.len
          clear hG l3 l4 HLd
          go_wp2_with fail
          go_region_held3 (fun w' => w'.cell? ⟨hf, 0, none⟩ = some (.int .i64 t) ∧ w'.cell? ⟨hf, 1, none⟩ = some (.int .i64 s) ∧ w'.cell? ⟨hf, 2, none⟩ = some (.slice az lx cz)) (first | exact ⟨l0, l1, l2⟩ | exact ⟨u0, u1, u2⟩ | exact ⟨e0, e1, e2⟩ | exact ⟨(set2_fi hfn).trans u0, (set2_fi hfn).trans u1, (set2_fi hfn).trans u2⟩)
            (first
              | (go_at_call 38; refine (l8Put (p := (t, s, xs)) HO5.out HI.out.up (by omega) HLe2.out.2 (HL3.out.later HB5.out) (by show xs.length ≤ _; rw [HLx.out]; omega)).mono ?_; rintro e w6 ⟨z6, rfl, hb6, ho6⟩; obtain ⟨a6, c6, hz6⟩ := ho6.shape; subst hz6; have u0 := cell_later hb6 e0; have u1 := cell_later hb6 e1; have u2 := cell_later hb6 e2; have x0 := cell_later hb6 v0; have x1 := cell_later hb6 v1; have xf : ∀ o, w6.frozen? ⟨w.heap.size, o, none⟩ = false := fun o => ((bcell hb6).2 _ _ (by omega)).trans (vf o); have xf0 := xf 0; have xf1 := xf 1; have HB6 := hide (below_on HB5.out hb6); have HO6 := hide (ho6.ow rfl (by have := put_len (t, s, xs) HI.out.up; omega)); have hs6 := hb6.size; clear hb6 ho6)
              | (go_at_call 49; refine HC5.out.mono ?_; rintro e w5 ⟨z5, rfl, hb5, ho5⟩; obtain ⟨a5, c5, hz5⟩ := ho5.shape; subst hz5; have e0 := cell_later hb5 l0; have e1 := cell_later hb5 l1; have e2 := cell_later hb5 l2; have v0 := cell_later hb5 r0; have v1 := cell_later hb5 r1; have vf : ∀ o, w5.frozen? ⟨w.heap.size, o, none⟩ = false := fun o => ((bcell hb5).2 _ _ (show w.heap.size < (wc.drewN 1).heap.size by simp; omega)).trans (HFr.out o); have HB5 := hide (below_on (below_drewN wc 1) hb5); have HO5 := hide (ho5.ow rfl (by omega)).rd; have hs5 : wc.heap.size ≤ w5.heap.size := HB5.out.size; clear hb5 ho5))
          obtain ⟨l, hl⟩ : ∃ l, (putF G (t, s, xs)).length = l := ⟨_, rfl⟩
          have HFn := hide (ret_files (x := .int .i64 0) (r := w.heap.size) (below_on HRs2.out.below HB6.out) (Nat.le_refl _) HO6.out (fun b hb => ⟨by have := hb.1; omega, hb.2⟩))
          rw [hl] at HFn
          (try rw [hl])
          clear hl
          go_wp2
          refine bodyPost_ret (v := .agg #[.int .i64 0, .slice a6 l c6]) (by simp [results, Try.results20, go_sem, x0, x1]) rfl ⟨_, by rw [HRc.out], HFn.out.1, by rw [HRr.out]; exact HFn.out.2⟩
      · have HRc : Hid (rnC fs a t = 3) := by unfold rnC; rw [Hid, if_pos HEc.out, if_neg ht]
        have HRr : Hid (rnR fs a t = []) := by unfold rnR; rw [Hid, HRc.out, if_neg (by decide)]
        have HT := hide (fun W => l1In_no t 1 99 (by omega) W)
        clear ht hat HC2
        go_wp2_with fail
        refine (HT.out _).mono ?_
        rintro e w9 ⟨rfl, hw9⟩
        have hw9 := hw9.symm
        subst hw9
        have c0 := HRs.out.c0
        have c1 := HRs.out.c1
        have F0 := HRs.out.fr 0
        have F1 := HRs.out.fr 1
        go_wp2
        refine bodyPost_ret (v := .agg #[.int .i64 3, .slice none 0 0]) (by simp [results, Try.results20, go_sem, c0, c1]) rfl ⟨_, by rw [HRc.out], HRs.out.shut _ _, by rw [HRr.out]; exact OwJ_nil _ _⟩
    · have HEc := hide (faC_no hno HZ.out)
      have HRc : Hid (rnC fs a t = 4) := by unfold rnC; rw [Hid, HEc.out, if_neg (by decide)]
      have HRr : Hid (rnR fs a t = []) := by unfold rnR; rw [Hid, HRc.out, if_neg (by decide)]
      have c0 := HRs.out.c0
      have c1 := HRs.out.c1
      have F0 := HRs.out.fr 0
      have F1 := HRs.out.fr 1
      clear hno HC2
      go_wp2
      refine bodyPost_ret (v := .agg #[.int .i64 4, .slice none 0 0]) (by simp [results, Try.results20, go_sem, c0, c1]) rfl ⟨_, by rw [HRc.out], HRs.out.shut _ _, by rw [HRr.out]; exact OwJ_nil _ _⟩
  · have h0b : (z == 0) = false := by simpa using h0
    have HEc : Hid (faC fs a = z) := (faC_bad (by rw [HZ.out]; exact h0)).trans HZ.out
    have HRc : Hid (rnC fs a t = z) := by unfold rnC; rw [Hid, HEc.out, if_neg h0]
    have HRr : Hid (rnR fs a t = []) := by unfold rnR; rw [Hid, HRc.out, if_neg h0]
    rw [HRc.out, HRr.out]
    go_enter Try.func20, Try.ntmps20
    go_wp2_with fail
    refine HC.out.mono ?_
    rintro e w1 ⟨rfl, hb⟩
    have HRs := hide ((ResF.start w 28).later hb)
    have c0 := HRs.out.c0
    have c1 := HRs.out.c1
    have F0 := HRs.out.fr 0
    have F1 := HRs.out.fr 1
    clear hb HC
    go_wp2
    refine bodyPost_ret (v := .agg #[.int .i64 z, .slice none 0 0]) (by simp [results, Try.results20, go_sem, c0, c1]) rfl ⟨_, rfl, HRs.out.shut _ _, OwJ_nil _ _⟩
end Go.Proofs.Ytbfdnjhdlnfpmaa
