/- Chapter 9: 'UnpackEntry' of the model, walked. Made by program out of En5. -/
import Derived.Test.YtkippafmeggjeaaEn5b
import Derived.BigQuiet
namespace Go.Proofs.Ytkippafmeggjeaa
open Go.RowKit

/-- What reading an entry comes to in the model. -/
def EntS (xs : List Int) (w : World) (e : Ending) (w' : World) : Prop :=
  Below w.heap.size w w' ∧ ((enB xs ∧ ∃ z, e = .returned (.tuple #[.agg #[.int .i64 (enO xs).1, .int .i64 (enO xs).2.1, z], .bool true]) ∧ OwI w.heap.size w' z (enO xs).2.2) ∨ (¬ enB xs ∧ ∃ x y A n c, e = .returned (.tuple #[.agg #[.int .i64 x, .int .i64 y, .slice A n c], .bool false])))

set_option maxHeartbeats 4000000 in
set_option maxRecDepth 4000 in
theorem l9Unpack {S : Nat → Prop} {w : World} {v : Value} {xs : List Int} (hv : RdI S w v xs) (hm : xs.length ≤ 64) :
    Calls Try.prog 31 #[v] w (EntS xs w) := by
  obtain ⟨ao, c, rfl⟩ := hv.shape
  have HV := hide hv
  obtain ⟨n, hn⟩ : ∃ n, xs.length = n := ⟨_, rfl⟩
  have HN := hide hn
  rw [hn] at HV hm ⊢
  have hcap : n ≤ c := by obtain ⟨_, c', e, _⟩ := hv; injection e with _ e2 e3; omega
  clear hv hn
  by_cases h3 : 3 ≤ n
  · obtain ⟨b, off, rfl, q0⟩ := HV.out.at (k := 0) (by rw [HN.out]; omega)
    obtain ⟨b', off', e', q1⟩ := HV.out.at (k := 1) (by rw [HN.out]; omega)
    injection e' with e'
    injection e' with e1 e2
    subst e1 e2
    obtain ⟨b', off', e', q2⟩ := HV.out.at (k := 2) (by rw [HN.out]; omega)
    injection e' with e'
    injection e' with e1 e2
    subst e1 e2
    have hb0 := World.block_lt_of_cell? _ _ q0
    have A0 := hide (below_alloc w (.cells #[.int .i64 0, .int .i64 0, .slice none 0 0] 35))
    obtain ⟨w1, hw1⟩ : ∃ w1, w.alloc (.cells #[.int .i64 0, .int .i64 0, .slice none 0 0] 35) = w1 := ⟨_, rfl⟩
    have HRes : Hid ((w1.cell? ⟨w.heap.size, 0, none⟩ = some (.int .i64 0) ∧ w1.cell? ⟨w.heap.size, 1, none⟩ = some (.int .i64 0) ∧ w1.cell? ⟨w.heap.size, 2, none⟩ = some (.slice none 0 0) ∧ ∀ o, w1.frozen? ⟨w.heap.size, o, none⟩ = false) ∧ w1.heap.size = w.heap.size + 1) := by
      rw [Hid, ← hw1]
      exact ⟨⟨by simp [go_sem], by simp [go_sem], by simp [go_sem], fun o => by simp [go_sem]⟩, by simp⟩
    have HW := hide hw1
    rw [hw1] at A0
    have g0 : w1.cell? ⟨b, off, none⟩ = some (.int .i64 (xs.getD 0 0)) := by have := cell_later A0.out q0; simpa using this
    have g1 := cell_later A0.out q1
    have g2 := cell_later A0.out q2
    clear q0 q1 q2 hw1
    obtain ⟨a, ha⟩ : ∃ a, xs.getD 0 0 = a := ⟨_, rfl⟩
    obtain ⟨t, ht⟩ : ∃ t, xs.getD 1 0 = t := ⟨_, rfl⟩
    obtain ⟨x2, hx2⟩ : ∃ x, xs.getD 2 0 = x := ⟨_, rfl⟩
    rw [ha] at g0
    rw [ht] at g1
    rw [hx2] at g2
    have HE : Hid (enO xs = (a, t, xs.drop 3)) := by rw [Hid]; unfold enO; rw [ha, ht]
    have HX2 := hide hx2
    clear ha ht hx2
    have hi2 : (2 : Int) < (n : Int) := by omega
    have hj2 : 2 < n := by omega
    have hn3 : ¬ (n : Int) < 3 := by omega
    have hws : IntKind.i64.wrap ((n : Int) - 3) = (n : Int) - 3 := by simp [IntKind.wrap, IntKind.bits, IntKind.signed]; omega
    by_cases hx : x2 = (n : Int) - 3
    · skip
      obtain ⟨A, hA⟩ : ∃ A : Option Addr, (if c = 3 then some (⟨b, off, none⟩ : Addr) else some ⟨b, off + 3, none⟩) = A := ⟨_, rfl⟩
      have HR1 : Hid (RdI S w (.slice A (n - 3) (c - 3)) (xs.drop 3)) := by
        have h := HV.out.from 3 (by omega)
        have e : slA (some ⟨b, off, none⟩) c 3 = A := by rw [← hA]; unfold slA; simp [Addr.add_lit]
        rw [e] at h
        exact h
      obtain ⟨l, hl⟩ : ∃ l, (xs.drop 3).length = l := ⟨_, rfl⟩
      have hln : l = n - 3 := by rw [← hl, List.length_drop, HN.out]
      have HL := hide hl
      have HLn := hide hln
      rw [← hln] at HR1
      obtain ⟨W1, hW1⟩ : ∃ W1, w1.drew = W1 := ⟨_, rfl⟩
      obtain ⟨W2, hW2⟩ : ∃ W2, (w1.alloc (.cells #[.int .i64 0, .int .i64 0, .slice none 0 0] 35)).drew = W2 := ⟨_, rfl⟩
      have HW1 := hide hW1
      have HW2 := hide hW2
      have HBW1 : Hid (Below w1.heap.size w1 W1 ∧ W1.heap.size = w1.heap.size) := by rw [Hid, ← hW1]; exact ⟨below_drewN _ 1, rfl⟩
      have HBW2 : Hid (Below w1.heap.size w1 W2) := by rw [Hid, ← hW2]; exact below_on (below_alloc _ _) (below_drewN _ 1)
      have HZ2 : Hid (W2.cell? ⟨w1.heap.size, 0, none⟩ = some (.int .i64 0) ∧ W2.cell? ⟨w1.heap.size, 1, none⟩ = some (.int .i64 0) ∧ W2.cell? ⟨w1.heap.size, 2, none⟩ = some (.slice none 0 0) ∧ (∀ o, W2.frozen? ⟨w1.heap.size, o, none⟩ = false) ∧ W2.heap.size = w1.heap.size + 1) := by
        rw [Hid, ← hW2]
        exact ⟨by simp [go_sem], by simp [go_sem], by simp [go_sem], fun o => by simp [go_sem], by simp⟩
      have hbl : b < w1.heap.size := World.block_lt_of_cell? _ _ g0
      have hbv : b ≠ w1.heap.size := Nat.ne_of_lt hbl
      have hn3' : (n : Int) ≥ 3 := by omega
      have hi0 : (0 : Int) < (n : Int) := by omega
      have hi1 : (1 : Int) < (n : Int) := by omega
      have hj0 : 0 < n := by omega
      have hj1 : 1 < n := by omega
      have hc3 : 3 ≤ c := by omega
      have hc3' : (3 : Int) ≤ (c : Int) := by omega
      have hnl : n - 3 = l := by omega
      have hl64 : l ≤ 64 := by omega
      clear hW1 hW2 hl hln
      have HEn : Hid (enB xs ↔ entF (a, t, xs.drop 3) = 0) := by
        rw [Hid]
        unfold enB
        rw [HN.out, HX2.out, HE.out]
        constructor
        · rintro ⟨_, _, h3'⟩
          exact h3'
        · intro h3'
          exact ⟨h3, hx, h3'⟩
      have hxb : (x2 != (n : Int) - 3) = false := by simp [hx]
      clear hx
      go_enter Try.func31, Try.ntmps31
      go_upto_region 1 with fail
      rw [HW.out]
      go_upto_region 3 with fail
      go_cut [4] from 18 to 27 (fun v wx => ∃ (hf cz : Nat) (az : Option Addr), v = .pointer (some ⟨hf, 0, none⟩) ∧ Hid (LaidE w1 a t (xs.drop 3) hf az l cz wx))
      case first =>
        go_region_held3 (fun w' => w'.cell? ⟨b, off, none⟩ = some (.int .i64 a) ∧ w'.cell? ⟨b, off + 1, none⟩ = some (.int .i64 t)) (first | exact ⟨g0, g1⟩ | exact ⟨e1, e2⟩ | exact ⟨cell_later (below_alloc _ _) e1, cell_later (below_alloc _ _) e2⟩ | exact ⟨(set3_en hbv).trans e1, (set3_en hbv).trans e2⟩ | (simp [go_sem, *]))
          (first
            | (go_at_call 47; rw [HW1.out]; refine (l1Ints ((HR1.out.later A0.out).later HBW1.out.1) (by rw [HL.out]; omega)).mono ?_; rintro e w3 ⟨z3, rfl, hb3, ho3⟩; obtain ⟨az, cz, hz3⟩ := ho3.shape; rw [HL.out] at hz3; subst hz3; have e1 := cell_later (below_on HBW1.out.1 hb3) g0; have e2 := cell_later (below_on HBW1.out.1 hb3) g1; have HB3 := hide (below_on HBW1.out.1 hb3); have HO3 := hide (ho3.mono (Nat.le_of_eq HBW1.out.2.symm)); have hs3 := HB3.out.size; clear hb3 ho3 HZ2)
            | (go_at_call 47; rw [HW2.out]; refine (l1Ints ((HR1.out.later A0.out).later HBW2.out) (by rw [HL.out]; omega)).mono ?_; rintro e w3 ⟨z3, rfl, hb3, ho3⟩; obtain ⟨az, cz, hz3⟩ := ho3.shape; rw [HL.out] at hz3; subst hz3; have e1 := cell_later (below_on HBW2.out hb3) g0; have e2 := cell_later (below_on HBW2.out hb3) g1; have HB3 := hide (below_on HBW2.out hb3); have HO3 := hide ho3; have hs3 := HB3.out.size; have y0 := cell_later hb3 HZ2.out.1; have y1 := cell_later hb3 HZ2.out.2.1; have y2 := cell_later hb3 HZ2.out.2.2.1; have yf0 := ((bcell hb3).2 _ _ (show w1.heap.size < W2.heap.size by have := HZ2.out.2.2.2.2; omega)).trans (HZ2.out.2.2.2.1 0); have yf1 := ((bcell hb3).2 _ _ (show w1.heap.size < W2.heap.size by have := HZ2.out.2.2.2.2; omega)).trans (HZ2.out.2.2.2.1 1); have yf2 := ((bcell hb3).2 _ _ (show w1.heap.size < W2.heap.size by have := HZ2.out.2.2.2.2; omega)).trans (HZ2.out.2.2.2.1 2); have hW2s := HZ2.out.2.2.2.2; clear hb3 ho3 HZ2))
        · have HLd : Hid (LaidE w1 a t (xs.drop 3) w3.heap.size az l cz (w3.alloc (.cells #[.int .i64 a, .int .i64 t, .slice az l cz] 35))) := ⟨by simp [go_sem], by simp [go_sem], by simp [go_sem], HO3.out.later (below_alloc _ _), below_on HB3.out (below_alloc _ _), hs3⟩
          go_wp2_with fail
          go_meet
          case rel => exact ⟨_, cz, az, rfl, HLd.out⟩
        · have hwr : Wr (fun y => y = w1.heap.size) w3 (((w3.setCell ⟨w1.heap.size, 0, none⟩ (.int .i64 a)).setCell ⟨w1.heap.size, 1, none⟩ (.int .i64 t)).setCell ⟨w1.heap.size, 2, none⟩ (.slice az l cz)) := (((Wr.refl (fun y => y = w1.heap.size) _).setCell (p := ⟨w1.heap.size, 0, none⟩) rfl _).setCell (p := ⟨w1.heap.size, 1, none⟩) rfl _).setCell (p := ⟨w1.heap.size, 2, none⟩) rfl _
          have HLd : Hid (LaidE w1 a t (xs.drop 3) w1.heap.size az l cz (((w3.setCell ⟨w1.heap.size, 0, none⟩ (.int .i64 a)).setCell ⟨w1.heap.size, 1, none⟩ (.int .i64 t)).setCell ⟨w1.heap.size, 2, none⟩ (.slice az l cz))) := ⟨by simp [go_sem, y0], by simp [go_sem, y1], by simp [go_sem, y2], (HO3.out.wr hwr (fun b h1 _ e => by omega)).mono (by omega), ((HB3.out.setCell (p := ⟨w1.heap.size, 0, none⟩) (Nat.le_refl _) _).setCell (p := ⟨w1.heap.size, 1, none⟩) (Nat.le_refl _) _).setCell (p := ⟨w1.heap.size, 2, none⟩) (Nat.le_refl _) _, Nat.le_refl _⟩
          clear hwr
          go_wp2_with fail
          go_meet
          case rel => exact ⟨_, cz, az, rfl, HLd.out⟩
      case rest =>
        obtain ⟨hf, cz, az, rfl, HLd⟩ := hcut
        obtain ⟨l0, l1, l2, l3, l4, l5⟩ := HLd.out
        have k2 := cell_later l4 g2
        have HOw := hide l3
        have HBc := hide (below_on A0.out l4)
        have HB4 := hide l4
        clear l3 l4 HLd g0 g1 g2 HZ2 HBW1 HBW2
        have hpl := HRes.out.2
        obtain ⟨z, hz⟩ : ∃ z, entF (a, t, xs.drop 3) = z := ⟨_, rfl⟩
        have HZ := hide hz
        clear hz
        have HC := hide (fun q => l9One (w := wc.drewN q) (b := hf) (off := 0) (p := (a, t, xs.drop 3)) ⟨_, l0, l1, l2, HOw.out.rd.later (below_drewN wc q)⟩)
        rw [HZ.out] at HC
        rw [HZ.out] at HEn
        have r0 := cell_later HB4.out HRes.out.1.1
        have r1 := cell_later HB4.out HRes.out.1.2.1
        have r2 := cell_later HB4.out HRes.out.1.2.2.1
        have hlt : w.heap.size < w1.heap.size := by omega
        have f0 := ((bcell HB4.out).2 _ _ hlt).trans (HRes.out.1.2.2.2 0)
        have f1 := ((bcell HB4.out).2 _ _ hlt).trans (HRes.out.1.2.2.2 1)
        have f2 := ((bcell HB4.out).2 _ _ hlt).trans (HRes.out.1.2.2.2 2)
        have hhf : hf ≠ w.heap.size := by omega
        go_wp2_with fail
        go_region_held3 (fun w' => w'.cell? ⟨hf, 0, none⟩ = some (.int .i64 a) ∧ w'.cell? ⟨hf, 1, none⟩ = some (.int .i64 t) ∧ w'.cell? ⟨hf, 2, none⟩ = some (.slice az l cz)) (first | exact ⟨l0, l1, l2⟩ | exact ⟨(set3_en hhf).trans l0, (set3_en hhf).trans l1, (set3_en hhf).trans l2⟩)
          (first
            | (go_at_call 32; refine (HC.out 1).mono ?_; rintro e w4 ⟨rfl, q, rfl⟩))
        have hwr : Wr (fun y => y = w.heap.size) (wc.drewN (1 + q)) ((((wc.drewN (1 + q)).setCell ⟨w.heap.size, 0, none⟩ (.int .i64 a)).setCell ⟨w.heap.size, 1, none⟩ (.int .i64 t)).setCell ⟨w.heap.size, 2, none⟩ (.slice az l cz)) := (((Wr.refl (fun y => y = w.heap.size) _).setCell (p := ⟨w.heap.size, 0, none⟩) rfl _).setCell (p := ⟨w.heap.size, 1, none⟩) rfl _).setCell (p := ⟨w.heap.size, 2, none⟩) rfl _
        have HOe := hide (((HOw.out.later (below_drewN wc (1 + q))).wr hwr (fun b h1 _ e => by omega)).mono (show w.heap.size ≤ w1.heap.size by omega))
        have HBe := hide ((((below_on HBc.out (below_drewN wc (1 + q))).setCell (p := ⟨w.heap.size, 0, none⟩) (Nat.le_refl _) (.int .i64 a)).setCell (p := ⟨w.heap.size, 1, none⟩) (Nat.le_refl _) (.int .i64 t)).setCell (p := ⟨w.heap.size, 2, none⟩) (Nat.le_refl _) (.slice az l cz))
        clear hwr
        by_cases hz0 : z = 0
        · subst hz0
          go_wp2
          refine bodyPost_ret (v := .tuple #[.agg #[.int .i64 a, .int .i64 t, .slice az l cz], .bool true]) (by simp [results, Try.results31, go_sem, r0, r1, r2]) rfl ⟨HBe.out, Or.inl ⟨HEn.out.2 (by first | rfl | trivial), _, by rw [HE.out], by rw [HE.out]; exact HOe.out⟩⟩
        · have hzb : (z == 0) = false := by simpa using hz0
          go_wp2
          refine bodyPost_ret (v := .tuple #[.agg #[.int .i64 a, .int .i64 t, .slice az l cz], .bool false]) (by simp [results, Try.results31, go_sem, r0, r1, r2, hzb]) rfl ⟨HBe.out, Or.inr ⟨fun h => hz0 (HEn.out.1 h), _, _, _, _, _, rfl⟩⟩
    · have HEb : Hid (¬ enB xs) := fun h => hx (HX2.out.symm.trans (h.2.1.trans (by rw [HN.out])))
      have hxb : (x2 != (n : Int) - 3) = true := by simp [hx]
      have r0 := HRes.out.1.1
      have r1 := HRes.out.1.2.1
      have r2 := HRes.out.1.2.2.1
      have f0 := HRes.out.1.2.2.2 0
      have f1 := HRes.out.1.2.2.2 1
      have f2 := HRes.out.1.2.2.2 2
      clear hx
      go_enter Try.func31, Try.ntmps31
      go_upto_region 1 with fail
      rw [HW.out]
      go_wp2
      refine bodyPost_ret (v := .tuple #[.agg #[.int .i64 0, .int .i64 0, .slice none 0 0], .bool false]) (by simp [results, Try.results31, go_sem, r0, r1, r2]) rfl ⟨?_, Or.inr ⟨HEb.out, _, _, _, _, _, rfl⟩⟩
      exact ((A0.out.setCell (p := ⟨w.heap.size, 0, none⟩) (Nat.le_refl _) _).setCell (p := ⟨w.heap.size, 1, none⟩) (Nat.le_refl _) _).setCell (p := ⟨w.heap.size, 2, none⟩) (Nat.le_refl _) _
  · have HEb : Hid (¬ enB xs) := fun h => h3 (by have := h.1; rw [HN.out] at this; exact this)
    have hn3 : (n : Int) < 3 := by omega
    have A0 := hide (below_alloc w (.cells #[.int .i64 0, .int .i64 0, .slice none 0 0] 35))
    go_enter Try.func31, Try.ntmps31
    go_wp2
    refine bodyPost_ret (v := .tuple #[.agg #[.int .i64 0, .int .i64 0, .slice none 0 0], .bool false]) (by simp [results, Try.results31, go_sem]) rfl ⟨?_, Or.inr ⟨HEb.out, _, _, _, _, _, rfl⟩⟩
    repeat (first | exact A0.out | refine Below.setCell ?_ (Nat.le_refl _) _)

set_option maxHeartbeats 4000000 in
set_option maxRecDepth 4000 in
theorem specUnpackEntry {S : Nat → Prop} {w : World} {v : Value} {xs : List Int} (hv : RdI S w v xs) :
    Calls Try.prog 10 #[v] w (EndsEn (ueC xs) (ueR xs) w) := by
  obtain ⟨ao, c, rfl⟩ := hv.shape
  have HV := hide hv
  clear hv
  unfold ueC ueR
  obtain ⟨z, hz⟩ : ∃ z, wordsF xs = z := ⟨_, rfl⟩
  have HZ := hide hz
  rw [hz]
  clear hz
  obtain ⟨n, hn⟩ : ∃ n, xs.length = n := ⟨_, rfl⟩
  have HN := hide hn
  rw [hn] at HV ⊢
  clear hn
  have HC := hide (l1Words (HV.out.later (below_alloc w (.cells #[.int .i64 0, .slice none 0 0] 28))))
  rw [HZ.out] at HC
  by_cases h0 : z = 0
  · subst h0
    have hm64 : n ≤ 64 := by have := words_len HZ.out; rw [HN.out] at this; exact this
    by_cases hB : enB xs
    · rw [if_pos rfl, if_pos hB, if_pos ⟨rfl, hB⟩]
      obtain ⟨p, hp⟩ : ∃ p, enO xs = p := ⟨_, rfl⟩
      have HP := hide hp
      rw [hp]
      clear hp
      have HB := hide hB
      clear hB
      obtain ⟨a, t, ys⟩ := p
      obtain ⟨l, hl⟩ : ∃ l, ys.length = l := ⟨_, rfl⟩
      have HL := hide hl
      clear hl
      go_enter Try.func10, Try.ntmps10
      go_wp2_with fail
      refine HC.out.mono ?_
      rintro e w1 ⟨rfl, q, rfl⟩
      have HRs := hide ((ResF.start w 28).later (below_drewN _ q))
      have HEn := hide (l9Unpack (HV.out.later HRs.out.below) (by rw [HN.out]; exact hm64))
      have hsz1 : ((w.alloc (.cells #[.int .i64 0, .slice none 0 0] 28)).drewN q).heap.size = w.heap.size + 1 := by simp
      have HSz := hide hsz1
      clear hsz1
      go_wp2_with fail
      refine HEn.out.mono ?_
      rintro e w2 ⟨hb, ⟨_, z, rfl, ho⟩ | ⟨hB, _⟩⟩
      · rw [HP.out] at ho ⊢
        dsimp only at ho ⊢
        obtain ⟨az, cz, hz⟩ := ho.shape
        rw [HL.out] at hz
        subst hz
        have bV := below_alloc w2 (.cells #[.int .i64 a, .int .i64 t, .slice az l cz] 35)
        have HRs2 := hide (HRs.out.later (below_on hb bV))
        have hs2 := hb.size
        rw [HSz.out] at ho hs2
        have HOv := hide (ho.later bV)
        obtain ⟨W, hW⟩ : ∃ W, w2.alloc (.cells #[.int .i64 a, .int .i64 t, .slice az l cz] 35) = W := ⟨_, rfl⟩
        have HWe := hide hW
        have v0 : W.cell? ⟨w2.heap.size, 0, none⟩ = some (.int .i64 a) := by rw [← hW]; simp [go_sem]
        have v1 : W.cell? ⟨w2.heap.size, 1, none⟩ = some (.int .i64 t) := by rw [← hW]; simp [go_sem]
        have v2 : W.cell? ⟨w2.heap.size, 2, none⟩ = some (.slice az l cz) := by rw [← hW]; simp [go_sem]
        have hWs : w2.heap.size < W.heap.size := by rw [← hW]; simp
        rw [hW] at HRs2 HOv
        have HOj := hide (OwJ_made (p := (a, t, ys)) 35 HOv.out (by omega))
        have HRs3 := hide (HRs2.out.later (below_alloc W (.cells #[.int .i64 a, .int .i64 t, .slice az l cz] 35)))
        have HFn := hide (ret_entries (x := .int .i64 0) (r := w.heap.size) HRs3.out.below (Nat.le_refl _) HOj.out (fun b hb => ⟨by have := hb.1; omega, by have := hb.2; simp; omega⟩))
        have r0 := HRs2.out.c0
        have r1 := HRs2.out.c1
        have f0 := HRs2.out.fr 0
        have f1 := HRs2.out.fr 1
        have hlt := HRs2.out.lt
        have hlt' : w.heap.size < (W.setCell ⟨w.heap.size, 0, none⟩ (.int .i64 0)).heap.size := by simpa using hlt
        rw [World.setCell_alloc_past _ _ _ _ hlt, World.setCell_alloc_past _ _ _ _ hlt'] at HFn
        clear hb ho bV HRs3 HOj hlt' hW
        go_upto_region 5 with fail
        rw [HWe.out]
        go_wp2
        refine bodyPost_ret (v := .agg #[.int .i64 0, .slice (some ⟨W.heap.size, 0, none⟩) 1 1]) (by simp [results, Try.results10, go_sem, r0, r1, hlt]) rfl ⟨_, rfl, HFn.out.1, HFn.out.2⟩
      · exact absurd HB.out hB
    · rw [if_pos rfl, if_neg hB, if_neg (fun h => hB h.2)]
      have HB := hide hB
      clear hB
      go_enter Try.func10, Try.ntmps10
      go_wp2_with fail
      refine HC.out.mono ?_
      rintro e w1 ⟨rfl, q, rfl⟩
      have HRs := hide ((ResF.start w 28).later (below_drewN _ q))
      have HEn := hide (l9Unpack (HV.out.later HRs.out.below) (by rw [HN.out]; exact hm64))
      go_wp2_with fail
      refine HEn.out.mono ?_
      rintro e w2 ⟨hb, ⟨hB, _⟩ | ⟨_, x, y, A, m, d, rfl⟩⟩
      · exact absurd hB HB.out
      · have bV := below_alloc w2 (.cells #[.int .i64 x, .int .i64 y, .slice A m d] 35)
        have HRs2 := hide (HRs.out.later (below_on hb bV))
        obtain ⟨W, hW⟩ : ∃ W, w2.alloc (.cells #[.int .i64 x, .int .i64 y, .slice A m d] 35) = W := ⟨_, rfl⟩
        have HWe := hide hW
        rw [hW] at HRs2
        have r0 := HRs2.out.c0
        have r1 := HRs2.out.c1
        have f0 := HRs2.out.fr 0
        have f1 := HRs2.out.fr 1
        clear hb bV hW
        go_upto_region 5 with fail
        rw [HWe.out]
        go_wp2
        refine bodyPost_ret (v := .agg #[.int .i64 5, .slice none 0 0]) (by simp [results, Try.results10, go_sem, r0, r1]) rfl ⟨_, rfl, HRs2.out.shut _ _, OwJ_nil _ _⟩
  · rw [if_neg h0, if_neg (fun h => h0 h.1)]
    have h0b : (z == 0) = false := by simpa using h0
    go_enter Try.func10, Try.ntmps10
    go_wp2_with fail
    refine HC.out.mono ?_
    rintro e w1 ⟨rfl, q, rfl⟩
    have HRs := hide ((ResF.start w 28).later (below_drewN _ q))
    go_wp2
    refine bodyPost_ret (v := .agg #[.int .i64 z, .slice none 0 0]) (by simp [results, Try.results10, go_sem]) rfl ⟨_, rfl, HRs.out.shut _ _, OwJ_nil _ _⟩
end Go.Proofs.Ytkippafmeggjeaa
