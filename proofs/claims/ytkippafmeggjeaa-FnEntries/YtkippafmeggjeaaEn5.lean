/- Chapter 9: 'UnpackEntry' of both sides, walked: words that are no entry are a panic in the program, recovered at its face. -/
import Derived.Test.YtkippafmeggjeaaEn1
import Derived.Test.YtkippafmeggjeaaRs
import Derived.Test.YtkippafmeggjeaaCutw
import Derived.Test.YtkippafmeggjeaaBuiltEn
import Derived.Test.YtkippafmeggjeaaEnV
import Derived.Test.YtkippafmeggjeaaTear
import Derived.Test.YtkippafmeggjeaaIv4
import Derived.Deep.CutRange
import Derived.Defers
import Derived.Recover
namespace Go.Proofs.Ytkippafmeggjeaa
open Go.RowKit

/-- The entry that words tell of. -/
def enO (xs : List Int) : Oj := (xs.getD 0 0, xs.getD 1 0, xs.drop 3)
/-- Words are the words of an entry. -/
def enB (xs : List Int) : Prop := 3 ≤ xs.length ∧ xs.getD 2 0 = (xs.length : Int) - 3 ∧ entF (enO xs) = 0
instance (xs : List Int) : Decidable (enB xs) := by unfold enB; infer_instance
def ueC (xs : List Int) : Int := if wordsF xs = 0 then (if enB xs then 0 else 5) else wordsF xs
def ueR (xs : List Int) : List Oj := if wordsF xs = 0 ∧ enB xs then [enO xs] else []
theorem ueR_tot (xs : List Int) : totJ (ueR xs) (ueR xs).length ≤ 1048576 := by
  unfold ueR
  by_cases h : wordsF xs = 0 ∧ enB xs
  · rw [if_pos h]
    have := (entF_zero h.2.2.2).2.1
    simp [totJ]
    omega
  · rw [if_neg h]; simp [totJ]
theorem words_len {xs : List Int} (h : wordsF xs = 0) : xs.length ≤ 64 := by
  unfold wordsF wF at h
  by_cases h1 : 64 < xs.length
  · rw [if_pos h1] at h; exact absurd h (by decide)
  · omega

/-- A panic that nobody has recovered. -/
def PanE (e : Ending) : Prop := ∃ pv, e = .panicked [{ v := .iface 9 pv, recovered := false }]

theorem mustY (w : World) : Calls Try.prog 44 #[.bool true] w fun e w' => e = .returned (.tuple #[]) ∧ w' = w := by
  go_enter Try.func44, Try.ntmps44
  go_wp2
  go_end0
  exact ⟨rfl, rfl⟩
theorem mustN (w : World) : Calls Try.prog 44 #[.bool false] w fun e w' => PanE e ∧ w' = w := by
  go_enter Try.func44, Try.ntmps44
  go_wp2
  exact ⟨rfl, ⟨_, rfl⟩, rfl⟩

theorem set3_en {w : World} {b h o : Nat} {x y z : Value} (hb : b ≠ h) : (((w.setCell ⟨h, 0, none⟩ x).setCell ⟨h, 1, none⟩ y).setCell ⟨h, 2, none⟩ z).cell? ⟨b, o, none⟩ = w.cell? ⟨b, o, none⟩ := by
  rw [World.cell?_setCell_other _ _ _ _ (by intro e; injection e with e1 _; exact hb e1.symm), World.cell?_setCell_other _ _ _ _ (by intro e; injection e with e1 _; exact hb e1.symm), World.cell?_setCell_other _ _ _ _ (by intro e; injection e with e1 _; exact hb e1.symm)]
/-- An entry that has been laid into a variable, its words in new memory. -/
structure LaidE (w1 : World) (a t : Int) (xs : List Int) (hf : Nat) (az : Option Addr) (l cz : Nat) (wx : World) : Prop where
  c0 : wx.cell? ⟨hf, 0, none⟩ = some (.int .i64 a)
  c1 : wx.cell? ⟨hf, 1, none⟩ = some (.int .i64 t)
  c2 : wx.cell? ⟨hf, 2, none⟩ = some (.slice az l cz)
  ow : OwI w1.heap.size wx (.slice az l cz) xs
  below : Below w1.heap.size w1 wx
  le : w1.heap.size ≤ hf

/-- What reading an entry comes to. -/
def EntIn (xs : List Int) (w : World) (e : Ending) (w' : World) : Prop :=
  Below w.heap.size w w' ∧ ((enB xs ∧ ∃ z, e = .returned (.agg #[.int .i64 (enO xs).1, .int .i64 (enO xs).2.1, z]) ∧ OwI w.heap.size w' z (enO xs).2.2) ∨ (¬ enB xs ∧ PanE e))

set_option maxHeartbeats 4000000 in
set_option maxRecDepth 4000 in
theorem entryIn {S : Nat → Prop} {w : World} {v : Value} {xs : List Int} (hv : RdI S w v xs) (hm : xs.length ≤ 64) :
    Calls Try.prog 29 #[v] w (EntIn xs w) := by
  obtain ⟨ao, c, rfl⟩ := hv.shape
  have HV := hide hv
  obtain ⟨n, hn⟩ : ∃ n, xs.length = n := ⟨_, rfl⟩
  have HN := hide hn
  rw [hn] at HV hm ⊢
  have hcap : n ≤ c := by obtain ⟨_, c', e, _⟩ := hv; injection e with _ e2 e3; omega
  clear hv hn
  by_cases h3 : 3 ≤ n
  · have HP1 := hide (fun w' => (mustY w'))
    obtain ⟨b, off, rfl, q0⟩ := HV.out.at (k := 0) (by rw [HN.out]; omega)
    obtain ⟨b', off', e', q1⟩ := HV.out.at (k := 1) (by rw [HN.out]; omega)
    injection e' with e'
    injection e' with e1 e2
    subst e1 e2
    obtain ⟨b', off', e', q2⟩ := HV.out.at (k := 2) (by rw [HN.out]; omega)
    injection e' with e'
    injection e' with e1 e2
    subst e1 e2
    have hb0 := World.block_lt_of_cell? _ _ q0
    have A0 := hide (below_alloc w (.cells #[.int .i64 0, .int .i64 0, .slice none 0 0] 35))
    obtain ⟨w1, hw1⟩ : ∃ w1, w.alloc (.cells #[.int .i64 0, .int .i64 0, .slice none 0 0] 35) = w1 := ⟨_, rfl⟩
    have HRes : Hid ((w1.cell? ⟨w.heap.size, 0, none⟩ = some (.int .i64 0) ∧ w1.cell? ⟨w.heap.size, 1, none⟩ = some (.int .i64 0) ∧ w1.cell? ⟨w.heap.size, 2, none⟩ = some (.slice none 0 0) ∧ ∀ o, w1.frozen? ⟨w.heap.size, o, none⟩ = false) ∧ w1.heap.size = w.heap.size + 1) := by
      rw [Hid, ← hw1]
      exact ⟨⟨by simp [go_sem], by simp [go_sem], by simp [go_sem], fun o => by simp [go_sem]⟩, by simp⟩
    have HW := hide hw1
    rw [hw1] at A0
    have g0 : w1.cell? ⟨b, off, none⟩ = some (.int .i64 (xs.getD 0 0)) := by have := cell_later A0.out q0; simpa using this
    have g1 := cell_later A0.out q1
    have g2 := cell_later A0.out q2
    clear q0 q1 q2 hw1
    obtain ⟨a, ha⟩ : ∃ a, xs.getD 0 0 = a := ⟨_, rfl⟩
    obtain ⟨t, ht⟩ : ∃ t, xs.getD 1 0 = t := ⟨_, rfl⟩
    obtain ⟨x2, hx2⟩ : ∃ x, xs.getD 2 0 = x := ⟨_, rfl⟩
    rw [ha] at g0
    rw [ht] at g1
    rw [hx2] at g2
    have HE : Hid (enO xs = (a, t, xs.drop 3)) := by rw [Hid]; unfold enO; rw [ha, ht]
    have HX2 := hide hx2
    clear ha ht hx2
    obtain ⟨A, hA⟩ : ∃ A : Option Addr, (if c = 3 then some (⟨b, off, none⟩ : Addr) else some ⟨b, off + 3, none⟩) = A := ⟨_, rfl⟩
    have HR1 : Hid (RdI S w (.slice A (n - 3) (c - 3)) (xs.drop 3)) := by
      have h := HV.out.from 3 (by omega)
      have e : slA (some ⟨b, off, none⟩) c 3 = A := by rw [← hA]; unfold slA; simp [Addr.add_lit]
      rw [e] at h
      exact h
    obtain ⟨l, hl⟩ : ∃ l, (xs.drop 3).length = l := ⟨_, rfl⟩
    have hln : l = n - 3 := by rw [← hl, List.length_drop, HN.out]
    have HL := hide hl
    have HLn := hide hln
    rw [← hln] at HR1
    obtain ⟨W1, hW1⟩ : ∃ W1, w1.drew = W1 := ⟨_, rfl⟩
    obtain ⟨W2, hW2⟩ : ∃ W2, (w1.alloc (.cells #[.int .i64 0, .int .i64 0, .slice none 0 0] 35)).drew = W2 := ⟨_, rfl⟩
    have HW1 := hide hW1
    have HW2 := hide hW2
    have HBW1 : Hid (Below w1.heap.size w1 W1 ∧ W1.heap.size = w1.heap.size) := by rw [Hid, ← hW1]; exact ⟨below_drewN _ 1, rfl⟩
    have HBW2 : Hid (Below w1.heap.size w1 W2) := by rw [Hid, ← hW2]; exact below_on (below_alloc _ _) (below_drewN _ 1)
    have HZ2 : Hid (W2.cell? ⟨w1.heap.size, 0, none⟩ = some (.int .i64 0) ∧ W2.cell? ⟨w1.heap.size, 1, none⟩ = some (.int .i64 0) ∧ W2.cell? ⟨w1.heap.size, 2, none⟩ = some (.slice none 0 0) ∧ (∀ o, W2.frozen? ⟨w1.heap.size, o, none⟩ = false) ∧ W2.heap.size = w1.heap.size + 1) := by
      rw [Hid, ← hW2]
      exact ⟨by simp [go_sem], by simp [go_sem], by simp [go_sem], fun o => by simp [go_sem], by simp⟩
    have hbl : b < w1.heap.size := World.block_lt_of_cell? _ _ g0
    have hbv : b ≠ w1.heap.size := Nat.ne_of_lt hbl
    have hn3 : (3 : Int) ≤ (n : Int) := by omega
    have hn3' : (n : Int) ≥ 3 := by omega
    have hi0 : (0 : Int) < (n : Int) := by omega
    have hi1 : (1 : Int) < (n : Int) := by omega
    have hi2 : (2 : Int) < (n : Int) := by omega
    have hj0 : 0 < n := by omega
    have hj1 : 1 < n := by omega
    have hj2 : 2 < n := by omega
    have hc3 : 3 ≤ c := by omega
    have hc3' : (3 : Int) ≤ (c : Int) := by omega
    have hnl : n - 3 = l := by omega
    have hl64 : l ≤ 64 := by omega
    clear hW1 hW2 hl hln
    go_enter Try.func29, Try.ntmps29
    go_wp2_with fail
    rw [HW.out]
    refine (HP1.out _).mono ?_
    rintro e w9 ⟨rfl, hw9⟩
    have hw9 := hw9.symm
    subst hw9
    go_upto_region 2 with fail
    go_cut [3] from 8 to 17 (fun v wx => ∃ (hf cz : Nat) (az : Option Addr), v = .pointer (some ⟨hf, 0, none⟩) ∧ Hid (LaidE w1 a t (xs.drop 3) hf az l cz wx))
    case first =>
      go_region_held3 (fun w' => w'.cell? ⟨b, off, none⟩ = some (.int .i64 a) ∧ w'.cell? ⟨b, off + 1, none⟩ = some (.int .i64 t)) (first | exact ⟨g0, g1⟩ | exact ⟨e1, e2⟩ | exact ⟨cell_later (below_alloc _ _) e1, cell_later (below_alloc _ _) e2⟩ | exact ⟨(set3_en hbv).trans e1, (set3_en hbv).trans e2⟩ | (simp [go_sem, *]))
        (first
          | (go_at_call 45; rw [HW1.out]; refine (copyWords ((HR1.out.later A0.out).later HBW1.out.1) (by rw [HL.out]; omega)).mono ?_; rintro e w3 ⟨z3, rfl, hb3, ho3⟩; obtain ⟨az, cz, hz3⟩ := ho3.shape; rw [HL.out] at hz3; subst hz3; have e1 := cell_later (below_on HBW1.out.1 hb3) g0; have e2 := cell_later (below_on HBW1.out.1 hb3) g1; have HB3 := hide (below_on HBW1.out.1 hb3); have HO3 := hide (ho3.mono (Nat.le_of_eq HBW1.out.2.symm)); have hs3 := HB3.out.size; clear hb3 ho3 HZ2)
          | (go_at_call 45; rw [HW2.out]; refine (copyWords ((HR1.out.later A0.out).later HBW2.out) (by rw [HL.out]; omega)).mono ?_; rintro e w3 ⟨z3, rfl, hb3, ho3⟩; obtain ⟨az, cz, hz3⟩ := ho3.shape; rw [HL.out] at hz3; subst hz3; have e1 := cell_later (below_on HBW2.out hb3) g0; have e2 := cell_later (below_on HBW2.out hb3) g1; have HB3 := hide (below_on HBW2.out hb3); have HO3 := hide ho3; have hs3 := HB3.out.size; have y0 := cell_later hb3 HZ2.out.1; have y1 := cell_later hb3 HZ2.out.2.1; have y2 := cell_later hb3 HZ2.out.2.2.1; have yf0 := ((bcell hb3).2 _ _ (show w1.heap.size < W2.heap.size by have := HZ2.out.2.2.2.2; omega)).trans (HZ2.out.2.2.2.1 0); have yf1 := ((bcell hb3).2 _ _ (show w1.heap.size < W2.heap.size by have := HZ2.out.2.2.2.2; omega)).trans (HZ2.out.2.2.2.1 1); have yf2 := ((bcell hb3).2 _ _ (show w1.heap.size < W2.heap.size by have := HZ2.out.2.2.2.2; omega)).trans (HZ2.out.2.2.2.1 2); have hW2s := HZ2.out.2.2.2.2; clear hb3 ho3 HZ2))
      · have HLd : Hid (LaidE w1 a t (xs.drop 3) w3.heap.size az l cz (w3.alloc (.cells #[.int .i64 a, .int .i64 t, .slice az l cz] 35))) := ⟨by simp [go_sem], by simp [go_sem], by simp [go_sem], HO3.out.later (below_alloc _ _), below_on HB3.out (below_alloc _ _), hs3⟩
        go_wp2_with fail
        go_meet
        case rel => exact ⟨_, cz, az, rfl, HLd.out⟩
      · have hwr : Wr (fun y => y = w1.heap.size) w3 (((w3.setCell ⟨w1.heap.size, 0, none⟩ (.int .i64 a)).setCell ⟨w1.heap.size, 1, none⟩ (.int .i64 t)).setCell ⟨w1.heap.size, 2, none⟩ (.slice az l cz)) := (((Wr.refl (fun y => y = w1.heap.size) _).setCell (p := ⟨w1.heap.size, 0, none⟩) rfl _).setCell (p := ⟨w1.heap.size, 1, none⟩) rfl _).setCell (p := ⟨w1.heap.size, 2, none⟩) rfl _
        have HLd : Hid (LaidE w1 a t (xs.drop 3) w1.heap.size az l cz (((w3.setCell ⟨w1.heap.size, 0, none⟩ (.int .i64 a)).setCell ⟨w1.heap.size, 1, none⟩ (.int .i64 t)).setCell ⟨w1.heap.size, 2, none⟩ (.slice az l cz))) := ⟨by simp [go_sem, y0], by simp [go_sem, y1], by simp [go_sem, y2], (HO3.out.wr hwr (fun b h1 _ e => by omega)).mono (by omega), ((HB3.out.setCell (p := ⟨w1.heap.size, 0, none⟩) (Nat.le_refl _) _).setCell (p := ⟨w1.heap.size, 1, none⟩) (Nat.le_refl _) _).setCell (p := ⟨w1.heap.size, 2, none⟩) (Nat.le_refl _) _, Nat.le_refl _⟩
        clear hwr
        go_wp2_with fail
        go_meet
        case rel => exact ⟨_, cz, az, rfl, HLd.out⟩
    case rest =>
      obtain ⟨hf, cz, az, rfl, HLd⟩ := hcut
      obtain ⟨l0, l1, l2, l3, l4, l5⟩ := HLd.out
      have k2 := cell_later l4 g2
      have HOw := hide l3
      have HBc := hide (below_on A0.out l4)
      have HB4 := hide l4
      clear l3 l4 HLd g0 g1 g2 HZ2 HBW1 HBW2
      have HEn : Hid (enB xs ↔ x2 = (l : Int) ∧ entF (a, t, xs.drop 3) = 0) := by
        rw [Hid]
        unfold enB
        rw [HN.out, HX2.out, HE.out, HLn.out]
        constructor
        · rintro ⟨_, h2, h3'⟩
          exact ⟨by omega, h3'⟩
        · rintro ⟨h2, h3'⟩
          exact ⟨h3, by omega, h3'⟩
      have hpl := HRes.out.2
      by_cases hx : x2 = (l : Int)
      · obtain ⟨z, hz⟩ : ∃ z, entF (a, t, xs.drop 3) = z := ⟨_, rfl⟩
        have HZ := hide hz
        clear hz
        have HOr := hide HOw.out.rd
        go_wp2_with fail
        go_quiet ((go_at_call 44; exact Calls.quiet_of_same (HP1.out _)))
        have HC := hide (implEntryFault a t (HOr.out.later (below_drewN wc nq)))
        rw [HZ.out] at HC
        have d0 : (wc.drewN nq).cell? ⟨hf, 0, none⟩ = some (.int .i64 a) := l0
        have d1 : (wc.drewN nq).cell? ⟨hf, 1, none⟩ = some (.int .i64 t) := l1
        have d2 : (wc.drewN nq).cell? ⟨hf, 2, none⟩ = some (.slice az l cz) := l2
        by_cases hz0 : z = 0
        · subst hz0
          have HEb : Hid (enB xs) := HEn.out.2 ⟨hx, HZ.out⟩
          clear hx
          go_wp2_with fail
          refine HC.out.mono ?_
          rintro e w4 ⟨rfl, hb⟩
          have k0 := cell_later hb d0
          have k1 := cell_later hb d1
          have k3 := cell_later hb d2
          have hB4 := below_on HB4.out (below_on (below_drewN wc nq) hb)
          have r0 := cell_later hB4 HRes.out.1.1
          have r1 := cell_later hB4 HRes.out.1.2.1
          have r2 := cell_later hB4 HRes.out.1.2.2.1
          have hlt : w.heap.size < w1.heap.size := by omega
          have f0 := ((bcell hB4).2 _ _ hlt).trans (HRes.out.1.2.2.2 0)
          have f1 := ((bcell hB4).2 _ _ hlt).trans (HRes.out.1.2.2.2 1)
          have f2 := ((bcell hB4).2 _ _ hlt).trans (HRes.out.1.2.2.2 2)
          have HBf := hide (below_on A0.out hB4)
          have HOf := hide (HOw.out.later (below_on (below_drewN wc nq) hb))
          clear hb hB4 d0 d1 d2 l0 l1 l2 k2
          go_wp2_with fail
          refine (HP1.out _).mono ?_
          rintro e w9 ⟨rfl, hw9⟩
          have hw9 := hw9.symm
          subst hw9
          have hwr : Wr (fun y => y = w.heap.size) w4 (((w4.setCell ⟨w.heap.size, 0, none⟩ (.int .i64 a)).setCell ⟨w.heap.size, 1, none⟩ (.int .i64 t)).setCell ⟨w.heap.size, 2, none⟩ (.slice az l cz)) := (((Wr.refl (fun y => y = w.heap.size) _).setCell (p := ⟨w.heap.size, 0, none⟩) rfl _).setCell (p := ⟨w.heap.size, 1, none⟩) rfl _).setCell (p := ⟨w.heap.size, 2, none⟩) rfl _
          have HOe := hide ((HOf.out.wr hwr (fun b h1 _ e => by omega)).mono (show w.heap.size ≤ w1.heap.size by omega))
          have HBe := hide (((HBf.out.setCell (p := ⟨w.heap.size, 0, none⟩) (Nat.le_refl _) (.int .i64 a)).setCell (p := ⟨w.heap.size, 1, none⟩) (Nat.le_refl _) (.int .i64 t)).setCell (p := ⟨w.heap.size, 2, none⟩) (Nat.le_refl _) (.slice az l cz))
          clear hwr
          go_wp2
          refine bodyPost_ret (v := .agg #[.int .i64 a, .int .i64 t, .slice az l cz]) (by simp [results, Try.results29, go_sem, r0, r1, r2]) rfl ⟨HBe.out, Or.inl ⟨HEb.out, _, by rw [HE.out], by rw [HE.out]; exact HOe.out⟩⟩
        · have HEb : Hid (¬ enB xs) := fun h => hz0 (HZ.out.symm.trans (HEn.out.1 h).2)
          have hzb : (z == 0) = false := by simpa using hz0
          clear hx
          go_wp2_with fail
          refine HC.out.mono ?_
          rintro e w4 ⟨rfl, hb⟩
          have HBf := hide (below_on A0.out (below_on HB4.out (below_on (below_drewN wc nq) hb)))
          clear hb
          go_wp2_with fail
          refine (mustN _).mono ?_
          rintro e w9 ⟨⟨pv, rfl⟩, hw9⟩
          have hw9 := hw9.symm
          subst hw9
          go_wp2
          exact ⟨rfl, HBf.out, Or.inr ⟨HEb.out, pv, rfl⟩⟩
      · have HEb : Hid (¬ enB xs) := fun h => hx (HEn.out.1 h).1
        have hxb : (x2 == (l : Int)) = false := by simpa using hx
        have HBf := hide (fun q => below_on HBc.out (below_drewN wc q))
        go_wp2_with fail
        refine wp_region_held_drew (S := (fun w' => w'.cell? ⟨b, off + 2, none⟩ = some (.int .i64 x2) ∧ w'.cell? ⟨hf, 2, none⟩ = some (.slice az l cz))) (by kernel_rfl) ⟨k2, l2⟩ (fun hHeld => ?_)
        refine wpAnyH_take (i := 0) (v := ?ven0) rfl (by kernel_rfl) (by kernel_rfl) (by kernel_rfl) (fun _ _ _ h => h) (Or.inl ⟨by rfl, ?hen0⟩) hHeld ?ren0
        case hen0 => intro w9 hSw; (try dsimp only at hSw); first | (go_simp; done) | (go_simp; with_reducible rfl)
        try simp only [Act.put, List.setIfInBounds_toArray, List.set_cons_zero, List.set_cons_succ, List.getElem_toArray, List.getElem_cons_zero]
        refine wpAnyH_take (i := 1) (v := ?ven1) rfl (by kernel_rfl) (by kernel_rfl) (by kernel_rfl) (fun _ _ _ h => h) (Or.inl ⟨by rfl, ?hen1⟩) hHeld ?ren1
        case hen1 => intro w9 hSw; (try dsimp only at hSw); first | (go_simp; done) | (go_simp; with_reducible rfl)
        try simp only [Act.put, List.setIfInBounds_toArray, List.set_cons_zero, List.set_cons_succ, List.getElem_toArray, List.getElem_cons_zero, List.getElem_cons_succ]
        refine wpAnyH_take (i := 2) (v := ?ven2) rfl (by kernel_rfl) (by kernel_rfl) (by kernel_rfl) (fun _ _ _ h => h) (Or.inl ⟨by rfl, ?hen2⟩) hHeld ?ren2
        case hen2 => intro w9 hSw; (try dsimp only at hSw); first | (go_simp; done) | (go_simp; with_reducible rfl)
        try simp only [Act.put, List.setIfInBounds_toArray, List.set_cons_zero, List.set_cons_succ, List.getElem_toArray, List.getElem_cons_zero, List.getElem_cons_succ]
        refine wpAnyH_take (i := 3) (v := ?ven3) rfl (by kernel_rfl) (by kernel_rfl) (by kernel_rfl) (fun _ _ _ h => h) (Or.inl ⟨by rfl, ?hen3⟩) hHeld ?ren3
        case hen3 => intro w9 hSw; (try dsimp only at hSw); first | (go_simp; done) | (go_simp; with_reducible rfl)
        try simp only [Act.put, List.setIfInBounds_toArray, List.set_cons_zero, List.set_cons_succ, List.getElem_toArray, List.getElem_cons_zero, List.getElem_cons_succ]
        refine wpAnyH_take (i := 4) (v := ?ven4) rfl (by kernel_rfl) (by kernel_rfl) (by kernel_rfl) (fun _ _ _ h => h) (Or.inl ⟨by rfl, ?hen4⟩) hHeld ?ren4
        case hen4 => intro w9 hSw; (try dsimp only at hSw); first | (go_simp; done) | (go_simp; with_reducible rfl)
        try simp only [Act.put, List.setIfInBounds_toArray, List.set_cons_zero, List.set_cons_succ, List.getElem_toArray, List.getElem_cons_zero, List.getElem_cons_succ]
        refine wpAnyH_take (i := 5) (v := ?ven5) rfl (by kernel_rfl) (by kernel_rfl) (by kernel_rfl) (fun _ _ _ h => h) (Or.inl ⟨by rfl, ?hen5⟩) hHeld ?ren5
        case hen5 => intro w9 hSw; (try dsimp only at hSw); first | (go_simp; done) | (go_simp; with_reducible rfl)
        try simp only [Act.put, List.setIfInBounds_toArray, List.set_cons_zero, List.set_cons_succ, List.getElem_toArray, List.getElem_cons_zero, List.getElem_cons_succ]
        refine wpAnyH_take (i := 6) (v := ?ven6) rfl (by kernel_rfl) (by kernel_rfl) (by kernel_rfl) (fun _ _ _ h => h) (Or.inl ⟨by rfl, ?hen6⟩) hHeld ?ren6
        case hen6 => intro w9 hSw; (try dsimp only at hSw); first | (go_simp; done) | (go_simp; with_reducible rfl)
        try simp only [Act.put, List.setIfInBounds_toArray, List.set_cons_zero, List.set_cons_succ, List.getElem_toArray, List.getElem_cons_zero, List.getElem_cons_succ]
        refine wpAnyH_ready (rs := [7]) (by kernel_rfl) (by simp) (AllReadyH.cons rfl (fun K hK => ?_) AllReadyH.nil)
        go_simp
        go_at_call 44
        refine (mustN _).mono ?_
        rintro e w9 ⟨⟨pv, rfl⟩, hw9⟩
        have hw9 := hw9.symm
        subst hw9
        exact ⟨rfl, HBf.out 1, Or.inr ⟨HEb.out, pv, rfl⟩⟩
  · have HEb : Hid (¬ enB xs) := fun h => h3 (by have := h.1; rw [HN.out] at this; exact this)
    have hn3 : ¬ (n : Int) ≥ 3 := by omega
    go_enter Try.func29, Try.ntmps29
    go_wp2_with fail
    refine (mustN _).mono ?_
    rintro e w9 ⟨⟨pv, rfl⟩, hw9⟩
    have hw9 := hw9.symm
    subst hw9
    go_wp2
    exact ⟨rfl, below_alloc _ _, Or.inr ⟨HEb.out, pv, rfl⟩⟩
end Go.Proofs.Ytkippafmeggjeaa
