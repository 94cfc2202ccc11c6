/- En5 MathE Built4 in one text: what each says stands at its head below. -/
import Derived.Test.YtlmaopljihbdkaaGreatG11
import Derived.Test.YtlmaopljihbdkaaGreatG19
import Derived.Test.YtlmaopljihbdkaaGreatG21
import Derived.Test.YtlmaopljihbdkaaGreatG23
import Derived.Test.YtlmaopljihbdkaaGreatG08
import Derived.Test.YtlmaopljihbdkaaGreatG13
import Derived.Test.YtlmaopljihbdkaaGreatG10
import Derived.Deep.CutRange
import Derived.Defers
import Derived.Recover
import Derived.Test.YtlmaopljihbdkaaGreatG22
import Derived.Test.YtlmaopljihbdkaaGreatG18
import Derived.Deep.RegionLaw
/- Chapter 9: 'UnpackEntry' of both sides, walked: words that are no entry are a panic in the program, recovered at its face. -/
namespace Go.Proofs.YtlmaopljihbdkaaGreat
open Go.RowKit

/-- The entry that words tell of. -/
def enO (xs : List Int) : Oj := (xs.getD 0 0, xs.getD 1 0, xs.drop 3)
/-- Words are the words of an entry. -/
def enB (xs : List Int) : Prop := 3 ≤ xs.length ∧ xs.getD 2 0 = (xs.length : Int) - 3 ∧ entF (enO xs) = 0
instance (xs : List Int) : Decidable (enB xs) := by unfold enB; infer_instance
def ueC (xs : List Int) : Int := if wordsF xs = 0 then (if enB xs then 0 else 5) else wordsF xs
def ueR (xs : List Int) : List Oj := if wordsF xs = 0 ∧ enB xs then [enO xs] else []
theorem ueR_tot (xs : List Int) : totJ (ueR xs) (ueR xs).length ≤ 1048576 := by
  unfold ueR
  by_cases h : wordsF xs = 0 ∧ enB xs
  · rw [if_pos h]
    have := (entF_zero h.2.2.2).2.1
    simp [totJ]
    omega
  · rw [if_neg h]; simp [totJ]
theorem words_len {xs : List Int} (h : wordsF xs = 0) : xs.length ≤ 64 := by
  unfold wordsF wF at h
  by_cases h1 : 64 < xs.length
  · rw [if_pos h1] at h; exact absurd h (by decide)
  · omega

/-- A panic that nobody has recovered. -/
def PanE (e : Ending) : Prop := ∃ pv, e = .panicked [{ v := .iface 9 pv, recovered := false }]

theorem mustY (w : World) : Calls Tryz.prog 178 #[.bool true] w fun e w' => e = .returned (.tuple #[]) ∧ w' = w := by
  go_enter Tryz.func178, Tryz.ntmps178
  go_wp2
  go_end0
  exact ⟨rfl, rfl⟩
theorem mustN (w : World) : Calls Tryz.prog 178 #[.bool false] w fun e w' => PanE e ∧ w' = w := by
  go_enter Tryz.func178, Tryz.ntmps178
  go_wp2
  exact ⟨rfl, ⟨_, rfl⟩, rfl⟩

theorem set3_en {w : World} {b h o : Nat} {x y z : Value} (hb : b ≠ h) : (((w.setCell ⟨h, 0, none⟩ x).setCell ⟨h, 1, none⟩ y).setCell ⟨h, 2, none⟩ z).cell? ⟨b, o, none⟩ = w.cell? ⟨b, o, none⟩ := by
  rw [World.cell?_setCell_other _ _ _ _ (by intro e; injection e with e1 _; exact hb e1.symm), World.cell?_setCell_other _ _ _ _ (by intro e; injection e with e1 _; exact hb e1.symm), World.cell?_setCell_other _ _ _ _ (by intro e; injection e with e1 _; exact hb e1.symm)]
/-- An entry that has been laid into a variable, its words in new memory. -/
structure LaidE (w1 : World) (a t : Int) (xs : List Int) (hf : Nat) (az : Option Addr) (l cz : Nat) (wx : World) : Prop where
  c0 : wx.cell? ⟨hf, 0, none⟩ = some (.int .i64 a)
  c1 : wx.cell? ⟨hf, 1, none⟩ = some (.int .i64 t)
  c2 : wx.cell? ⟨hf, 2, none⟩ = some (.slice az l cz)
  ow : OwI w1.heap.size wx (.slice az l cz) xs
  below : Below w1.heap.size w1 wx
  le : w1.heap.size ≤ hf

/-- What reading an entry comes to. -/
def EntIn (xs : List Int) (w : World) (e : Ending) (w' : World) : Prop :=
  Below w.heap.size w w' ∧ ((enB xs ∧ ∃ z, e = .returned (.agg #[.int .i64 (enO xs).1, .int .i64 (enO xs).2.1, z]) ∧ OwI w.heap.size w' z (enO xs).2.2) ∨ (¬ enB xs ∧ PanE e))

set_option maxHeartbeats 4000000 in
set_option maxRecDepth 4000 in
theorem entryIn {S : Nat → Prop} {w : World} {v : Value} {xs : List Int} (hv : RdI S w v xs) (hm : xs.length ≤ 64) :
    Calls Tryz.prog 144 #[v] w (EntIn xs w) := by
  obtain ⟨ao, c, rfl⟩ := hv.shape
  have HV := hide hv
  obtain ⟨n, hn⟩ : ∃ n, xs.length = n := ⟨_, rfl⟩
  have HN := hide hn
  rw [hn] at HV hm ⊢
  have hcap : n ≤ c := by obtain ⟨_, c', e, _⟩ := hv; injection e with _ e2 e3; omega
  clear hv hn
  by_cases h3 : 3 ≤ n
  · have HP1 := hide (fun w' => (mustY w'))
    obtain ⟨b, off, rfl, q0⟩ := HV.out.at (k := 0) (by rw [HN.out]; omega)
    obtain ⟨b', off', e', q1⟩ := HV.out.at (k := 1) (by rw [HN.out]; omega)
    injection e' with e'
    injection e' with e1 e2
    subst e1 e2
    obtain ⟨b', off', e', q2⟩ := HV.out.at (k := 2) (by rw [HN.out]; omega)
    injection e' with e'
    injection e' with e1 e2
    subst e1 e2
    have hb0 := World.block_lt_of_cell? _ _ q0
    have A0 := hide (below_alloc w (.cells #[.int .i64 0, .int .i64 0, .slice none 0 0] 110))
    obtain ⟨w1, hw1⟩ : ∃ w1, w.alloc (.cells #[.int .i64 0, .int .i64 0, .slice none 0 0] 110) = w1 := ⟨_, rfl⟩
    have HRes : Hid ((w1.cell? ⟨w.heap.size, 0, none⟩ = some (.int .i64 0) ∧ w1.cell? ⟨w.heap.size, 1, none⟩ = some (.int .i64 0) ∧ w1.cell? ⟨w.heap.size, 2, none⟩ = some (.slice none 0 0) ∧ ∀ o, w1.frozen? ⟨w.heap.size, o, none⟩ = false) ∧ w1.heap.size = w.heap.size + 1) := by
      rw [Hid, ← hw1]
      exact ⟨⟨by simp [go_sem], by simp [go_sem], by simp [go_sem], fun o => by simp [go_sem]⟩, by simp⟩
    have HW := hide hw1
    rw [hw1] at A0
    have g0 : w1.cell? ⟨b, off, none⟩ = some (.int .i64 (xs.getD 0 0)) := by have := cell_later A0.out q0; simpa using this
    have g1 := cell_later A0.out q1
    have g2 := cell_later A0.out q2
    clear q0 q1 q2 hw1
    obtain ⟨a, ha⟩ : ∃ a, xs.getD 0 0 = a := ⟨_, rfl⟩
    obtain ⟨t, ht⟩ : ∃ t, xs.getD 1 0 = t := ⟨_, rfl⟩
    obtain ⟨x2, hx2⟩ : ∃ x, xs.getD 2 0 = x := ⟨_, rfl⟩
    rw [ha] at g0
    rw [ht] at g1
    rw [hx2] at g2
    have HE : Hid (enO xs = (a, t, xs.drop 3)) := by rw [Hid]; unfold enO; rw [ha, ht]
    have HX2 := hide hx2
    clear ha ht hx2
    obtain ⟨A, hA⟩ : ∃ A : Option Addr, (if c = 3 then some (⟨b, off, none⟩ : Addr) else some ⟨b, off + 3, none⟩) = A := ⟨_, rfl⟩
    have HR1 : Hid (RdI S w (.slice A (n - 3) (c - 3)) (xs.drop 3)) := by
      have h := HV.out.from 3 (by omega)
      have e : slA (some ⟨b, off, none⟩) c 3 = A := by rw [← hA]; unfold slA; simp [Addr.add_lit]
      rw [e] at h
      exact h
    obtain ⟨l, hl⟩ : ∃ l, (xs.drop 3).length = l := ⟨_, rfl⟩
    have hln : l = n - 3 := by rw [← hl, List.length_drop, HN.out]
    have HL := hide hl
    have HLn := hide hln
    rw [← hln] at HR1
    obtain ⟨W1, hW1⟩ : ∃ W1, w1.drew = W1 := ⟨_, rfl⟩
    obtain ⟨W2, hW2⟩ : ∃ W2, (w1.alloc (.cells #[.int .i64 0, .int .i64 0, .slice none 0 0] 110)).drew = W2 := ⟨_, rfl⟩
    have HW1 := hide hW1
    have HW2 := hide hW2
    have HBW1 : Hid (Below w1.heap.size w1 W1 ∧ W1.heap.size = w1.heap.size) := by rw [Hid, ← hW1]; exact ⟨below_drewN _ 1, rfl⟩
    have HBW2 : Hid (Below w1.heap.size w1 W2) := by rw [Hid, ← hW2]; exact below_on (below_alloc _ _) (below_drewN _ 1)
    have HZ2 : Hid (W2.cell? ⟨w1.heap.size, 0, none⟩ = some (.int .i64 0) ∧ W2.cell? ⟨w1.heap.size, 1, none⟩ = some (.int .i64 0) ∧ W2.cell? ⟨w1.heap.size, 2, none⟩ = some (.slice none 0 0) ∧ (∀ o, W2.frozen? ⟨w1.heap.size, o, none⟩ = false) ∧ W2.heap.size = w1.heap.size + 1) := by
      rw [Hid, ← hW2]
      exact ⟨by simp [go_sem], by simp [go_sem], by simp [go_sem], fun o => by simp [go_sem], by simp⟩
    have hbl : b < w1.heap.size := World.block_lt_of_cell? _ _ g0
    have hbv : b ≠ w1.heap.size := Nat.ne_of_lt hbl
    have hn3 : (3 : Int) ≤ (n : Int) := by omega
    have hn3' : (n : Int) ≥ 3 := by omega
    have hi0 : (0 : Int) < (n : Int) := by omega
    have hi1 : (1 : Int) < (n : Int) := by omega
    have hi2 : (2 : Int) < (n : Int) := by omega
    have hj0 : 0 < n := by omega
    have hj1 : 1 < n := by omega
    have hj2 : 2 < n := by omega
    have hc3 : 3 ≤ c := by omega
    have hc3' : (3 : Int) ≤ (c : Int) := by omega
    have hnl : n - 3 = l := by omega
    have hl64 : l ≤ 64 := by omega
    clear hW1 hW2 hl hln
    go_enter Tryz.func144, Tryz.ntmps144
    go_wp2_with fail
    rw [HW.out]
    refine (HP1.out _).mono ?_
    rintro e w9 ⟨rfl, hw9⟩
    have hw9 := hw9.symm
    subst hw9
    go_upto_region 2 with fail
    go_cut [3] from 8 to 17 (fun v wx => ∃ (hf cz : Nat) (az : Option Addr), v = .pointer (some ⟨hf, 0, none⟩) ∧ Hid (LaidE w1 a t (xs.drop 3) hf az l cz wx))
    case first =>
      go_region_held3 (fun w' => w'.cell? ⟨b, off, none⟩ = some (.int .i64 a) ∧ w'.cell? ⟨b, off + 1, none⟩ = some (.int .i64 t)) (first | exact ⟨g0, g1⟩ | exact ⟨e1, e2⟩ | exact ⟨cell_later (below_alloc _ _) e1, cell_later (below_alloc _ _) e2⟩ | exact ⟨(set3_en hbv).trans e1, (set3_en hbv).trans e2⟩ | (simp [go_sem, *]))
        (first
          | (go_at_call 134; rw [HW1.out]; refine (copyWords ((HR1.out.later A0.out).later HBW1.out.1) (by rw [HL.out]; omega)).mono ?_; rintro e w3 ⟨z3, rfl, hb3, ho3⟩; obtain ⟨az, cz, hz3⟩ := ho3.shape; rw [HL.out] at hz3; subst hz3; have e1 := cell_later (below_on HBW1.out.1 hb3) g0; have e2 := cell_later (below_on HBW1.out.1 hb3) g1; have HB3 := hide (below_on HBW1.out.1 hb3); have HO3 := hide (ho3.mono (Nat.le_of_eq HBW1.out.2.symm)); have hs3 := HB3.out.size; clear hb3 ho3 HZ2)
          | (go_at_call 134; rw [HW2.out]; refine (copyWords ((HR1.out.later A0.out).later HBW2.out) (by rw [HL.out]; omega)).mono ?_; rintro e w3 ⟨z3, rfl, hb3, ho3⟩; obtain ⟨az, cz, hz3⟩ := ho3.shape; rw [HL.out] at hz3; subst hz3; have e1 := cell_later (below_on HBW2.out hb3) g0; have e2 := cell_later (below_on HBW2.out hb3) g1; have HB3 := hide (below_on HBW2.out hb3); have HO3 := hide ho3; have hs3 := HB3.out.size; have y0 := cell_later hb3 HZ2.out.1; have y1 := cell_later hb3 HZ2.out.2.1; have y2 := cell_later hb3 HZ2.out.2.2.1; have yf0 := ((bcell hb3).2 _ _ (show w1.heap.size < W2.heap.size by have := HZ2.out.2.2.2.2; omega)).trans (HZ2.out.2.2.2.1 0); have yf1 := ((bcell hb3).2 _ _ (show w1.heap.size < W2.heap.size by have := HZ2.out.2.2.2.2; omega)).trans (HZ2.out.2.2.2.1 1); have yf2 := ((bcell hb3).2 _ _ (show w1.heap.size < W2.heap.size by have := HZ2.out.2.2.2.2; omega)).trans (HZ2.out.2.2.2.1 2); have hW2s := HZ2.out.2.2.2.2; clear hb3 ho3 HZ2))
      · have HLd : Hid (LaidE w1 a t (xs.drop 3) w3.heap.size az l cz (w3.alloc (.cells #[.int .i64 a, .int .i64 t, .slice az l cz] 110))) := ⟨by simp [go_sem], by simp [go_sem], by simp [go_sem], HO3.out.later (below_alloc _ _), below_on HB3.out (below_alloc _ _), hs3⟩
        go_wp2_with fail
        go_meet
        case rel => exact ⟨_, cz, az, rfl, HLd.out⟩
      · have hwr : Wr (fun y => y = w1.heap.size) w3 (((w3.setCell ⟨w1.heap.size, 0, none⟩ (.int .i64 a)).setCell ⟨w1.heap.size, 1, none⟩ (.int .i64 t)).setCell ⟨w1.heap.size, 2, none⟩ (.slice az l cz)) := (((Wr.refl (fun y => y = w1.heap.size) _).setCell (p := ⟨w1.heap.size, 0, none⟩) rfl _).setCell (p := ⟨w1.heap.size, 1, none⟩) rfl _).setCell (p := ⟨w1.heap.size, 2, none⟩) rfl _
        have HLd : Hid (LaidE w1 a t (xs.drop 3) w1.heap.size az l cz (((w3.setCell ⟨w1.heap.size, 0, none⟩ (.int .i64 a)).setCell ⟨w1.heap.size, 1, none⟩ (.int .i64 t)).setCell ⟨w1.heap.size, 2, none⟩ (.slice az l cz))) := ⟨by simp [go_sem, y0], by simp [go_sem, y1], by simp [go_sem, y2], (HO3.out.wr hwr (fun b h1 _ e => by omega)).mono (by omega), ((HB3.out.setCell (p := ⟨w1.heap.size, 0, none⟩) (Nat.le_refl _) _).setCell (p := ⟨w1.heap.size, 1, none⟩) (Nat.le_refl _) _).setCell (p := ⟨w1.heap.size, 2, none⟩) (Nat.le_refl _) _, Nat.le_refl _⟩
        clear hwr
        go_wp2_with fail
        go_meet
        case rel => exact ⟨_, cz, az, rfl, HLd.out⟩
    case rest =>
      obtain ⟨hf, cz, az, rfl, HLd⟩ := hcut
      obtain ⟨l0, l1, l2, l3, l4, l5⟩ := HLd.out
      have k2 := cell_later l4 g2
      have HOw := hide l3
      have HBc := hide (below_on A0.out l4)
      have HB4 := hide l4
      clear l3 l4 HLd g0 g1 g2 HZ2 HBW1 HBW2
      have HEn : Hid (enB xs ↔ x2 = (l : Int) ∧ entF (a, t, xs.drop 3) = 0) := by
        rw [Hid]
        unfold enB
        rw [HN.out, HX2.out, HE.out, HLn.out]
        constructor
        · rintro ⟨_, h2, h3'⟩
          exact ⟨by omega, h3'⟩
        · rintro ⟨h2, h3'⟩
          exact ⟨h3, by omega, h3'⟩
      have hpl := HRes.out.2
      by_cases hx : x2 = (l : Int)
      · obtain ⟨z, hz⟩ : ∃ z, entF (a, t, xs.drop 3) = z := ⟨_, rfl⟩
        have HZ := hide hz
        clear hz
        have HOr := hide HOw.out.rd
        go_wp2_with fail
        go_quiet ((go_at_call 178; exact Calls.quiet_of_same (HP1.out _)))
        have HC := hide (implEntryFault a t (HOr.out.later (below_drewN wc nq)))
        rw [HZ.out] at HC
        have d0 : (wc.drewN nq).cell? ⟨hf, 0, none⟩ = some (.int .i64 a) := l0
        have d1 : (wc.drewN nq).cell? ⟨hf, 1, none⟩ = some (.int .i64 t) := l1
        have d2 : (wc.drewN nq).cell? ⟨hf, 2, none⟩ = some (.slice az l cz) := l2
        by_cases hz0 : z = 0
        · subst hz0
          have HEb : Hid (enB xs) := HEn.out.2 ⟨hx, HZ.out⟩
          clear hx
          go_wp2_with fail
          refine HC.out.mono ?_
          rintro e w4 ⟨rfl, hb⟩
          have k0 := cell_later hb d0
          have k1 := cell_later hb d1
          have k3 := cell_later hb d2
          have hB4 := below_on HB4.out (below_on (below_drewN wc nq) hb)
          have r0 := cell_later hB4 HRes.out.1.1
          have r1 := cell_later hB4 HRes.out.1.2.1
          have r2 := cell_later hB4 HRes.out.1.2.2.1
          have hlt : w.heap.size < w1.heap.size := by omega
          have f0 := ((bcell hB4).2 _ _ hlt).trans (HRes.out.1.2.2.2 0)
          have f1 := ((bcell hB4).2 _ _ hlt).trans (HRes.out.1.2.2.2 1)
          have f2 := ((bcell hB4).2 _ _ hlt).trans (HRes.out.1.2.2.2 2)
          have HBf := hide (below_on A0.out hB4)
          have HOf := hide (HOw.out.later (below_on (below_drewN wc nq) hb))
          clear hb hB4 d0 d1 d2 l0 l1 l2 k2
          go_wp2_with fail
          refine (HP1.out _).mono ?_
          rintro e w9 ⟨rfl, hw9⟩
          have hw9 := hw9.symm
          subst hw9
          have hwr : Wr (fun y => y = w.heap.size) w4 (((w4.setCell ⟨w.heap.size, 0, none⟩ (.int .i64 a)).setCell ⟨w.heap.size, 1, none⟩ (.int .i64 t)).setCell ⟨w.heap.size, 2, none⟩ (.slice az l cz)) := (((Wr.refl (fun y => y = w.heap.size) _).setCell (p := ⟨w.heap.size, 0, none⟩) rfl _).setCell (p := ⟨w.heap.size, 1, none⟩) rfl _).setCell (p := ⟨w.heap.size, 2, none⟩) rfl _
          have HOe := hide ((HOf.out.wr hwr (fun b h1 _ e => by omega)).mono (show w.heap.size ≤ w1.heap.size by omega))
          have HBe := hide (((HBf.out.setCell (p := ⟨w.heap.size, 0, none⟩) (Nat.le_refl _) (.int .i64 a)).setCell (p := ⟨w.heap.size, 1, none⟩) (Nat.le_refl _) (.int .i64 t)).setCell (p := ⟨w.heap.size, 2, none⟩) (Nat.le_refl _) (.slice az l cz))
          clear hwr
          go_wp2
          refine bodyPost_ret (v := .agg #[.int .i64 a, .int .i64 t, .slice az l cz]) (by simp [results, Tryz.results144, go_sem, r0, r1, r2]) rfl ⟨HBe.out, Or.inl ⟨HEb.out, _, by rw [HE.out], by rw [HE.out]; exact HOe.out⟩⟩
        · have HEb : Hid (¬ enB xs) := fun h => hz0 (HZ.out.symm.trans (HEn.out.1 h).2)
          have hzb : (z == 0) = false := by simpa using hz0
          clear hx
          go_wp2_with fail
          refine HC.out.mono ?_
          rintro e w4 ⟨rfl, hb⟩
          have HBf := hide (below_on A0.out (below_on HB4.out (below_on (below_drewN wc nq) hb)))
          clear hb
          go_wp2_with fail
          refine (mustN _).mono ?_
          rintro e w9 ⟨⟨pv, rfl⟩, hw9⟩
          have hw9 := hw9.symm
          subst hw9
          go_wp2
          exact ⟨rfl, HBf.out, Or.inr ⟨HEb.out, pv, rfl⟩⟩
      · have HEb : Hid (¬ enB xs) := fun h => hx (HEn.out.1 h).1
        have hxb : (x2 == (l : Int)) = false := by simpa using hx
        have HBf := hide (fun q => below_on HBc.out (below_drewN wc q))
        go_wp2_with fail
        refine wp_region_held_drew (S := (fun w' => w'.cell? ⟨b, off + 2, none⟩ = some (.int .i64 x2) ∧ w'.cell? ⟨hf, 2, none⟩ = some (.slice az l cz))) (by kernel_rfl) ⟨k2, l2⟩ (fun hHeld => ?_)
        refine wpAnyH_take (i := 0) (v := ?ven0) rfl (by kernel_rfl) (by kernel_rfl) (by kernel_rfl) (fun _ _ _ h => h) (Or.inl ⟨by rfl, ?hen0⟩) hHeld ?ren0
        case hen0 => intro w9 hSw; (try dsimp only at hSw); first | (go_simp; done) | (go_simp; with_reducible rfl)
        try simp only [Act.put, List.setIfInBounds_toArray, List.set_cons_zero, List.set_cons_succ, List.getElem_toArray, List.getElem_cons_zero]
        refine wpAnyH_take (i := 1) (v := ?ven1) rfl (by kernel_rfl) (by kernel_rfl) (by kernel_rfl) (fun _ _ _ h => h) (Or.inl ⟨by rfl, ?hen1⟩) hHeld ?ren1
        case hen1 => intro w9 hSw; (try dsimp only at hSw); first | (go_simp; done) | (go_simp; with_reducible rfl)
        try simp only [Act.put, List.setIfInBounds_toArray, List.set_cons_zero, List.set_cons_succ, List.getElem_toArray, List.getElem_cons_zero, List.getElem_cons_succ]
        refine wpAnyH_take (i := 2) (v := ?ven2) rfl (by kernel_rfl) (by kernel_rfl) (by kernel_rfl) (fun _ _ _ h => h) (Or.inl ⟨by rfl, ?hen2⟩) hHeld ?ren2
        case hen2 => intro w9 hSw; (try dsimp only at hSw); first | (go_simp; done) | (go_simp; with_reducible rfl)
        try simp only [Act.put, List.setIfInBounds_toArray, List.set_cons_zero, List.set_cons_succ, List.getElem_toArray, List.getElem_cons_zero, List.getElem_cons_succ]
        refine wpAnyH_take (i := 3) (v := ?ven3) rfl (by kernel_rfl) (by kernel_rfl) (by kernel_rfl) (fun _ _ _ h => h) (Or.inl ⟨by rfl, ?hen3⟩) hHeld ?ren3
        case hen3 => intro w9 hSw; (try dsimp only at hSw); first | (go_simp; done) | (go_simp; with_reducible rfl)
        try simp only [Act.put, List.setIfInBounds_toArray, List.set_cons_zero, List.set_cons_succ, List.getElem_toArray, List.getElem_cons_zero, List.getElem_cons_succ]
        refine wpAnyH_take (i := 4) (v := ?ven4) rfl (by kernel_rfl) (by kernel_rfl) (by kernel_rfl) (fun _ _ _ h => h) (Or.inl ⟨by rfl, ?hen4⟩) hHeld ?ren4
        case hen4 => intro w9 hSw; (try dsimp only at hSw); first | (go_simp; done) | (go_simp; with_reducible rfl)
        try simp only [Act.put, List.setIfInBounds_toArray, List.set_cons_zero, List.set_cons_succ, List.getElem_toArray, List.getElem_cons_zero, List.getElem_cons_succ]
        refine wpAnyH_take (i := 5) (v := ?ven5) rfl (by kernel_rfl) (by kernel_rfl) (by kernel_rfl) (fun _ _ _ h => h) (Or.inl ⟨by rfl, ?hen5⟩) hHeld ?ren5
        case hen5 => intro w9 hSw; (try dsimp only at hSw); first | (go_simp; done) | (go_simp; with_reducible rfl)
        try simp only [Act.put, List.setIfInBounds_toArray, List.set_cons_zero, List.set_cons_succ, List.getElem_toArray, List.getElem_cons_zero, List.getElem_cons_succ]
        refine wpAnyH_take (i := 6) (v := ?ven6) rfl (by kernel_rfl) (by kernel_rfl) (by kernel_rfl) (fun _ _ _ h => h) (Or.inl ⟨by rfl, ?hen6⟩) hHeld ?ren6
        case hen6 => intro w9 hSw; (try dsimp only at hSw); first | (go_simp; done) | (go_simp; with_reducible rfl)
        try simp only [Act.put, List.setIfInBounds_toArray, List.set_cons_zero, List.set_cons_succ, List.getElem_toArray, List.getElem_cons_zero, List.getElem_cons_succ]
        refine wpAnyH_ready (rs := [7]) (by kernel_rfl) (by simp) (AllReadyH.cons rfl (fun K hK => ?_) AllReadyH.nil)
        go_simp
        go_at_call 178
        refine (mustN _).mono ?_
        rintro e w9 ⟨⟨pv, rfl⟩, hw9⟩
        have hw9 := hw9.symm
        subst hw9
        exact ⟨rfl, HBf.out 1, Or.inr ⟨HEb.out, pv, rfl⟩⟩
  · have HEb : Hid (¬ enB xs) := fun h => h3 (by have := h.1; rw [HN.out] at this; exact this)
    have hn3 : ¬ (n : Int) ≥ 3 := by omega
    go_enter Tryz.func144, Tryz.ntmps144
    go_wp2_with fail
    refine (mustN _).mono ?_
    rintro e w9 ⟨⟨pv, rfl⟩, hw9⟩
    have hw9 := hw9.symm
    subst hw9
    go_wp2
    exact ⟨rfl, below_alloc _ _, Or.inr ⟨HEb.out, pv, rfl⟩⟩
end Go.Proofs.YtlmaopljihbdkaaGreat
/- Chapter 9: an entry is read back from its words: the mathematics. Made by program (genlawent.py). -/
namespace Go.Proofs.YtlmaopljihbdkaaGreat
open Go.RowKit

theorem list3 {xs : List Int} (h : 3 ≤ xs.length) : xs = [xs.getD 0 0, xs.getD 1 0, xs.getD 2 0] ++ xs.drop 3 := by
  match xs, h with
  | a :: b :: c :: r, _ => rfl
theorem en_back {ws : List Int} (h : ueC ws = 0) : ueR ws = [enO ws] ∧ entF (enO ws) = 0 ∧ peR (enO ws) = ws := by
  unfold ueC at h
  by_cases hw : wordsF ws = 0
  · rw [if_pos hw] at h
    by_cases hb : enB ws
    · refine ⟨by unfold ueR; rw [if_pos ⟨hw, hb⟩], hb.2.2, ?_⟩
      unfold peR
      rw [if_pos hb.2.2]
      have h3 := hb.1
      conv => rhs; rw [list3 h3]
      unfold pkE enO
      dsimp only
      have e : ((ws.drop 3).length : Int) = ws.getD 2 0 := by rw [hb.2.1, List.length_drop]; omega
      rw [e]
    · rw [if_neg hb] at h; exact absurd h (by decide)
  · rw [if_neg hw] at h; exact absurd h hw
theorem words_all {xs : List Int} : wordsF xs = 0 ↔ xs.length ≤ 64 ∧ ∀ x, x ∈ xs → 0 ≤ x ∧ x ≤ 65535 := by
  unfold wordsF wF
  by_cases h1 : 64 < xs.length
  · rw [if_pos h1]; exact ⟨fun h => absurd h (by decide), fun h => by omega⟩
  · rw [if_neg h1]
    by_cases h2 : ∀ i, i < xs.length → 0 ≤ xs.getD i 0 ∧ xs.getD i 0 ≤ 65535
    · rw [if_pos h2]
      refine ⟨fun _ => ⟨by omega, fun x hx => ?_⟩, fun _ => rfl⟩
      obtain ⟨i, hi, rfl⟩ := List.mem_iff_getElem.1 hx
      have := h2 i hi
      simpa [List.getD, hi] using this
    · rw [if_neg h2]
      refine ⟨fun h => absurd h (by decide), fun h => absurd (fun i hi => ?_) h2⟩
      have := h.2 xs[i] (List.getElem_mem hi)
      simpa [List.getD, hi] using this
theorem pk_back {p : Oj} (h : entF p = 0) : ueC (pkE p) = 0 ∧ ueR (pkE p) = [p] ∧ peR p = pkE p ∧ 3 ≤ (pkE p).length := by
  obtain ⟨a, t, xs⟩ := p
  obtain ⟨h1, h2, h3⟩ := entF_zero h
  dsimp only at h1 h2 h3
  have hw : wordsF (pkE (a, t, xs)) = 0 := by
    rw [words_all]
    refine ⟨by simp [pkE]; omega, fun x hx => ?_⟩
    simp only [pkE, List.mem_append, List.mem_cons, List.not_mem_nil, or_false] at hx
    rcases hx with (rfl | rfl | rfl) | hx
    · omega
    · omega
    · omega
    · exact (words_all.1 h3).2 x hx
  have he : enO (pkE (a, t, xs)) = (a, t, xs) := rfl
  have hb : enB (pkE (a, t, xs)) := by
    refine ⟨by simp [pkE], ?_, by rw [he]; exact h⟩
    show (xs.length : Int) = _
    simp [pkE]
    omega
  refine ⟨by unfold ueC; rw [if_pos hw, if_pos hb], by unfold ueR; rw [if_pos ⟨hw, hb⟩, he], by unfold peR; rw [if_pos h], by simp [pkE]⟩
theorem slot_ok {p : Oj} (h : entF p = 0) : sfC p.1 = 0 ∧ (sfC (p.1 + 14) = 0 → sfV (p.1 + 14) = sfV p.1) := by
  obtain ⟨h1, _, _⟩ := entF_zero h
  have e : sfC p.1 = 0 := by unfold sfC; rw [if_pos h1.1]
  refine ⟨e, fun h2 => ?_⟩
  unfold sfC at h2
  unfold sfV
  by_cases h3 : 1 ≤ p.1 + 14 ∧ p.1 + 14 ≤ 9999
  · rw [if_pos h3, if_pos h1.1]; omega
  · rw [if_neg h3] at h2; exact absurd h2 (by decide)
/-- One entry in a new list. -/
theorem RdJ_made {S : Nat → Prop} {w3 : World} {p : Oj} {z : Value} (T : TypeId) (hz : RdI S w3 z p.2.2) :
    RdJ (fun _ => True) (w3.alloc (.cells #[.int .i64 p.1, .int .i64 p.2.1, z] T)) (.slice (some ⟨w3.heap.size, 0, none⟩) 1 1) [p] := by
  refine ⟨_, 1, rfl, by simp, fun _ => ⟨w3.heap.size, 0, fun _ => z, rfl, trivial, fun i hi => ?_⟩⟩
  have e : i = 0 := by simpa using hi
  subst e
  exact ⟨by simp [go_sem], by simp [go_sem], by simp [go_sem], (hz.later (below_alloc _ _)).narrow fun _ _ _ => trivial⟩
end Go.Proofs.YtlmaopljihbdkaaGreat
/- 'spec.l1Copy', walked. -/
namespace Go.Proofs.YtlmaopljihbdkaaGreat
open Go.RowKit

theorem Inner.set {P : Nat → Prop} {w : World} {row : Option Nat} {k : Nat} {V : Nat → Value} {Bk : Nat → Nat} {X : Nat → List Int} (h : Inner P w row k V Bk X) {r o : Nat} {x : Value} (hr : ∀ b, P b → b ≠ r) : Inner P (w.setCell ⟨r, o, none⟩ x) row k V Bk X := by
  refine ⟨fun i hi => (h.rd i hi).setOther fun hn => hr _ (h.own i hi hn).1, fun i hi hn => ?_⟩
  obtain ⟨h1, h2, h3, h4, h5⟩ := h.own i hi hn
  exact ⟨h1, by simpa using h2, fun o => by rw [World.frozen?_setCell]; exact h3 o, h4, h5⟩

theorem ownsRow_set {w : World} {B e s r o : Nat} {v x : Value} {n : Nat} {xs : List Value} (h : w.ownsRow B e s v n xs) (hr : v.ownBlock ≠ some r) : (w.setCell ⟨r, o, none⟩ x).ownsRow B e s v n xs := by
  obtain ⟨h1, h2⟩ := h
  refine ⟨h1, ?_⟩
  rcases h2 with h2 | ⟨g, cap, cur, rfl, hg, hh, t⟩
  · exact Or.inl h2
  · exact Or.inr ⟨g, cap, cur, rfl, hg, by rw [Below.heap_setCell _ _ _ _ (fun e => hr (congrArg some e))]; exact hh, t⟩

theorem BuiltII.set {P : Nat → Prop} {w : World} {v : Value} {k : Nat} {xss : List (List Int)} (h : BuiltII P w v k xss) {r o : Nat} {x : Value} (hr : ∀ b, P b → b ≠ r) : BuiltII P (w.setCell ⟨r, o, none⟩ x) v k xss := by
  obtain ⟨V, Bk, h1, h2, h3⟩ := h
  exact ⟨V, Bk, ownsRow_set h1 (fun e => hr _ (h2 _ e) rfl), h2, h3.set hr⟩
theorem BuiltP.set {P : Nat → Prop} {w : World} {v : Value} {k : Nat} {ps : List (Int × List Int)} (h : BuiltP P w v k ps) {r o : Nat} {x : Value} (hr : ∀ b, P b → b ≠ r) : BuiltP P (w.setCell ⟨r, o, none⟩ x) v k ps := by
  obtain ⟨V, Bk, h1, h2, h3⟩ := h
  exact ⟨V, Bk, ownsRow_set h1 (fun e => hr _ (h2 _ e) rfl), h2, h3.set hr⟩

theorem BuiltP.below {P : Nat → Prop} {w w' : World} {v : Value} {k B : Nat} {ps : List (Int × List Int)} (h : BuiltP P w v k ps) (hb : Below B w w') (hP : ∀ b, P b → b < B) : BuiltP P w' v k ps := by
  obtain ⟨V, Bk, h1, h2, h3⟩ := h
  refine ⟨V, Bk, ?_, h2, fun i hi => ?_, fun i hi hn => ?_⟩
  · obtain ⟨k1, k2⟩ := h1
    refine ⟨k1, ?_⟩
    rcases k2 with k2 | ⟨g, cap, cur, rfl, hg, hh, t⟩
    · exact Or.inl k2
    · exact Or.inr ⟨g, cap, cur, rfl, hg, by rw [hb.block g (hP g (h2 g rfl))]; exact hh, t⟩
  · obtain ⟨ao, c, e1, e2, e3⟩ := h3.rd i hi
    refine ⟨ao, c, e1, e2, fun hne => ?_⟩
    obtain ⟨b, off, f1, f2, f3⟩ := e3 hne
    refine ⟨b, off, f1, f2, fun t ht => ?_⟩
    rw [hb.cell (p := ⟨b, off + t, none⟩) (by rw [f2]; exact hP _ (h3.own i hi hne).1)]
    exact f3 t ht
  · obtain ⟨q1, q2, q3, q4, q5⟩ := h3.own i hi hn
    exact ⟨q1, Nat.lt_of_lt_of_le q2 hb.size, fun o => (hb.frozen (p := ⟨Bk i, o, none⟩) (hP _ q1)).trans (q3 o), q4, q5⟩

/-- What the copying loop knows behind k blocks; b: the block of the copy's variable. -/
structure CopyAt (xss : List (List Int)) (b : Nat) (vc : Value) (w1 : World) (k : Nat) (v : Value) (wr : World) : Prop where
  below : Below b w1 wr
  size : b < wr.heap.size
  rows : BuiltII (b + 1 ≤ ·) wr v k xss
  cell0 : wr.cell? ⟨b, 0, none⟩ = some v
  cell1 : wr.cell? ⟨b, 1, none⟩ = some vc
  free : ∀ o, wr.frozen? ⟨b, o, none⟩ = false

theorem CopyAt.step {xss : List (List Int)} {b : Nat} {vc v z : Value} {w1 wr w2 w3 : World} {k g cap : Nat} {V : Nat → Value} {Bk : Nat → Nat} {o : Obj} (h : CopyAt xss b vc w1 k v wr)
    (hi : Inner (b + 1 ≤ ·) wr v.ownBlock k V Bk (fun i => xss.getD i [])) (hr : wr.ownsRow 0 22 1 v k ((List.range k).map V)) (hpr : ∀ r, v.ownBlock = some r → b + 1 ≤ r)
    (hb2 : Below wr.heap.size wr w2) (hz : OwI wr.heap.size w2 z (xss.getD k [])) (hown : w3.ownsRow 0 22 1 (.slice (some ⟨g, 0, none⟩) (k + 1) cap) (k + 1) ((List.range k).map V ++ [z]))
    (hg : (w2.alloc o).grownBy w3 v.ownBlock) (hat : v.ownBlock = some g ∨ g = (w2.alloc o).heap.size) :
    CopyAt xss b vc w1 (k + 1) (.slice (some ⟨g, 0, none⟩) (k + 1) cap) (w3.setCell ⟨b, 0, none⟩ (.slice (some ⟨g, 0, none⟩) (k + 1) cap)) := by
  have hsz := h.size
  have hs2 := hb2.size
  have hs3 := hg.size
  simp only [World.size_alloc] at hs3
  have far : ∀ o', w3.cell? ⟨b, o', none⟩ = wr.cell? ⟨b, o', none⟩ := fun o' => by
    rw [hg.cell_far ⟨b, o', none⟩ (by simp; omega) (fun e => by have := hpr _ e.symm; dsimp only at this; omega)]
    exact ((bcell (below_alloc w2 o)).1 _ _ (by omega)).trans ((bcell hb2).1 _ _ hsz)
  have farf : ∀ o', w3.frozen? ⟨b, o', none⟩ = wr.frozen? ⟨b, o', none⟩ := fun o' => by
    rw [hg.frozen_far ⟨b, o', none⟩ (by simp; omega) (fun e => by have := hpr _ e.symm; dsimp only at this; omega)]
    exact ((bcell (below_alloc w2 o)).2 _ _ (by omega)).trans ((bcell hb2).2 _ _ hsz)
  refine ⟨?_, by simp; omega, ?_, World.cell?_setCell_same _ _ _ ((far 0).trans h.cell0), ?_, fun o' => by rw [World.frozen?_setCell]; exact (farf o').trans (h.free o')⟩
  · exact ((h.below.trans ((below_on hb2 (below_alloc w2 o)).mono (by omega))).grown hg (by simp; omega) (fun r hr' => by have := hpr r hr'; omega)).setCell (Nat.le_refl _) _
  · exact (BuiltII.step (P' := (b + 1 ≤ ·)) hi hr hpr (fun _ h => h) (fun x hx => by omega) hb2 hz (below_alloc w2 o) hown hg hat).set (fun x hx => by omega)
  · rw [World.cell?_setCell_other _ _ _ _ (by simp)]
    exact (far 1).trans h.cell1

end Go.Proofs.YtlmaopljihbdkaaGreat
