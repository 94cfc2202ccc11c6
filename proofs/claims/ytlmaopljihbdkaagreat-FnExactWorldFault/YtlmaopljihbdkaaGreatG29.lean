/- En5c Vat Ra5o in one text: what each says stands at its head below. -/
import Derived.Test.YtlmaopljihbdkaaGreatG20
import Derived.BigQuiet
import Derived.Test.YtlmaopljihbdkaaGreatG10
import Derived.Test.YtlmaopljihbdkaaGreatG11
namespace Go.Proofs.YtlmaopljihbdkaaGreat
open Go.RowKit
def EntS (xs : List Int) (w : World) (e : Ending) (w' : World) : Prop :=
  Below w.heap.size w w' ∧ ((enB xs ∧ ∃ z, e = .returned (.tuple #[.agg #[.int .i64 (enO xs).1, .int .i64 (enO xs).2.1, z], .bool true]) ∧ OwI w.heap.size w' z (enO xs).2.2) ∨ (¬ enB xs ∧ ∃ x y A n c, e = .returned (.tuple #[.agg #[.int .i64 x, .int .i64 y, .slice A n c], .bool false])))
set_option maxHeartbeats 4000000 in
set_option maxRecDepth 4000 in
theorem l9Unpack {S : Nat → Prop} {w : World} {v : Value} {xs : List Int} (hv : RdI S w v xs) (hm : xs.length ≤ 64) :
    Calls Tryz.prog 94 #[v] w (EntS xs w) := by
  obtain ⟨ao, c, rfl⟩ := hv.shape
  have HV := hide hv
  obtain ⟨n, hn⟩ : ∃ n, xs.length = n := ⟨_, rfl⟩
  have HN := hide hn
  rw [hn] at HV hm ⊢
  have hcap : n ≤ c := by obtain ⟨_, c', e, _⟩ := hv; injection e with _ e2 e3; omega
  clear hv hn
  by_cases h3 : 3 ≤ n
  · obtain ⟨b, off, rfl, q0⟩ := HV.out.at (k := 0) (by rw [HN.out]; omega)
    obtain ⟨b', off', e', q1⟩ := HV.out.at (k := 1) (by rw [HN.out]; omega)
    injection e' with e'
    injection e' with e1 e2
    subst e1 e2
    obtain ⟨b', off', e', q2⟩ := HV.out.at (k := 2) (by rw [HN.out]; omega)
    injection e' with e'
    injection e' with e1 e2
    subst e1 e2
    have hb0 := World.block_lt_of_cell? _ _ q0
    have A0 := hide (below_alloc w (.cells #[.int .i64 0, .int .i64 0, .slice none 0 0] 110))
    obtain ⟨w1, hw1⟩ : ∃ w1, w.alloc (.cells #[.int .i64 0, .int .i64 0, .slice none 0 0] 110) = w1 := ⟨_, rfl⟩
    have HRes : Hid ((w1.cell? ⟨w.heap.size, 0, none⟩ = some (.int .i64 0) ∧ w1.cell? ⟨w.heap.size, 1, none⟩ = some (.int .i64 0) ∧ w1.cell? ⟨w.heap.size, 2, none⟩ = some (.slice none 0 0) ∧ ∀ o, w1.frozen? ⟨w.heap.size, o, none⟩ = false) ∧ w1.heap.size = w.heap.size + 1) := by
      rw [Hid, ← hw1]
      exact ⟨⟨by simp [go_sem], by simp [go_sem], by simp [go_sem], fun o => by simp [go_sem]⟩, by simp⟩
    have HW := hide hw1
    rw [hw1] at A0
    have g0 : w1.cell? ⟨b, off, none⟩ = some (.int .i64 (xs.getD 0 0)) := by have := cell_later A0.out q0; simpa using this
    have g1 := cell_later A0.out q1
    have g2 := cell_later A0.out q2
    clear q0 q1 q2 hw1
    obtain ⟨a, ha⟩ : ∃ a, xs.getD 0 0 = a := ⟨_, rfl⟩
    obtain ⟨t, ht⟩ : ∃ t, xs.getD 1 0 = t := ⟨_, rfl⟩
    obtain ⟨x2, hx2⟩ : ∃ x, xs.getD 2 0 = x := ⟨_, rfl⟩
    rw [ha] at g0
    rw [ht] at g1
    rw [hx2] at g2
    have HE : Hid (enO xs = (a, t, xs.drop 3)) := by rw [Hid]; unfold enO; rw [ha, ht]
    have HX2 := hide hx2
    clear ha ht hx2
    have hi2 : (2 : Int) < (n : Int) := by omega
    have hj2 : 2 < n := by omega
    have hn3 : ¬ (n : Int) < 3 := by omega
    have hws : IntKind.i64.wrap ((n : Int) - 3) = (n : Int) - 3 := by simp [IntKind.wrap, IntKind.bits, IntKind.signed]; omega
    by_cases hx : x2 = (n : Int) - 3
    · skip
      obtain ⟨A, hA⟩ : ∃ A : Option Addr, (if c = 3 then some (⟨b, off, none⟩ : Addr) else some ⟨b, off + 3, none⟩) = A := ⟨_, rfl⟩
      have HR1 : Hid (RdI S w (.slice A (n - 3) (c - 3)) (xs.drop 3)) := by
        have h := HV.out.from 3 (by omega)
        have e : slA (some ⟨b, off, none⟩) c 3 = A := by rw [← hA]; unfold slA; simp [Addr.add_lit]
        rw [e] at h
        exact h
      obtain ⟨l, hl⟩ : ∃ l, (xs.drop 3).length = l := ⟨_, rfl⟩
      have hln : l = n - 3 := by rw [← hl, List.length_drop, HN.out]
      have HL := hide hl
      have HLn := hide hln
      rw [← hln] at HR1
      obtain ⟨W1, hW1⟩ : ∃ W1, w1.drew = W1 := ⟨_, rfl⟩
      obtain ⟨W2, hW2⟩ : ∃ W2, (w1.alloc (.cells #[.int .i64 0, .int .i64 0, .slice none 0 0] 110)).drew = W2 := ⟨_, rfl⟩
      have HW1 := hide hW1
      have HW2 := hide hW2
      have HBW1 : Hid (Below w1.heap.size w1 W1 ∧ W1.heap.size = w1.heap.size) := by rw [Hid, ← hW1]; exact ⟨below_drewN _ 1, rfl⟩
      have HBW2 : Hid (Below w1.heap.size w1 W2) := by rw [Hid, ← hW2]; exact below_on (below_alloc _ _) (below_drewN _ 1)
      have HZ2 : Hid (W2.cell? ⟨w1.heap.size, 0, none⟩ = some (.int .i64 0) ∧ W2.cell? ⟨w1.heap.size, 1, none⟩ = some (.int .i64 0) ∧ W2.cell? ⟨w1.heap.size, 2, none⟩ = some (.slice none 0 0) ∧ (∀ o, W2.frozen? ⟨w1.heap.size, o, none⟩ = false) ∧ W2.heap.size = w1.heap.size + 1) := by
        rw [Hid, ← hW2]
        exact ⟨by simp [go_sem], by simp [go_sem], by simp [go_sem], fun o => by simp [go_sem], by simp⟩
      have hbl : b < w1.heap.size := World.block_lt_of_cell? _ _ g0
      have hbv : b ≠ w1.heap.size := Nat.ne_of_lt hbl
      have hn3' : (n : Int) ≥ 3 := by omega
      have hi0 : (0 : Int) < (n : Int) := by omega
      have hi1 : (1 : Int) < (n : Int) := by omega
      have hj0 : 0 < n := by omega
      have hj1 : 1 < n := by omega
      have hc3 : 3 ≤ c := by omega
      have hc3' : (3 : Int) ≤ (c : Int) := by omega
      have hnl : n - 3 = l := by omega
      have hl64 : l ≤ 64 := by omega
      clear hW1 hW2 hl hln
      have HEn : Hid (enB xs ↔ entF (a, t, xs.drop 3) = 0) := by
        rw [Hid]
        unfold enB
        rw [HN.out, HX2.out, HE.out]
        constructor
        · rintro ⟨_, _, h3'⟩
          exact h3'
        · intro h3'
          exact ⟨h3, hx, h3'⟩
      have hxb : (x2 != (n : Int) - 3) = false := by simp [hx]
      clear hx
      go_enter Tryz.func94, Tryz.ntmps94
      go_upto_region 1 with fail
      rw [HW.out]
      go_upto_region 3 with fail
      go_cut [4] from 18 to 27 (fun v wx => ∃ (hf cz : Nat) (az : Option Addr), v = .pointer (some ⟨hf, 0, none⟩) ∧ Hid (LaidE w1 a t (xs.drop 3) hf az l cz wx))
      case first =>
        go_region_held3 (fun w' => w'.cell? ⟨b, off, none⟩ = some (.int .i64 a) ∧ w'.cell? ⟨b, off + 1, none⟩ = some (.int .i64 t)) (first | exact ⟨g0, g1⟩ | exact ⟨e1, e2⟩ | exact ⟨cell_later (below_alloc _ _) e1, cell_later (below_alloc _ _) e2⟩ | exact ⟨(set3_en hbv).trans e1, (set3_en hbv).trans e2⟩ | (simp [go_sem, *]))
          (first
            | (go_at_call 119; rw [HW1.out]; refine (l1Ints ((HR1.out.later A0.out).later HBW1.out.1) (by rw [HL.out]; omega)).mono ?_; rintro e w3 ⟨z3, rfl, hb3, ho3⟩; obtain ⟨az, cz, hz3⟩ := ho3.shape; rw [HL.out] at hz3; subst hz3; have e1 := cell_later (below_on HBW1.out.1 hb3) g0; have e2 := cell_later (below_on HBW1.out.1 hb3) g1; have HB3 := hide (below_on HBW1.out.1 hb3); have HO3 := hide (ho3.mono (Nat.le_of_eq HBW1.out.2.symm)); have hs3 := HB3.out.size; clear hb3 ho3 HZ2)
            | (go_at_call 119; rw [HW2.out]; refine (l1Ints ((HR1.out.later A0.out).later HBW2.out) (by rw [HL.out]; omega)).mono ?_; rintro e w3 ⟨z3, rfl, hb3, ho3⟩; obtain ⟨az, cz, hz3⟩ := ho3.shape; rw [HL.out] at hz3; subst hz3; have e1 := cell_later (below_on HBW2.out hb3) g0; have e2 := cell_later (below_on HBW2.out hb3) g1; have HB3 := hide (below_on HBW2.out hb3); have HO3 := hide ho3; have hs3 := HB3.out.size; have y0 := cell_later hb3 HZ2.out.1; have y1 := cell_later hb3 HZ2.out.2.1; have y2 := cell_later hb3 HZ2.out.2.2.1; have yf0 := ((bcell hb3).2 _ _ (show w1.heap.size < W2.heap.size by have := HZ2.out.2.2.2.2; omega)).trans (HZ2.out.2.2.2.1 0); have yf1 := ((bcell hb3).2 _ _ (show w1.heap.size < W2.heap.size by have := HZ2.out.2.2.2.2; omega)).trans (HZ2.out.2.2.2.1 1); have yf2 := ((bcell hb3).2 _ _ (show w1.heap.size < W2.heap.size by have := HZ2.out.2.2.2.2; omega)).trans (HZ2.out.2.2.2.1 2); have hW2s := HZ2.out.2.2.2.2; clear hb3 ho3 HZ2))
        · have HLd : Hid (LaidE w1 a t (xs.drop 3) w3.heap.size az l cz (w3.alloc (.cells #[.int .i64 a, .int .i64 t, .slice az l cz] 110))) := ⟨by simp [go_sem], by simp [go_sem], by simp [go_sem], HO3.out.later (below_alloc _ _), below_on HB3.out (below_alloc _ _), hs3⟩
          go_wp2_with fail
          go_meet
          case rel => exact ⟨_, cz, az, rfl, HLd.out⟩
        · have hwr : Wr (fun y => y = w1.heap.size) w3 (((w3.setCell ⟨w1.heap.size, 0, none⟩ (.int .i64 a)).setCell ⟨w1.heap.size, 1, none⟩ (.int .i64 t)).setCell ⟨w1.heap.size, 2, none⟩ (.slice az l cz)) := (((Wr.refl (fun y => y = w1.heap.size) _).setCell (p := ⟨w1.heap.size, 0, none⟩) rfl _).setCell (p := ⟨w1.heap.size, 1, none⟩) rfl _).setCell (p := ⟨w1.heap.size, 2, none⟩) rfl _
          have HLd : Hid (LaidE w1 a t (xs.drop 3) w1.heap.size az l cz (((w3.setCell ⟨w1.heap.size, 0, none⟩ (.int .i64 a)).setCell ⟨w1.heap.size, 1, none⟩ (.int .i64 t)).setCell ⟨w1.heap.size, 2, none⟩ (.slice az l cz))) := ⟨by simp [go_sem, y0], by simp [go_sem, y1], by simp [go_sem, y2], (HO3.out.wr hwr (fun b h1 _ e => by omega)).mono (by omega), ((HB3.out.setCell (p := ⟨w1.heap.size, 0, none⟩) (Nat.le_refl _) _).setCell (p := ⟨w1.heap.size, 1, none⟩) (Nat.le_refl _) _).setCell (p := ⟨w1.heap.size, 2, none⟩) (Nat.le_refl _) _, Nat.le_refl _⟩
          clear hwr
          go_wp2_with fail
          go_meet
          case rel => exact ⟨_, cz, az, rfl, HLd.out⟩
      case rest =>
        obtain ⟨hf, cz, az, rfl, HLd⟩ := hcut
        obtain ⟨l0, l1, l2, l3, l4, l5⟩ := HLd.out
        have k2 := cell_later l4 g2
        have HOw := hide l3
        have HBc := hide (below_on A0.out l4)
        have HB4 := hide l4
        clear l3 l4 HLd g0 g1 g2 HZ2 HBW1 HBW2
        have hpl := HRes.out.2
        obtain ⟨z, hz⟩ : ∃ z, entF (a, t, xs.drop 3) = z := ⟨_, rfl⟩
        have HZ := hide hz
        clear hz
        have HC := hide (fun q => l9One (w := wc.drewN q) (b := hf) (off := 0) (p := (a, t, xs.drop 3)) ⟨_, l0, l1, l2, HOw.out.rd.later (below_drewN wc q)⟩)
        rw [HZ.out] at HC
        rw [HZ.out] at HEn
        have r0 := cell_later HB4.out HRes.out.1.1
        have r1 := cell_later HB4.out HRes.out.1.2.1
        have r2 := cell_later HB4.out HRes.out.1.2.2.1
        have hlt : w.heap.size < w1.heap.size := by omega
        have f0 := ((bcell HB4.out).2 _ _ hlt).trans (HRes.out.1.2.2.2 0)
        have f1 := ((bcell HB4.out).2 _ _ hlt).trans (HRes.out.1.2.2.2 1)
        have f2 := ((bcell HB4.out).2 _ _ hlt).trans (HRes.out.1.2.2.2 2)
        have hhf : hf ≠ w.heap.size := by omega
        go_wp2_with fail
        go_region_held3 (fun w' => w'.cell? ⟨hf, 0, none⟩ = some (.int .i64 a) ∧ w'.cell? ⟨hf, 1, none⟩ = some (.int .i64 t) ∧ w'.cell? ⟨hf, 2, none⟩ = some (.slice az l cz)) (first | exact ⟨l0, l1, l2⟩ | exact ⟨(set3_en hhf).trans l0, (set3_en hhf).trans l1, (set3_en hhf).trans l2⟩)
          (first
            | (go_at_call 115; refine (HC.out 1).mono ?_; rintro e w4 ⟨rfl, q, rfl⟩))
        have hwr : Wr (fun y => y = w.heap.size) (wc.drewN (1 + q)) ((((wc.drewN (1 + q)).setCell ⟨w.heap.size, 0, none⟩ (.int .i64 a)).setCell ⟨w.heap.size, 1, none⟩ (.int .i64 t)).setCell ⟨w.heap.size, 2, none⟩ (.slice az l cz)) := (((Wr.refl (fun y => y = w.heap.size) _).setCell (p := ⟨w.heap.size, 0, none⟩) rfl _).setCell (p := ⟨w.heap.size, 1, none⟩) rfl _).setCell (p := ⟨w.heap.size, 2, none⟩) rfl _
        have HOe := hide (((HOw.out.later (below_drewN wc (1 + q))).wr hwr (fun b h1 _ e => by omega)).mono (show w.heap.size ≤ w1.heap.size by omega))
        have HBe := hide ((((below_on HBc.out (below_drewN wc (1 + q))).setCell (p := ⟨w.heap.size, 0, none⟩) (Nat.le_refl _) (.int .i64 a)).setCell (p := ⟨w.heap.size, 1, none⟩) (Nat.le_refl _) (.int .i64 t)).setCell (p := ⟨w.heap.size, 2, none⟩) (Nat.le_refl _) (.slice az l cz))
        clear hwr
        by_cases hz0 : z = 0
        · subst hz0
          go_wp2
          refine bodyPost_ret (v := .tuple #[.agg #[.int .i64 a, .int .i64 t, .slice az l cz], .bool true]) (by simp [results, Tryz.results94, go_sem, r0, r1, r2]) rfl ⟨HBe.out, Or.inl ⟨HEn.out.2 (by first | rfl | trivial), _, by rw [HE.out], by rw [HE.out]; exact HOe.out⟩⟩
        · have hzb : (z == 0) = false := by simpa using hz0
          go_wp2
          refine bodyPost_ret (v := .tuple #[.agg #[.int .i64 a, .int .i64 t, .slice az l cz], .bool false]) (by simp [results, Tryz.results94, go_sem, r0, r1, r2, hzb]) rfl ⟨HBe.out, Or.inr ⟨fun h => hz0 (HEn.out.1 h), _, _, _, _, _, rfl⟩⟩
    · have HEb : Hid (¬ enB xs) := fun h => hx (HX2.out.symm.trans (h.2.1.trans (by rw [HN.out])))
      have hxb : (x2 != (n : Int) - 3) = true := by simp [hx]
      have r0 := HRes.out.1.1
      have r1 := HRes.out.1.2.1
      have r2 := HRes.out.1.2.2.1
      have f0 := HRes.out.1.2.2.2 0
      have f1 := HRes.out.1.2.2.2 1
      have f2 := HRes.out.1.2.2.2 2
      clear hx
      go_enter Tryz.func94, Tryz.ntmps94
      go_upto_region 1 with fail
      rw [HW.out]
      go_wp2
      refine bodyPost_ret (v := .tuple #[.agg #[.int .i64 0, .int .i64 0, .slice none 0 0], .bool false]) (by simp [results, Tryz.results94, go_sem, r0, r1, r2]) rfl ⟨?_, Or.inr ⟨HEb.out, _, _, _, _, _, rfl⟩⟩
      exact ((A0.out.setCell (p := ⟨w.heap.size, 0, none⟩) (Nat.le_refl _) _).setCell (p := ⟨w.heap.size, 1, none⟩) (Nat.le_refl _) _).setCell (p := ⟨w.heap.size, 2, none⟩) (Nat.le_refl _) _
  · have HEb : Hid (¬ enB xs) := fun h => h3 (by have := h.1; rw [HN.out] at this; exact this)
    have hn3 : (n : Int) < 3 := by omega
    have A0 := hide (below_alloc w (.cells #[.int .i64 0, .int .i64 0, .slice none 0 0] 110))
    go_enter Tryz.func94, Tryz.ntmps94
    go_wp2
    refine bodyPost_ret (v := .tuple #[.agg #[.int .i64 0, .int .i64 0, .slice none 0 0], .bool false]) (by simp [results, Tryz.results94, go_sem]) rfl ⟨?_, Or.inr ⟨HEb.out, _, _, _, _, _, rfl⟩⟩
    repeat (first | exact A0.out | refine Below.setCell ?_ (Nat.le_refl _) _)
end Go.Proofs.YtlmaopljihbdkaaGreat
namespace Go.Proofs.YtlmaopljihbdkaaGreat
open Go.RowKit
def Vat (w : World) (b o : Nat) (x0 x1 x2 x3 x4 x5 : Value) : Prop := w.cell? ⟨b, o, none⟩ = some x0 ∧ w.cell? ⟨b, o + 1, none⟩ = some x1 ∧ w.cell? ⟨b, o + 2, none⟩ = some x2 ∧ w.cell? ⟨b, o + 3, none⟩ = some x3 ∧ w.cell? ⟨b, o + 4, none⟩ = some x4 ∧ w.cell? ⟨b, o + 5, none⟩ = some x5
theorem Vat.later {w w' : World} {b o : Nat} {x0 x1 x2 x3 x4 x5 : Value} (h : Vat w b o x0 x1 x2 x3 x4 x5) (hb : Below w.heap.size w w') : Vat w' b o x0 x1 x2 x3 x4 x5 :=
  ⟨cell_later hb h.1, cell_later hb h.2.1, cell_later hb h.2.2.1, cell_later hb h.2.2.2.1, cell_later hb h.2.2.2.2.1, cell_later hb h.2.2.2.2.2⟩
theorem Vat.lt {w : World} {b o : Nat} {x0 x1 x2 x3 x4 x5 : Value} (h : Vat w b o x0 x1 x2 x3 x4 x5) : b < w.heap.size := World.block_lt_of_cell? _ _ h.1
end Go.Proofs.YtlmaopljihbdkaaGreat
namespace Go.Proofs.YtlmaopljihbdkaaGreat
open Go.RowKit
set_option maxHeartbeats 8000000 in
set_option maxRecDepth 4000 in
theorem l10FaultO {S T : Nat → Prop} {w : World} {bk ob : Nat} {y z : Value} (r : Rf) (hv : Vat w bk ob (.int .i64 r.tm) (.int .i64 r.vt) (.int .i64 r.si) (.int .i64 r.st) y z) (hy : RdI S w y r.sn) (hz : RdJ T w z r.lg) :
    Calls Tryz.prog 31 #[.pointer (some ⟨bk, ob, none⟩)] w fun e w' => e = .returned (.int .i64 (rfF r)) ∧ Below w.heap.size w w' := by
  obtain ⟨ay, cy, rfl⟩ := hy.shape
  obtain ⟨az, cz, rfl, hzm⟩ := hz.shape
  have hym := hy.maxR
  have hrg : rgR r ↔ ((0 ≤ r.tm ∧ r.tm ≤ 999) ∧ (0 ≤ r.vt ∧ r.vt ≤ 9)) ∧ (0 ≤ r.si ∧ r.si ≤ 9999) ∧ 0 ≤ r.st ∧ r.st ≤ r.tm := Iff.rfl
  have hfm : fmR r ↔ ((r.si = 0 ↔ r.st = 0) ∧ (r.si = 0 → r.sn.length = 0)) := by unfold fmR; simp only [List.length_eq_zero_iff]
  have hlk : lkR r ↔ (r.lg ≠ [] → (r.lg.getD 0 oj0).1 = r.si + 1 ∧ r.st ≤ (r.lg.getD 0 oj0).2.1 ∧ (r.lg.getD (r.lg.length - 1) oj0).2.1 ≤ r.tm) := Iff.rfl
  have HF := hide (@rfF_range r)
  have HF1 := hide (@rfF_data r)
  have HF2 := hide (@rfF_form r)
  have HF3 := hide (@rfF_log r)
  have HF4 := hide (@rfF_link r)
  have HF5 := hide (@rfF_ok r)
  obtain ⟨Z, hZ⟩ : ∃ Z, rfF r = Z := ⟨_, rfl⟩
  rw [hZ] at HF HF1 HF2 HF3 HF4 HF5 ⊢
  have H3 := hide (fun (w' : World) (hb : Below w.heap.size w w') => l10DataI (hy.later hb))
  have H5 := hide (fun (w' : World) (hb : Below w.heap.size w w') => l9Log (hz.later hb))
  have HZ0 := hide hz
  have HRG := hide hrg
  have HFM := hide hfm
  have HLK := hide hlk
  obtain ⟨l, hl⟩ : ∃ l, r.sn.length = l := ⟨_, rfl⟩
  obtain ⟨m, hm⟩ : ∃ m, r.lg.length = m := ⟨_, rfl⟩
  rw [hl] at hv H3 HFM hym
  rw [hm] at hv H5 HZ0 HLK hzm
  have HM := hide hm
  have VA := hide hv
  obtain ⟨D, hD⟩ : ∃ D, daF r.sn = D := ⟨_, rfl⟩
  obtain ⟨G, hG⟩ : ∃ G, logF r.lg = G := ⟨_, rfl⟩
  rw [hD] at H3 HF1 HF2 HF3 HF4 HF5
  rw [hG] at H5 HF3 HF4 HF5
  clear hv hy hz hlk hrg hfm hZ hl hm hD hG
  generalize r.tm = a at *
  generalize r.vt = b at *
  generalize r.si = c at *
  generalize r.st = d at *
  have BA := hide (Below.refl w.heap.size w)
  by_cases q1 : 0 ≤ a ∧ a ≤ 999
  · have i1 := inBq_yes q1
    by_cases q2 : 0 ≤ b ∧ b ≤ 9
    · have i2 := inBq_yes q2
      by_cases q3 : 0 ≤ c ∧ c ≤ 9999
      · have i3 := inBq_yes q3
        by_cases q4 : 0 ≤ d ∧ d ≤ a
        · have i4 := inBq_yes q4
          have KR : Hid (rgR r) := HRG.out.2 ⟨⟨q1, q2⟩, q3, q4⟩
          clear q1 q2 q3 q4
          obtain ⟨c0, c1, c2, c3, c4, c5⟩ := VA.out
          go_enter Tryz.func31, Tryz.ntmps31
          go_wp2_with fail
          go_quiet ((go_at_call 63; exact Calls.quiet_of_same (l1InB _ _ _ _)))
          go_wp2_with fail
          refine (H3.out _ (below_drewN _ _)).mono ?_
          rintro e w3 ⟨rfl, q, rfl⟩
          have hb3 := below_on (below_drewN w nq) (below_drewN _ q)
          have VA3 := hide (VA.out.later hb3)
          have B3 := hide hb3
          clear hb3
          clear i1 i2 i3 i4
          obtain ⟨w3, hw3⟩ : ∃ x, (w.drewN nq).drewN q = x := ⟨_, rfl⟩
          rw [hw3] at VA3 B3 ⊢
          clear hw3 c0 c1 c2 c3 c4 c5
          obtain ⟨c0, c1, c2, c3, c4, c5⟩ := VA3.out
          by_cases hD : D = 0
          · subst hD
            by_cases f1 : c = 0
            · subst f1
              by_cases f2 : d = 0
              · subst f2
                by_cases f3 : l = 0
                · subst f3
                  have KF : Hid (fmR r) := HFM.out.2 ⟨Iff.rfl, fun _ => rfl⟩
                  go_wp2_with fail
                  go_quiet (fail)
                  go_wp2_with fail
                  refine (H5.out _ (below_on B3.out (below_drewN _ _))).mono ?_
                  rintro e w5 ⟨rfl, hb⟩
                  have hb5 := below_on (below_drewN w3 _) hb
                  have VA5 := hide (VA3.out.later hb5)
                  have B5 := hide (below_on B3.out hb5)
                  clear hb hb5 c0 c1 c2 c3 c4 c5
                  obtain ⟨c0, c1, c2, c3, c4, c5⟩ := VA5.out
                  by_cases hG : G = 0
                  · subst hG
                    by_cases hne : r.lg = []
                    · skip
                      have hm0 : m = 0 := by rw [← HM.out, hne]; rfl
                      subst hm0
                      have HZ : Hid ((0 : Int) = Z) := (HF5.out KR.out (by first | trivial | rfl) KF.out (by first | trivial | rfl) (HLK.out.2 (fun h => absurd hne h))).symm
                      go_wp2_with fail
                      go_quiet (fail)
                      go_wp2
                      go_ret
                      exact ⟨ret_int HZ.out, below_on B5.out (below_drewN _ _)⟩
                    · skip
                      have hpos : 0 < m := by rw [← HM.out]; exact List.length_pos_iff.2 hne
                      have hzl := HZ0.out.later B5.out
                      obtain ⟨b', off, e1, y0, p0, p1, p2, p3⟩ := hzl.file (k := 0) (by rw [HM.out]; exact hpos)
                      obtain ⟨b2, off2, e', y', r0, r1, r2, r3⟩ := hzl.file (k := m - 1) (by rw [HM.out]; omega)
                      subst e1
                      injection e' with e'
                      injection e' with e1 e2
                      subst e1 e2
                      have HG : Hid (lkR r ↔ (r.lg.getD 0 oj0).1 = 0 + 1 ∧ 0 ≤ (r.lg.getD 0 oj0).2.1 ∧ (r.lg.getD (m - 1) oj0).2.1 ≤ a) := ⟨fun h => HLK.out.1 h hne, fun h => HLK.out.2 fun _ => h⟩
                      have h3 := (HRG.out.1 KR.out).2.1
                      obtain ⟨x, hx⟩ : ∃ x, r.lg.getD 0 oj0 = x := ⟨_, rfl⟩
                      obtain ⟨x', hx'⟩ : ∃ x', r.lg.getD (m - 1) oj0 = x' := ⟨_, rfl⟩
                      rw [hx] at p0 p1 HG
                      rw [hx'] at r1 HG
                      obtain ⟨a0, t0, xs0⟩ := x
                      obtain ⟨a1, t1, xs1⟩ := x'
                      dsimp only at p0 p1 r1 HG
                      simp only [Nat.zero_mul, Nat.add_zero] at p0 p1
                      clear p2 p3 r0 r2 r3 hzl hx hx'
                      have hw1 : IntKind.i64.wrap ((m : Int) - 1) = ((m - 1 : Nat) : Int) := by simp [IntKind.wrap, IntKind.bits, IntKind.signed]; omega
                      obtain ⟨j, hj⟩ : ∃ j, m - 1 = j := ⟨_, rfl⟩
                      rw [hj] at r1 hw1
                      have hjm : (j : Int) < (m : Int) := by omega
                      have hj0 : (0 : Int) ≤ (j : Int) := by omega
                      have hm1 : (0 : Int) < (m : Int) := by omega
                      have hmt : decide ((m : Int) > 0) = true := by simp; omega
                      clear hj hne
                      by_cases e1 : a0 = 1
                      · subst e1
                        by_cases e2 : t0 < 0
                        · have e2' : decide (t0 < 0) = true := by simpa using e2
                          have HZ : Hid ((1 : Int) = Z) := (HF4.out KR.out (by first | trivial | rfl) KF.out (by first | trivial | rfl) (fun h => by have := (HG.out.1 h).2.1; omega)).symm
                          go_wp2_with fail
                          go_quiet (fail)
                          go_wp2
                          go_ret
                          exact ⟨ret_int HZ.out, below_on B5.out (below_drewN _ _)⟩
                        · have e2' : decide (t0 < 0) = false := by simpa using e2
                          by_cases e3 : a < t1
                          · have e3' : decide (t1 > a) = true := by simpa using e3
                            have HZ : Hid ((1 : Int) = Z) := (HF4.out KR.out (by first | trivial | rfl) KF.out (by first | trivial | rfl) (fun h => by have := (HG.out.1 h).2.2; omega)).symm
                            go_wp2_with fail
                            go_quiet (fail)
                            go_wp2
                            go_ret
                            exact ⟨ret_int HZ.out, below_on B5.out (below_drewN _ _)⟩
                          · have e3' : decide (t1 > a) = false := by simpa using e3
                            have HZ : Hid ((0 : Int) = Z) := (HF5.out KR.out (by first | trivial | rfl) KF.out (by first | trivial | rfl) (HG.out.2 ⟨by omega, by omega, by omega⟩)).symm
                            go_wp2_with fail
                            go_quiet (fail)
                            go_wp2
                            go_ret
                            exact ⟨ret_int HZ.out, below_on B5.out (below_drewN _ _)⟩
                      · have e1' : (a0 == 1) = false := by simpa using e1
                        have HZ : Hid ((1 : Int) = Z) := (HF4.out KR.out (by first | trivial | rfl) KF.out (by first | trivial | rfl) (fun h => by have := (HG.out.1 h).1; omega)).symm
                        have e1b : decide (a0 = 1) = false := by simpa using e1
                        have e1c : (a0 != 1) = true := by simpa using e1
                        have e1d : decide (a0 ≠ 1) = true := by simpa using e1
                        clear e1
                        go_wp2_with fail
                        go_quiet (fail)
                        go_wp2
                        go_ret
                        exact ⟨ret_int HZ.out, below_on B5.out (below_drewN _ _)⟩
                  · have HZ : Hid (G = Z) := (HF3.out KR.out (by first | trivial | rfl) KF.out hG).symm
                    have hG' : (G == 0) = false := by simpa using hG
                    go_wp2
                    go_ret
                    exact ⟨ret_int HZ.out, B5.out⟩
                · have f3' : decide ((l : Int) > 0) = true := by simp; omega
                  have HZ : Hid ((1 : Int) = Z) := (HF2.out KR.out (by first | trivial | rfl) (fun h => f3 ((HFM.out.1 h).2 rfl))).symm
                  go_wp2_with fail
                  go_quiet (fail)
                  go_wp2
                  go_ret
                  exact ⟨ret_int HZ.out, below_on B3.out (below_drewN _ _)⟩
              · have f2' : (d == 0) = false := by simpa using f2
                have HZ : Hid ((1 : Int) = Z) := (HF2.out KR.out (by first | trivial | rfl) (fun h => f2 ((HFM.out.1 h).1.1 rfl))).symm
                go_wp2_with fail
                go_quiet (fail)
                go_wp2
                go_ret
                exact ⟨ret_int HZ.out, below_on B3.out (below_drewN _ _)⟩
            · have f1' : (c == 0) = false := by simpa using f1
              by_cases f2 : d = 0
              · subst f2
                have HZ : Hid ((1 : Int) = Z) := (HF2.out KR.out (by first | trivial | rfl) (fun h => f1 ((HFM.out.1 h).1.2 rfl))).symm
                go_wp2_with fail
                go_quiet (fail)
                go_wp2
                go_ret
                exact ⟨ret_int HZ.out, below_on B3.out (below_drewN _ _)⟩
              · have f2' : (d == 0) = false := by simpa using f2
                have KF : Hid (fmR r) := HFM.out.2 ⟨⟨fun h => absurd h f1, fun h => absurd h f2⟩, fun h => absurd h f1⟩
                go_wp2_with fail
                go_quiet (fail)
                go_wp2_with fail
                refine (H5.out _ (below_on B3.out (below_drewN _ _))).mono ?_
                rintro e w5 ⟨rfl, hb⟩
                have hb5 := below_on (below_drewN w3 _) hb
                have VA5 := hide (VA3.out.later hb5)
                have B5 := hide (below_on B3.out hb5)
                clear hb hb5 c0 c1 c2 c3 c4 c5
                obtain ⟨c0, c1, c2, c3, c4, c5⟩ := VA5.out
                by_cases hG : G = 0
                · subst hG
                  by_cases hne : r.lg = []
                  · skip
                    have hm0 : m = 0 := by rw [← HM.out, hne]; rfl
                    subst hm0
                    have HZ : Hid ((0 : Int) = Z) := (HF5.out KR.out (by first | trivial | rfl) KF.out (by first | trivial | rfl) (HLK.out.2 (fun h => absurd hne h))).symm
                    go_wp2_with fail
                    go_quiet (fail)
                    go_wp2
                    go_ret
                    exact ⟨ret_int HZ.out, below_on B5.out (below_drewN _ _)⟩
                  · skip
                    have hpos : 0 < m := by rw [← HM.out]; exact List.length_pos_iff.2 hne
                    have hzl := HZ0.out.later B5.out
                    obtain ⟨b', off, e1, y0, p0, p1, p2, p3⟩ := hzl.file (k := 0) (by rw [HM.out]; exact hpos)
                    obtain ⟨b2, off2, e', y', r0, r1, r2, r3⟩ := hzl.file (k := m - 1) (by rw [HM.out]; omega)
                    subst e1
                    injection e' with e'
                    injection e' with e1 e2
                    subst e1 e2
                    have HG : Hid (lkR r ↔ (r.lg.getD 0 oj0).1 = c + 1 ∧ d ≤ (r.lg.getD 0 oj0).2.1 ∧ (r.lg.getD (m - 1) oj0).2.1 ≤ a) := ⟨fun h => HLK.out.1 h hne, fun h => HLK.out.2 fun _ => h⟩
                    have h3 := (HRG.out.1 KR.out).2.1
                    obtain ⟨x, hx⟩ : ∃ x, r.lg.getD 0 oj0 = x := ⟨_, rfl⟩
                    obtain ⟨x', hx'⟩ : ∃ x', r.lg.getD (m - 1) oj0 = x' := ⟨_, rfl⟩
                    rw [hx] at p0 p1 HG
                    rw [hx'] at r1 HG
                    obtain ⟨a0, t0, xs0⟩ := x
                    obtain ⟨a1, t1, xs1⟩ := x'
                    dsimp only at p0 p1 r1 HG
                    simp only [Nat.zero_mul, Nat.add_zero] at p0 p1
                    clear p2 p3 r0 r2 r3 hzl hx hx'
                    have hw1 : IntKind.i64.wrap ((m : Int) - 1) = ((m - 1 : Nat) : Int) := by simp [IntKind.wrap, IntKind.bits, IntKind.signed]; omega
                    obtain ⟨j, hj⟩ : ∃ j, m - 1 = j := ⟨_, rfl⟩
                    rw [hj] at r1 hw1
                    have hjm : (j : Int) < (m : Int) := by omega
                    have hj0 : (0 : Int) ≤ (j : Int) := by omega
                    have hm1 : (0 : Int) < (m : Int) := by omega
                    have hmt : decide ((m : Int) > 0) = true := by simp; omega
                    clear hj hne
                    have hc1 : IntKind.i64.wrap (c + 1) = c + 1 := by simp [IntKind.wrap, IntKind.bits, IntKind.signed]; omega
                    obtain ⟨s, hs⟩ : ∃ s, c + 1 = s := ⟨_, rfl⟩
                    rw [hs] at HG
                    have hc2 : IntKind.i64.wrap (c + 1) = s := hc1.trans hs
                    have HS := hide hs
                    clear hc1 hs h3
                    by_cases e1 : a0 = s
                    · subst e1
                      by_cases e2 : t0 < d
                      · have e2' : decide (t0 < d) = true := by simpa using e2
                        have HZ : Hid ((1 : Int) = Z) := (HF4.out KR.out (by first | trivial | rfl) KF.out (by first | trivial | rfl) (fun h => by have := (HG.out.1 h).2.1; omega)).symm
                        go_wp2_with fail
                        go_quiet (fail)
                        go_wp2
                        go_ret
                        exact ⟨ret_int HZ.out, below_on B5.out (below_drewN _ _)⟩
                      · have e2' : decide (t0 < d) = false := by simpa using e2
                        by_cases e3 : a < t1
                        · have e3' : decide (t1 > a) = true := by simpa using e3
                          have HZ : Hid ((1 : Int) = Z) := (HF4.out KR.out (by first | trivial | rfl) KF.out (by first | trivial | rfl) (fun h => by have := (HG.out.1 h).2.2; omega)).symm
                          go_wp2_with fail
                          go_quiet (fail)
                          go_wp2
                          go_ret
                          exact ⟨ret_int HZ.out, below_on B5.out (below_drewN _ _)⟩
                        · have e3' : decide (t1 > a) = false := by simpa using e3
                          have HZ : Hid ((0 : Int) = Z) := (HF5.out KR.out (by first | trivial | rfl) KF.out (by first | trivial | rfl) (HG.out.2 ⟨by omega, by omega, by omega⟩)).symm
                          go_wp2_with fail
                          go_quiet (fail)
                          go_wp2
                          go_ret
                          exact ⟨ret_int HZ.out, below_on B5.out (below_drewN _ _)⟩
                    · have e1' : (a0 == s) = false := by simpa using e1
                      have HZ : Hid ((1 : Int) = Z) := (HF4.out KR.out (by first | trivial | rfl) KF.out (by first | trivial | rfl) (fun h => by have := (HG.out.1 h).1; omega)).symm
                      have e1b : decide (a0 = s) = false := by simpa using e1
                      have e1c : (a0 != s) = true := by simpa using e1
                      have e1d : decide (a0 ≠ s) = true := by simpa using e1
                      clear e1
                      go_wp2_with fail
                      go_quiet (fail)
                      go_wp2
                      go_ret
                      exact ⟨ret_int HZ.out, below_on B5.out (below_drewN _ _)⟩
                · have HZ : Hid (G = Z) := (HF3.out KR.out (by first | trivial | rfl) KF.out hG).symm
                  have hG' : (G == 0) = false := by simpa using hG
                  go_wp2
                  go_ret
                  exact ⟨ret_int HZ.out, B5.out⟩
          · have HZ : Hid (D = Z) := (HF1.out KR.out hD).symm
            have hD' : (D == 0) = false := by simpa using hD
            go_wp2
            go_ret
            exact ⟨ret_int HZ.out, B3.out⟩
        · skip
          have HZ : Hid ((3 : Int) = Z) := (HF.out (fun h => by have := HRG.out.1 h; omega)).symm
          have i4 := inBq_no q4
          clear q1 q2 q3 q4
          obtain ⟨c0, c1, c2, c3, c4, c5⟩ := VA.out
          go_enter Tryz.func31, Tryz.ntmps31
          go_wp2_with fail
          go_quiet ((go_at_call 63; exact Calls.quiet_of_same (l1InB _ _ _ _)))
          go_wp2
          go_ret
          exact ⟨ret_int HZ.out, below_drewN _ _⟩
      · skip
        have HZ : Hid ((3 : Int) = Z) := (HF.out (fun h => by have := HRG.out.1 h; omega)).symm
        have i3 := inBq_no q3
        clear q1 q2 q3
        obtain ⟨c0, c1, c2, c3, c4, c5⟩ := VA.out
        go_enter Tryz.func31, Tryz.ntmps31
        go_wp2_with fail
        go_quiet ((go_at_call 63; exact Calls.quiet_of_same (l1InB _ _ _ _)))
        go_wp2
        go_ret
        exact ⟨ret_int HZ.out, below_drewN _ _⟩
    · skip
      have HZ : Hid ((3 : Int) = Z) := (HF.out (fun h => by have := HRG.out.1 h; omega)).symm
      have i2 := inBq_no q2
      clear q1 q2
      obtain ⟨c0, c1, c2, c3, c4, c5⟩ := VA.out
      go_enter Tryz.func31, Tryz.ntmps31
      go_wp2_with fail
      go_quiet ((go_at_call 63; exact Calls.quiet_of_same (l1InB _ _ _ _)))
      go_wp2
      go_ret
      exact ⟨ret_int HZ.out, below_drewN _ _⟩
  · skip
    have HZ : Hid ((3 : Int) = Z) := (HF.out (fun h => by have := HRG.out.1 h; omega)).symm
    have i1 := inBq_no q1
    clear q1
    obtain ⟨c0, c1, c2, c3, c4, c5⟩ := VA.out
    go_enter Tryz.func31, Tryz.ntmps31
    go_wp2_with fail
    go_quiet ((go_at_call 63; exact Calls.quiet_of_same (l1InB _ _ _ _)))
    go_wp2
    go_ret
    exact ⟨ret_int HZ.out, below_drewN _ _⟩
end Go.Proofs.YtlmaopljihbdkaaGreat
