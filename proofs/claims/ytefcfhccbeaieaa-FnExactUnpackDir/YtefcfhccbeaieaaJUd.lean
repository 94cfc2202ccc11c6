/- Fu1 Fu2 Fu2b Fu3 in one text: what each says stands at its head below. -/
import Derived.Test.YtefcfhccbeaieaaFi8
import Derived.Test.YtefcfhccbeaieaaZero
import Derived.Test.YtefcfhccbeaieaaSame
import Derived.Test.YtefcfhccbeaieaaFi5
import Derived.Test.YtefcfhccbeaieaaFi5b
import Derived.Test.YtefcfhccbeaieaaTear
/- Chapter 8: the mathematics of a directory's words. -/
namespace Go.Proofs.Ytefcfhccbeaieaa
open Go.RowKit

theorem forgetE {Q : Exit → Act → World → Prop} {x : Exit} {a : Act} {w0 : World} (R : World → Prop) (h0 : R w0) (h : ∀ w, R w → Q x a w) : Q x a w0 := h _ h0
/-- The files that words tell of, as much as is there; g: how many blocks a size needs. -/
def prs (g : Int → Nat) : Nat → List Int → List Oj
  | 0, _ => []
  | _ + 1, [] => []
  | _ + 1, [_] => []
  | n + 1, a :: s :: r => (a, s, r.take (g s)) :: prs g n (r.drop (g s))
def gI (s : Int) : Nat := (nbF s).toNat
def gS (s : Int) : Nat := (nbF (if s < 100 then s else 100)).toNat
/-- More rounds than words: nothing more comes. -/
theorem prs_more (g : Int → Nat) : ∀ (n m : Nat) (ws : List Int), ws.length ≤ n → ws.length ≤ m → prs g n ws = prs g m ws
  | 0, m, ws, h, _ => by
    have : ws = [] := List.eq_nil_of_length_eq_zero (by omega)
    subst this
    cases m <;> rfl
  | n + 1, 0, ws, _, h => by
    have : ws = [] := List.eq_nil_of_length_eq_zero (by omega)
    subst this
    rfl
  | n + 1, m + 1, [], _, _ => rfl
  | n + 1, m + 1, [_], _, _ => rfl
  | n + 1, m + 1, a :: s :: r, h1, h2 => by
    rw [prs, prs]
    simp only [List.length_cons] at h1 h2
    have : (r.drop (g s)).length ≤ r.length := by simp
    rw [prs_more g n m (r.drop (g s)) (by omega) (by omega)]
def prI (ws : List Int) : List Oj := prs gI ws.length ws
theorem prI_two (a s : Int) (r : List Int) : prI (a :: s :: r) = (a, s, r.take (gI s)) :: prI (r.drop (gI s)) := by
  unfold prI
  rw [List.length_cons, prs]
  congr 1
  exact prs_more gI _ _ _ (by simp; omega) (Nat.le_refl _)
theorem prI_short {ws : List Int} (h : ws.length < 2) : prI ws = [] := by
  match ws, h with
  | [], _ => rfl
  | [_], _ => rfl
theorem prs_len (g : Int → Nat) : ∀ (n : Nat) (ws : List Int), (prs g n ws).length ≤ ws.length
  | 0, _ => by simp [prs]
  | _ + 1, [] => by simp [prs]
  | _ + 1, [_] => by simp [prs]
  | n + 1, a :: s :: r => by
    rw [prs]
    have := prs_len g n (r.drop (g s))
    simp at this ⊢
    omega
theorem prs_lens (g : Int → Nat) : ∀ (n : Nat) (ws : List Int) (p : Oj), p ∈ prs g n ws → p.2.2.length ≤ ws.length
  | 0, _, p, h => by simp [prs] at h
  | _ + 1, [], p, h => by simp [prs] at h
  | _ + 1, [_], p, h => by simp [prs] at h
  | n + 1, a :: s :: r, p, h => by
    rw [prs, List.mem_cons] at h
    rcases h with rfl | h
    · simp; omega
    · have := prs_lens g n (r.drop (g s)) p h
      simp at this ⊢
      omega
/-- What files without a fault tell is read back. -/
theorem prs_bd (g : Int → Nat) : ∀ (fs : List Oj), (∀ p, p ∈ fs → p.2.2.length = g p.2.1) → prs g fs.length (bdF fs) = fs
  | [], _ => rfl
  | p :: r, h => by
    have hp := h p (by simp)
    have ih := prs_bd g r (fun q hq => h q (by simp [hq]))
    rw [bdF, List.length_cons, prs, ← hp, List.take_left, List.drop_left, ih]
theorem prs_bd' (g : Int → Nat) : ∀ (fs : List Oj) (n : Nat), (∀ p, p ∈ fs → p.2.2.length = g p.2.1) → fs.length ≤ n → prs g n (bdF fs) = fs
  | [], n, _, _ => by cases n <;> rfl
  | p :: r, 0, _, hl => by simp at hl
  | p :: r, n + 1, h, hl => by
    have hp := h p (by simp)
    have ih := prs_bd' g r n (fun q hq => h q (by simp [hq])) (by simp at hl; omega)
    rw [bdF, prs, ← hp, List.take_left, List.drop_left, ih]
theorem bdF_ge : ∀ (fs : List Oj), fs.length ≤ (bdF fs).length := fun fs => by rw [bdF_len]; omega
theorem one_g {p : Oj} (h : oneF p = 0) : p.2.2.length = gI p.2.1 ∧ p.2.2.length = gS p.2.1 := by
  obtain ⟨h1, h2, _⟩ := oneF_iff.1 h
  unfold gI gS
  rw [if_pos (by omega)]
  omega
/-- Words that files without a fault tell. -/
def DirOf (ws : List Int) (fs : List Oj) : Prop := filF fs = 0 ∧ pkF fs = ws
theorem dir_I {ws : List Int} {fs : List Oj} (h : DirOf ws fs) : prI ws.tail = fs := by
  obtain ⟨h0, rfl⟩ := h
  have hi := filF_iff.1 h0
  unfold prI pkF
  exact prs_bd' gI fs _ (fun p hp => (one_g (hi.one p hp)).1) (bdF_ge fs)
theorem dir_S {ws : List Int} {fs : List Oj} (h : DirOf ws fs) : prs gS (ws.getD 0 0).toNat ws.tail = fs := by
  obtain ⟨h0, rfl⟩ := h
  have hi := filF_iff.1 h0
  unfold pkF
  simp only [List.getD_cons_zero, List.tail_cons, Int.toNat_natCast]
  exact prs_bd' gS fs _ (fun p hp => (one_g (hi.one p hp)).2) (Nat.le_refl _)
/-- Whether words are a directory. -/
def dirB (ws : List Int) : Bool := decide (filF (prI ws.tail) = 0) && decide (pkF (prI ws.tail) = ws)
theorem dirB_iff {ws : List Int} : dirB ws = true ↔ DirOf ws (prI ws.tail) := by unfold dirB DirOf; simp
theorem dirB_S {ws : List Int} : dirB ws = (decide (filF (prs gS (ws.getD 0 0).toNat ws.tail) = 0) && decide (pkF (prs gS (ws.getD 0 0).toNat ws.tail) = ws)) := by
  rw [Bool.eq_iff_iff, dirB_iff]
  constructor
  · intro h
    have e := dir_S h
    rw [e]
    unfold DirOf at h
    simpa using h
  · intro h
    have h' : DirOf ws (prs gS (ws.getD 0 0).toNat ws.tail) := by unfold DirOf; simpa using h
    have e := dir_I h'
    rw [e]; exact h'
theorem dirB_pd {ws : List Int} (hne : ws ≠ []) : decide (pdR (prI ws.tail) = ws) = dirB ws := by
  rw [Bool.eq_iff_iff, dirB_iff]
  unfold pdR DirOf
  by_cases h : filF (prI ws.tail) = 0
  · rw [if_pos h]; simp [h]
  · rw [if_neg h]; simp [h]; exact fun e => hne (by first | exact e | exact e.symm)
def udC (ws : List Int) : Int := if wordsF ws = 0 then (if ws = [] then 0 else if dirB ws = true then 0 else 5) else wordsF ws
def udR (ws : List Int) : List Oj := if wordsF ws = 0 then (if ws = [] then [] else if dirB ws = true then prI ws.tail else []) else []
theorem udR_tot (ws : List Int) : totJ (udR ws) (udR ws).length ≤ 1048576 := by
  unfold udR
  by_cases h : wordsF ws = 0
  · rw [if_pos h]
    by_cases h1 : ws = []
    · rw [if_pos h1]; simp [totJ]
    · rw [if_neg h1]
      by_cases h2 : dirB ws = true
      · rw [if_pos h2]
        have hd := (dirB_iff.1 h2).1
        exact tot_sub hd (fun p hp => hp) (by have := (filF_iff.1 hd).len; omega)
      · rw [if_neg h2]; simp [totJ]
  · rw [if_neg h]; simp [totJ]
/-- A part of a reading, from the i-th on. -/
def slA (ao : Option Addr) (c i : Nat) : Option Addr := if c = i then ao else ao.map (fun x => x.add i)
theorem RdI.from {S : Nat → Prop} {w : World} {ao : Option Addr} {n c : Nat} {xs : List Int} (h : RdI S w (.slice ao n c) xs) (i : Nat) (hi : i ≤ n) : RdI S w (.slice (slA ao c i) (n - i) (c - i)) (xs.drop i) := by
  obtain ⟨ao', c', e1, e2, e3⟩ := h
  injection e1 with e1 e4 e5
  subst e1 e4
  have hl : (xs.drop i).length = xs.length - i := by simp
  refine ⟨slA ao c i, c', by rw [hl]; congr 1; omega, by rw [hl]; omega, fun hne => ?_⟩
  have hlt : i < xs.length := by
    have := List.length_pos_iff.2 hne
    rw [hl] at this; omega
  obtain ⟨b, off, f1, f2, f3⟩ := e3 (by rintro rfl; simp at hlt)
  refine ⟨b, off + i, ?_, f2, fun j hj => ?_⟩
  · unfold slA
    rw [if_neg (by omega), f1]
    simp [Addr.add_lit]
  · rw [hl] at hj
    rw [Nat.add_assoc, f3 (i + j) (by omega)]
    congr 2
    simp [List.getD, List.getElem?_drop]
theorem RdI.upto {S : Nat → Prop} {w : World} {ao : Option Addr} {n c : Nat} {xs : List Int} (h : RdI S w (.slice ao n c) xs) (m : Nat) (hm : m ≤ n) : RdI S w (.slice ao m c) (xs.take m) := by
  obtain ⟨ao', c', e1, e2, e3⟩ := h
  injection e1 with e1 e4 e5
  subst e1 e4
  have hl : (xs.take m).length = m := by simp; omega
  refine ⟨ao, c' + (xs.length - m), by rw [hl]; congr 1; omega, by rw [hl]; omega, fun hne => ?_⟩
  obtain ⟨b, off, f1, f2, f3⟩ := e3 (by rintro rfl; simp at hne)
  refine ⟨b, off, f1, f2, fun j hj => ?_⟩
  rw [hl] at hj
  rw [f3 j (by omega)]
  congr 2
  simp [List.getD, hj]
end Go.Proofs.Ytefcfhccbeaieaa
/- Chapter 8: 'UnpackDir' of the program, walked. -/
namespace Go.Proofs.Ytefcfhccbeaieaa
open Go.RowKit

set_option maxHeartbeats 4000000 in
set_option maxRecDepth 4000 in
theorem filesIn {S : Nat → Prop} {w : World} {v : Value} {ws : List Int} (hv : RdI S w v ws) (hm : ws.length ≤ 64) (hw : ∀ x, x ∈ ws → 0 ≤ x ∧ x ≤ 65535) :
    Calls Try.prog 54 #[v] w fun e w' => ∃ z, e = .returned z ∧ Below w.heap.size w w' ∧ BuiltFi (w.heap.size ≤ ·) w' z (prI ws).length (prI ws) := by
  have HV := hide hv
  have HW := hide hw
  have HPl := hide (prs_len gI ws.length ws)
  obtain ⟨i0, hi, hz0, hz1, hz2⟩ := info_parts Try.infoFl
  obtain ⟨fs, hfs⟩ : ∃ fs, prI ws = fs := ⟨_, rfl⟩
  have hfl : fs.length ≤ 64 := by rw [← hfs]; unfold prI; exact Nat.le_trans HPl.out hm
  have HFs := hide hfs
  rw [hfs]
  clear hv hfs hw HPl
  go_enter Try.func54, Try.ntmps54
  go_wp2
  go_loopw [0, 3] (fun u v wr => ∃ (us : List Int) (k : Nat), us.length ≤ ws.length ∧ k ≤ fs.length ∧ Hid (∀ x, x ∈ us → x ∈ ws) ∧ Hid (fs.drop k = prI us) ∧ Hid (RdI S w u us) ∧ Hid (BuiltFi (w.heap.size ≤ ·) wr v k fs) ∧ Hid (Below w.heap.size w wr)) (fun u _ _ => match u with | .slice _ n _ => n | _ => 0)
  case atStart => exact ⟨ws, 0, Nat.le_refl _, Nat.zero_le _, fun _ h => h, HFs.out.symm, HV.out, BuiltFi.nil _ _ _, Below.refl _ _⟩
  case round =>
    obtain ⟨us, k, hul, hkl, HIn, HD, HU, HBu, HB⟩ := hrel
    obtain ⟨ao, c, hu⟩ := HU.out.shape
    subst hu
    by_cases h2 : 2 ≤ us.length
    · match us, h2 with
      | a :: s :: r, _ =>
        obtain ⟨n, hn⟩ : ∃ n, r.length = n := ⟨_, rfl⟩
        have hl2 : (a :: s :: r).length = n + 2 := by simp [hn]
        rw [hl2] at HU hul
        have HA := HU.out.at (k := 0) (by simp)
        have HA1 := HU.out.at (k := 1) (by simp)
        obtain ⟨b, off, rfl, q0⟩ := HA
        obtain ⟨b', off', e', q1⟩ := HA1
        injection e' with e'
        injection e' with e1 e2
        subst e1 e2
        have g0 : wr.cell? ⟨b, off, none⟩ = some (.int .i64 a) := by have := cell_later HB.out q0; simpa using this
        have g1 : wr.cell? ⟨b, off + 1, none⟩ = some (.int .i64 s) := by have := cell_later HB.out q1; simpa using this
        have hs := HW.out s (HIn.out s (by simp))
        have HPr := hide (prI_two a s r)
        rw [HPr.out] at HD
        have hbl := World.block_lt_of_cell? _ _ g0
        clear q0 q1
        rw [hl2]
        go_wp2_with fail
        go_region
        have hcap : n + 2 ≤ c := by obtain ⟨_, c', e, _⟩ := HU.out; injection e with _ e2 e3; simp at e3; omega
        refine forgetE (fun wx => Below wr.heap.size wr wx ∧ wx.heap.size = wr.heap.size + 1 ∧ (wx.cell? ⟨wr.heap.size, 0, none⟩ = some (.int .i64 a) ∧ wx.cell? ⟨wr.heap.size, 1, none⟩ = some (.int .i64 s) ∧ wx.cell? ⟨wr.heap.size, 2, none⟩ = some (.slice none 0 0)) ∧ ∀ o, wx.frozen? ⟨wr.heap.size, o, none⟩ = false) ⟨below_on (below_alloc _ _) (below_drewN _ 1), by simp, ⟨by simp [go_sem], by simp [go_sem], by simp [go_sem]⟩, fun o => by simp [go_sem]⟩ ?_
        rintro W1 ⟨hb1, hs1, ⟨f0, f1, f2⟩, ff⟩
        have HB1 := hide hb1
        have HFf := hide ff
        clear hb1 ff g0 g1
        have HFor := hide (fun W => blocksForI s hs.1 (by omega) W)
        obtain ⟨A, hA⟩ : ∃ A : Option Addr, (if c = 2 then some (⟨b, off, none⟩ : Addr) else some ⟨b, off + 2, none⟩) = A := ⟨_, rfl⟩
        have hMx : ∃ M : Nat, nbF s = (M : Int) := ⟨(nbF s).toNat, by unfold nbF; omega⟩
        obtain ⟨M, hM⟩ := hMx
        rw [hM] at HFor
        have HGM : Hid (gI s = M) := by unfold gI; rw [Hid, hM]; rfl
        go_wp2_with fail
        refine (HFor.out _).mono ?_
        rintro e w2 ⟨rfl, hw2⟩
        have hw2 := hw2.symm
        subst hw2
        have hmx : ∃ m : Nat, min (M : Int) (n : Int) = (m : Int) ∧ m = min M n := ⟨min M n, by omega, rfl⟩
        obtain ⟨m, hmin, hm2⟩ := hmx
        have hmn : m ≤ n := by omega
        have HTk : Hid (r.take M = r.take m) := by
          rw [Hid]
          by_cases e : M ≤ n
          · rw [show m = M by omega]
          · rw [List.take_of_length_le (by omega), List.take_of_length_le (by omega)]
        have HDr : Hid (r.drop M = r.drop m) := by
          rw [Hid]
          by_cases e : M ≤ n
          · rw [show m = M by omega]
          · rw [List.drop_eq_nil_of_le (by omega), List.drop_eq_nil_of_le (by omega)]
        have HR1 : Hid (RdI S w (.slice A n (c - 2)) r) := by
          have h := HU.out.from 2 (by omega)
          have e : slA (some ⟨b, off, none⟩) c 2 = A := by rw [← hA]; unfold slA; simp [Addr.add_lit]
          rw [e] at h
          exact h
        have HR2 := hide (HR1.out.upto m hmn)
        have HR3 := hide (HR1.out.from m hmn)
        obtain ⟨A2, hA2⟩ : ∃ A2, (if c - 2 = m then A else Option.map (fun x => x.add m) A) = A2 := ⟨_, rfl⟩
        have eA2 : slA A (c - 2) m = A2 := by rw [← hA2]; rfl
        rw [eA2] at HR3
        have hzz := HB.out.size
        have HCw := hide (copyWords ((HR2.out.later HB.out).later HB1.out) (by simp; omega))
        have hlt : (r.take m).length = m := by simp; omega
        have HLt := hide hlt
        have hmc : m ≤ c - 2 := by omega
        clear hm2 eA2 hlt
        go_wp2_with fail
        refine HCw.out.mono ?_
        rintro e w3 ⟨z3, rfl, hb3, ho3⟩
        obtain ⟨a3, c3, hz3⟩ := ho3.shape
        rw [HLt.out] at hz3
        subst hz3
        have k0 := cell_later hb3 f0
        have k1 := cell_later hb3 f1
        have k2 := cell_later hb3 f2
        have kf : ∀ o, w3.frozen? ⟨wr.heap.size, o, none⟩ = false := fun o => ((bcell hb3).2 _ _ (by omega)).trans (HFf.out o)
        have kf2 := kf 2
        have hwr : Wr (fun y => y = wr.heap.size) w3 (w3.setCell ⟨wr.heap.size, 2, none⟩ (.slice a3 m c3)) := (Wr.refl (fun y => y = wr.heap.size) _).setCell (p := ⟨wr.heap.size, 2, none⟩) rfl _
        have HO4 := hide ((ho3.wr hwr (fun b h1 _ e => by omega)).mono (show wr.heap.size ≤ W1.heap.size by omega))
        have HB4 := hide ((below_on HB1.out hb3).setCell (p := ⟨wr.heap.size, 2, none⟩) (Nat.le_refl _) (.slice a3 m c3))
        have hz3' := hb3.size
        obtain ⟨V2, Bk2, hown, hpr, hin⟩ := HBu.out
        have HOw0 := hide hown
        have HPr := hide hpr
        have HIn2 := hide hin
        have hkf : k < fs.length := by
          have := HD.out
          by_cases e : k < fs.length
          · exact e
          · rw [List.drop_eq_nil_of_le (by omega)] at this
            cases this
        have HG : Hid (fs.getD k oj0 = (a, s, r.take m)) := by
          have h := HD.out
          rw [List.drop_eq_getElem_cons hkf] at h
          injection h with h1 h2
          simp only [List.getD, List.getElem?_eq_getElem hkf, Option.getD_some]
          rw [Hid, h1, HGM.out, HTk.out]
        have HD2 : Hid (fs.drop (k + 1) = prI (r.drop m)) := by
          have h := HD.out
          rw [List.drop_eq_getElem_cons hkf] at h
          injection h with h1 h2
          rw [Hid, h2, HGM.out, HDr.out]
        have HIn3 : Hid (∀ x, x ∈ r.drop m → x ∈ ws) := fun x hx => HIn.out x (by simp [List.mem_of_mem_drop hx])
        clear hb3 ho3 hwr hown hpr hin f0 f1 f2 HCw
        go_wp2_with (at_builtin; refine wpList_append_lies _ rfl _ _ _ rfl 0 50 i0 (.agg #[.int .i64 0, .int .i64 0, .slice none 0 0]) 3 40 Try.underlying25 hi hz0 hz1 hz2 rfl (by omega) _ k _ (by rfl) (ownsRow_later (ownsRow_later HOw0.out HB4.out) (below_alloc (w3.setCell ⟨wr.heap.size, 2, none⟩ (.slice a3 m c3)) (.cells #[.int .i64 a, .int .i64 s, .slice a3 m c3] 50))) ⟨w3.heap.size, 0, none⟩ 1 1 [.int .i64 a, .int .i64 s, .slice a3 m c3] (by rfl) (by rfl) (by have h := World.news_of_block (cs := #[.int .i64 a, .int .i64 s, .slice a3 m c3]) (t := 50) (fr := (0, 0)) (heap_alloc_new (w3.setCell ⟨wr.heap.size, 2, none⟩ (.slice a3 m c3)) (.cells #[.int .i64 a, .int .i64 s, .slice a3 m c3] 50)); simpa using h) cellsFi_one (by omega) (by unfold maxLen; omega) (by omega) (Nat.zero_le _) (w3.heap.size + 1) (by simp) ?_; intro g cap w5 hown5 hgrow hat hlt5)
        have HS := hide (BuiltFi.step (P' := (w.heap.size ≤ ·)) HIn2.out HOw0.out HPr.out (fun _ h => h) (fun b hb => by omega) HB4.out (by rw [HG.out]; exact HO4.out) (below_alloc (w3.setCell ⟨wr.heap.size, 2, none⟩ (.slice a3 m c3)) (.cells #[.int .i64 a, .int .i64 s, .slice a3 m c3] 50)) (by rw [HG.out]; exact hown5) hgrow (by simpa using hat))
        have HB5 := hide ((below_on (below_on HB.out HB4.out) (below_alloc (w3.setCell ⟨wr.heap.size, 2, none⟩ (.slice a3 m c3)) (.cells #[.int .i64 a, .int .i64 s, .slice a3 m c3] 50))).grown hgrow (by simp; omega) (fun r hr => HPr.out r hr))
        have hdl : (r.drop m).length ≤ ws.length := by simp; omega
        clear hown5 hgrow hat hlt5
        go_wp2
        go_roundw
        case rel => exact ⟨r.drop m, k + 1, hdl, hkf, HIn3.out, HD2.out, HR3.out, HS.out, HB5.out⟩
        case measure => first | (simp; omega) | omega
    · have hsh : us.length < 2 := by omega
      have HE := hide (prI_short hsh)
      obtain ⟨n, hn⟩ : ∃ n, us.length = n := ⟨_, rfl⟩
      have h2' : ¬ (2 : Int) ≤ (n : Int) := by omega
      have h2n : ¬ 2 ≤ n := by omega
      rw [hn]
      rw [HE.out] at HD
      have hkl2 : k = fs.length := by
        have := congrArg List.length HD.out
        simp at this
        omega
      subst hkl2
      clear h2 hsh hn
      go_wp2
      go_ret
      exact ⟨_, rfl, HB.out, HBu.out⟩
end Go.Proofs.Ytefcfhccbeaieaa
/- Chapter 8: 'UnpackDir' of the program, walked. -/
namespace Go.Proofs.Ytefcfhccbeaieaa
open Go.RowKit

theorem wordsF_in {xs : List Int} (h : wordsF xs = 0) : xs.length ≤ 64 ∧ ∀ x, x ∈ xs → 0 ≤ x ∧ x ≤ 65535 := by
  obtain ⟨h1, h2⟩ := wordsF_zero h
  refine ⟨h1, fun x hx => ?_⟩
  obtain ⟨i, hi, rfl⟩ := List.mem_iff_getElem.1 hx
  have := h2 i hi
  simpa [List.getD, hi] using this
theorem udC_bad {ws : List Int} (h : wordsF ws ≠ 0) : udC ws = wordsF ws ∧ udR ws = [] := by unfold udC udR; rw [if_neg h, if_neg h]; exact ⟨rfl, rfl⟩
theorem udC_nil : udC [] = 0 ∧ udR [] = [] := by
  unfold udC udR
  by_cases h : wordsF [] = 0
  · rw [if_pos h, if_pos h, if_pos rfl, if_pos rfl]; exact ⟨rfl, rfl⟩
  · exact absurd (by unfold wordsF wF; simp) h
theorem udC_yes {ws : List Int} (h : wordsF ws = 0) (hne : ws ≠ []) (hd : dirB ws = true) : udC ws = 0 ∧ udR ws = prI ws.tail := by unfold udC udR; rw [if_pos h, if_pos h, if_neg hne, if_neg hne, if_pos hd, if_pos hd]; exact ⟨rfl, rfl⟩
theorem udC_no {ws : List Int} (h : wordsF ws = 0) (hne : ws ≠ []) (hd : dirB ws = false) : udC ws = 5 ∧ udR ws = [] := by unfold udC udR; rw [if_pos h, if_pos h, if_neg hne, if_neg hne, if_neg (by rw [hd]; decide), if_neg (by rw [hd]; decide)]; exact ⟨rfl, rfl⟩

theorem Try.fldL (x : Int) (a : Option Addr) (n c : Nat) (w : World) : (Instr.field 31 (.agg #[.int .i64 x, .slice a n c]) 1).run Try.prog w = .ok (.slice a n c) w := by kernel_rfl
set_option maxHeartbeats 1000000 in
set_option maxRecDepth 4000 in
theorem implUnpackDir {S : Nat → Prop} {w : World} {v : Value} {ws : List Int} (hv : RdI S w v ws) :
    Calls Try.prog 31 #[v] w (EndsFi (udC ws) (udR ws) w) := by
  obtain ⟨ao, c, rfl⟩ := hv.shape
  have hml := hv.max
  have HV := hide hv
  clear hv
  obtain ⟨z, hz⟩ : ∃ z, wordsF ws = z := ⟨_, rfl⟩
  have HZ := hide hz
  clear hz
  have HC := hide (wordsFault (HV.out.later (below_alloc w (.cells #[.int .i64 0, .slice none 0 0] 37))))
  rw [HZ.out] at HC
  by_cases h0 : z = 0
  · subst h0
    obtain ⟨n, hn⟩ : ∃ n, ws.length = n := ⟨_, rfl⟩
    have HN := hide hn
    rw [hn] at HV HC hml ⊢
    clear hn
    have HIn := hide (wordsF_in HZ.out)
    by_cases hn0 : n = 0
    · have hnil : ws = [] := List.eq_nil_of_length_eq_zero (by rw [HN.out]; exact hn0)
      subst hn0 hnil
      rw [udC_nil.1, udC_nil.2]
      go_enter Try.func31, Try.ntmps31
      go_wp2_with fail
      refine HC.out.mono ?_
      rintro e w1 ⟨rfl, q, hq⟩
      have HRs : Hid (ResF w w1) := hq ▸ (ResF.start w 37).later (below_drewN _ q)
      have c0 := HRs.out.c0
      have c1 := HRs.out.c1
      have F0 := HRs.out.fr 0
      have F1 := HRs.out.fr 1
      clear hq
      go_wp2
      refine bodyPost_ret (v := .agg #[.int .i64 0, .slice none 0 0]) (by simp [results, Try.results31, go_sem, c0, c1]) rfl ⟨_, rfl, HRs.out.shut _ _, OwJ_nil _ _⟩
    · have hne : ws ≠ [] := by rintro rfl; exact hn0 HN.out.symm
      have hcap : n ≤ c := by obtain ⟨_, c', e, _⟩ := HV.out; injection e with _ e2 e3; omega
      obtain ⟨b, off, rfl, _⟩ := HV.out.at (k := 0) (by rw [HN.out]; omega)
      have HT := hide (HV.out.from 1 (by omega))
      have htl : ws.drop 1 = ws.tail := List.drop_one
      rw [htl] at HT
      obtain ⟨A, hA⟩ : ∃ A : Option Addr, (if c = 1 then some (⟨b, off, none⟩ : Addr) else some ⟨b, off + 1, none⟩) = A := ⟨_, rfl⟩
      have eA : slA (some ⟨b, off, none⟩) c 1 = A := by rw [← hA]; unfold slA; simp [Addr.add_lit]
      rw [eA] at HT
      have HPd := hide (dirB_pd hne)
      have HY := hide (fun h => udC_yes HZ.out hne h)
      have HNo := hide (fun h => udC_no HZ.out hne h)
      have HTm : Hid (ws.tail.length ≤ 64 ∧ ∀ x, x ∈ ws.tail → 0 ≤ x ∧ x ≤ 65535) := ⟨by have := HIn.out.1; simp; omega, fun x hx => HIn.out.2 x (List.mem_of_mem_tail hx)⟩
      have hn0b : ((n : Int) == 0) = false := by simp; omega
      have hnp : (1 : Int) ≤ (n : Int) := by omega
      have HPl := hide (Nat.le_trans (prs_len gI ws.tail.length ws.tail) HTm.out.1)
      clear htl eA
      go_enter Try.func31, Try.ntmps31
      go_wp2_with fail
      refine HC.out.mono ?_
      rintro e w1 ⟨rfl, q, hq⟩
      have HRs : Hid (ResF w w1) := hq ▸ (ResF.start w 37).later (below_drewN _ q)
      have hw1 := HRs.out.lt
      have HC2 := hide (filesIn (HT.out.later HRs.out.below) HTm.out.1 HTm.out.2)
      clear hq HC
      go_wp2_with fail
      refine HC2.out.mono ?_
      rintro e w2 ⟨z2, rfl, hb, ho⟩
      have HRs2 := hide (HRs.out.later hb)
      have HO := hide (ho.ow rfl (by have : (prI ws.tail).length ≤ 64 := HPl.out; omega))
      have HC3 := hide (implPackDir HO.out.rd)
      obtain ⟨a2, c2, hz2⟩ := ho.shape
      obtain ⟨l, hl⟩ : ∃ l, (prI ws.tail).length = l := ⟨_, rfl⟩
      rw [hl] at hz2
      subst hz2
      have hz2' := hb.size
      clear hb ho HC2 hl
      go_wp2_with fail
      refine HC3.out.mono ?_
      rintro e w3 ⟨z3, rfl, hb, ho⟩
      have HRs3 := hide (HRs2.out.later hb)
      have HO3 := hide (HO.out.wr (Wr.of_below hb fun _ => False) fun _ _ => id)
      have HC4 := hide (slicesEqualR ho.rd (HV.out.later HRs3.out.below))
      rw [HPd.out] at HC4
      obtain ⟨a3, c3, hz3⟩ := ho.rd.shape
      have hz3' := hb.size
      subst hz3
      have hfl := Try.fldL (pdC (prI ws.tail)) a3 (pdR (prI ws.tail)).length c3 w3
      clear hb ho HC3
      by_cases hd : dirB ws = true
      · rw [hd] at HC4
        have HY2 := hide (HY.out hd)
        go_wp2_with fail
        refine HC4.out.mono ?_
        rintro e w4 ⟨rfl, q, hq⟩
        have HRs4 : Hid (ResF w w4) := hq ▸ HRs3.out.later (below_drewN _ q)
        have HO4 : Hid (OwJ _ w4 (.slice a2 l c2) (prI ws.tail)) := hq ▸ HO3.out.wr (Wr.of_below (below_drewN _ q) fun _ => False) fun _ _ => id
        have hs4 : w4.heap.size = w3.heap.size := by rw [hq]; simp
        have HFn := hide (ret_files (x := .int .i64 0) HRs4.out.below (Nat.le_refl _) HO4.out (fun b hb => ⟨by have := hb.1; omega, by have := hb.2; omega⟩))
        have c0 := HRs4.out.c0
        have c1 := HRs4.out.c1
        have F0 := HRs4.out.fr 0
        have F1 := HRs4.out.fr 1
        clear hq HC4
        go_wp2
        refine bodyPost_ret (v := .agg #[.int .i64 0, .slice a2 l c2]) (by simp [results, Try.results31, go_sem, c0, c1]) rfl ⟨_, by rw [HY2.out.1], HFn.out.1, by rw [HY2.out.2]; exact HFn.out.2⟩
      · have hd' : dirB ws = false := by simpa using hd
        rw [hd'] at HC4
        have HN2 := hide (HNo.out hd')
        go_wp2_with fail
        refine HC4.out.mono ?_
        rintro e w4 ⟨rfl, q, hq⟩
        have HRs4 : Hid (ResF w w4) := hq ▸ HRs3.out.later (below_drewN _ q)
        have c0 := HRs4.out.c0
        have c1 := HRs4.out.c1
        have F0 := HRs4.out.fr 0
        have F1 := HRs4.out.fr 1
        clear hq HC4
        go_wp2
        refine bodyPost_ret (v := .agg #[.int .i64 5, .slice none 0 0]) (by simp [results, Try.results31, go_sem, c0, c1]) rfl ⟨_, by rw [HN2.out.1], HRs4.out.shut _ _, by rw [HN2.out.2]; exact OwJ_nil _ _⟩
  · have h0b : (z == 0) = false := by simpa using h0
    have HE := hide (udC_bad (ws := ws) (by rw [HZ.out]; exact h0))
    rw [HE.out.1, HE.out.2, HZ.out]
    obtain ⟨n, hn⟩ : ∃ n, ws.length = n := ⟨_, rfl⟩
    rw [hn] at HC ⊢
    clear hn
    go_enter Try.func31, Try.ntmps31
    go_wp2_with fail
    refine HC.out.mono ?_
    rintro e w1 ⟨rfl, q, hq⟩
    have HRs : Hid (ResF w w1) := hq ▸ (ResF.start w 37).later (below_drewN _ q)
    have c0 := HRs.out.c0
    have c1 := HRs.out.c1
    have F0 := HRs.out.fr 0
    have F1 := HRs.out.fr 1
    clear hq
    go_wp2
    refine bodyPost_ret (v := .agg #[.int .i64 z, .slice none 0 0]) (by simp [results, Try.results31, go_sem, c0, c1]) rfl ⟨_, rfl, HRs.out.shut _ _, OwJ_nil _ _⟩
end Go.Proofs.Ytefcfhccbeaieaa
/- Chapter 8: 'UnpackDir' of the model, walked. -/
namespace Go.Proofs.Ytefcfhccbeaieaa
open Go.RowKit

/-- A file that is being read: its name, its size, j of its blocks. -/
structure FbAt (wr : World) (a s : Int) (xs : List Int) (ao : Option Addr) (j c : Nat) (wi : World) : Prop where
  below : Below wr.heap.size wr wi
  c0 : wi.cell? ⟨wr.heap.size, 0, none⟩ = some (.int .i64 a)
  c1 : wi.cell? ⟨wr.heap.size, 1, none⟩ = some (.int .i64 s)
  c2 : wi.cell? ⟨wr.heap.size, 2, none⟩ = some (.slice ao j c)
  fr : ∀ o, wi.frozen? ⟨wr.heap.size, o, none⟩ = false
  row : wi.ownsRow (wr.heap.size + 1) 2 1 (.slice ao j c) j (xs.map (Value.int .i64))
theorem FbAt.lt {wr wi : World} {a s : Int} {xs : List Int} {ao : Option Addr} {j c : Nat} (h : FbAt wr a s xs ao j c wi) : wr.heap.size < wi.heap.size := World.block_lt_of_cell? _ _ h.c0
theorem FbAt.step {wr wi w6 : World} {a s x : Int} {xs : List Int} {ao : Option Addr} {j c g cap : Nat} {t : TypeId} (h : FbAt wr a s xs ao j c wi)
    (hown : w6.ownsRow (wr.heap.size + 1) 2 1 (.slice (some ⟨g, 0, none⟩) (j + 1) cap) (j + 1) (xs.map (Value.int .i64) ++ [.int .i64 x])) (hg : (wi.drew.alloc (.cells #[.int .i64 x] t)).grownBy w6 (Value.slice ao j c).ownBlock) :
    FbAt wr a s (xs ++ [x]) (some ⟨g, 0, none⟩) (j + 1) cap (w6.setCell ⟨wr.heap.size, 2, none⟩ (.slice (some ⟨g, 0, none⟩) (j + 1) cap)) := by
  have hl := h.lt
  have bA := below_on (below_drewN wi 1) (below_alloc (wi.drewN 1) (.cells #[.int .i64 x] t))
  have hno : ∀ r, (Value.slice ao j c).ownBlock = some r → wr.heap.size + 1 ≤ r := fun r hr => (h.row.lt r hr).1
  have hB6 : Below wr.heap.size wr w6 := (below_on h.below bA).grown hg (by simp; omega) (fun r hr => by have := hno r hr; omega)
  have far : ∀ o v, wi.cell? ⟨wr.heap.size, o, none⟩ = some v → w6.cell? ⟨wr.heap.size, o, none⟩ = some v := fun o v hv =>
    (hg.cell_far ⟨wr.heap.size, o, none⟩ (by simp; omega) (fun e => by have := hno _ e.symm; dsimp only at this; omega)).trans (cell_later bA hv)
  have ffar : ∀ o, w6.frozen? ⟨wr.heap.size, o, none⟩ = false := fun o =>
    (hg.frozen_far ⟨wr.heap.size, o, none⟩ (by simp; omega) (fun e => by have := hno _ e.symm; dsimp only at this; omega)).trans (((bcell bA).2 _ _ hl).trans (h.fr o))
  refine ⟨hB6.setCell (Nat.le_refl _) _, ?_, ?_, World.cell?_setCell_same _ _ _ (far _ _ h.c2), fun o => by rw [World.frozen?_setCell]; exact ffar o, ?_⟩
  · rw [World.cell?_setCell_other _ _ _ _ (by simp)]; exact far _ _ h.c0
  · rw [World.cell?_setCell_other _ _ _ _ (by simp)]; exact far _ _ h.c1
  · rw [List.map_append]
    exact ownsRow_setCell_below hown (by simp) _
theorem prs_stop {g : Int → Nat} {n : Nat} {us : List Int} (h : n = 0 ∨ us.length ≤ 1) : prs g n us = [] := by
  match n, us, h with
  | 0, _, _ => rfl
  | _ + 1, [], _ => rfl
  | _ + 1, [_], _ => rfl
  | _ + 1, _ :: _ :: _, h => simp at h

set_option maxHeartbeats 4000000 in
set_option maxRecDepth 4000 in
theorem l8Unpack {S : Nat → Prop} {w : World} {v : Value} {ws : List Int} (hv : RdI S w v ws) (hm : ws.length ≤ 64) (hw : ∀ x, x ∈ ws → 0 ≤ x ∧ x ≤ 65535) (hne : ws ≠ []) :
    Calls Try.prog 52 #[v] w fun e w' => ∃ z, e = .returned (.tuple #[z, .bool (dirB ws)]) ∧ Below w.heap.size w w' ∧ BuiltFi (w.heap.size ≤ ·) w' z (prs gS (ws.getD 0 0).toNat ws.tail).length (prs gS (ws.getD 0 0).toNat ws.tail) := by
  have HDr := hide (dirB_S (ws := ws))
  obtain ⟨av, cv, rfl⟩ := hv.shape
  have HV := hide hv
  have HW := hide hw
  obtain ⟨n, hn⟩ : ∃ n, ws.length = n := ⟨_, rfl⟩
  have HN := hide hn
  have hn0 : 0 < n := by rw [← hn]; exact List.length_pos_iff.2 hne
  obtain ⟨b, off, hav, q0⟩ := hv.at (k := 0) (by rw [hn]; exact hn0)
  subst hav
  have hx0 := hw (ws.getD 0 0) (by simp [List.getD, show 0 < ws.length by omega])
  obtain ⟨x0, hx⟩ : ∃ x0, ws.getD 0 0 = x0 := ⟨_, rfl⟩
  rw [hx] at q0 hx0 HDr ⊢
  obtain ⟨K, hK⟩ : ∃ K : Nat, x0 = (K : Int) := ⟨x0.toNat, by omega⟩
  subst hK
  rw [Int.toNat_natCast] at HDr ⊢
  have HFl := hide (prs_len gS K ws.tail)
  have HFl2 := hide (prs_lens gS K ws.tail)
  obtain ⟨fs, hfs⟩ : ∃ fs, prs gS K ws.tail = fs := ⟨_, rfl⟩
  rw [hfs] at HDr HFl HFl2 ⊢
  have hfl : fs.length ≤ 64 := by have := HFl.out; simp at this; omega
  have HFs : Hid (fs.drop 0 = prs gS (K - 0) (ws.drop 1)) := by rw [Hid, List.drop_zero, Nat.sub_zero, List.drop_one]; exact hfs.symm
  rw [hn] at HV hm ⊢
  have q0' : w.cell? ⟨b, off, none⟩ = some (.int .i64 (K : Int)) := by simpa using q0
  have HQ0 := hide q0'
  have hn0b : ((n : Int) == 0) = false := by simp; omega
  clear hv hn hw hne hfs q0 hx q0' HFl
  obtain ⟨i0, hi, hz0, hz1, hz2⟩ := info_parts Try.infoFl
  obtain ⟨j0, hj, jz0, jz1, jz2⟩ := info_parts Try.infoInt
  go_enter Try.func52, Try.ntmps52
  go_wp2
  go_loopw [4, 5, 6] (fun v i5 i6 wr => ∃ (m t : Nat), m ≤ fs.length ∧ 1 ≤ t ∧ t ≤ n ∧ i5 = .int .i64 t ∧ i6 = .int .i64 m ∧ Hid (fs.drop m = prs gS (K - m) (ws.drop t)) ∧ Hid (BuiltFi (w.heap.size ≤ ·) wr v m fs) ∧ Hid (Below w.heap.size w wr)) (fun _ i5 _ _ => 64 - (RowKit.intOf i5).toNat)
  case atStart => exact ⟨0, 1, Nat.zero_le _, Nat.le_refl _, hn0, rfl, rfl, HFs.out, BuiltFi.empty _ _ (Nat.le_refl _) _, below_alloc _ _⟩
  case round =>
    clear HFs
    obtain ⟨m, t, hmf, ht1, htn, rfl, rfl, HD, HBu, HB⟩ := hrel
    obtain ⟨wq, hwq⟩ : ∃ wq, wq = wr := ⟨_, rfl⟩
    subst hwq
    have g0 := cell_later HB.out HQ0.out
    have hzz := HB.out.size
    by_cases hgo : m < K ∧ t + 1 < n
    · obtain ⟨hmK, htn2⟩ := hgo
      have hmK' : (m : Int) < (K : Int) := by omega
      have htw : IntKind.i64.wrap ((t : Int) + 1) = ((t + 1 : Nat) : Int) := by simp [IntKind.wrap, IntKind.bits, IntKind.signed]; omega
      have htn3 : ((t + 1 : Nat) : Int) < (n : Int) := by omega
      obtain ⟨b1, off1, e1, p0⟩ := HV.out.at (k := t) (by rw [HN.out]; omega)
      injection e1 with e1
      injection e1 with e2 e3
      subst e2 e3
      obtain ⟨b1, off1, e1, p1⟩ := HV.out.at (k := t + 1) (by rw [HN.out]; omega)
      injection e1 with e1
      injection e1 with e2 e3
      subst e2 e3
      have HDd : Hid (ws.drop t = ws.getD t 0 :: ws.getD (t + 1) 0 :: ws.drop (t + 2)) := by
        rw [Hid, List.drop_eq_getElem_cons (by rw [HN.out]; omega), List.drop_eq_getElem_cons (i := t + 1) (by rw [HN.out]; omega)]
        simp [List.getD, show t < ws.length by rw [HN.out]; omega, show t + 1 < ws.length by rw [HN.out]; omega]
      have hs := HW.out (ws.getD (t + 1) 0) (by simp [List.getD, show t + 1 < ws.length by rw [HN.out]; omega])
      obtain ⟨a, ha⟩ : ∃ a, ws.getD t 0 = a := ⟨_, rfl⟩
      obtain ⟨s, hs'⟩ : ∃ s, ws.getD (t + 1) 0 = s := ⟨_, rfl⟩
      rw [ha] at p0 HDd
      rw [hs'] at p1 HDd hs
      have g1 := cell_later HB.out p0
      have g2 : wq.cell? ⟨b, off + (t + 1), none⟩ = some (.int .i64 s) := cell_later HB.out p1
      have HP : Hid (fs.drop m = (a, s, (ws.drop (t + 2)).take (gS s)) :: prs gS (K - (m + 1)) ((ws.drop (t + 2)).drop (gS s))) := by
        rw [Hid, HD.out, HDd.out, show K - m = (K - (m + 1)) + 1 by omega, prs]
      have ht0 : (0 : Int) ≤ (t : Int) := by omega
      have ht0' : (0 : Int) ≤ ((t + 1 : Nat) : Int) := by omega
      have htl : (t : Int) < (n : Int) := by omega
      have hbl := World.block_lt_of_cell? _ _ g0
      clear p0 p1 ha hs' HD HDd
      go_wp2_with fail
      go_region
      refine forgetE (fun wx => FbAt wq a s [] none 0 0 wx) ⟨below_on (below_alloc _ _) (below_drewN _ 1), by simp [go_sem], by simp [go_sem], by simp [go_sem], fun o => by simp [go_sem], ⟨rfl, .inl ⟨rfl, rfl⟩⟩⟩ ?_
      intro W1 hF1
      have HF1 := hide hF1
      have f1 := hF1.c1
      clear hF1 g0 g1 g2
      have htw2 : IntKind.i64.wrap ((t : Int) + 2) = ((t + 2 : Nat) : Int) := by simp [IntKind.wrap, IntKind.bits, IntKind.signed]; omega
      have hMx : ∃ M : Nat, nbF (if s < 100 then s else 100) = (M : Int) ∧ M ≤ 13 := by
        refine ⟨(nbF (if s < 100 then s else 100)).toNat, ?_⟩
        unfold nbF
        by_cases h : s < 100
        · rw [if_pos h]; omega
        · rw [if_neg h]; omega
      obtain ⟨M, hM, hM13⟩ := hMx
      have HGM : Hid (gS s = M) := by unfold gS; rw [Hid, hM]; rfl
      have HMn := hide (fun W => l1Min_any s 100 W)
      have HFor := hide (fun W => l8For (if s < 100 then s else 100) (by split <;> omega) (by split <;> omega) W)
      rw [hM] at HFor
      rw [HGM.out] at HP
      obtain ⟨y, hy⟩ : ∃ y, (if s < 100 then s else 100) = y := ⟨_, rfl⟩
      rw [hy] at HMn HFor
      clear hM hy
      obtain ⟨r, hr⟩ : ∃ r, ws.drop (t + 2) = r := ⟨_, rfl⟩
      rw [hr] at HP
      have HR := hide hr
      have hrl : r.length + t + 2 = n := by rw [← hr]; simp [HN.out]; omega
      clear hr
      obtain ⟨t2, ht2⟩ : ∃ t2, t + 2 = t2 := ⟨_, rfl⟩
      rw [ht2] at htw2 HR
      have ht2n : r.length + t2 = n := by omega
      go_wp2_with fail
      refine (HMn.out _).mono ?_
      rintro e w2 ⟨rfl, hw2⟩
      have hw2 := hw2.symm
      subst hw2
      go_wp2_with fail
      refine (HFor.out _).mono ?_
      rintro e w2 ⟨rfl, hw2⟩
      have hw2 := hw2.symm
      subst hw2
      have HC0 : Hid (FbAt wq a s (r.take 0) none 0 0 W1) := by rw [Hid, List.take_zero]; exact HF1.out
      clear HF1 f1 HMn HFor
      go_wp2
      go_loopw [5, 8] (fun i5 i8 wi => ∃ (j c : Nat) (ao : Option Addr), j ≤ M ∧ j ≤ r.length ∧ i5 = .int .i64 ((t2 + j : Nat) : Int) ∧ i8 = .int .i64 ((M - j : Nat) : Int) ∧ Hid (FbAt wq a s (r.take j) ao j c wi)) (fun _ i8 _ => (RowKit.intOf i8).toNat)
      case atStart => exact ⟨0, 0, none, Nat.zero_le _, Nat.zero_le _, rfl, rfl, HC0.out⟩
      case round =>
        clear HC0
        obtain ⟨j, c, ao, hjM, hjr, rfl, rfl, HF⟩ := hrel
        obtain ⟨wi, hwi⟩ : ∃ wi, wi = wr := ⟨_, rfl⟩
        subst hwi
        by_cases hgo2 : j < M ∧ j < r.length
        · obtain ⟨hj1, hj2⟩ := hgo2
          obtain ⟨b1, off1, e1, p0⟩ := HV.out.at (k := t2 + j) (by rw [HN.out]; omega)
          injection e1 with e1
          injection e1 with e2 e3
          subst e2 e3
          have p1 := cell_later (below_on HB.out HF.out.below) p0
          have HTk : Hid (r.take (j + 1) = r.take j ++ [ws.getD (t2 + j) 0]) := by
            rw [Hid, List.take_succ_eq_append_getElem hj2]
            congr 2
            have : r[j] = (ws.drop t2)[j]'(by rw [HR.out]; exact hj2) := by simp [HR.out]
            rw [this]
            simp [List.getD, show t2 + j < ws.length by rw [HN.out]; omega]
          obtain ⟨x, hx⟩ : ∃ x, ws.getD (t2 + j) 0 = x := ⟨_, rfl⟩
          rw [hx] at p1 HTk
          clear p0 hx
          obtain ⟨T, hT⟩ : ∃ T, t2 + j = T := ⟨_, rfl⟩
          rw [hT] at p1 ⊢
          have hTn : (T : Int) < (n : Int) := by omega
          have hTn' : T < n := by omega
          have hT0 : (0 : Int) ≤ (T : Int) := by omega
          have hTw : IntKind.i64.wrap ((T : Int) + 1) = ((t2 + (j + 1) : Nat) : Int) := by simp [IntKind.wrap, IntKind.bits, IntKind.signed]; omega
          obtain ⟨d, hd⟩ : ∃ d, M - j = d + 1 := ⟨M - j - 1, by omega⟩
          rw [hd]
          have hdp : (0 : Int) < ((d + 1 : Nat) : Int) := by omega
          have hdw : IntKind.i64.wrap (((d + 1 : Nat) : Int) - 1) = ((M - (j + 1) : Nat) : Int) := by simp [IntKind.wrap, IntKind.bits, IntKind.signed]; omega
          have c2 := HF.out.c2
          have c2f := HF.out.fr 2
          have HRowd : Hid (wi.drew.ownsRow (wq.heap.size + 1) 2 1 (.slice ao j c) j ((r.take j).map (Value.int .i64))) := HF.out.row
          have hlt2 := HF.out.lt
          have HSt := hide (fun (w6 : World) (g cap : Nat) h1 h2 => HF.out.step (w6 := w6) (g := g) (cap := cap) (x := x) (t := 2) h1 h2)
          have HC2 := hide c2
          have HFF := hide HF.out.fr
          go_wp2_with fail
          go_region_law (first | (refine step_append_lies _ (by rfl) _ _ _ (by rfl) (wq.heap.size + 1) 2 j0 (.int .i64 0) 1 8 Try.underlying29 hj jz0 jz1 jz2 rfl (by omega) (.slice ao j c) j _ (by rfl) (HRowd.out.alloc (.cells #[.int .i64 x] 2)) ⟨wi.heap.size, 0, none⟩ 1 1 [.int .i64 x] (by rfl) (by rfl) (World.news_of_block (cs := #[.int .i64 x]) (t := 2) (fr := (0, 0)) (heap_alloc_new wi.drew _)) (by simp [Value.oneCell']) (by omega) (by unfold maxLen; omega) (by omega) (by simp; omega) (wi.heap.size + 1) (by simp) ?_; intro g cap w6 hown hgrow hat hlt3; have y1 : w6.cell? ⟨wq.heap.size, 2, none⟩ = some (.slice ao j c) := (hgrow.cell_far ⟨wq.heap.size, 2, none⟩ (by simp; omega) (fun e => by have := (HRowd.out.lt _ e.symm).1; dsimp only at this; omega)).trans (cell_later (below_on (below_drewN wi 1) (below_alloc (wi.drewN 1) _)) HC2.out); have yf : w6.frozen? ⟨wq.heap.size, 2, none⟩ = false := (hgrow.frozen_far ⟨wq.heap.size, 2, none⟩ (by simp; omega) (fun e => by have := (HRowd.out.lt _ e.symm).1; dsimp only at this; omega)).trans (((bcell (below_on (below_drewN wi 1) (below_alloc (wi.drewN 1) _))).2 _ _ hlt2).trans (HFF.out 2))))
          all_goals
            have HF2 := hide (HSt.out w6 g cap hown hgrow)
            rw [← HTk.out] at HF2
            clear hown hgrow hat hlt3 y1 yf c2 c2f
            go_wp2
            go_roundw
            case rel => exact ⟨j + 1, cap, some ⟨g, 0, none⟩, by omega, by omega, by first | rfl | go_num, by first | rfl | go_num, HF2.out⟩
            case measure => first | (simp [RowKit.intOf]; done) | (simp [RowKit.intOf]; omega)
        · have hend : j = M ∨ j = r.length := by omega
          have HTk : Hid (r.take M = r.take j ∧ r.drop M = r.drop j) := by
            rcases hend with e | e
            · rw [e]; exact ⟨rfl, rfl⟩
            · exact ⟨by rw [List.take_of_length_le (by omega), List.take_of_length_le (by omega)], by rw [List.drop_eq_nil_of_le (by omega), List.drop_eq_nil_of_le (by omega)]⟩
          rw [HTk.out.1, HTk.out.2] at HP
          have hmf2 : m < fs.length := by
            by_cases e : m < fs.length
            · exact e
            · have := HP.out
              rw [List.drop_eq_nil_of_le (by omega)] at this
              cases this
          have HG : Hid (fs.getD m oj0 = (a, s, r.take j)) := by
            have h := HP.out
            rw [List.drop_eq_getElem_cons hmf2] at h
            injection h with h1 h2
            simp only [List.getD, List.getElem?_eq_getElem hmf2, Option.getD_some]
            exact h1
          have HD2 : Hid (fs.drop (m + 1) = prs gS (K - (m + 1)) (ws.drop (t2 + j))) := by
            have h := HP.out
            rw [List.drop_eq_getElem_cons hmf2] at h
            injection h with h1 h2
            rw [Hid, h2, ← HR.out, List.drop_drop]
          obtain ⟨V2, Bk2, hown, hpr, hin⟩ := HBu.out
          have HOw0 := hide hown
          have HPr := hide hpr
          have HIn2 := hide hin
          have k0 := HF.out.c0
          have k1 := HF.out.c1
          have k2 := HF.out.c2
          have HFB := hide HF.out.below
          have hlt2 := HF.out.lt
          have HO4 := hide ((ow_of_owns (by simp; omega) HF.out.row (by simp; omega)).mono (show wq.heap.size ≤ wq.heap.size + 1 by omega))
          have hmw : IntKind.i64.wrap ((m : Int) + 1) = ((m + 1 : Nat) : Int) := by simp [IntKind.wrap, IntKind.bits, IntKind.signed]; omega
          obtain ⟨T, hT⟩ : ∃ T, t2 + j = T := ⟨_, rfl⟩
          rw [hT] at HD2 ⊢
          have hTn : T ≤ n := by omega
          have hTt : 1 ≤ T := by omega
          have hcond : ¬ (0 < M - j ∧ T < n) := by rintro ⟨h1, h2⟩; exact hgo2 ⟨by omega, by omega⟩
          have hmeas : t < T := by omega
          clear hown hpr hin HF hgo2 hend
          have hfin : ∀ (g cap : Nat) (w5 : World), w5.ownsRow 0 50 3 (.slice (some ⟨g, 0, none⟩) (m + 1) cap) (m + 1) (cellsFi fs m V2 ++ [.int .i64 a, .int .i64 s, .slice ao j c]) → (wi.alloc (.cells #[.int .i64 a, .int .i64 s, .slice ao j c] 50)).grownBy w5 u4.ownBlock → (u4.ownBlock = some g ∨ g = wi.heap.size + 1) → BuiltFi (w.heap.size ≤ ·) w5 (.slice (some ⟨g, 0, none⟩) (m + 1) cap) (m + 1) fs ∧ Below w.heap.size w w5 := by
            intro g cap w5 hown5 hgrow hat
            refine ⟨BuiltFi.step (P' := (w.heap.size ≤ ·)) HIn2.out HOw0.out HPr.out (fun _ h => h) (fun b hb => by omega) HFB.out (by rw [HG.out]; exact HO4.out) (below_alloc wi (.cells #[.int .i64 a, .int .i64 s, .slice ao j c] 50)) (by rw [HG.out]; exact hown5) hgrow (by simpa using hat), ?_⟩
            exact (below_on (below_on HB.out HFB.out) (below_alloc wi (.cells #[.int .i64 a, .int .i64 s, .slice ao j c] 50))).grown hgrow (by simp; omega) (fun r hr => HPr.out r hr)
          have HFin := hide hfin
          clear hfin
          by_cases hd0 : M - j = 0
          · rw [hd0]
            clear hcond
            go_wp2_with (at_builtin; refine wpList_append_lies _ rfl _ _ _ rfl 0 50 i0 (.agg #[.int .i64 0, .int .i64 0, .slice none 0 0]) 3 40 Try.underlying25 hi hz0 hz1 hz2 rfl (by omega) _ m _ (by rfl) (ownsRow_later (ownsRow_later HOw0.out HFB.out) (below_alloc wi (.cells #[.int .i64 a, .int .i64 s, .slice ao j c] 50))) ⟨wi.heap.size, 0, none⟩ 1 1 [.int .i64 a, .int .i64 s, .slice ao j c] (by rfl) (by rfl) (World.news_of_block (cs := #[.int .i64 a, .int .i64 s, .slice ao j c]) (t := 50) (fr := (0, 0)) (heap_alloc_new wi _)) cellsFi_one (by omega) (by unfold maxLen; omega) (by omega) (Nat.zero_le _) (wi.heap.size + 1) (by simp) ?_; intro g cap w5 hown5 hgrow hat hlt5)
            have HS := hide (HFin.out g cap w5 hown5 hgrow hat)
            clear hown5 hgrow hat hlt5
            go_wp2
            go_roundw
            case rel => exact ⟨m + 1, T, hmf2, hTt, hTn, by first | rfl | go_num, by first | rfl | go_num, HD2.out, HS.out.1, HS.out.2⟩
            case measure => simp [RowKit.intOf]; omega
          · have hTge : ¬ (T : Int) < (n : Int) := by omega
            have hTge' : ¬ T < n := by omega
            obtain ⟨d, hd⟩ : ∃ d, M - j = d + 1 := ⟨M - j - 1, by omega⟩
            rw [hd]
            have hdp : (0 : Int) < ((d + 1 : Nat) : Int) := by omega
            clear hcond hd0
            go_wp2_with (at_builtin; refine wpList_append_lies _ rfl _ _ _ rfl 0 50 i0 (.agg #[.int .i64 0, .int .i64 0, .slice none 0 0]) 3 40 Try.underlying25 hi hz0 hz1 hz2 rfl (by omega) _ m _ (by rfl) (ownsRow_later (ownsRow_later HOw0.out HFB.out) (below_alloc wi (.cells #[.int .i64 a, .int .i64 s, .slice ao j c] 50))) ⟨wi.heap.size, 0, none⟩ 1 1 [.int .i64 a, .int .i64 s, .slice ao j c] (by rfl) (by rfl) (World.news_of_block (cs := #[.int .i64 a, .int .i64 s, .slice ao j c]) (t := 50) (fr := (0, 0)) (heap_alloc_new wi _)) cellsFi_one (by omega) (by unfold maxLen; omega) (by omega) (Nat.zero_le _) (wi.heap.size + 1) (by simp) ?_; intro g cap w5 hown5 hgrow hat hlt5)
            have HS := hide (HFin.out g cap w5 hown5 hgrow hat)
            clear hown5 hgrow hat hlt5
            go_wp2
            go_roundw
            case rel => exact ⟨m + 1, T, hmf2, hTt, hTn, by first | rfl | go_num, by first | rfl | go_num, HD2.out, HS.out.1, HS.out.2⟩
            case measure => simp [RowKit.intOf]; omega
    · have HE : Hid (prs gS (K - m) (ws.drop t) = []) := by
        refine prs_stop ?_
        by_cases e : m < K
        · exact Or.inr (by rw [List.length_drop, HN.out]; have : ¬ t + 1 < n := fun h => hgo ⟨e, h⟩; omega)
        · exact Or.inl (by omega)
      rw [HE.out] at HD
      have hmeq : m = fs.length := by
        have := congrArg List.length HD.out
        simp at this
        omega
      subst hmeq
      have HO := hide (HBu.out.ow rfl (by omega))
      have HC := hide (specL8Fault HO.out.rd)
      obtain ⟨au, cu, hu⟩ := HBu.out.shape
      obtain ⟨l, hl⟩ : ∃ l, fs.length = l := ⟨_, rfl⟩
      rw [hl] at hu
      subst hu
      have HPf := hide (fun (h : filF fs = 0) => pkF_small h)
      obtain ⟨z, hz⟩ : ∃ z, filF fs = z := ⟨_, rfl⟩
      rw [hz] at HC
      have HZ := hide hz
      have HLl := hide hl
      rw [hl] at hgo ⊢
      clear hz HE HD hl
      have hbool : ∀ B : Bool, dirB ws = B → (Ending.returned (Value.tuple #[.slice au l cu, .bool B])) = .returned (.tuple #[.slice au l cu, .bool (dirB ws)]) := fun B h => by rw [h]
      have HBl := hide hbool
      clear hbool
      have stop : ∃ p q : Prop, True := ⟨True, True, trivial⟩
      clear stop
      by_cases hlK : l < K
      · have hlK' : (l : Int) < (K : Int) := by omega
        have htge : ¬ t + 1 < n := fun h => hgo ⟨hlK, h⟩
        have htw : IntKind.i64.wrap ((t : Int) + 1) = ((t + 1 : Nat) : Int) := by simp [IntKind.wrap, IntKind.bits, IntKind.signed]; omega
        have htge' : ¬ ((t + 1 : Nat) : Int) < (n : Int) := by omega
        clear hgo
        by_cases hz0' : z = 0
        · subst hz0'
          have hsm := HPf.out HZ.out
          go_wp2_with fail
          refine HC.out.mono ?_
          rintro e w2 ⟨rfl, hb⟩
          have HB2 := hide (below_on HB.out hb)
          have HBu2 := hide (HBu.out.later hb)
          have HC2 := hide (l8Pack (HO.out.rd.later hb) (by omega))
          rw [HLl.out] at HBu2
          clear hb HC
          go_wp2_with fail
          refine HC2.out.mono ?_
          rintro e w3 ⟨z3, rfl, hb, ho⟩
          have HB3 := hide (below_on HB2.out hb)
          have HBu3 := hide (HBu2.out.later hb)
          have HC3 := hide (l2SameR (ow_of_owns rfl ho (by omega)).rd (HV.out.later HB3.out))
          obtain ⟨a3, c3, hz3⟩ := owns_shapeM ho
          subst hz3
          obtain ⟨B, hBe⟩ : ∃ B, decide (pkF fs = ws) = B := ⟨_, rfl⟩
          have HDb : Hid (dirB ws = B) := by rw [Hid, HDr.out, HZ.out, hBe]; simp
          rw [hBe] at HC3
          clear hb ho HC2 hBe
          go_wp2_with fail
          refine HC3.out.mono ?_
          rintro e w4 ⟨rfl, q, hq⟩
          have HB4 : Hid (Below w.heap.size w w4) := hq ▸ below_on HB3.out (below_drewN _ q)
          have HBu4 : Hid (BuiltFi (w.heap.size ≤ ·) w4 (.slice au l cu) l fs) := hq ▸ HBu3.out.later (below_drewN _ q)
          clear hq
          go_wp2
          refine bodyPost_ret (v := .tuple #[.slice au l cu, .bool B]) (by simp [results, Try.results52, go_sem]) rfl ?_
          exact ⟨_, HBl.out B HDb.out, HB4.out, by rw [HLl.out]; exact HBu4.out⟩
        · have hz0b : (z == 0) = false := by simpa using hz0'
          have HDb : Hid (dirB ws = false) := by rw [Hid, HDr.out, HZ.out]; simp [hz0']
          go_wp2_with fail
          refine HC.out.mono ?_
          rintro e w2 ⟨rfl, hb⟩
          have HB2 := hide (below_on HB.out hb)
          have HBu2 := hide (HBu.out.later hb)
          rw [HLl.out] at HBu2
          clear hb HC
          go_wp2
          refine bodyPost_ret (v := .tuple #[.slice au l cu, .bool false]) (by simp [results, Try.results52, go_sem]) rfl ?_
          exact ⟨_, HBl.out false HDb.out, HB2.out, by rw [HLl.out]; exact HBu2.out⟩
      · have hlK' : ¬ (l : Int) < (K : Int) := by omega
        clear hgo
        by_cases hz0' : z = 0
        · subst hz0'
          have hsm := HPf.out HZ.out
          go_wp2_with fail
          refine HC.out.mono ?_
          rintro e w2 ⟨rfl, hb⟩
          have HB2 := hide (below_on HB.out hb)
          have HBu2 := hide (HBu.out.later hb)
          have HC2 := hide (l8Pack (HO.out.rd.later hb) (by omega))
          rw [HLl.out] at HBu2
          clear hb HC
          go_wp2_with fail
          refine HC2.out.mono ?_
          rintro e w3 ⟨z3, rfl, hb, ho⟩
          have HB3 := hide (below_on HB2.out hb)
          have HBu3 := hide (HBu2.out.later hb)
          have HC3 := hide (l2SameR (ow_of_owns rfl ho (by omega)).rd (HV.out.later HB3.out))
          obtain ⟨a3, c3, hz3⟩ := owns_shapeM ho
          subst hz3
          obtain ⟨B, hBe⟩ : ∃ B, decide (pkF fs = ws) = B := ⟨_, rfl⟩
          have HDb : Hid (dirB ws = B) := by rw [Hid, HDr.out, HZ.out, hBe]; simp
          rw [hBe] at HC3
          clear hb ho HC2 hBe
          go_wp2_with fail
          refine HC3.out.mono ?_
          rintro e w4 ⟨rfl, q, hq⟩
          have HB4 : Hid (Below w.heap.size w w4) := hq ▸ below_on HB3.out (below_drewN _ q)
          have HBu4 : Hid (BuiltFi (w.heap.size ≤ ·) w4 (.slice au l cu) l fs) := hq ▸ HBu3.out.later (below_drewN _ q)
          clear hq
          go_wp2
          refine bodyPost_ret (v := .tuple #[.slice au l cu, .bool B]) (by simp [results, Try.results52, go_sem]) rfl ?_
          exact ⟨_, HBl.out B HDb.out, HB4.out, by rw [HLl.out]; exact HBu4.out⟩
        · have hz0b : (z == 0) = false := by simpa using hz0'
          have HDb : Hid (dirB ws = false) := by rw [Hid, HDr.out, HZ.out]; simp [hz0']
          go_wp2_with fail
          refine HC.out.mono ?_
          rintro e w2 ⟨rfl, hb⟩
          have HB2 := hide (below_on HB.out hb)
          have HBu2 := hide (HBu.out.later hb)
          rw [HLl.out] at HBu2
          clear hb HC
          go_wp2
          refine bodyPost_ret (v := .tuple #[.slice au l cu, .bool false]) (by simp [results, Try.results52, go_sem]) rfl ?_
          exact ⟨_, HBl.out false HDb.out, HB2.out, by rw [HLl.out]; exact HBu2.out⟩

theorem udS {ws : List Int} (h : dirB ws = true) : prs gS (ws.getD 0 0).toNat ws.tail = prI ws.tail := by
  have hd := dirB_iff.1 h
  rw [dir_S hd]
set_option maxHeartbeats 1000000 in
theorem specUnpackDir {S : Nat → Prop} {w : World} {v : Value} {ws : List Int} (hv : RdI S w v ws) :
    Calls Try.prog 29 #[v] w (EndsFi (udC ws) (udR ws) w) := by
  obtain ⟨ao, c, rfl⟩ := hv.shape
  have HV := hide hv
  clear hv
  obtain ⟨z, hz⟩ : ∃ z, wordsF ws = z := ⟨_, rfl⟩
  have HZ := hide hz
  clear hz
  have HC := hide (l1Words (HV.out.later (below_alloc w (.cells #[.int .i64 0, .slice none 0 0] 37))))
  rw [HZ.out] at HC
  obtain ⟨n, hn⟩ : ∃ n, ws.length = n := ⟨_, rfl⟩
  have HN := hide hn
  rw [hn] at HV HC ⊢
  clear hn
  by_cases h0 : z = 0
  · subst h0
    have HIn := hide (wordsF_in HZ.out)
    by_cases hnil : ws = []
    · subst hnil
      rw [udC_nil.1, udC_nil.2]
      have hn0 : n = 0 := HN.out.symm
      subst hn0
      go_enter Try.func29, Try.ntmps29
      go_wp2_with fail
      refine HC.out.mono ?_
      rintro e w1 ⟨rfl, q, hq⟩
      have HRs : Hid (ResF w w1) := hq ▸ (ResF.start w 37).later (below_drewN _ q)
      have hw1 := HRs.out.lt
      clear hq
      have HU : Hid (Calls Try.prog 52 #[.slice ao 0 c] w1 fun e w' => e = .returned (.tuple #[.slice (some ⟨w1.heap.size, 0, none⟩) 0 0, .bool true]) ∧ w' = w1.alloc (.cells #[] 50)) := by
        rw [Hid]
        go_enter Try.func52, Try.ntmps52
        go_wp2
        refine bodyPost_ret (v := .tuple #[.slice (some ⟨w1.heap.size, 0, none⟩) 0 0, .bool true]) (by simp [results, Try.results52, go_sem]) rfl ⟨rfl, rfl⟩
      go_wp2_with fail
      refine HU.out.mono ?_
      rintro e w2 ⟨rfl, hw2⟩
      have hb := below_alloc w1 (.cells #[] 50)
      rw [← hw2] at hb
      have HRs2 := hide (HRs.out.later hb)
      have HO : Hid (OwJ (fun b => w1.heap.size ≤ b ∧ b < w2.heap.size) w2 (.slice (some ⟨w1.heap.size, 0, none⟩) 0 0) []) := ⟨_, 0, 0, 0, fun _ => .bool false, fun _ => 0, rfl, by simp, fun h => absurd rfl h, fun i hi => absurd hi (Nat.not_lt_zero _)⟩
      have HFn := hide (ret_files (x := .int .i64 0) HRs2.out.below (Nat.le_refl _) HO.out (fun b hb => ⟨by have := hb.1; omega, hb.2⟩))
      have c0 := HRs2.out.c0
      have c1 := HRs2.out.c1
      have F0 := HRs2.out.fr 0
      have F1 := HRs2.out.fr 1
      clear hb hw2 HU
      go_wp2
      refine bodyPost_ret (v := .agg #[.int .i64 0, .slice (some ⟨w1.heap.size, 0, none⟩) 0 0]) (by simp [results, Try.results29, go_sem, c0, c1]) rfl ⟨_, rfl, HFn.out.1, HFn.out.2⟩
    · have HNe := hide hnil
      have HY := hide (fun h => udC_yes HZ.out hnil h)
      have HNo := hide (fun h => udC_no HZ.out hnil h)
      clear hnil
      go_enter Try.func29, Try.ntmps29
      go_wp2_with fail
      refine HC.out.mono ?_
      rintro e w1 ⟨rfl, q, hq⟩
      have HRs : Hid (ResF w w1) := hq ▸ (ResF.start w 37).later (below_drewN _ q)
      have hw1 := HRs.out.lt
      have HC2 := hide (l8Unpack (HV.out.later HRs.out.below) HIn.out.1 HIn.out.2 HNe.out)
      have HPl := hide (prs_len gS (ws.getD 0 0).toNat ws.tail)
      have HSx := hide (udS (ws := ws))
      obtain ⟨fs, hfs⟩ : ∃ fs, prs gS (ws.getD 0 0).toNat ws.tail = fs := ⟨_, rfl⟩
      rw [hfs] at HC2 HPl HSx
      obtain ⟨B, hB⟩ : ∃ B, dirB ws = B := ⟨_, rfl⟩
      rw [hB] at HC2 HY HNo HSx
      clear hq HC hfs hB
      go_wp2_with fail
      refine HC2.out.mono ?_
      rintro e w2 ⟨z2, rfl, hb, ho⟩
      have HRs2 := hide (HRs.out.later hb)
      have HO := hide (ho.ow rfl (by have h1 := HPl.out; have h2 := HIn.out.1; simp at h1; omega))
      obtain ⟨a2, c2, hz2⟩ := ho.shape
      subst hz2
      have HFn := hide (ret_files (x := .int .i64 0) HRs2.out.below (Nat.le_refl _) HO.out (fun b hb => ⟨by have := hb.1; omega, hb.2⟩))
      obtain ⟨l, hl⟩ : ∃ l, fs.length = l := ⟨_, rfl⟩
      rw [hl] at HFn
      (try rw [hl])
      have c0 := HRs2.out.c0
      have c1 := HRs2.out.c1
      have F0 := HRs2.out.fr 0
      have F1 := HRs2.out.fr 1
      clear hb ho HC2 hl
      cases B with
      | true =>
        have HY2 := hide (HY.out rfl)
        have HS2 := hide (HSx.out rfl)
        go_wp2
        refine bodyPost_ret (v := .agg #[.int .i64 0, .slice a2 l c2]) (by simp [results, Try.results29, go_sem, c0, c1]) rfl ⟨_, by rw [HY2.out.1], HFn.out.1, by rw [HY2.out.2, ← HS2.out]; exact HFn.out.2⟩
      | false =>
        have HN2 := hide (HNo.out rfl)
        go_wp2
        refine bodyPost_ret (v := .agg #[.int .i64 5, .slice none 0 0]) (by simp [results, Try.results29, go_sem, c0, c1]) rfl ⟨_, by rw [HN2.out.1], HRs2.out.shut _ _, by rw [HN2.out.2]; exact OwJ_nil _ _⟩
  · have h0b : (z == 0) = false := by simpa using h0
    have HE := hide (udC_bad (ws := ws) (by rw [HZ.out]; exact h0))
    rw [HE.out.1, HE.out.2, HZ.out]
    go_enter Try.func29, Try.ntmps29
    go_wp2_with fail
    refine HC.out.mono ?_
    rintro e w1 ⟨rfl, q, hq⟩
    have HRs : Hid (ResF w w1) := hq ▸ (ResF.start w 37).later (below_drewN _ q)
    have c0 := HRs.out.c0
    have c1 := HRs.out.c1
    have F0 := HRs.out.fr 0
    have F1 := HRs.out.fr 1
    clear hq
    go_wp2
    refine bodyPost_ret (v := .agg #[.int .i64 z, .slice none 0 0]) (by simp [results, Try.results29, go_sem, c0, c1]) rfl ⟨_, rfl, HRs.out.shut _ _, OwJ_nil _ _⟩
end Go.Proofs.Ytefcfhccbeaieaa
