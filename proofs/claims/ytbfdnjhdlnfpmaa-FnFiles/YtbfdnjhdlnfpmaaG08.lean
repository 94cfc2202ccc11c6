/- Mp1 Cfr Fm Fp3 in one text: what each says stands at its head below. -/
import Derived.Test.YtbfdnjhdlnfpmaaG03
import Derived.Test.YtbfdnjhdlnfpmaaG07
import Derived.BigQuiet
import Derived.Test.YtbfdnjhdlnfpmaaG01
import Derived.Test.YtbfdnjhdlnfpmaaG05
/- Chapter 7: the fault of a map, both sides walked. -/
namespace Go.Proofs.Ytbfdnjhdlnfpmaa
open Go.RowKit

/-- What is asked of the i-th number. -/
def mpS (xs : List Int) (i : Nat) : Int :=
  if ¬ (3 ≤ xs.getD i 0 ∧ xs.getD i 0 ≤ 22) then 3 else if 0 < i ∧ xs.getD i 0 ≤ xs.getD (i - 1) 0 then 1 else 0
/-- .. of n numbers, from the k-th on: the first code. -/
def mpFrom (xs : List Int) : Nat → Nat → Int
  | 0, _ => 0
  | n + 1, k => if mpS xs k = 0 then mpFrom xs n (k + 1) else mpS xs k
/-- The fault of a map. -/
def mapF (xs : List Int) : Int := mpFrom xs xs.length 0
theorem mpFrom_ok {xs : List Int} {m j : Nat} (hj : j < m) (h : mpS xs j = 0) : mpFrom xs (m - j) j = mpFrom xs (m - (j + 1)) (j + 1) := by
  rw [show m - j = (m - (j + 1)) + 1 by omega, mpFrom, if_pos h]
theorem mpFrom_no {xs : List Int} {m j : Nat} (hj : j < m) (h : mpS xs j ≠ 0) : mpFrom xs (m - j) j = mpS xs j := by
  rw [show m - j = (m - (j + 1)) + 1 by omega, mpFrom, if_neg h]
theorem mpFrom_end {xs : List Int} {m j : Nat} (hj : ¬ j < m) : mpFrom xs (m - j) j = 0 := by
  rw [show m - j = 0 by omega, mpFrom]
theorem mpFrom_all {xs : List Int} : ∀ (n k : Nat), mpFrom xs n k = 0 ↔ ∀ i, k ≤ i → i < k + n → mpS xs i = 0
  | 0, k => ⟨fun _ i h1 h2 => by omega, fun _ => rfl⟩
  | n + 1, k => by
    rw [mpFrom]
    by_cases hs : mpS xs k = 0
    · rw [if_pos hs, mpFrom_all n (k + 1)]
      constructor
      · intro h i h1 h2
        by_cases e : i = k
        · rw [e]; exact hs
        · exact h i (by omega) (by omega)
      · intro h i h1 h2
        exact h i (by omega) (by omega)
    · rw [if_neg hs]
      exact ⟨fun h => absurd h hs, fun h => h k (Nat.le_refl _) (by omega)⟩
/-- What a map without a fault is. -/
def IsMap (xs : List Int) : Prop := (∀ x, x ∈ xs → 3 ≤ x ∧ x ≤ 22) ∧ xs.Pairwise (· < ·)
theorem mpS_iff {xs : List Int} {i : Nat} : mpS xs i = 0 ↔ (3 ≤ xs.getD i 0 ∧ xs.getD i 0 ≤ 22) ∧ ¬ (0 < i ∧ xs.getD i 0 ≤ xs.getD (i - 1) 0) := by
  unfold mpS
  by_cases h1 : 3 ≤ xs.getD i 0 ∧ xs.getD i 0 ≤ 22
  · rw [if_neg (fun h => h h1)]
    by_cases h2 : 0 < i ∧ xs.getD i 0 ≤ xs.getD (i - 1) 0
    · rw [if_pos h2]; exact ⟨fun h => absurd h (by decide), fun h => absurd h2 h.2⟩
    · rw [if_neg h2]; exact ⟨fun _ => ⟨h1, h2⟩, fun _ => rfl⟩
  · rw [if_pos h1]; exact ⟨fun h => absurd h (by decide), fun h => absurd h.1 h1⟩
theorem up_of_next {xs : List Int} (h : ∀ i, i + 1 < xs.length → xs.getD i 0 < xs.getD (i + 1) 0) : ∀ (i j : Nat), i < j → j < xs.length → xs.getD i 0 < xs.getD j 0 := by
  intro i j
  induction j with
  | zero => intro h; omega
  | succ j ih =>
    intro h1 h2
    have h3 := h j h2
    by_cases e : i = j
    · rw [e]; exact h3
    · have := ih (by omega) (by omega); omega
theorem mapF_iff {xs : List Int} : mapF xs = 0 ↔ IsMap xs := by
  unfold mapF IsMap
  rw [mpFrom_all]
  constructor
  · intro h
    have hs : ∀ i, i < xs.length → (3 ≤ xs.getD i 0 ∧ xs.getD i 0 ≤ 22) ∧ ¬ (0 < i ∧ xs.getD i 0 ≤ xs.getD (i - 1) 0) := fun i hi => mpS_iff.1 (h i (Nat.zero_le _) (by omega))
    refine ⟨fun x hx => ?_, ?_⟩
    · obtain ⟨i, hi, rfl⟩ := List.mem_iff_getElem.1 hx
      have := (hs i hi).1
      simpa [List.getD, hi] using this
    · rw [List.pairwise_iff_getElem]
      intro i j hi hj hij
      have := up_of_next (xs := xs) (fun i hi => by have := (hs (i + 1) hi).2; rw [show i + 1 - 1 = i by omega] at this; omega) i j hij hj
      simpa [List.getD, hi, hj] using this
  · rintro ⟨h1, h2⟩ i _ hi
    rw [Nat.zero_add] at hi
    rw [mpS_iff]
    refine ⟨?_, fun ⟨h0, h⟩ => ?_⟩
    · have := h1 xs[i] (List.getElem_mem hi)
      simpa [List.getD, hi] using this
    · rw [List.pairwise_iff_getElem] at h2
      have := h2 (i - 1) i (by omega) hi (by omega)
      have h3 : i - 1 < xs.length := by omega
      simp [List.getD, hi, h3] at h
      omega
theorem RdI.max {S : Nat → Prop} {w : World} {v : Value} {xs : List Int} (h : RdI S w v xs) : xs.length ≤ 9223372036854775807 := by obtain ⟨_, _, _, h, _⟩ := h; exact h

set_option maxHeartbeats 1000000 in
set_option maxRecDepth 4000 in
theorem implMapFault {S : Nat → Prop} {w : World} {v : Value} {xs : List Int} (hv : RdI S w v xs) :
    Calls Try.prog 44 #[v] w fun e w' => e = .returned (.int .i64 (mapF xs)) ∧ ∃ q, w' = w.drewN q := by
  obtain ⟨ao, c, rfl⟩ := hv.shape
  have hm := hv.max
  have HV := hide hv
  obtain ⟨m, hmm⟩ : ∃ m, xs.length = m := ⟨_, rfl⟩
  have HM := hide hmm
  rw [hmm] at HV hm ⊢
  clear hv hmm
  have HE := hide (show mapF xs = mpFrom xs m 0 by unfold mapF; rw [HM.out])
  go_enter Try.func44, Try.ntmps44
  go_wp2
  go_loopw [7] (fun i wr => ∃ j q : Nat, j ≤ m ∧ i = .int .i64 j ∧ Hid (mapF xs = mpFrom xs (m - j) j) ∧ wr = w.drewN q) (fun i _ => m - (intOf i).toNat)
  case atStart => exact ⟨0, 0, Nat.zero_le _, rfl, HE.out, rfl⟩
  case round =>
    obtain ⟨k, q, hk, rfl, HG, rfl⟩ := hrel
    by_cases hlt : k < m
    · obtain ⟨b, off, rfl, q1⟩ := HV.out.at (k := k) (by rw [HM.out]; exact hlt)
      obtain ⟨x, hx⟩ : ∃ x, xs.getD k 0 = x := ⟨_, rfl⟩
      rw [hx] at q1
      have HX := hide hx
      clear hx
      have hk0' : (0 : Int) ≤ (k : Int) := by omega
      have hkm' : (k : Int) < (m : Int) := by omega
      by_cases hat : 3 ≤ x ∧ x ≤ 22
      · have HAt := hide hat
        obtain ⟨ha1, ha2⟩ := hat
        have hb1 : ¬ x < 3 := by omega
        have hb2 : ¬ 22 < x := by omega
        by_cases hk0 : k = 0
        · subst hk0
          have q1z : w.cell? ⟨b, off, none⟩ = some (.int .i64 x) := by simpa using q1
          clear q1
          have HF2 := hide (HG.out.trans (mpFrom_ok hlt (by unfold mpS; rw [HX.out, if_neg (fun h => h HAt.out), if_neg (by omega)])))
          go_wp2
          go_roundw
          case rel => exact ⟨0 + 1, q, by omega, by go_num, HF2.out, by first | rfl | trivial⟩
          case measure => simp [intOf]; omega
        · obtain ⟨j, hjk⟩ : ∃ j, k = j + 1 := ⟨k - 1, by omega⟩
          obtain ⟨b', off', e', q1'⟩ := HV.out.at (k := j) (by rw [HM.out]; omega)
          injection e' with e'
          injection e' with e1 e2
          subst e1 e2
          obtain ⟨z, hz⟩ : ∃ z, xs.getD j 0 = z := ⟨_, rfl⟩
          rw [hz] at q1'
          have HZ := hide hz
          clear hz
          have hw1 : IntKind.i64.wrap ((k : Int) - 1) = (j : Int) := by simp [IntKind.wrap, IntKind.bits, IntKind.signed]; omega
          have hkp : 0 < k := by omega
          have hj0 : (0 : Int) < (k : Int) := by omega
          have hjp : (0 : Int) ≤ (j : Int) := by omega
          have hjn : (j : Int) < (m : Int) := by omega
          have HJK := hide hjk
          clear hk0 hjk
          by_cases hxz : x ≤ z
          · have HF2 := hide (HG.out.trans ((mpFrom_no hlt (by unfold mpS; rw [HX.out, if_neg (fun h => h HAt.out), show k - 1 = j by have := HJK.out; omega, HZ.out, if_pos ⟨by omega, hxz⟩]; decide)).trans (show mpS xs k = 1 by unfold mpS; rw [HX.out, if_neg (fun h => h HAt.out), show k - 1 = j by have := HJK.out; omega, HZ.out, if_pos ⟨by omega, hxz⟩])))
            go_wp2
            go_ret
            exact ⟨ret_int HF2.out.symm, q, rfl⟩
          · have HF2 := hide (HG.out.trans (mpFrom_ok hlt (by unfold mpS; rw [HX.out, if_neg (fun h => h HAt.out), show k - 1 = j by have := HJK.out; omega, HZ.out, if_neg (fun h => hxz h.2)])))
            go_wp2
            go_roundw
            case rel => exact ⟨k + 1, q, by omega, by go_num, HF2.out, by first | rfl | trivial⟩
            case measure => simp [intOf]; omega
      · have HF2 : Hid (mapF xs = 3) := by
          have h : mpS xs k = 3 := by unfold mpS; rw [HX.out, if_pos hat]
          exact HG.out.trans ((mpFrom_no hlt (by rw [h]; decide)).trans h)
        have hor : x < 3 ∨ 22 < x := by omega
        clear hat
        by_cases h3 : x < 3
        · go_wp2
          go_ret
          exact ⟨ret_int HF2.out.symm, q, rfl⟩
        · have h22 : 22 < x := by omega
          clear hor
          go_wp2
          go_ret
          exact ⟨ret_int HF2.out.symm, q, rfl⟩
    · have HZ := hide (HG.out.trans (mpFrom_end hlt))
      go_wp2
      go_ret
      exact ⟨ret_int HZ.out.symm, q, rfl⟩

end Go.Proofs.Ytbfdnjhdlnfpmaa
/- The first code among questions that are asked one behind the other. -/
namespace Go.Proofs.Ytbfdnjhdlnfpmaa

/-- The first code of n questions, from the k-th on. -/
def cfr (g : Nat → Int) : Nat → Nat → Int
  | 0, _ => 0
  | n + 1, k => if g k = 0 then cfr g n (k + 1) else g k
theorem cfr_ok {g : Nat → Int} {m j : Nat} (hj : j < m) (h : g j = 0) : cfr g (m - j) j = cfr g (m - (j + 1)) (j + 1) := by
  rw [show m - j = (m - (j + 1)) + 1 by omega, cfr, if_pos h]
theorem cfr_no {g : Nat → Int} {m j : Nat} (hj : j < m) (h : g j ≠ 0) : cfr g (m - j) j = g j := by
  rw [show m - j = (m - (j + 1)) + 1 by omega, cfr, if_neg h]
theorem cfr_end {g : Nat → Int} {m j : Nat} (hj : ¬ j < m) : cfr g (m - j) j = 0 := by
  rw [show m - j = 0 by omega, cfr]
theorem cfr_all {g : Nat → Int} : ∀ (n k : Nat), cfr g n k = 0 ↔ ∀ i, k ≤ i → i < k + n → g i = 0
  | 0, k => ⟨fun _ i h1 h2 => by omega, fun _ => rfl⟩
  | n + 1, k => by
    rw [cfr]
    by_cases hs : g k = 0
    · rw [if_pos hs, cfr_all n (k + 1)]
      constructor
      · intro h i h1 h2
        by_cases e : i = k
        · rw [e]; exact hs
        · exact h i (by omega) (by omega)
      · intro h i h1 h2
        exact h i (by omega) (by omega)
    · rw [if_neg hs]
      exact ⟨fun h => absurd h hs, fun h => h k (Nat.le_refl _) (by omega)⟩
end Go.Proofs.Ytbfdnjhdlnfpmaa
/- Chapter 8: the mathematics of files: the fault of a list of files. -/
namespace Go.Proofs.Ytbfdnjhdlnfpmaa
open Go.RowKit

/-- How many blocks so many words need. -/
def nbF (s : Int) : Int := (s + 7) / 8
def inB (x : Int) : Bool := decide (3 ≤ x ∧ x ≤ 22)
/-- The fault of one file. -/
def oneF (p : Oj) : Int :=
  if ¬ ((1 ≤ p.1 ∧ p.1 ≤ 99) ∧ 0 ≤ p.2.1 ∧ p.2.1 ≤ 40) then 3 else if (p.2.2.length : Int) ≠ nbF p.2.1 then 1 else if p.2.2.all inB = true then 0 else 3
/-- What is asked of the i-th file. -/
def flS (fs : List Oj) (i : Nat) : Int :=
  if oneF (fs.getD i oj0) = 0 then (if 0 < i ∧ (fs.getD i oj0).1 ≤ (fs.getD (i - 1) oj0).1 then 1 else 0) else oneF (fs.getD i oj0)
/-- All blocks, file by file. -/
def blksF : List Oj → List Int
  | [] => []
  | p :: r => p.2.2 ++ blksF r
theorem blksF_snoc : ∀ (fs : List Oj) (p : Oj), blksF (fs ++ [p]) = blksF fs ++ p.2.2
  | [], p => by simp [blksF]
  | q :: r, p => by simp [blksF, blksF_snoc r p]
theorem blksF_append : ∀ (fs gs : List Oj), blksF (fs ++ gs) = blksF fs ++ blksF gs
  | [], gs => by simp [blksF]
  | q :: r, gs => by simp [blksF, blksF_append r gs]
theorem blksF_mem {x : Int} : ∀ {fs : List Oj}, x ∈ blksF fs ↔ ∃ p, p ∈ fs ∧ x ∈ p.2.2
  | [] => by simp [blksF]
  | q :: r => by
    simp only [blksF, List.mem_append, blksF_mem (fs := r), List.mem_cons]
    constructor
    · rintro (h | ⟨p, h1, h2⟩)
      · exact ⟨q, Or.inl rfl, h⟩
      · exact ⟨p, Or.inr h1, h2⟩
    · rintro ⟨p, rfl | h1, h2⟩
      · exact Or.inl h2
      · exact Or.inr ⟨p, h1, h2⟩
/-- The fault of a list of files. -/
def filF (fs : List Oj) : Int :=
  if 4 < fs.length then 2 else if cfr (flS fs) fs.length 0 = 0 then (if (blksF fs).Nodup then 0 else 7) else cfr (flS fs) fs.length 0
/-- What files without a fault are. -/
structure IsFi (fs : List Oj) : Prop where
  len : fs.length ≤ 4
  one : ∀ p, p ∈ fs → oneF p = 0
  up : fs.Pairwise (fun p q => p.1 < q.1)
  nd : (blksF fs).Nodup
theorem oneF_iff {p : Oj} : oneF p = 0 ↔ ((1 ≤ p.1 ∧ p.1 ≤ 99) ∧ 0 ≤ p.2.1 ∧ p.2.1 ≤ 40) ∧ (p.2.2.length : Int) = nbF p.2.1 ∧ p.2.2.all inB = true := by
  unfold oneF
  by_cases h1 : (1 ≤ p.1 ∧ p.1 ≤ 99) ∧ 0 ≤ p.2.1 ∧ p.2.1 ≤ 40
  · rw [if_neg (fun h => h h1)]
    by_cases h2 : (p.2.2.length : Int) = nbF p.2.1
    · rw [if_neg (fun h => h h2)]
      by_cases h3 : p.2.2.all inB = true
      · rw [if_pos h3]; exact ⟨fun _ => ⟨h1, h2, h3⟩, fun _ => rfl⟩
      · rw [if_neg h3]; exact ⟨fun h => absurd h (by decide), fun h => absurd h.2.2 h3⟩
    · rw [if_pos h2]; exact ⟨fun h => absurd h (by decide), fun h => absurd h.2.1 h2⟩
  · rw [if_pos h1]; exact ⟨fun h => absurd h (by decide), fun h => absurd h.1 h1⟩
theorem oneF_len {p : Oj} (h : oneF p = 0) : p.2.2.length ≤ 5 := by
  obtain ⟨h1, h2, _⟩ := oneF_iff.1 h
  unfold nbF at h2
  omega
theorem oneF_in {p : Oj} (h : oneF p = 0) : ∀ x, x ∈ p.2.2 → 3 ≤ x ∧ x ≤ 22 := by
  intro x hx
  have := List.all_eq_true.1 (oneF_iff.1 h).2.2 x hx
  simpa [inB] using this
theorem flS_iff {fs : List Oj} {i : Nat} : flS fs i = 0 ↔ oneF (fs.getD i oj0) = 0 ∧ ¬ (0 < i ∧ (fs.getD i oj0).1 ≤ (fs.getD (i - 1) oj0).1) := by
  unfold flS
  by_cases h1 : oneF (fs.getD i oj0) = 0
  · rw [if_pos h1]
    by_cases h2 : 0 < i ∧ (fs.getD i oj0).1 ≤ (fs.getD (i - 1) oj0).1
    · rw [if_pos h2]; exact ⟨fun h => absurd h (by decide), fun h => absurd h2 h.2⟩
    · rw [if_neg h2]; exact ⟨fun _ => ⟨h1, h2⟩, fun _ => rfl⟩
  · rw [if_neg h1]; exact ⟨fun h => absurd h h1, fun h => absurd h.1 h1⟩
theorem cfl_iff {fs : List Oj} : cfr (flS fs) fs.length 0 = 0 ↔ (∀ p, p ∈ fs → oneF p = 0) ∧ fs.Pairwise (fun p q => p.1 < q.1) := by
  rw [cfr_all]
  constructor
  · intro h
    have hs : ∀ i, i < fs.length → oneF (fs.getD i oj0) = 0 ∧ ¬ (0 < i ∧ (fs.getD i oj0).1 ≤ (fs.getD (i - 1) oj0).1) := fun i hi => flS_iff.1 (h i (Nat.zero_le _) (by omega))
    refine ⟨fun p hp => ?_, ?_⟩
    · obtain ⟨i, hi, rfl⟩ := List.mem_iff_getElem.1 hp
      have := (hs i hi).1
      simpa [List.getD, hi] using this
    · rw [List.pairwise_iff_getElem]
      intro i j hi hj hij
      have up : ∀ (i j : Nat), i < j → j < fs.length → (fs.getD i oj0).1 < (fs.getD j oj0).1 := by
        intro i j
        induction j with
        | zero => intro h; omega
        | succ j ih =>
          intro h1 h2
          have h3 := (hs (j + 1) h2).2
          rw [show j + 1 - 1 = j by omega] at h3
          by_cases e : i = j
          · rw [e]; omega
          · have := ih (by omega) (by omega); omega
      have := up i j hij hj
      simpa [List.getD, hi, hj] using this
  · rintro ⟨h1, h2⟩ i _ hi
    rw [Nat.zero_add] at hi
    rw [flS_iff]
    refine ⟨?_, fun ⟨h0, h⟩ => ?_⟩
    · have := h1 fs[i] (List.getElem_mem hi)
      simpa [List.getD, hi] using this
    · rw [List.pairwise_iff_getElem] at h2
      have := h2 (i - 1) i (by omega) hi (by omega)
      have h3 : i - 1 < fs.length := by omega
      simp [List.getD, hi, h3] at h
      omega
theorem filF_iff {fs : List Oj} : filF fs = 0 ↔ IsFi fs := by
  unfold filF
  by_cases h1 : 4 < fs.length
  · rw [if_pos h1]; exact ⟨fun h => absurd h (by decide), fun h => absurd h1 (by have := h.len; omega)⟩
  · rw [if_neg h1]
    by_cases h2 : cfr (flS fs) fs.length 0 = 0
    · rw [if_pos h2]
      obtain ⟨h3, h4⟩ := cfl_iff.1 h2
      by_cases h5 : (blksF fs).Nodup
      · rw [if_pos h5]; exact ⟨fun _ => ⟨by omega, h3, h4, h5⟩, fun _ => rfl⟩
      · rw [if_neg h5]; exact ⟨fun h => absurd h (by decide), fun h => absurd h.nd h5⟩
    · rw [if_neg h2]; exact ⟨fun h => absurd h h2, fun h => absurd (cfl_iff.2 ⟨h.one, h.up⟩) h2⟩
theorem filF_many {fs : List Oj} (h : 4 < fs.length) : filF fs = 2 := by unfold filF; rw [if_pos h]
theorem filF_one {fs : List Oj} (h : ¬ 4 < fs.length) (h2 : cfr (flS fs) fs.length 0 ≠ 0) : filF fs = cfr (flS fs) fs.length 0 := by unfold filF; rw [if_neg h, if_neg h2]
theorem filF_tk {fs : List Oj} (h : ¬ 4 < fs.length) (h2 : cfr (flS fs) fs.length 0 = 0) : filF fs = if (blksF fs).Nodup then 0 else 7 := by unfold filF; rw [if_neg h, if_pos h2]
theorem blksF_len : ∀ {fs : List Oj}, (∀ p, p ∈ fs → oneF p = 0) → (blksF fs).length ≤ fs.length * 5
  | [], _ => by simp [blksF]
  | q :: r, h => by
    have h1 := oneF_len (h q (by simp))
    have h2 := blksF_len (fs := r) (fun p hp => h p (by simp [hp]))
    simp only [blksF, List.length_append, List.length_cons]
    omega
theorem blksF_in {fs : List Oj} (h : ∀ p, p ∈ fs → oneF p = 0) : ∀ x, x ∈ blksF fs → 3 ≤ x ∧ x ≤ 22 := by
  intro x hx
  obtain ⟨p, h1, h2⟩ := blksF_mem.1 hx
  exact oneF_in (h p h1) x h2
/-- Sorted, the blocks are a map just where none stands twice. -/
theorem map_of_sorted {xs ys : List Int} (hp : ys.Perm xs) (hs : ys.Pairwise (· ≤ ·)) (hin : ∀ x, x ∈ xs → 3 ≤ x ∧ x ≤ 22) : mapF ys = 0 ↔ xs.Nodup := by
  rw [mapF_iff]
  constructor
  · rintro ⟨_, h⟩
    exact (hp.nodup_iff).1 (h.imp fun h => by omega)
  · intro h
    refine ⟨fun x hx => hin x (hp.mem_iff.1 hx), ?_⟩
    have hn := (hp.nodup_iff).2 h
    exact hs.imp₂ (fun a b h1 h2 => by have : a ≠ b := h2; omega) hn
end Go.Proofs.Ytbfdnjhdlnfpmaa
/- A struct of two numbers and a list (a file, an entry) that lies somewhere in memory. -/
namespace Go.Proofs.Ytbfdnjhdlnfpmaa
open Go.RowKit

/-- A file lies at the cell off of block b. -/
def RdFp (S : Nat → Prop) (w : World) (b off : Nat) (p : Oj) : Prop :=
  ∃ y, w.cell? ⟨b, off, none⟩ = some (.int .i64 p.1) ∧ w.cell? ⟨b, off + 1, none⟩ = some (.int .i64 p.2.1) ∧ w.cell? ⟨b, off + 2, none⟩ = some y ∧ RdI S w y p.2.2
theorem RdFp.later {S : Nat → Prop} {w w' : World} {b off : Nat} {p : Oj} (h : RdFp S w b off p) (hb : Below w.heap.size w w') : RdFp S w' b off p := by
  obtain ⟨y, h0, h1, h2, h3⟩ := h
  exact ⟨y, cell_later hb h0, cell_later hb h1, cell_later hb h2, h3.later hb⟩
theorem RdJ.file {S : Nat → Prop} {w : World} {ao : Option Addr} {n c : Nat} {fs : List Oj} (h : RdJ S w (.slice ao n c) fs) {k : Nat} (hk : k < fs.length) : ∃ b off, ao = some ⟨b, off, none⟩ ∧ RdFp S w b (off + k * 3) (fs.getD k oj0) := by
  obtain ⟨ao', c', e, hm, h⟩ := h
  injection e with e1 e2 e3
  obtain ⟨b, off, V, e4, _, hc⟩ := h (by rintro rfl; exact absurd hk (Nat.not_lt_zero _))
  obtain ⟨q0, q1, q2, q3⟩ := hc k hk
  exact ⟨b, off, e1.trans e4, V k, q0, q1, q2, q3⟩
theorem ret_intF {a b : Int} (h : a = b) : Ending.returned (.int .i64 a) = .returned (.int .i64 b) := by rw [h]
end Go.Proofs.Ytbfdnjhdlnfpmaa
