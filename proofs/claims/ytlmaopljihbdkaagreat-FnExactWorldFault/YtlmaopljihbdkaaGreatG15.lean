/- Fm Fi1 Fi FiS FiZ FiV Built3 in one text: what each says stands at its head below. -/
import Derived.Test.YtlmaopljihbdkaaGreatG05
import Derived.Test.YtlmaopljihbdkaaGreatG11
import Derived.Test.YtlmaopljihbdkaaGreatG09
import Derived.Test.YtlmaopljihbdkaaGreatG08
import Derived.Test.YtlmaopljihbdkaaGreatG04
import Derived.BigQuiet
import Derived.Test.YtlmaopljihbdkaaGreatG06
import Derived.Test.YtlmaopljihbdkaaGreatG12
namespace Go.Proofs.YtlmaopljihbdkaaGreat
open Go.RowKit
def nbF (s : Int) : Int := (s + 7) / 8
def inB (x : Int) : Bool := decide (3 ≤ x ∧ x ≤ 22)
def oneF (p : Oj) : Int :=
  if ¬ ((1 ≤ p.1 ∧ p.1 ≤ 99) ∧ 0 ≤ p.2.1 ∧ p.2.1 ≤ 40) then 3 else if (p.2.2.length : Int) ≠ nbF p.2.1 then 1 else if p.2.2.all inB = true then 0 else 3
def flS (fs : List Oj) (i : Nat) : Int :=
  if oneF (fs.getD i oj0) = 0 then (if 0 < i ∧ (fs.getD i oj0).1 ≤ (fs.getD (i - 1) oj0).1 then 1 else 0) else oneF (fs.getD i oj0)
def blksF : List Oj → List Int
  | [] => []
  | p :: r => p.2.2 ++ blksF r
theorem blksF_snoc : ∀ (fs : List Oj) (p : Oj), blksF (fs ++ [p]) = blksF fs ++ p.2.2
  | [], p => by simp [blksF]
  | q :: r, p => by simp [blksF, blksF_snoc r p]
theorem blksF_append : ∀ (fs gs : List Oj), blksF (fs ++ gs) = blksF fs ++ blksF gs
  | [], gs => by simp [blksF]
  | q :: r, gs => by simp [blksF, blksF_append r gs]
theorem blksF_mem {x : Int} : ∀ {fs : List Oj}, x ∈ blksF fs ↔ ∃ p, p ∈ fs ∧ x ∈ p.2.2
  | [] => by simp [blksF]
  | q :: r => by
    simp only [blksF, List.mem_append, blksF_mem (fs := r), List.mem_cons]
    constructor
    · rintro (h | ⟨p, h1, h2⟩)
      · exact ⟨q, Or.inl rfl, h⟩
      · exact ⟨p, Or.inr h1, h2⟩
    · rintro ⟨p, rfl | h1, h2⟩
      · exact Or.inl h2
      · exact Or.inr ⟨p, h1, h2⟩
def filF (fs : List Oj) : Int :=
  if 4 < fs.length then 2 else if cfr (flS fs) fs.length 0 = 0 then (if (blksF fs).Nodup then 0 else 7) else cfr (flS fs) fs.length 0
structure IsFi (fs : List Oj) : Prop where
  len : fs.length ≤ 4
  one : ∀ p, p ∈ fs → oneF p = 0
  up : fs.Pairwise (fun p q => p.1 < q.1)
  nd : (blksF fs).Nodup
theorem oneF_iff {p : Oj} : oneF p = 0 ↔ ((1 ≤ p.1 ∧ p.1 ≤ 99) ∧ 0 ≤ p.2.1 ∧ p.2.1 ≤ 40) ∧ (p.2.2.length : Int) = nbF p.2.1 ∧ p.2.2.all inB = true := by
  unfold oneF
  by_cases h1 : (1 ≤ p.1 ∧ p.1 ≤ 99) ∧ 0 ≤ p.2.1 ∧ p.2.1 ≤ 40
  · rw [if_neg (fun h => h h1)]
    by_cases h2 : (p.2.2.length : Int) = nbF p.2.1
    · rw [if_neg (fun h => h h2)]
      by_cases h3 : p.2.2.all inB = true
      · rw [if_pos h3]; exact ⟨fun _ => ⟨h1, h2, h3⟩, fun _ => rfl⟩
      · rw [if_neg h3]; exact ⟨fun h => absurd h (by decide), fun h => absurd h.2.2 h3⟩
    · rw [if_pos h2]; exact ⟨fun h => absurd h (by decide), fun h => absurd h.2.1 h2⟩
  · rw [if_pos h1]; exact ⟨fun h => absurd h (by decide), fun h => absurd h.1 h1⟩
theorem oneF_len {p : Oj} (h : oneF p = 0) : p.2.2.length ≤ 5 := by
  obtain ⟨h1, h2, _⟩ := oneF_iff.1 h
  unfold nbF at h2
  omega
theorem oneF_in {p : Oj} (h : oneF p = 0) : ∀ x, x ∈ p.2.2 → 3 ≤ x ∧ x ≤ 22 := by
  intro x hx
  have := List.all_eq_true.1 (oneF_iff.1 h).2.2 x hx
  simpa [inB] using this
theorem flS_iff {fs : List Oj} {i : Nat} : flS fs i = 0 ↔ oneF (fs.getD i oj0) = 0 ∧ ¬ (0 < i ∧ (fs.getD i oj0).1 ≤ (fs.getD (i - 1) oj0).1) := by
  unfold flS
  by_cases h1 : oneF (fs.getD i oj0) = 0
  · rw [if_pos h1]
    by_cases h2 : 0 < i ∧ (fs.getD i oj0).1 ≤ (fs.getD (i - 1) oj0).1
    · rw [if_pos h2]; exact ⟨fun h => absurd h (by decide), fun h => absurd h2 h.2⟩
    · rw [if_neg h2]; exact ⟨fun _ => ⟨h1, h2⟩, fun _ => rfl⟩
  · rw [if_neg h1]; exact ⟨fun h => absurd h h1, fun h => absurd h.1 h1⟩
theorem cfl_iff {fs : List Oj} : cfr (flS fs) fs.length 0 = 0 ↔ (∀ p, p ∈ fs → oneF p = 0) ∧ fs.Pairwise (fun p q => p.1 < q.1) := by
  rw [cfr_all]
  constructor
  · intro h
    have hs : ∀ i, i < fs.length → oneF (fs.getD i oj0) = 0 ∧ ¬ (0 < i ∧ (fs.getD i oj0).1 ≤ (fs.getD (i - 1) oj0).1) := fun i hi => flS_iff.1 (h i (Nat.zero_le _) (by omega))
    refine ⟨fun p hp => ?_, ?_⟩
    · obtain ⟨i, hi, rfl⟩ := List.mem_iff_getElem.1 hp
      have := (hs i hi).1
      simpa [List.getD, hi] using this
    · rw [List.pairwise_iff_getElem]
      intro i j hi hj hij
      have up : ∀ (i j : Nat), i < j → j < fs.length → (fs.getD i oj0).1 < (fs.getD j oj0).1 := by
        intro i j
        induction j with
        | zero => intro h; omega
        | succ j ih =>
          intro h1 h2
          have h3 := (hs (j + 1) h2).2
          rw [show j + 1 - 1 = j by omega] at h3
          by_cases e : i = j
          · rw [e]; omega
          · have := ih (by omega) (by omega); omega
      have := up i j hij hj
      simpa [List.getD, hi, hj] using this
  · rintro ⟨h1, h2⟩ i _ hi
    rw [Nat.zero_add] at hi
    rw [flS_iff]
    refine ⟨?_, fun ⟨h0, h⟩ => ?_⟩
    · have := h1 fs[i] (List.getElem_mem hi)
      simpa [List.getD, hi] using this
    · rw [List.pairwise_iff_getElem] at h2
      have := h2 (i - 1) i (by omega) hi (by omega)
      have h3 : i - 1 < fs.length := by omega
      simp [List.getD, hi, h3] at h
      omega
theorem filF_iff {fs : List Oj} : filF fs = 0 ↔ IsFi fs := by
  unfold filF
  by_cases h1 : 4 < fs.length
  · rw [if_pos h1]; exact ⟨fun h => absurd h (by decide), fun h => absurd h1 (by have := h.len; omega)⟩
  · rw [if_neg h1]
    by_cases h2 : cfr (flS fs) fs.length 0 = 0
    · rw [if_pos h2]
      obtain ⟨h3, h4⟩ := cfl_iff.1 h2
      by_cases h5 : (blksF fs).Nodup
      · rw [if_pos h5]; exact ⟨fun _ => ⟨by omega, h3, h4, h5⟩, fun _ => rfl⟩
      · rw [if_neg h5]; exact ⟨fun h => absurd h (by decide), fun h => absurd h.nd h5⟩
    · rw [if_neg h2]; exact ⟨fun h => absurd h h2, fun h => absurd (cfl_iff.2 ⟨h.one, h.up⟩) h2⟩
theorem filF_many {fs : List Oj} (h : 4 < fs.length) : filF fs = 2 := by unfold filF; rw [if_pos h]
theorem filF_one {fs : List Oj} (h : ¬ 4 < fs.length) (h2 : cfr (flS fs) fs.length 0 ≠ 0) : filF fs = cfr (flS fs) fs.length 0 := by unfold filF; rw [if_neg h, if_neg h2]
theorem filF_tk {fs : List Oj} (h : ¬ 4 < fs.length) (h2 : cfr (flS fs) fs.length 0 = 0) : filF fs = if (blksF fs).Nodup then 0 else 7 := by unfold filF; rw [if_neg h, if_pos h2]
theorem blksF_len : ∀ {fs : List Oj}, (∀ p, p ∈ fs → oneF p = 0) → (blksF fs).length ≤ fs.length * 5
  | [], _ => by simp [blksF]
  | q :: r, h => by
    have h1 := oneF_len (h q (by simp))
    have h2 := blksF_len (fs := r) (fun p hp => h p (by simp [hp]))
    simp only [blksF, List.length_append, List.length_cons]
    omega
theorem blksF_in {fs : List Oj} (h : ∀ p, p ∈ fs → oneF p = 0) : ∀ x, x ∈ blksF fs → 3 ≤ x ∧ x ≤ 22 := by
  intro x hx
  obtain ⟨p, h1, h2⟩ := blksF_mem.1 hx
  exact oneF_in (h p h1) x h2
theorem map_of_sorted {xs ys : List Int} (hp : ys.Perm xs) (hs : ys.Pairwise (· ≤ ·)) (hin : ∀ x, x ∈ xs → 3 ≤ x ∧ x ≤ 22) : mapF ys = 0 ↔ xs.Nodup := by
  rw [mapF_iff]
  constructor
  · rintro ⟨_, h⟩
    exact (hp.nodup_iff).1 (h.imp fun h => by omega)
  · intro h
    refine ⟨fun x hx => hin x (hp.mem_iff.1 hx), ?_⟩
    have hn := (hp.nodup_iff).2 h
    exact hs.imp₂ (fun a b h1 h2 => by have : a ≠ b := h2; omega) hn
end Go.Proofs.YtlmaopljihbdkaaGreat
namespace Go.Proofs.YtlmaopljihbdkaaGreat
open Go.RowKit
theorem isName_yes (a : Int) (h1 : 1 ≤ a) (h2 : a ≤ 99) (w : World) : Calls Tryz.prog 224 #[.int .i64 a] w fun e w' => e = .returned (.bool true) ∧ w' = w := by
  have h1' : a ≥ 1 := h1
  go_enter Tryz.func224, Tryz.ntmps224
  go_wp2
  go_ret
  exact ⟨rfl, rfl⟩
theorem isName_no (a : Int) (h : ¬ (1 ≤ a ∧ a ≤ 99)) (w : World) : Calls Tryz.prog 224 #[.int .i64 a] w fun e w' => e = .returned (.bool false) ∧ w' = w := by
  by_cases h1 : 1 ≤ a
  · have h2 : ¬ a ≤ 99 := fun h2 => h ⟨h1, h2⟩
    have h1' : a ≥ 1 := h1
    clear h
    go_enter Tryz.func224, Tryz.ntmps224
    go_wp2
    go_ret
    exact ⟨rfl, rfl⟩
  · have h1' : ¬ a ≥ 1 := h1
    clear h
    go_enter Tryz.func224, Tryz.ntmps224
    go_wp2
    go_ret
    exact ⟨rfl, rfl⟩
theorem quo8 (s : Int) (h0 : 0 ≤ s) : (s + 7).tdiv 8 = nbF s := by
  unfold nbF
  exact Int.tdiv_eq_ediv_of_nonneg (by omega)
theorem blocksForI (s : Int) (h0 : 0 ≤ s) (h1 : s ≤ 1048576) (w : World) : Calls Tryz.prog 171 #[.int .i64 s] w fun e w' => e = .returned (.int .i64 (nbF s)) ∧ w' = w := by
  have e1 : IntKind.i64.wrap (s + 8) = s + 8 := by simp [IntKind.wrap, IntKind.bits, IntKind.signed]; omega
  have e2 : IntKind.i64.wrap (s + 8 - 1) = s + 7 := by simp [IntKind.wrap, IntKind.bits, IntKind.signed]; omega
  have e3 : IntKind.i64.wrap ((s + 7).tdiv 8) = nbF s := by rw [quo8 s h0]; unfold nbF; simp [IntKind.wrap, IntKind.bits, IntKind.signed]; omega
  go_enter Tryz.func171, Tryz.ntmps171
  go_wp2
  go_ret
  exact ⟨rfl, rfl⟩
theorem l8For (s : Int) (h0 : 0 ≤ s) (h1 : s ≤ 1048576) (w : World) : Calls Tryz.prog 117 #[.int .i64 s] w fun e w' => e = .returned (.int .i64 (nbF s)) ∧ w' = w := by
  have e1 : IntKind.i64.wrap (s + 8) = s + 8 := by simp [IntKind.wrap, IntKind.bits, IntKind.signed]; omega
  have e2 : IntKind.i64.wrap (s + 8 - 1) = s + 7 := by simp [IntKind.wrap, IntKind.bits, IntKind.signed]; omega
  have e3 : IntKind.i64.wrap ((s + 7).tdiv 8) = nbF s := by rw [quo8 s h0]; unfold nbF; simp [IntKind.wrap, IntKind.bits, IntKind.signed]; omega
  go_enter Tryz.func117, Tryz.ntmps117
  go_wp2
  go_ret
  exact ⟨rfl, rfl⟩
theorem oneF_range {p : Oj} (h : ¬ ((1 ≤ p.1 ∧ p.1 ≤ 99) ∧ 0 ≤ p.2.1 ∧ p.2.1 ≤ 40)) : oneF p = 3 := by unfold oneF; rw [if_pos h]
theorem oneF_form {p : Oj} (h : (1 ≤ p.1 ∧ p.1 ≤ 99) ∧ 0 ≤ p.2.1 ∧ p.2.1 ≤ 40) (h2 : (p.2.2.length : Int) ≠ nbF p.2.1) : oneF p = 1 := by unfold oneF; rw [if_neg (fun k => k h), if_pos h2]
theorem oneF_rest {p : Oj} (h : (1 ≤ p.1 ∧ p.1 ≤ 99) ∧ 0 ≤ p.2.1 ∧ p.2.1 ≤ 40) (h2 : (p.2.2.length : Int) = nbF p.2.1) : oneF p = if p.2.2.all inB = true then 0 else 3 := by unfold oneF; rw [if_neg (fun k => k h), if_neg (fun k => k h2)]
set_option maxHeartbeats 2000000 in
set_option maxRecDepth 4000 in
theorem implFileFault {S : Nat → Prop} {w : World} {b off : Nat} {p : Oj} (hp : RdFp S w b off p) :
    Calls Tryz.prog 200 #[.pointer (some ⟨b, off, none⟩)] w fun e w' => e = .returned (.int .i64 (oneF p)) ∧ ∃ q, w' = w.drewN q := by
  obtain ⟨y, g0, g1, g2, hy⟩ := hp
  obtain ⟨a, s, xs⟩ := p
  dsimp only at g0 g1 g2 hy
  obtain ⟨ay, cy, rfl⟩ := hy.shape
  have hm := hy.max
  have HY := hide hy
  obtain ⟨l, hl⟩ : ∃ l, xs.length = l := ⟨_, rfl⟩
  have HL := hide hl
  rw [hl] at g2 HY hm
  clear hy hl
  obtain ⟨R, hR⟩ : ∃ R, oneF (a, s, xs) = R := ⟨_, rfl⟩
  have HR := hide hR
  rw [hR]
  clear hR
  by_cases hn : 1 ≤ a ∧ a ≤ 99
  · have HN := hide hn
    clear hn
    by_cases h0 : s < 0
    · have HE : Hid ((3 : Int) = R) := (oneF_range (p := (a, s, xs)) (fun h => by have h' : 0 ≤ s := h.2.1; omega)).symm.trans HR.out
      go_enter Tryz.func200, Tryz.ntmps200
      go_wp2_with fail
      refine (isName_yes a HN.out.1 HN.out.2 w).mono ?_
      rintro e w' ⟨rfl, hw⟩
      have hw := hw.symm
      subst hw
      go_wp2
      go_ret
      exact ⟨ret_intF HE.out, 0, rfl⟩
    · by_cases h1 : 40 < s
      · have HE : Hid ((3 : Int) = R) := (oneF_range (p := (a, s, xs)) (fun h => by have h' : s ≤ 40 := h.2.2; omega)).symm.trans HR.out
        go_enter Tryz.func200, Tryz.ntmps200
        go_wp2_with fail
        refine (isName_yes a HN.out.1 HN.out.2 w).mono ?_
        rintro e w' ⟨rfl, hw⟩
        have hw := hw.symm
        subst hw
        go_wp2
        go_ret
        exact ⟨ret_intF HE.out, 0, rfl⟩
      · have HG : Hid ((1 ≤ a ∧ a ≤ 99) ∧ 0 ≤ s ∧ s ≤ 40) := ⟨HN.out, by omega, by omega⟩
        have hnb : 0 ≤ nbF s ∧ nbF s ≤ 5 := by unfold nbF; omega
        by_cases h2 : (l : Int) = nbF s
        · have HF := hide (oneF_rest (p := (a, s, xs)) HG.out (by show ((xs.length : Nat) : Int) = _; rw [HL.out]; exact h2))
          have HC := hide (blocksForI s HG.out.2.1 (by have := HG.out.2.2; omega))
          rw [← h2] at HC
          clear h2 hnb
          go_enter Tryz.func200, Tryz.ntmps200
          go_wp2_with fail
          refine (isName_yes a HN.out.1 HN.out.2 w).mono ?_
          rintro e w' ⟨rfl, hw⟩
          have hw := hw.symm
          subst hw
          go_wp2_with fail
          go_quiet ((go_at_call 171; exact Calls.quiet_of_same (HC.out _)))
          have g2q : (w.drewN nq).cell? ⟨b, off + 2, none⟩ = some (.slice ay l cy) := g2
          go_wp2
          go_loopw [41] (fun i wr => ∃ (k : Nat), k ≤ l ∧ i = .int .i64 k ∧ Hid (∀ j, j < k → inB (xs.getD j 0) = true) ∧ wr = w.drewN nq) (fun i _ => l - (RowKit.intOf i).toNat)
          case atStart => exact ⟨0, Nat.zero_le _, rfl, fun j hj => absurd hj (Nat.not_lt_zero _), by first | rfl | trivial⟩
          case round =>
            obtain ⟨k, hk, rfl, HA, rfl⟩ := hrel
            by_cases hlt : k < l
            · obtain ⟨b2, off2, rfl, q1⟩ := HY.out.at (k := k) (by rw [HL.out]; exact hlt)
              obtain ⟨x, hx⟩ : ∃ x, xs.getD k 0 = x := ⟨_, rfl⟩
              rw [hx] at q1
              have q1' : (w.drewN nq).cell? ⟨b2, off2 + k, none⟩ = some (.int .i64 x) := q1
              clear q1
              have HX := hide hx
              have hk0 : (0 : Int) ≤ (k : Int) := by omega
              have hk1 : (k : Int) < (l : Int) := by omega
              clear hx
              by_cases hb1 : x < 3
              · have HE : Hid ((3 : Int) = R) := by
                  rw [Hid, ← HR.out, HF.out, if_neg]
                  intro h
                  have := List.all_eq_true.1 h x (by rw [← HX.out]; simp [List.getD, show k < xs.length by rw [HL.out]; exact hlt])
                  simp [inB] at this
                  omega
                go_wp2
                go_ret
                exact ⟨ret_intF HE.out, _, rfl⟩
              · by_cases hb2 : 22 < x
                · have HE : Hid ((3 : Int) = R) := by
                    rw [Hid, ← HR.out, HF.out, if_neg]
                    intro h
                    have := List.all_eq_true.1 h x (by rw [← HX.out]; simp [List.getD, show k < xs.length by rw [HL.out]; exact hlt])
                    simp [inB] at this
                    omega
                  go_wp2
                  go_ret
                  exact ⟨ret_intF HE.out, _, rfl⟩
                · have HA' : Hid (∀ j, j < k + 1 → inB (xs.getD j 0) = true) := fun j hj => by
                    by_cases e : j = k
                    · subst e; rw [HX.out]; simp [inB]; omega
                    · exact HA.out j (by omega)
                  go_wp2
                  go_roundw
                  case rel => exact ⟨k + 1, hlt, by go_num, HA'.out, by first | rfl | trivial⟩
                  case measure => simp [RowKit.intOf]; omega
            · have hkn : k = l := by omega
              subst hkn
              have HE : Hid ((0 : Int) = R) := by
                rw [Hid, ← HR.out, HF.out, if_pos]
                rw [List.all_eq_true]
                intro x hx
                obtain ⟨i, hi, rfl⟩ := List.mem_iff_getElem.1 hx
                have := HA.out i (by rw [← HL.out]; exact hi)
                simpa [List.getD, hi] using this
              go_wp2
              go_ret
              exact ⟨ret_intF HE.out, _, rfl⟩
        · have HE : Hid ((1 : Int) = R) := (oneF_form (p := (a, s, xs)) HG.out (by show ((xs.length : Nat) : Int) ≠ _; rw [HL.out]; exact h2)).symm.trans HR.out
          have HC := hide (blocksForI s HG.out.2.1 (by have := HG.out.2.2; omega))
          obtain ⟨N, hN⟩ : ∃ N, nbF s = N := ⟨_, rfl⟩
          rw [hN] at h2 HC
          have h2b : ((l : Int) == N) = false := by simpa using h2
          clear hN hnb
          go_enter Tryz.func200, Tryz.ntmps200
          go_wp2_with fail
          refine (isName_yes a HN.out.1 HN.out.2 w).mono ?_
          rintro e w' ⟨rfl, hw⟩
          have hw := hw.symm
          subst hw
          go_wp2_with fail
          go_quiet ((go_at_call 171; exact Calls.quiet_of_same (HC.out _)))
          go_wp2
          go_ret
          exact ⟨ret_intF HE.out, _, rfl⟩
  · have HE : Hid ((3 : Int) = R) := (oneF_range (p := (a, s, xs)) (fun h => hn h.1)).symm.trans HR.out
    have HN := hide hn
    clear hn
    go_enter Tryz.func200, Tryz.ntmps200
    go_wp2_with fail
    refine (isName_no a HN.out w).mono ?_
    rintro e w' ⟨rfl, hw⟩
    have hw := hw.symm
    subst hw
    go_wp2
    go_ret
    exact ⟨ret_intF HE.out, 0, rfl⟩
theorem l8SizeY (s : Int) (h0 : 0 ≤ s) (h1 : s ≤ 40) (w : World) : Calls Tryz.prog 201 #[.int .i64 s] w fun e w' => e = .returned (.bool true) ∧ w' = w := by
  go_enter Tryz.func201, Tryz.ntmps201
  go_wp2_with fail
  refine (l1In_yes s 0 40 h0 h1 w).mono ?_
  rintro e w' ⟨rfl, hw⟩
  have hw := hw.symm
  subst hw
  go_wp2
  go_ret
  exact ⟨rfl, rfl⟩
theorem l8SizeN (s : Int) (h : s < 0 ∨ 40 < s) (w : World) : Calls Tryz.prog 201 #[.int .i64 s] w fun e w' => e = .returned (.bool false) ∧ w' = w := by
  go_enter Tryz.func201, Tryz.ntmps201
  go_wp2_with fail
  refine (l1In_no s 0 40 h w).mono ?_
  rintro e w' ⟨rfl, hw⟩
  have hw := hw.symm
  subst hw
  go_wp2
  go_ret
  exact ⟨rfl, rfl⟩
set_option maxHeartbeats 2000000 in
set_option maxRecDepth 4000 in
theorem l8One {S : Nat → Prop} {w : World} {b off : Nat} {p : Oj} (hp : RdFp S w b off p) :
    Calls Tryz.prog 177 #[.pointer (some ⟨b, off, none⟩)] w fun e w' => e = .returned (.int .i64 (oneF p)) ∧ ∃ q, w' = w.drewN q := by
  obtain ⟨y, g0, g1, g2, hy⟩ := hp
  obtain ⟨a, s, xs⟩ := p
  dsimp only at g0 g1 g2 hy
  obtain ⟨ay, cy, rfl⟩ := hy.shape
  have hm := hy.max
  have HY := hide hy
  obtain ⟨l, hl⟩ : ∃ l, xs.length = l := ⟨_, rfl⟩
  have HL := hide hl
  rw [hl] at g2 HY hm
  clear hy hl
  obtain ⟨R, hR⟩ : ∃ R, oneF (a, s, xs) = R := ⟨_, rfl⟩
  have HR := hide hR
  rw [hR]
  clear hR
  by_cases hn : 1 ≤ a ∧ a ≤ 99
  · have HN := hide hn
    clear hn
    by_cases h0 : 0 ≤ s ∧ s ≤ 40
    · have HG : Hid ((1 ≤ a ∧ a ≤ 99) ∧ 0 ≤ s ∧ s ≤ 40) := ⟨HN.out, h0⟩
      clear h0
      by_cases h2 : (l : Int) = nbF s
      · have HF := hide (oneF_rest (p := (a, s, xs)) HG.out (by show ((xs.length : Nat) : Int) = _; rw [HL.out]; exact h2))
        have HC := hide (l8For s HG.out.2.1 (by have := HG.out.2.2; omega))
        rw [← h2] at HC
        clear h2
        go_enter Tryz.func177, Tryz.ntmps177
        go_wp2_with fail
        refine (l1In_yes a 1 99 HN.out.1 HN.out.2 w).mono ?_
        rintro e w' ⟨rfl, hw⟩
        have hw := hw.symm
        subst hw
        go_wp2_with fail
        refine (l8SizeY s HG.out.2.1 HG.out.2.2 _).mono ?_
        rintro e w' ⟨rfl, hw⟩
        have hw := hw.symm
        subst hw
        go_wp2_with fail
        go_quiet ((go_at_call 117; exact Calls.quiet_of_same (HC.out _)))
        have g2q : (w.drewN nq).cell? ⟨b, off + 2, none⟩ = some (.slice ay l cy) := g2
        clear g0 g1 g2
        go_wp2
        go_loopw [3] (fun i wr => ∃ (k : Nat), k ≤ l ∧ i = .int .i64 k ∧ Hid (∀ j, j < k → inB (xs.getD j 0) = true) ∧ wr = w.drewN nq) (fun i _ => l - (RowKit.intOf i).toNat)
        case atStart => exact ⟨0, Nat.zero_le _, rfl, fun j hj => absurd hj (Nat.not_lt_zero _), by first | rfl | trivial⟩
        case round =>
          obtain ⟨k, hk, rfl, HA, rfl⟩ := hrel
          by_cases hlt : k < l
          · obtain ⟨b2, off2, rfl, q1⟩ := HY.out.at (k := k) (by rw [HL.out]; exact hlt)
            obtain ⟨x, hx⟩ : ∃ x, xs.getD k 0 = x := ⟨_, rfl⟩
            rw [hx] at q1
            have q1' : (w.drewN nq).cell? ⟨b2, off2 + k, none⟩ = some (.int .i64 x) := q1
            clear q1
            have HX := hide hx
            have hk0 : (0 : Int) ≤ (k : Int) := by omega
            have hk1 : (k : Int) < (l : Int) := by omega
            clear hx
            by_cases hb1 : 3 ≤ x ∧ x ≤ 22
            · have HA' : Hid (∀ j, j < k + 1 → inB (xs.getD j 0) = true) := fun j hj => by
                by_cases e : j = k
                · subst e; rw [HX.out]; simp [inB]; omega
                · exact HA.out j (by omega)
              have HI := hide (fun W => l1In_yes x 3 22 hb1.1 hb1.2 W)
              clear hb1
              go_wp2_with fail
              refine (HI.out _).mono ?_
              rintro e w2 ⟨rfl, hw⟩
              have hw := hw.symm
              subst hw
              go_wp2
              go_roundw
              case rel => exact ⟨k + 1, hlt, by go_num, HA'.out, by first | rfl | trivial⟩
              case measure => simp [RowKit.intOf]; omega
            · have HE : Hid ((3 : Int) = R) := by
                rw [Hid, ← HR.out, HF.out, if_neg]
                intro h
                have := List.all_eq_true.1 h x (by rw [← HX.out]; simp [List.getD, show k < xs.length by rw [HL.out]; exact hlt])
                simp [inB] at this
                omega
              have HI := hide (fun W => l1In_no x 3 22 (by omega) W)
              clear hb1
              go_wp2_with fail
              refine (HI.out _).mono ?_
              rintro e w2 ⟨rfl, hw⟩
              have hw := hw.symm
              subst hw
              go_wp2
              go_ret
              exact ⟨ret_intF HE.out, _, rfl⟩
          · have hkn : k = l := by omega
            subst hkn
            have HE : Hid ((0 : Int) = R) := by
              rw [Hid, ← HR.out, HF.out, if_pos]
              rw [List.all_eq_true]
              intro x hx
              obtain ⟨i, hi, rfl⟩ := List.mem_iff_getElem.1 hx
              have := HA.out i (by rw [← HL.out]; exact hi)
              simpa [List.getD, hi] using this
            go_wp2
            go_ret
            exact ⟨ret_intF HE.out, _, rfl⟩
      · have HE : Hid ((1 : Int) = R) := (oneF_form (p := (a, s, xs)) HG.out (by show ((xs.length : Nat) : Int) ≠ _; rw [HL.out]; exact h2)).symm.trans HR.out
        have HC := hide (l8For s HG.out.2.1 (by have := HG.out.2.2; omega))
        obtain ⟨N, hN⟩ : ∃ N, nbF s = N := ⟨_, rfl⟩
        rw [hN] at h2 HC
        have h2b : ((l : Int) == N) = false := by simpa using h2
        clear hN
        go_enter Tryz.func177, Tryz.ntmps177
        go_wp2_with fail
        refine (l1In_yes a 1 99 HN.out.1 HN.out.2 w).mono ?_
        rintro e w' ⟨rfl, hw⟩
        have hw := hw.symm
        subst hw
        go_wp2_with fail
        refine (l8SizeY s HG.out.2.1 HG.out.2.2 _).mono ?_
        rintro e w' ⟨rfl, hw⟩
        have hw := hw.symm
        subst hw
        go_wp2_with fail
        go_quiet ((go_at_call 117; exact Calls.quiet_of_same (HC.out _)))
        go_wp2
        go_ret
        exact ⟨ret_intF HE.out, _, rfl⟩
    · have HE : Hid ((3 : Int) = R) := (oneF_range (p := (a, s, xs)) (fun h => h0 h.2)).symm.trans HR.out
      have HS := hide (fun W => l8SizeN s (by omega) W)
      clear h0
      go_enter Tryz.func177, Tryz.ntmps177
      go_wp2_with fail
      refine (l1In_yes a 1 99 HN.out.1 HN.out.2 w).mono ?_
      rintro e w' ⟨rfl, hw⟩
      have hw := hw.symm
      subst hw
      go_wp2_with fail
      refine (HS.out _).mono ?_
      rintro e w' ⟨rfl, hw⟩
      have hw := hw.symm
      subst hw
      go_wp2
      go_ret
      exact ⟨ret_intF HE.out, 0, rfl⟩
  · have HE : Hid ((3 : Int) = R) := (oneF_range (p := (a, s, xs)) (fun h => hn h.1)).symm.trans HR.out
    have HN := hide (fun W => l1In_no a 1 99 (by omega) W)
    clear hn
    go_enter Tryz.func177, Tryz.ntmps177
    go_wp2_with fail
    refine (HN.out w).mono ?_
    rintro e w' ⟨rfl, hw⟩
    have hw := hw.symm
    subst hw
    go_wp2
    go_ret
    exact ⟨ret_intF HE.out, 0, rfl⟩
end Go.Proofs.YtlmaopljihbdkaaGreat
namespace Go.Proofs.YtlmaopljihbdkaaGreat
open Go.RowKit
end Go.Proofs.YtlmaopljihbdkaaGreat
namespace Go.Proofs.YtlmaopljihbdkaaGreat
open Go.RowKit
end Go.Proofs.YtlmaopljihbdkaaGreat
namespace Go.Proofs.YtlmaopljihbdkaaGreat
open Go.RowKit
end Go.Proofs.YtlmaopljihbdkaaGreat
namespace Go.Proofs.YtlmaopljihbdkaaGreat
open Go.RowKit
def EndsFi (x : Int) (rs : List Oj) (w : World) (e : Ending) (w' : World) : Prop :=
  ∃ z, e = .returned (.agg #[.int .i64 x, z]) ∧ Below w.heap.size w w' ∧ OwJ (fun b => w.heap.size ≤ b ∧ b < w'.heap.size) w' z rs
theorem IvJ.mono {lo hi lo' : Nat} {w : World} {v : Value} {ps : List Oj} (h : IvJ lo hi w v ps) (h1 : lo' ≤ lo) : IvJ lo' hi w v ps := by
  obtain ⟨S, k0, k1, k2⟩ := h
  exact ⟨S, k0, fun b hb => ⟨Nat.le_trans h1 (k1 b hb).1, (k1 b hb).2⟩, k2⟩
end Go.Proofs.YtlmaopljihbdkaaGreat
namespace Go.Proofs.YtlmaopljihbdkaaGreat
open Go.RowKit
theorem BuiltP.empty (w : World) (P : Nat → Prop) (hP : P w.heap.size) (ps : List (Int × List Int)) : BuiltP P (w.alloc (.cells #[] 74)) (.slice (some ⟨w.heap.size, 0, none⟩) 0 0) 0 ps :=
  ⟨fun _ => .bool false, fun _ => 0, World.ownsRow_made w #[] 0 (Nat.zero_le _) (by unfold maxLen; omega) (by simp), fun r h => by injection h with h; subst h; exact hP, Inner.zero _ _ _ _ _ _⟩
set_option maxHeartbeats 1000000 in
set_option maxRecDepth 4000 in
theorem l1Puts {S : Nat → Prop} {w : World} {u : Value} {ps : List (Int × List Int)} (hu : RdP S w u ps) (hm : ps.length ≤ 1048576) (hl : ∀ i, i < ps.length → (ps.getD i (0, [])).2.length ≤ 1048576) :
    Calls Tryz.prog 120 #[u] w fun e w' => ∃ z, e = .returned z ∧ Below w.heap.size w w' ∧ BuiltP (w.heap.size ≤ ·) w' z ps.length ps := by
  obtain ⟨ao, c, rfl, _⟩ := hu.shape
  obtain ⟨i0, hi, hz0, hz1, hz2⟩ := info_parts Tryz.infoPut
  have HU := hide hu
  have HL := hide hl
  obtain ⟨n, hn⟩ : ∃ n, ps.length = n := ⟨_, rfl⟩
  rw [hn] at hm ⊢
  have HN := hide hn
  rw [hn] at HU
  clear hu hl hn
  go_enter Tryz.func120, Tryz.ntmps120
  go_wp2
  go_loopw [3, 4] (fun v i wr => ∃ k : Nat, k ≤ n ∧ i = .int .i64 k ∧ Hid (BuiltP (w.heap.size ≤ ·) wr v k ps) ∧ Hid (Below w.heap.size w wr)) (fun _ i _ => n - (intOf i).toNat)
  case atStart => exact ⟨0, Nat.zero_le _, rfl, BuiltP.empty _ _ (Nat.le_refl _) _, below_alloc _ _⟩
  case round =>
    obtain ⟨k, hk, rfl, HBu, HB⟩ := hrel
    by_cases hlt : k < n
    · obtain ⟨b, off, V, rfl, q1, q2, q3⟩ := HU.out.at (k := k) (by rw [HN.out]; exact hlt)
      obtain ⟨ao3, c3, rfl⟩ := q3.shape
      have g1 := cell_later HB.out q1
      have g2 := cell_later HB.out q2
      obtain ⟨x, hx⟩ : ∃ x, (ps.getD k (0, [])).1 = x := ⟨_, rfl⟩
      obtain ⟨l, hl⟩ : ∃ l, (ps.getD k (0, [])).2.length = l := ⟨_, rfl⟩
      have HX := hide hx
      have HLen := hide hl
      have HLk := hide (HL.out k (by rw [HN.out]; exact hlt))
      have R := hide (q3.later HB.out)
      rw [hx] at g1
      rw [hl] at g2 R
      have hbl := World.block_lt_of_cell? _ _ q1
      obtain ⟨V2, Bk2, hown, hpr, hin⟩ := HBu.out
      have HOw0 := hide hown
      have HPr := hide hpr
      have HIn := hide hin
      have hz := HB.out.size
      have hk0 : (0 : Int) ≤ (k : Int) := Int.natCast_nonneg _
      have hk1 : (k : Int) < (n : Int) := by omega
      clear q1 q2 q3 hx hl hin hown hpr
      go_wp2_with fail
      go_region_held3 (fun w' => w'.cell? ⟨b, off + k * 2, none⟩ = some (.int .i64 x) ∧ w'.cell? ⟨b, off + k * 2 + 1, none⟩ = some (.slice ao3 l c3)) (first | exact ⟨g1, g2⟩ | exact ⟨e0, e1⟩ | exact ⟨cell_later (below_alloc _ _) e0, cell_later (below_alloc _ _) e1⟩ | exact ⟨s0, s1⟩)
        (first
          | (go_at_call 119; refine (l1Ints (R.out.drewN 1) HLk.out).mono ?_; rintro e w1 ⟨z, rfl, hb1, ho1⟩; obtain ⟨ao4, c4, rfl⟩ := ho1.shape; have e0 : w1.cell? ⟨b, off + k * 2, none⟩ = some (.int .i64 x) := cell_later hb1 g1; have e1 : w1.cell? ⟨b, off + k * 2 + 1, none⟩ = some (.slice ao3 l c3) := cell_later hb1 g2; have HB1 := hide (below_on (below_drewN wr 1) hb1); have HO1 := hide ho1; have hzz : wr.heap.size ≤ w1.heap.size := hb1.size; clear hb1 ho1)
          | (refine step_append_lies _ (by rfl) _ _ _ (by rfl) 0 74 i0 (.agg #[.int .i64 0, .slice none 0 0]) 2 32 Tryz.underlying27 hi hz0 hz1 hz2 rfl (by omega) _ k _ (by rfl) (ownsRow_later (ownsRow_later HOw0.out HB1.out) (below_alloc w1 (.cells #[.int .i64 x, .slice ao4 (ps.getD k (0, [])).2.length c4] 74))) ⟨w1.heap.size, 0, none⟩ 1 1 [.int .i64 x, .slice ao4 (ps.getD k (0, [])).2.length c4] (by rfl) (by rfl) (World.news_of_block (cs := #[.int .i64 x, .slice ao4 (ps.getD k (0, [])).2.length c4]) (t := 74) (fr := (0, 0)) (heap_alloc_new w1 _)) cells2_one (by omega) (by unfold maxLen; omega) (by omega) (Nat.zero_le _) (w1.heap.size + 1) (by simp) ?_; intro g cap w3 hown3 hgrow hat hlt3; have s0 : w3.cell? ⟨b, off + k * 2, none⟩ = some (.int .i64 x) := (hgrow.cell_far _ (by simp; omega) (fun e => by have := HPr.out _ e.symm; dsimp only at this; omega)).trans (cell_later (below_alloc _ _) e0); have s1 : w3.cell? ⟨b, off + k * 2 + 1, none⟩ = some (.slice ao3 l c3) := (hgrow.cell_far _ (by simp; omega) (fun e => by have := HPr.out _ e.symm; dsimp only at this; omega)).trans (cell_later (below_alloc _ _) e1)))
      have HS := hide (BuiltP.step (P' := (w.heap.size ≤ ·)) HIn.out HOw0.out HPr.out (fun _ h => h) (fun b hb => Nat.le_trans hz hb) HB1.out HO1.out (below_alloc w1 (.cells #[.int .i64 x, .slice ao4 (ps.getD k (0, [])).2.length c4] 74)) (by rw [HX.out]; exact hown3) hgrow (by simpa using hat))
      have HB3 := hide ((below_on (below_on HB.out HB1.out) (below_alloc w1 (.cells #[.int .i64 x, .slice ao4 (ps.getD k (0, [])).2.length c4] 74))).grown hgrow (by simp; omega) (fun r hr => HPr.out r hr))
      clear hown3 hgrow hat s0 s1 e0 e1 hzz
      go_wp2
      go_roundw
      case rel => exact ⟨k + 1, hlt, by go_num, HS.out, HB3.out⟩
      case measure => simp [intOf]; omega
    · have hkn : k = n := by omega
      subst hkn
      go_wp2
      go_ret
      exact ⟨_, rfl, HB.out, HBu.out⟩
end Go.Proofs.YtlmaopljihbdkaaGreat
