/- Fm Fi1 Fi FiS FiZ FiV in one text: what each says stands at its head below. -/
import Derived.Test.YtiommfabhchgdaaG11
import Derived.Test.YtiommfabhchgdaaG29
import Derived.Test.YtiommfabhchgdaaG24
import Derived.Test.YtiommfabhchgdaaG09
import Derived.BigQuiet
import Derived.Test.YtiommfabhchgdaaG08
import Derived.Test.YtiommfabhchgdaaG15
import Derived.Test.YtiommfabhchgdaaG17
/- Chapter 8: the mathematics of files: the fault of a list of files. -/
namespace Go.Proofs.Ytiommfabhchgdaa
open Go.RowKit

/-- How many blocks so many words need. -/
def nbF (s : Int) : Int := (s + 7) / 8
def inB (x : Int) : Bool := decide (3 ≤ x ∧ x ≤ 22)
/-- The fault of one file. -/
def oneF (p : Oj) : Int :=
  if ¬ ((1 ≤ p.1 ∧ p.1 ≤ 99) ∧ 0 ≤ p.2.1 ∧ p.2.1 ≤ 40) then 3 else if (p.2.2.length : Int) ≠ nbF p.2.1 then 1 else if p.2.2.all inB = true then 0 else 3
/-- What is asked of the i-th file. -/
def flS (fs : List Oj) (i : Nat) : Int :=
  if oneF (fs.getD i oj0) = 0 then (if 0 < i ∧ (fs.getD i oj0).1 ≤ (fs.getD (i - 1) oj0).1 then 1 else 0) else oneF (fs.getD i oj0)
/-- All blocks, file by file. -/
def blksF : List Oj → List Int
  | [] => []
  | p :: r => p.2.2 ++ blksF r
theorem blksF_snoc : ∀ (fs : List Oj) (p : Oj), blksF (fs ++ [p]) = blksF fs ++ p.2.2
  | [], p => by simp [blksF]
  | q :: r, p => by simp [blksF, blksF_snoc r p]
theorem blksF_append : ∀ (fs gs : List Oj), blksF (fs ++ gs) = blksF fs ++ blksF gs
  | [], gs => by simp [blksF]
  | q :: r, gs => by simp [blksF, blksF_append r gs]
theorem blksF_mem {x : Int} : ∀ {fs : List Oj}, x ∈ blksF fs ↔ ∃ p, p ∈ fs ∧ x ∈ p.2.2
  | [] => by simp [blksF]
  | q :: r => by
    simp only [blksF, List.mem_append, blksF_mem (fs := r), List.mem_cons]
    constructor
    · rintro (h | ⟨p, h1, h2⟩)
      · exact ⟨q, Or.inl rfl, h⟩
      · exact ⟨p, Or.inr h1, h2⟩
    · rintro ⟨p, rfl | h1, h2⟩
      · exact Or.inl h2
      · exact Or.inr ⟨p, h1, h2⟩
/-- The fault of a list of files. -/
def filF (fs : List Oj) : Int :=
  if 4 < fs.length then 2 else if cfr (flS fs) fs.length 0 = 0 then (if (blksF fs).Nodup then 0 else 7) else cfr (flS fs) fs.length 0
/-- What files without a fault are. -/
structure IsFi (fs : List Oj) : Prop where
  len : fs.length ≤ 4
  one : ∀ p, p ∈ fs → oneF p = 0
  up : fs.Pairwise (fun p q => p.1 < q.1)
  nd : (blksF fs).Nodup
theorem oneF_iff {p : Oj} : oneF p = 0 ↔ ((1 ≤ p.1 ∧ p.1 ≤ 99) ∧ 0 ≤ p.2.1 ∧ p.2.1 ≤ 40) ∧ (p.2.2.length : Int) = nbF p.2.1 ∧ p.2.2.all inB = true := by
  unfold oneF
  by_cases h1 : (1 ≤ p.1 ∧ p.1 ≤ 99) ∧ 0 ≤ p.2.1 ∧ p.2.1 ≤ 40
  · rw [if_neg (fun h => h h1)]
    by_cases h2 : (p.2.2.length : Int) = nbF p.2.1
    · rw [if_neg (fun h => h h2)]
      by_cases h3 : p.2.2.all inB = true
      · rw [if_pos h3]; exact ⟨fun _ => ⟨h1, h2, h3⟩, fun _ => rfl⟩
      · rw [if_neg h3]; exact ⟨fun h => absurd h (by decide), fun h => absurd h.2.2 h3⟩
    · rw [if_pos h2]; exact ⟨fun h => absurd h (by decide), fun h => absurd h.2.1 h2⟩
  · rw [if_pos h1]; exact ⟨fun h => absurd h (by decide), fun h => absurd h.1 h1⟩
theorem oneF_len {p : Oj} (h : oneF p = 0) : p.2.2.length ≤ 5 := by
  obtain ⟨h1, h2, _⟩ := oneF_iff.1 h
  unfold nbF at h2
  omega
theorem oneF_in {p : Oj} (h : oneF p = 0) : ∀ x, x ∈ p.2.2 → 3 ≤ x ∧ x ≤ 22 := by
  intro x hx
  have := List.all_eq_true.1 (oneF_iff.1 h).2.2 x hx
  simpa [inB] using this
theorem flS_iff {fs : List Oj} {i : Nat} : flS fs i = 0 ↔ oneF (fs.getD i oj0) = 0 ∧ ¬ (0 < i ∧ (fs.getD i oj0).1 ≤ (fs.getD (i - 1) oj0).1) := by
  unfold flS
  by_cases h1 : oneF (fs.getD i oj0) = 0
  · rw [if_pos h1]
    by_cases h2 : 0 < i ∧ (fs.getD i oj0).1 ≤ (fs.getD (i - 1) oj0).1
    · rw [if_pos h2]; exact ⟨fun h => absurd h (by decide), fun h => absurd h2 h.2⟩
    · rw [if_neg h2]; exact ⟨fun _ => ⟨h1, h2⟩, fun _ => rfl⟩
  · rw [if_neg h1]; exact ⟨fun h => absurd h h1, fun h => absurd h.1 h1⟩
theorem cfl_iff {fs : List Oj} : cfr (flS fs) fs.length 0 = 0 ↔ (∀ p, p ∈ fs → oneF p = 0) ∧ fs.Pairwise (fun p q => p.1 < q.1) := by
  rw [cfr_all]
  constructor
  · intro h
    have hs : ∀ i, i < fs.length → oneF (fs.getD i oj0) = 0 ∧ ¬ (0 < i ∧ (fs.getD i oj0).1 ≤ (fs.getD (i - 1) oj0).1) := fun i hi => flS_iff.1 (h i (Nat.zero_le _) (by omega))
    refine ⟨fun p hp => ?_, ?_⟩
    · obtain ⟨i, hi, rfl⟩ := List.mem_iff_getElem.1 hp
      have := (hs i hi).1
      simpa [List.getD, hi] using this
    · rw [List.pairwise_iff_getElem]
      intro i j hi hj hij
      have up : ∀ (i j : Nat), i < j → j < fs.length → (fs.getD i oj0).1 < (fs.getD j oj0).1 := by
        intro i j
        induction j with
        | zero => intro h; omega
        | succ j ih =>
          intro h1 h2
          have h3 := (hs (j + 1) h2).2
          rw [show j + 1 - 1 = j by omega] at h3
          by_cases e : i = j
          · rw [e]; omega
          · have := ih (by omega) (by omega); omega
      have := up i j hij hj
      simpa [List.getD, hi, hj] using this
  · rintro ⟨h1, h2⟩ i _ hi
    rw [Nat.zero_add] at hi
    rw [flS_iff]
    refine ⟨?_, fun ⟨h0, h⟩ => ?_⟩
    · have := h1 fs[i] (List.getElem_mem hi)
      simpa [List.getD, hi] using this
    · rw [List.pairwise_iff_getElem] at h2
      have := h2 (i - 1) i (by omega) hi (by omega)
      have h3 : i - 1 < fs.length := by omega
      simp [List.getD, hi, h3] at h
      omega
theorem filF_iff {fs : List Oj} : filF fs = 0 ↔ IsFi fs := by
  unfold filF
  by_cases h1 : 4 < fs.length
  · rw [if_pos h1]; exact ⟨fun h => absurd h (by decide), fun h => absurd h1 (by have := h.len; omega)⟩
  · rw [if_neg h1]
    by_cases h2 : cfr (flS fs) fs.length 0 = 0
    · rw [if_pos h2]
      obtain ⟨h3, h4⟩ := cfl_iff.1 h2
      by_cases h5 : (blksF fs).Nodup
      · rw [if_pos h5]; exact ⟨fun _ => ⟨by omega, h3, h4, h5⟩, fun _ => rfl⟩
      · rw [if_neg h5]; exact ⟨fun h => absurd h (by decide), fun h => absurd h.nd h5⟩
    · rw [if_neg h2]; exact ⟨fun h => absurd h h2, fun h => absurd (cfl_iff.2 ⟨h.one, h.up⟩) h2⟩
theorem filF_many {fs : List Oj} (h : 4 < fs.length) : filF fs = 2 := by unfold filF; rw [if_pos h]
theorem filF_one {fs : List Oj} (h : ¬ 4 < fs.length) (h2 : cfr (flS fs) fs.length 0 ≠ 0) : filF fs = cfr (flS fs) fs.length 0 := by unfold filF; rw [if_neg h, if_neg h2]
theorem filF_tk {fs : List Oj} (h : ¬ 4 < fs.length) (h2 : cfr (flS fs) fs.length 0 = 0) : filF fs = if (blksF fs).Nodup then 0 else 7 := by unfold filF; rw [if_neg h, if_pos h2]
theorem blksF_len : ∀ {fs : List Oj}, (∀ p, p ∈ fs → oneF p = 0) → (blksF fs).length ≤ fs.length * 5
  | [], _ => by simp [blksF]
  | q :: r, h => by
    have h1 := oneF_len (h q (by simp))
    have h2 := blksF_len (fs := r) (fun p hp => h p (by simp [hp]))
    simp only [blksF, List.length_append, List.length_cons]
    omega
theorem blksF_in {fs : List Oj} (h : ∀ p, p ∈ fs → oneF p = 0) : ∀ x, x ∈ blksF fs → 3 ≤ x ∧ x ≤ 22 := by
  intro x hx
  obtain ⟨p, h1, h2⟩ := blksF_mem.1 hx
  exact oneF_in (h p h1) x h2
/-- Sorted, the blocks are a map just where none stands twice. -/
theorem map_of_sorted {xs ys : List Int} (hp : ys.Perm xs) (hs : ys.Pairwise (· ≤ ·)) (hin : ∀ x, x ∈ xs → 3 ≤ x ∧ x ≤ 22) : mapF ys = 0 ↔ xs.Nodup := by
  rw [mapF_iff]
  constructor
  · rintro ⟨_, h⟩
    exact (hp.nodup_iff).1 (h.imp fun h => by omega)
  · intro h
    refine ⟨fun x hx => hin x (hp.mem_iff.1 hx), ?_⟩
    have hn := (hp.nodup_iff).2 h
    exact hs.imp₂ (fun a b h1 h2 => by have : a ≠ b := h2; omega) hn
end Go.Proofs.Ytiommfabhchgdaa
/- Chapter 8: the fault of one file, both sides walked. -/
namespace Go.Proofs.Ytiommfabhchgdaa
open Go.RowKit
theorem quo8 (s : Int) (h0 : 0 ≤ s) : (s + 7).tdiv 8 = nbF s := by
  unfold nbF
  exact Int.tdiv_eq_ediv_of_nonneg (by omega)
theorem blocksForI (s : Int) (h0 : 0 ≤ s) (h1 : s ≤ 1048576) (w : World) : Calls Try.prog 81 #[.int .i64 s] w fun e w' => e = .returned (.int .i64 (nbF s)) ∧ w' = w := by
  have e1 : IntKind.i64.wrap (s + 8) = s + 8 := by simp [IntKind.wrap, IntKind.bits, IntKind.signed]; omega
  have e2 : IntKind.i64.wrap (s + 8 - 1) = s + 7 := by simp [IntKind.wrap, IntKind.bits, IntKind.signed]; omega
  have e3 : IntKind.i64.wrap ((s + 7).tdiv 8) = nbF s := by rw [quo8 s h0]; unfold nbF; simp [IntKind.wrap, IntKind.bits, IntKind.signed]; omega
  go_enter Try.func81, Try.ntmps81
  go_wp2
  go_ret
  exact ⟨rfl, rfl⟩
theorem l8For (s : Int) (h0 : 0 ≤ s) (h1 : s ≤ 1048576) (w : World) : Calls Try.prog 75 #[.int .i64 s] w fun e w' => e = .returned (.int .i64 (nbF s)) ∧ w' = w := by
  have e1 : IntKind.i64.wrap (s + 8) = s + 8 := by simp [IntKind.wrap, IntKind.bits, IntKind.signed]; omega
  have e2 : IntKind.i64.wrap (s + 8 - 1) = s + 7 := by simp [IntKind.wrap, IntKind.bits, IntKind.signed]; omega
  have e3 : IntKind.i64.wrap ((s + 7).tdiv 8) = nbF s := by rw [quo8 s h0]; unfold nbF; simp [IntKind.wrap, IntKind.bits, IntKind.signed]; omega
  go_enter Try.func75, Try.ntmps75
  go_wp2
  go_ret
  exact ⟨rfl, rfl⟩
theorem oneF_range {p : Oj} (h : ¬ ((1 ≤ p.1 ∧ p.1 ≤ 99) ∧ 0 ≤ p.2.1 ∧ p.2.1 ≤ 40)) : oneF p = 3 := by unfold oneF; rw [if_pos h]
theorem oneF_form {p : Oj} (h : (1 ≤ p.1 ∧ p.1 ≤ 99) ∧ 0 ≤ p.2.1 ∧ p.2.1 ≤ 40) (h2 : (p.2.2.length : Int) ≠ nbF p.2.1) : oneF p = 1 := by unfold oneF; rw [if_neg (fun k => k h), if_pos h2]
theorem oneF_rest {p : Oj} (h : (1 ≤ p.1 ∧ p.1 ≤ 99) ∧ 0 ≤ p.2.1 ∧ p.2.1 ≤ 40) (h2 : (p.2.2.length : Int) = nbF p.2.1) : oneF p = if p.2.2.all inB = true then 0 else 3 := by unfold oneF; rw [if_neg (fun k => k h), if_neg (fun k => k h2)]

end Go.Proofs.Ytiommfabhchgdaa
/- The laws' helpers over File. Made by program (genfi.py). -/
namespace Go.Proofs.Ytiommfabhchgdaa
open Go.RowKit
end Go.Proofs.Ytiommfabhchgdaa
/- Chapter 8: lists of files: the laws' helpers over them. Made by program (genfi.py). -/
namespace Go.Proofs.Ytiommfabhchgdaa
open Go.RowKit
end Go.Proofs.Ytiommfabhchgdaa
/- Chapter 8: lists of files: how much they hold, and copies of them. Made by program (genfi.py). -/
namespace Go.Proofs.Ytiommfabhchgdaa
open Go.RowKit
theorem Try.infoFile : (Try.prog.info? 81).map (fun i => (i.zero, i.size, i.bytes)) = some (some (.agg #[.int .i64 0, .int .i64 0, .slice none 0 0]), 3, 40) := by kernel_rfl

theorem run_make_file (n : Nat) (hn : n ≤ 1048576) (w : World) :
    (Instr.makeSlice 78 (.int .i64 (n : Int)) (.int .i64 (n : Int))).run Try.prog w = .ok (.slice (some ⟨w.heap.size, 0, none⟩) n n) (w.alloc (.cells (madeCells #[.int .i64 0, .int .i64 0, .slice none 0 0] (n * 3)) 81)) := by
  obtain ⟨i, hi, hz, hs, hb⟩ := info_parts Try.infoFile
  have hr := run_make (P := Try.prog) w 78 81 i (.agg #[.int .i64 0, .int .i64 0, .slice none 0 0]) Try.underlying78 hi hz .i64 .i64 n n (by omega) (Int.le_refl _) (by rw [hb]; omega) (by omega)
  simp only [Int.toNat_natCast, hs] at hr
  exact hr

/-- The cap of a slice is no smaller than its length. -/
def capOk : Value → Prop
  | .slice _ n c => n ≤ c
  | _ => True
end Go.Proofs.Ytiommfabhchgdaa
/- Chapter 8: files among the arguments; a code with files. Made by program (genfi.py). -/
namespace Go.Proofs.Ytiommfabhchgdaa
open Go.RowKit


/-- What a call that ends in a code and files is to leave. -/
def EndsFi (x : Int) (rs : List Oj) (w : World) (e : Ending) (w' : World) : Prop :=
  ∃ z, e = .returned (.agg #[.int .i64 x, z]) ∧ Below w.heap.size w w' ∧ OwJ (fun b => w.heap.size ≤ b ∧ b < w'.heap.size) w' z rs

theorem IvJ.mono {lo hi lo' : Nat} {w : World} {v : Value} {ps : List Oj} (h : IvJ lo hi w v ps) (h1 : lo' ≤ lo) : IvJ lo' hi w v ps := by
  obtain ⟨S, k0, k1, k2⟩ := h
  exact ⟨S, k0, fun b hb => ⟨Nat.le_trans h1 (k1 b hb).1, (k1 b hb).2⟩, k2⟩
end Go.Proofs.Ytiommfabhchgdaa
