/- Ld1 in one text: what each says stands at its head below. -/
import Derived.Test.YtlmaopljihbdkaaGreatG45
import Derived.Test.YtlmaopljihbdkaaGreatG32
import Derived.Test.YtlmaopljihbdkaaGreatG25
import Derived.Test.YtlmaopljihbdkaaGreatG21
import Derived.Test.YtlmaopljihbdkaaGreatG09
import Derived.Test.YtlmaopljihbdkaaGreatG34
import Derived.Test.YtlmaopljihbdkaaGreatG23
import Derived.Test.YtlmaopljihbdkaaGreatG31
import Derived.Test.YtlmaopljihbdkaaGreatG19
import Derived.Test.YtlmaopljihbdkaaGreatG10
import Derived.Test.YtlmaopljihbdkaaGreatG22
import Derived.Deep.RegionLaw
import Derived.Deep.RegionHeld3
import Derived.Deep.CutRange
/- Chapter 11: 'impl.storeIn', walked: its variables; up to the loop over the files. -/
namespace Go.Proofs.YtlmaopljihbdkaaGreat
open Go.RowKit Go.Maps

/-- What is known of the variables of 'storeIn': the answer's at n0, the five numbers behind it, the store's behind that. -/
structure StI (M : Int → List Int) (n0 : Nat) (w wr : World) (y z : Value) : Prop where
  below : Below n0 w wr
  r : Var6 wr n0 (.int .i64 0) (.int .i64 0) (.int .i64 0) (.int .i64 0) (.slice none 0 0) (.slice none 0 0)
  rf : ∀ o, wr.frozen? ⟨n0, o, none⟩ = false
  c4 : wr.cell? ⟨n0 + 1, 4, none⟩ = some (.int .i64 (ldN M 4))
  v : Var6 wr (n0 + 2) (.int .i64 (ldN M 0)) (.int .i64 (ldN M 1)) (.int .i64 (ldN M 2)) (.int .i64 (ldN M 3)) y z
  fr : ∀ o, wr.frozen? ⟨n0 + 2, o, none⟩ = false
theorem StI.lt {M : Int → List Int} {n0 : Nat} {w wr : World} {y z : Value} (h : StI M n0 w wr y z) : n0 + 2 < wr.heap.size := h.v.lt
theorem Var6.ku {D : Nat → Prop} {w w' : World} {b : Nat} {x0 x1 x2 x3 x4 x5 : Value} (h : Var6 w b x0 x1 x2 x3 x4 x5) (hk : Ku D w w') (hd : ¬ D b) : Var6 w' b x0 x1 x2 x3 x4 x5 :=
  ⟨hk.cell h.1 hd, hk.cell h.2.1 hd, hk.cell h.2.2.1 hd, hk.cell h.2.2.2.1 hd, hk.cell h.2.2.2.2.1 hd, hk.cell h.2.2.2.2.2 hd⟩
theorem StI.ku {M : Int → List Int} {n0 : Nat} {w wr w' : World} {y z : Value} {D : Nat → Prop} (h : StI M n0 w wr y z) (hk : Ku D wr w') (hD : ∀ b, D b → n0 + 3 ≤ b) : StI M n0 w w' y z := by
  have hl := h.lt
  have d0 : ¬ D n0 := fun e => by have := hD _ e; omega
  have d1 : ¬ D (n0 + 1) := fun e => by have := hD _ e; omega
  have d2 : ¬ D (n0 + 2) := fun e => by have := hD _ e; omega
  exact ⟨h.below.trans (hk.below (by omega) (fun b hb => by have := hD b hb; omega)), h.r.ku hk d0, fun o => (hk.frozen (by omega) d0).trans (h.rf o), hk.cell h.c4 d1, h.v.ku hk d2, fun o => (hk.frozen (by omega) d2).trans (h.fr o)⟩
theorem StI.later {M : Int → List Int} {n0 : Nat} {w wr w' : World} {y z : Value} (h : StI M n0 w wr y z) (hb : Below wr.heap.size wr w') : StI M n0 w w' y z := h.ku (Ku.of_below (D := fun _ => False) hb) fun _ e => e.elim
theorem set_ku {w : World} {b o : Nat} {x : Value} : Ku (fun k => k = b) w (w.setCell ⟨b, o, none⟩ x) := Ku.of_wr ((Wr.refl (fun k => k = b) _).setCell (p := ⟨b, o, none⟩) rfl _)
theorem StI.set4 {M : Int → List Int} {n0 : Nat} {w wr : World} {y z : Value} (h : StI M n0 w wr y z) (y' : Value) : StI M n0 w (wr.setCell ⟨n0 + 2, 4, none⟩ y') y' z := by
  have hk : Ku (fun k => k = n0 + 2) wr (wr.setCell ⟨n0 + 2, 4, none⟩ y') := set_ku
  have hl := h.lt
  obtain ⟨v0, v1, v2, v3, v4, v5⟩ := h.v
  refine ⟨h.below.trans (hk.below (by omega) (fun b hb => by omega)), h.r.ku hk (by omega), fun o => (hk.frozen (by omega) (by omega)).trans (h.rf o), hk.cell h.c4 (by omega), ⟨?_, ?_, ?_, ?_, ?_, ?_⟩, fun o => ?_⟩
  · exact (World.cell?_setCell_other _ _ _ _ (by simp)).trans v0
  · exact (World.cell?_setCell_other _ _ _ _ (by simp)).trans v1
  · exact (World.cell?_setCell_other _ _ _ _ (by simp)).trans v2
  · exact (World.cell?_setCell_other _ _ _ _ (by simp)).trans v3
  · exact World.cell?_setCell_same _ _ _ v4
  · exact (World.cell?_setCell_other _ _ _ _ (by simp)).trans v5
  · rw [World.frozen?_setCell]; exact h.fr o
theorem StI.set5 {M : Int → List Int} {n0 : Nat} {w wr : World} {y z : Value} (h : StI M n0 w wr y z) (z' : Value) : StI M n0 w (wr.setCell ⟨n0 + 2, 5, none⟩ z') y z' := by
  have hk : Ku (fun k => k = n0 + 2) wr (wr.setCell ⟨n0 + 2, 5, none⟩ z') := set_ku
  have hl := h.lt
  obtain ⟨v0, v1, v2, v3, v4, v5⟩ := h.v
  refine ⟨h.below.trans (hk.below (by omega) (fun b hb => by omega)), h.r.ku hk (by omega), fun o => (hk.frozen (by omega) (by omega)).trans (h.rf o), hk.cell h.c4 (by omega), ⟨?_, ?_, ?_, ?_, ?_, ?_⟩, fun o => ?_⟩
  · exact (World.cell?_setCell_other _ _ _ _ (by simp)).trans v0
  · exact (World.cell?_setCell_other _ _ _ _ (by simp)).trans v1
  · exact (World.cell?_setCell_other _ _ _ _ (by simp)).trans v2
  · exact (World.cell?_setCell_other _ _ _ _ (by simp)).trans v3
  · exact (World.cell?_setCell_other _ _ _ _ (by simp)).trans v4
  · exact World.cell?_setCell_same _ _ _ v5
  · rw [World.frozen?_setCell]; exact h.fr o
/-- copy, run: of a slice of whatever address where it holds nothing. -/
theorem copy_runA {w : World} {g dLen dCap sLen sCap : Nat} {ao : Option Addr} {cur X : List Value} (hg : w.heap[g]? = some (.cells cur.toArray 2 (0, 0))) (hn : X.length = Nat.min sLen dLen)
    (hsrc : 0 < X.length → ∃ ad, ao = some ad ∧ ∀ j v, X[j]? = some v → w.cell? (ad.add j) = some v) (hfit : X.length ≤ cur.length) (h1 : ∀ v ∈ X, v.oneCell' = true) :
    ∃ w', (Builtin.copy_ #[22, 22] 3 #[.slice (some ⟨g, 0, none⟩) dLen dCap, .slice ao sLen sCap]).run Tryz.prog w = .ok (goInt X.length) w' ∧
      w'.heap[g]? = some (.cells (splice cur 0 X).toArray 2 (0, 0)) ∧ Below g w w' ∧ w'.heap.size = w.heap.size := by
  by_cases h0 : X.length = 0
  · obtain rfl : X = [] := List.eq_nil_of_length_eq_zero h0
    refine ⟨w, run_copy_none (P := Tryz.prog) w 22 22 3 2 _ ao dLen dCap sLen sCap Tryz.underlying22 (by kernel_rfl) (by simpa using hn.symm), by simpa [splice] using hg, Below.refl _ _, rfl⟩
  · obtain ⟨ad, rfl, hs⟩ := hsrc (by omega)
    exact ⟨_, run_copy_row (P := Tryz.prog) w 22 22 3 2 g 0 dLen dCap ad sLen sCap cur.toArray 2 X Tryz.underlying22 (by kernel_rfl) hg hn hs (by simpa using hfit) h1,
      by simpa [splice] using setRow_heap w g _ _ 2 _ hg, below_setRow (Below.refl _ _) (Nat.le_refl _) _, by simp [World.setRow]⟩
theorem ldN_read (M : Int → List Int) : readL (M 2) 0 5 = [ldN M 0, ldN M 1, ldN M 2, ldN M 3, ldN M 4] := by
  unfold readL ldN
  simp [List.range_succ]
theorem words_at {xs : List Int} (h : wordsF xs = 0) (k : Nat) : 0 ≤ xs.getD k 0 ∧ xs.getD k 0 ≤ 65535 := by
  have h2 := (wordsF_in h).2
  by_cases hk : k < xs.length
  · have := h2 xs[k] (List.getElem_mem hk)
    simpa [List.getD, hk] using this
  · simp [List.getD, List.getElem?_eq_none (show xs.length ≤ k by omega)]
/-- The blocks of a directory's files. -/
theorem ld_blocks {ws : List Int} (h : wordsF ws = 0) : (blksF (udR ws)).length ≤ 64 ∧ ∀ x, x ∈ blksF (udR ws) → 0 ≤ x ∧ x < 40 := by
  by_cases hne : ws = []
  · subst hne
    rw [udC_nil.2]
    exact ⟨by simp [blksF], by simp [blksF]⟩
  · by_cases hd : dirB ws = true
    · have hD := dirB_iff.1 hd
      rw [(udC_yes h hne hd).2]
      have h1 := (wordsF_in h).1
      have h2 : (pkF (prI ws.tail)).length ≤ 64 := by rw [hD.2]; exact h1
      unfold pkF at h2
      rw [List.length_cons, bdF_len] at h2
      refine ⟨by omega, fun x hx => ?_⟩
      obtain ⟨p, hp, hxp⟩ := blksF_mem.1 hx
      have := List.all_eq_true.1 (oneF_iff.1 ((filF_iff.1 hD.1).one p hp)).2.2 x hxp
      unfold inB at this
      simp at this
      omega
    · rw [(udC_no h hne (by simpa using hd)).2]
      exact ⟨by simp [blksF], by simp [blksF]⟩
/-- The words of the first k files and of the first j blocks of the next one. -/
def ldF (M : Int → List Int) (fs : List Oj) (k j : Nat) : List Int := (blksF (fs.take k) ++ (fs.getD k oj0).2.2.take j).flatMap M
theorem ldF_len {M : Int → List Int} : ∀ (L : List Int), (∀ x, x ∈ L → (M x).length ≤ 64) → (L.flatMap M).length ≤ 64 * L.length := by
  intro L
  induction L with
  | nil => intro _; simp
  | cons a L ih =>
    intro h
    have h1 := h a (by simp)
    have h2 := ih fun x hx => h x (by simp [hx])
    simp only [List.flatMap_cons, List.length_append, List.length_cons]
    omega
theorem blks_split {fs : List Oj} {k : Nat} (h : k < fs.length) : blksF fs = blksF (fs.take k) ++ ((fs.getD k oj0).2.2 ++ blksF (fs.drop (k + 1))) := by
  have e : fs = fs.take k ++ (fs[k] :: fs.drop (k + 1)) := by rw [List.getElem_cons_drop, List.take_append_drop]
  conv => lhs; rw [e]
  rw [blksF_append, blksF]
  simp [List.getD, h]
theorem getD_atL {xs : List Int} {j : Nat} (h : j < xs.length) : xs.getD j 0 = xs[j] := by simp [List.getD, h]
theorem ldF_zero (M : Int → List Int) (fs : List Oj) : ldF M fs 0 0 = [] := by simp [ldF, blksF]
theorem ldF_next {M : Int → List Int} {fs : List Oj} {k : Nat} (h : k < fs.length) : ldF M fs k (fs.getD k oj0).2.2.length = ldF M fs (k + 1) 0 := by
  unfold ldF
  rw [List.take_length, List.take_zero, List.append_nil, List.take_succ_eq_append_getElem h, blksF_snoc]
  simp [List.getD, h]
theorem ldF_step {M : Int → List Int} {fs : List Oj} {k j : Nat} (hj : j < (fs.getD k oj0).2.2.length) : ldF M fs k (j + 1) = ldF M fs k j ++ M ((fs.getD k oj0).2.2.getD j 0) := by
  unfold ldF
  rw [List.take_succ_eq_append_getElem hj, ← List.append_assoc, List.flatMap_append, getD_atL hj]
  simp
theorem ldF_all {M : Int → List Int} {fs : List Oj} : ldF M fs fs.length 0 = (blksF fs).flatMap M := by
  unfold ldF
  rw [List.take_length, List.take_zero, List.append_nil]
theorem ldF_most {M : Int → List Int} {fs : List Oj} (hl : (blksF fs).length ≤ 64) (hm : ∀ x, x ∈ blksF fs → (M x).length ≤ 64) (k j : Nat) (hk : k < fs.length) : (ldF M fs k j).length ≤ 4096 := by
  have e := blks_split hk
  have h1 : ∀ x, x ∈ blksF (fs.take k) ++ (fs.getD k oj0).2.2.take j → x ∈ blksF fs := fun x hx => by
    rw [e]
    rcases List.mem_append.1 hx with hx | hx
    · exact List.mem_append_left _ hx
    · exact List.mem_append_right _ (List.mem_append_left _ (List.mem_of_mem_take hx))
  have h2 := ldF_len (M := M) _ fun x hx => hm x (h1 x hx)
  have h3 : (blksF (fs.take k) ++ (fs.getD k oj0).2.2.take j).length ≤ (blksF fs).length := by
    conv => rhs; rw [e]
    simp only [List.length_append, List.length_take]
    omega
  unfold ldF
  omega
theorem blks_at {fs : List Oj} {k j : Nat} (hk : k < fs.length) (hj : j < (fs.getD k oj0).2.2.length) : (fs.getD k oj0).2.2.getD j 0 ∈ blksF fs := by
  rw [blks_split hk]
  refine List.mem_append_right _ (List.mem_append_left _ ?_)
  rw [getD_atL hj]
  exact List.getElem_mem hj
theorem sfV_room (i : Int) : 0 ≤ sfV i ∧ sfV i < 40 := by
  unfold sfV
  split
  · omega
  · omega
/-- What the entries come to, step by step. -/
theorem ldE_succ (M : Int → List Int) (n : Nat) : ldE M (n + 1) = ldE M n ++ ueR (ldW M n) := by
  unfold ldE
  rw [List.range_succ, List.flatMap_append]
  simp
theorem ldE_more (M : Int → List Int) (i n : Nat) (h : i ≤ n) : ∃ L, ldE M n = ldE M i ++ L := by
  induction n with
  | zero => exact ⟨[], by rw [show i = 0 by omega]; simp⟩
  | succ n ih =>
    rcases Nat.lt_or_ge i (n + 1) with h1 | h1
    · obtain ⟨L, e⟩ := ih (by omega)
      exact ⟨L ++ ueR (ldW M n), by rw [ldE_succ, e, List.append_assoc]⟩
    · exact ⟨[], by rw [show i = n + 1 by omega]; simp⟩
theorem ue_two (xs : List Int) : ueR xs = [] ∨ ueR xs = [enO xs] := by unfold ueR; split <;> simp
theorem ldE_len (M : Int → List Int) : ∀ n, (ldE M n).length ≤ n := by
  intro n
  induction n with
  | zero => simp [ldE]
  | succ n ih =>
    rw [ldE_succ, List.length_append]
    rcases ue_two (ldW M n) with h | h <;> rw [h] <;> simp <;> omega
theorem RdJ.fileS {S : Nat → Prop} {w : World} {ao : Option Addr} {n c : Nat} {fs : List Oj} (h : RdJ S w (.slice ao n c) fs) {k : Nat} (hk : k < fs.length) : ∃ b off, ao = some ⟨b, off, none⟩ ∧ S b ∧ RdFp S w b (off + k * 3) (fs.getD k oj0) := by
  obtain ⟨ao', c', e, hm, h⟩ := h
  injection e with e1 e2 e3
  obtain ⟨b, off, V, e4, hb, hc⟩ := h (by rintro rfl; exact absurd hk (Nat.not_lt_zero _))
  obtain ⟨q0, q1, q2, q3⟩ := hc k hk
  exact ⟨b, off, e1.trans e4, hb, V k, q0, q1, q2, q3⟩
theorem BuiltEn.ku {P D : Nat → Prop} {w w' : World} {v : Value} {k : Nat} {ts : List Oj} (h : BuiltEn P w v k ts) (hk : Ku D w w') (hd : ∀ b, P b → ¬ D b) : BuiltEn P w' v k ts := by
  obtain ⟨V, Bk, h1, h2, h3⟩ := h
  exact ⟨V, Bk, ownsRow_ku h1 hk (fun r hr => hd _ (h2 r hr)), h2, h3.ku hk (fun i hi hn => hd _ (h3.own i hi hn).1)⟩
theorem OwJ.one {lo : Nat} {w : World} {a : Option Addr} {c : Nat} {e : Oj} (h : OwJ (fun b => lo ≤ b ∧ b < w.heap.size) w (.slice a 1 c) [e]) :
    ∃ b off av cv, a = some ⟨b, off, none⟩ ∧ (∀ j u, ([.int .i64 e.1, .int .i64 e.2.1, .slice av e.2.2.length cv] : List Value)[j]? = some u → w.cell? ((⟨b, off, none⟩ : Addr).add j) = some u) ∧ OwI lo w (.slice av e.2.2.length cv) e.2.2 := by
  obtain ⟨ao, c', b, off, V, B, h1, h2, h3, h4⟩ := h
  obtain ⟨e1, _, _⟩ := h3 (by simp)
  injection h1 with g1 g2 g3
  obtain ⟨k0, k1, k2, k3, k4⟩ := h4 0 (by simp)
  simp only [List.getD, List.getElem?_cons_zero, Option.getD_some] at k0 k1 k2 k3 k4
  obtain ⟨av, cv, hv⟩ := k3.shape
  rw [hv] at k2 k3
  refine ⟨b, off, av, cv, g1.trans e1, fun j u hu => ?_, B 0, k3, fun hn => ⟨(k4 hn).1.1, (k4 hn).1.2, (k4 hn).2.2.1⟩⟩
  have hj : j < 3 := by have := (List.getElem?_eq_some_iff.1 hu).1; simpa using this
  rw [Addr.add_lit]
  rcases (by omega : j = 0 ∨ j = 1 ∨ j = 2) with rfl | rfl | rfl
  · simp at hu; subst hu; simpa using k0
  · simp at hu; subst hu; simpa using k1
  · simp at hu; subst hu; simpa using k2
theorem ldE_at {M : Int → List Int} {i K : Nat} {e : Oj} (h : i < K) (he : ueR (ldW M i) = [e]) : (ldE M K).getD (ldE M i).length oj0 = e := by
  obtain ⟨L, hL⟩ := ldE_more M (i + 1) K h
  rw [hL, ldE_succ, he]
  simp [List.getD]
/-- The end of a function that stores a store into its result's variable. -/
theorem ret_raft6 {w w3 : World} {r lo : Nat} {x0 x1 x2 x3 y z : Value} {xs : List Int} {ps : List Oj} (hb : Below w.heap.size w w3) (hr : w.heap.size ≤ r) (ho : IvR lo w3.heap.size w3 y z xs ps) (hlo : r < lo) :
    Below w.heap.size w ((((((w3.setCell ⟨r, 0, none⟩ x0).setCell ⟨r, 1, none⟩ x1).setCell ⟨r, 2, none⟩ x2).setCell ⟨r, 3, none⟩ x3).setCell ⟨r, 4, none⟩ y).setCell ⟨r, 5, none⟩ z) ∧ IvR w.heap.size ((((((w3.setCell ⟨r, 0, none⟩ x0).setCell ⟨r, 1, none⟩ x1).setCell ⟨r, 2, none⟩ x2).setCell ⟨r, 3, none⟩ x3).setCell ⟨r, 4, none⟩ y).setCell ⟨r, 5, none⟩ z).heap.size ((((((w3.setCell ⟨r, 0, none⟩ x0).setCell ⟨r, 1, none⟩ x1).setCell ⟨r, 2, none⟩ x2).setCell ⟨r, 3, none⟩ x3).setCell ⟨r, 4, none⟩ y).setCell ⟨r, 5, none⟩ z) y z xs ps := by
  have hw : Wr (fun q => q = r) w3 ((((((w3.setCell ⟨r, 0, none⟩ x0).setCell ⟨r, 1, none⟩ x1).setCell ⟨r, 2, none⟩ x2).setCell ⟨r, 3, none⟩ x3).setCell ⟨r, 4, none⟩ y).setCell ⟨r, 5, none⟩ z) := (((((((Wr.refl (fun q => q = r) _).setCell (p := ⟨r, 0, none⟩) rfl _).setCell (p := ⟨r, 1, none⟩) rfl _).setCell (p := ⟨r, 2, none⟩) rfl _).setCell (p := ⟨r, 3, none⟩) rfl _).setCell (p := ⟨r, 4, none⟩) rfl _).setCell (p := ⟨r, 5, none⟩) rfl _)
  exact ⟨((((((hb.setCell (p := ⟨r, 0, none⟩) hr _).setCell (p := ⟨r, 1, none⟩) hr _).setCell (p := ⟨r, 2, none⟩) hr _).setCell (p := ⟨r, 3, none⟩) hr _).setCell (p := ⟨r, 4, none⟩) hr _).setCell (p := ⟨r, 5, none⟩) hr _), IvR.up (ho.wr hw (fun b h1 _ e => by omega)) (by omega) hw.size⟩
theorem IvR_two {A : Nat} {w8 w : World} {D : Nat → Prop} {y z : Value} {j : Nat} {xs : List Int} {ps : List Oj} (hr : w8.ownsRow A 2 1 y j (xs.map (Value.int .i64))) (hm : j ≤ 1048576) (hk : Ku D w8 w) (hD : ∀ b, A ≤ b → b < w8.heap.size → ¬ D b) (hA : A ≤ w8.heap.size) (hz : OwJ (fun b => w8.heap.size ≤ b ∧ b < w.heap.size) w z ps) : IvR A w.heap.size w y z xs ps := by
  have hn : xs.length = j := by have := hr.1; simpa using this
  obtain ⟨g, r1, o1⟩ := ow_of_owns hn hr (by omega)
  have hsz := hk.size
  refine ⟨g, _, r1.ku hk (fun hne b hb => by
    have hb' : b = g := hb
    subst hb'
    exact hD _ (o1 hne).1 (o1 hne).2.1), fun hne => ?_, Nat.le_refl _, fun b hb => ⟨Nat.le_trans hA hb.1, hb.2⟩, hz⟩
  obtain ⟨k1, k2, k3⟩ := o1 hne
  exact ⟨k1, by omega, fun h => by have := h.1; omega, fun o => (hk.frozen k2 (hD _ k1 k2)).trans (k3 o)⟩
/-- An append of nothing at a step of a region that draws. -/
theorem step_append_zeroE (w : World) {ops : Array Oper} {o : Oper} {a : Act} {K : Act → World → Prop} {Q : Exit → Act → World → Prop} {E : Prop} (hgd : o.guard = none) (s x : Operand) (t : TypeId)
    (ho : o.op = .call { callee := .builtin .append, args := #[s, x], argTypes := #[t, t] })
    (base : Nat) (e : TypeId) (i : TypeInfo) (size : Nat) (ht : Tryz.prog.underlying t = some (.slice e)) (hi : Tryz.prog.info? e = some i)
    (v : Value) (n : Nat) (xs : List Value) (hs : a.eval s = v) (hown : w.ownsRow base e size v n xs) (ao : Option Addr) (c : Nat) (hx : a.eval x = .slice ao 0 c)
    (h : K (a.put o.dst v) w) : if Region.wanted o (yielded ops a.tmps) = true then Oper.wp Tryz.prog o a w K Q else E := by
  have hw : Region.wanted o (yielded ops a.tmps) = true := by simp [Region.wanted, hgd]
  rw [if_pos hw]
  have hv : ∃ ad k, v = .slice ad n k ∧ n ≤ k := by
    rcases hown.2 with ⟨rfl, rfl⟩ | ⟨g, cap, cur, rfl, _, _, hnc, _⟩
    · exact ⟨_, _, rfl, Nat.le_refl _⟩
    · exact ⟨_, _, rfl, hnc⟩
  obtain ⟨ad, k, rfl, hk⟩ := hv
  have hrun := run_append_zero (P := Tryz.prog) w t o.type e i ht hi ad n k hk ao c
  unfold Oper.wp execOp
  simp only [ho, resolve, invoke, builtin, Sem.run_bind, Sem.run_pure, Result.andThen_ok, List.map_toArray, List.map_cons, List.map_nil, hs, hx, hrun]
  exact h
end Go.Proofs.YtlmaopljihbdkaaGreat
