/- Mp7a Tk0 Tk1 in one text: what each says stands at its head below. -/
import Derived.Test.YtbfdnjhdlnfpmaaG12
import Derived.Test.YtbfdnjhdlnfpmaaG03
/- Chapter 7: 'FreeBlocks' of the program, walked. -/
namespace Go.Proofs.Ytbfdnjhdlnfpmaa
open Go.RowKit

/-- The code of 'FreeBlocks'. -/
def fbC (xs ys : List Int) : Int := if mapF xs ≠ 0 then mapF xs else if mapF ys ≠ 0 then mapF ys else if ∀ y, y ∈ ys → y ∈ xs then 0 else 4
/-- .. and the map. -/
def fbR (xs ys : List Int) : List Int := if fbC xs ys = 0 then xs.filter (fun x => !decide (x ∈ ys)) else []
theorem isMap_len {xs : List Int} (h : IsMap xs) : xs.length ≤ 20 := by rw [← blk_of h]; exact blk_len _
theorem fbR_len (xs ys : List Int) : (fbR xs ys).length ≤ 1048576 := by
  unfold fbR
  by_cases h : fbC xs ys = 0
  · rw [if_pos h]
    have hx : mapF xs = 0 := by
      by_cases h1 : mapF xs = 0
      · exact h1
      · unfold fbC at h; rw [if_pos h1] at h; exact absurd h h1
    have := isMap_len (mapF_iff.1 hx)
    have := List.length_filter_le (fun x => !decide (x ∈ ys)) xs
    omega
  · rw [if_neg h]; simp
theorem blk_free {xs ys : List Int} (h : IsMap xs) : blk (fun x => decide (x ∈ xs) && !decide (x ∈ ys)) = xs.filter (fun x => !decide (x ∈ ys)) :=
  pair_ext (blk_up _) (h.2.filter _) fun a => by
    rw [mem_blk, List.mem_filter]
    simp only [Bool.and_eq_true, decide_eq_true_eq]
    exact ⟨fun h' => h'.2, fun h' => ⟨h.1 a h'.1, h'⟩⟩
end Go.Proofs.Ytbfdnjhdlnfpmaa
/- A code with two lists of numbers that share no memory: compared, marked, held. -/
namespace Go.Proofs.Ytbfdnjhdlnfpmaa
open Go.RowKit

theorem RdI_nilK (S : Nat → Prop) (w : World) : RdI S w (.slice none 0 0) [] := ⟨none, 0, by simp, by simp, fun h => absurd rfl h⟩
/-- Two lists of new memory. -/
def OwK (B : Nat) (w : World) (u v : Value) (xs ys : List Int) : Prop :=
  ∃ b1 b2, RdI (· = b1) w u xs ∧ RdI (· = b2) w v ys ∧ (xs ≠ [] → B ≤ b1 ∧ b1 < w.heap.size ∧ ∀ o, w.frozen? ⟨b1, o, none⟩ = false) ∧ (ys ≠ [] → B ≤ b2 ∧ b2 < w.heap.size ∧ ∀ o, w.frozen? ⟨b2, o, none⟩ = false) ∧ (xs ≠ [] → ys ≠ [] → b1 ≠ b2)
/-- .. in [lo, hi). -/
def IvK (lo hi : Nat) (w : World) (u v : Value) (xs ys : List Int) : Prop :=
  ∃ b1 b2, RdI (· = b1) w u xs ∧ RdI (· = b2) w v ys ∧ (xs ≠ [] → lo ≤ b1 ∧ b1 < hi ∧ b1 < w.heap.size ∧ ∀ o, w.frozen? ⟨b1, o, none⟩ = false) ∧ (ys ≠ [] → lo ≤ b2 ∧ b2 < hi ∧ b2 < w.heap.size ∧ ∀ o, w.frozen? ⟨b2, o, none⟩ = false) ∧ (xs ≠ [] → ys ≠ [] → b1 ≠ b2)
/-- .. whose marks stand from k on. -/
def MkK (k : Int) (lo hi : Nat) (w : World) (u v : Value) (n m : Nat) : Prop := RdI (fun b => lo ≤ b ∧ b < hi) w u (mkI k n) ∧ RdI (fun b => lo ≤ b ∧ b < hi) w v (mkI (k + (n : Int)) m)
theorem OwK.iv {B : Nat} {w : World} {u v : Value} {xs ys : List Int} (h : OwK B w u v xs ys) : IvK B w.heap.size w u v xs ys := by
  obtain ⟨b1, b2, h1, h2, h3, h4, h5⟩ := h
  exact ⟨b1, b2, h1, h2, fun hn => ⟨(h3 hn).1, (h3 hn).2.1, (h3 hn).2.1, (h3 hn).2.2⟩, fun hn => ⟨(h4 hn).1, (h4 hn).2.1, (h4 hn).2.1, (h4 hn).2.2⟩, h5⟩
theorem OwK.shape {B : Nat} {w : World} {u v : Value} {xs ys : List Int} (h : OwK B w u v xs ys) : ∃ ao c ao' c', u = .slice ao xs.length c ∧ v = .slice ao' ys.length c' := by
  obtain ⟨b1, b2, h1, h2, _⟩ := h
  obtain ⟨a, c, e1⟩ := h1.shape
  obtain ⟨a', c', e2⟩ := h2.shape
  exact ⟨a, c, a', c', e1, e2⟩
theorem OwK_nil (B : Nat) (w : World) : OwK B w (.slice none 0 0) (.slice none 0 0) [] [] :=
  ⟨0, 0, RdI_nilK _ _, RdI_nilK _ _, fun h => absurd rfl h, fun h => absurd rfl h, fun h => absurd rfl h⟩
theorem OwK.wr {B : Nat} {T : Nat → Prop} {w w' : World} {u v : Value} {xs ys : List Int} (h : OwK B w u v xs ys) (hw : Wr T w w') (hd : ∀ b, B ≤ b → b < w.heap.size → ¬ T b) : OwK B w' u v xs ys := by
  obtain ⟨b1, b2, h1, h2, h3, h4, h5⟩ := h
  exact ⟨b1, b2, h1.wr hw (fun hn b hb => hb ▸ hd _ (h3 hn).1 (h3 hn).2.1), h2.wr hw (fun hn b hb => hb ▸ hd _ (h4 hn).1 (h4 hn).2.1),
    fun hn => ⟨(h3 hn).1, Nat.lt_of_lt_of_le (h3 hn).2.1 hw.size, fun o => (hw.frz _ _ (h3 hn).2.1).trans ((h3 hn).2.2 o)⟩,
    fun hn => ⟨(h4 hn).1, Nat.lt_of_lt_of_le (h4 hn).2.1 hw.size, fun o => (hw.frz _ _ (h4 hn).2.1).trans ((h4 hn).2.2 o)⟩, h5⟩
theorem OwK.mono {B B' : Nat} {w : World} {u v : Value} {xs ys : List Int} (h : OwK B w u v xs ys) (hB : B' ≤ B) : OwK B' w u v xs ys := by
  obtain ⟨b1, b2, h1, h2, h3, h4, h5⟩ := h
  exact ⟨b1, b2, h1, h2, fun hn => ⟨Nat.le_trans hB (h3 hn).1, (h3 hn).2⟩, fun hn => ⟨Nat.le_trans hB (h4 hn).1, (h4 hn).2⟩, h5⟩
theorem IvK.wr {lo hi : Nat} {T : Nat → Prop} {w w' : World} {u v : Value} {xs ys : List Int} (h : IvK lo hi w u v xs ys) (hw : Wr T w w') (hd : ∀ b, lo ≤ b → b < hi → ¬ T b) : IvK lo hi w' u v xs ys := by
  obtain ⟨b1, b2, h1, h2, h3, h4, h5⟩ := h
  exact ⟨b1, b2, h1.wr hw (fun hn b hb => hb ▸ hd _ (h3 hn).1 (h3 hn).2.1), h2.wr hw (fun hn b hb => hb ▸ hd _ (h4 hn).1 (h4 hn).2.1),
    fun hn => ⟨(h3 hn).1, (h3 hn).2.1, Nat.lt_of_lt_of_le (h3 hn).2.2.1 hw.size, fun o => (hw.frz _ _ (h3 hn).2.2.1).trans ((h3 hn).2.2.2 o)⟩,
    fun hn => ⟨(h4 hn).1, (h4 hn).2.1, Nat.lt_of_lt_of_le (h4 hn).2.2.1 hw.size, fun o => (hw.frz _ _ (h4 hn).2.2.1).trans ((h4 hn).2.2.2 o)⟩, h5⟩
theorem IvK.later {lo hi : Nat} {w w' : World} {u v : Value} {xs ys : List Int} (h : IvK lo hi w u v xs ys) (hb : Below w.heap.size w w') : IvK lo hi w' u v xs ys :=
  h.wr (Wr.of_below hb fun _ => False) fun _ _ _ => id
theorem MkK.wr {k : Int} {lo hi : Nat} {T : Nat → Prop} {w w' : World} {u v : Value} {n m : Nat} (h : MkK k lo hi w u v n m) (hw : Wr T w w') (hd : ∀ b, lo ≤ b → b < hi → ¬ T b) : MkK k lo hi w' u v n m :=
  ⟨h.1.wr hw fun _ b hb => hd b hb.1 hb.2, h.2.wr hw fun _ b hb => hd b hb.1 hb.2⟩
theorem MkK.later {k : Int} {lo hi : Nat} {w w' : World} {u v : Value} {n m : Nat} (h : MkK k lo hi w u v n m) (hb : Below w.heap.size w w') : MkK k lo hi w' u v n m :=
  ⟨h.1.later hb, h.2.later hb⟩

/-- What a function leaves that answers a code with two lists. -/
def EndsK (code : Int) (xs ys : List Int) (w : World) : Ending → World → Prop := fun e w' => ∃ u v, e = .returned (.agg #[.int .i64 code, u, v]) ∧ Below w.heap.size w w' ∧ OwK w.heap.size w' u v xs ys
end Go.Proofs.Ytbfdnjhdlnfpmaa
/- Chapter 7: 'TakeBlocks' of the program, walked. -/
namespace Go.Proofs.Ytbfdnjhdlnfpmaa
open Go.RowKit

/-- The blocks that are free. -/
def frB (xs : List Int) : List Int := blk (fun x => !decide (x ∈ xs))
/-- The first n of them. -/
def tbL (xs : List Int) (n : Int) : List Int := (frB xs).take n.toNat
/-- The map with them. -/
def tbU (xs : List Int) (n : Int) : List Int := blk (fun x => decide (x ∈ xs) || decide (x ∈ tbL xs n))
/-- The code of 'TakeBlocks'. -/
def tbC (xs : List Int) (n : Int) : Int := if mapF xs ≠ 0 then mapF xs else if ¬ (0 ≤ n ∧ n ≤ 20) then 3 else if ((frB xs).length : Int) < n then 8 else 0
def tbR1 (xs : List Int) (n : Int) : List Int := if tbC xs n = 0 then tbL xs n else []
def tbR2 (xs : List Int) (n : Int) : List Int := if tbC xs n = 0 then tbU xs n else []
theorem frB_len (xs : List Int) : (frB xs).length ≤ 20 := blk_len _
theorem tbL_len (xs : List Int) (n : Int) : (tbL xs n).length ≤ 20 := by unfold tbL; rw [List.length_take]; have := frB_len xs; omega
theorem tbU_len (xs : List Int) (n : Int) : (tbU xs n).length ≤ 20 := blk_len _
theorem tb_bound (xs : List Int) (n : Int) : (tbR1 xs n).length + (tbR2 xs n).length ≤ 1048576 := by
  have h1 : (tbR1 xs n).length ≤ 20 := by unfold tbR1; by_cases h : tbC xs n = 0 <;> simp [h, tbL_len]
  have h2 : (tbR2 xs n).length ≤ 20 := by unfold tbR2; by_cases h : tbC xs n = 0 <;> simp [h, tbU_len]
  omega
/-- The result's variable, as it was laid. -/
structure ResK (w wr : World) : Prop where
  below : Below w.heap.size w wr
  c0 : wr.cell? ⟨w.heap.size, 0, none⟩ = some (.int .i64 0)
  c1 : wr.cell? ⟨w.heap.size, 1, none⟩ = some (.slice none 0 0)
  c2 : wr.cell? ⟨w.heap.size, 2, none⟩ = some (.slice none 0 0)
  fr : ∀ o, wr.frozen? ⟨w.heap.size, o, none⟩ = false
theorem ResK.lt {w wr : World} (h : ResK w wr) : w.heap.size < wr.heap.size := World.block_lt_of_cell? _ _ h.c0
theorem ResK.later {w wr w1 : World} (h : ResK w wr) (hb : Below wr.heap.size wr w1) : ResK w w1 :=
  ⟨below_on h.below hb, cell_later hb h.c0, cell_later hb h.c1, cell_later hb h.c2, fun o => ((bcell hb).2 _ _ h.lt).trans (h.fr o)⟩
theorem ret_two {w w3 : World} {B r : Nat} {z y x : Value} {xs ys : List Int} (hb : Below w.heap.size w w3) (hr : w.heap.size ≤ r) (ho : OwK B w3 z y xs ys) (hB : r < B) :
    Below w.heap.size w (((w3.setCell ⟨r, 0, none⟩ x).setCell ⟨r, 1, none⟩ z).setCell ⟨r, 2, none⟩ y) ∧ OwK w.heap.size (((w3.setCell ⟨r, 0, none⟩ x).setCell ⟨r, 1, none⟩ z).setCell ⟨r, 2, none⟩ y) z y xs ys := by
  have hw : Wr (fun y => y = r) w3 (((w3.setCell ⟨r, 0, none⟩ x).setCell ⟨r, 1, none⟩ z).setCell ⟨r, 2, none⟩ y) := (((Wr.refl (fun y => y = r) _).setCell (p := ⟨r, 0, none⟩) rfl _).setCell (p := ⟨r, 1, none⟩) rfl _).setCell (p := ⟨r, 2, none⟩) rfl _
  exact ⟨((hb.setCell (p := ⟨r, 0, none⟩) hr _).setCell (p := ⟨r, 1, none⟩) hr _).setCell (p := ⟨r, 2, none⟩) hr _, (ho.wr hw (fun b h1 _ e => by omega)).mono (by omega)⟩
/-- Two lists, the one made behind the other. -/
theorem owK_of {B : Nat} {w1 w2 : World} {u v : Value} {xs ys : List Int} (h1 : OwI B w1 u xs) (hb : Below w1.heap.size w1 w2) (h2 : OwI w1.heap.size w2 v ys) (hB : B ≤ w1.heap.size) : OwK B w2 u v xs ys := by
  obtain ⟨b1, r1, f1⟩ := h1
  obtain ⟨b2, r2, f2⟩ := h2
  refine ⟨b1, b2, r1.later hb, r2, fun hn => ⟨(f1 hn).1, Nat.lt_of_lt_of_le (f1 hn).2.1 hb.size, fun o => ((bcell hb).2 _ _ (f1 hn).2.1).trans ((f1 hn).2.2 o)⟩, fun hn => ⟨Nat.le_trans hB (f2 hn).1, (f2 hn).2⟩, fun hn hn' => ?_⟩
  have := (f1 hn).2.1; have := (f2 hn').1; omega

/-- The first n of a reading. -/
theorem rd_take {S : Nat → Prop} {w : World} {ao : Option Addr} {l c : Nat} {xs : List Int} (h : RdI S w (.slice ao l c) xs) {n : Nat} (hn : n ≤ xs.length) : RdI S w (.slice ao n c) (xs.take n) ∧ l = xs.length ∧ l ≤ c := by
  obtain ⟨ao', c', e, h2, h3⟩ := h
  injection e with e1 e2 e3
  subst e1 e2 e3
  have hl : (xs.take n).length = n := by rw [List.length_take]; omega
  refine ⟨⟨ao, xs.length - n + c', ?_, by omega, fun hne => ?_⟩, rfl, by omega⟩
  · rw [hl]; congr 1; omega
  · obtain ⟨b, off, k1, k2, k3⟩ := h3 (by rintro rfl; simp at hne)
    refine ⟨b, off, k1, k2, fun i hi => ?_⟩
    rw [hl] at hi
    rw [k3 i (by omega)]
    simp [List.getD, hi]

end Go.Proofs.Ytbfdnjhdlnfpmaa
