/- Tk0 Tk1 in one text: what each says stands at its head below. -/
import Derived.Test.YtlmaopljihbdkaaGreatG05
import Derived.Test.YtlmaopljihbdkaaGreatG15
/- A code with two lists of numbers that share no memory: compared, marked, held. -/
namespace Go.Proofs.YtlmaopljihbdkaaGreat
open Go.RowKit

theorem RdI_nilK (S : Nat → Prop) (w : World) : RdI S w (.slice none 0 0) [] := ⟨none, 0, by simp, by simp, fun h => absurd rfl h⟩
/-- Two lists of new memory. -/
def OwK (B : Nat) (w : World) (u v : Value) (xs ys : List Int) : Prop :=
  ∃ b1 b2, RdI (· = b1) w u xs ∧ RdI (· = b2) w v ys ∧ (xs ≠ [] → B ≤ b1 ∧ b1 < w.heap.size ∧ ∀ o, w.frozen? ⟨b1, o, none⟩ = false) ∧ (ys ≠ [] → B ≤ b2 ∧ b2 < w.heap.size ∧ ∀ o, w.frozen? ⟨b2, o, none⟩ = false) ∧ (xs ≠ [] → ys ≠ [] → b1 ≠ b2)
/-- .. in [lo, hi). -/
def IvK (lo hi : Nat) (w : World) (u v : Value) (xs ys : List Int) : Prop :=
  ∃ b1 b2, RdI (· = b1) w u xs ∧ RdI (· = b2) w v ys ∧ (xs ≠ [] → lo ≤ b1 ∧ b1 < hi ∧ b1 < w.heap.size ∧ ∀ o, w.frozen? ⟨b1, o, none⟩ = false) ∧ (ys ≠ [] → lo ≤ b2 ∧ b2 < hi ∧ b2 < w.heap.size ∧ ∀ o, w.frozen? ⟨b2, o, none⟩ = false) ∧ (xs ≠ [] → ys ≠ [] → b1 ≠ b2)
/-- .. whose marks stand from k on. -/
def MkK (k : Int) (lo hi : Nat) (w : World) (u v : Value) (n m : Nat) : Prop := RdI (fun b => lo ≤ b ∧ b < hi) w u (mkI k n) ∧ RdI (fun b => lo ≤ b ∧ b < hi) w v (mkI (k + (n : Int)) m)
theorem OwK.iv {B : Nat} {w : World} {u v : Value} {xs ys : List Int} (h : OwK B w u v xs ys) : IvK B w.heap.size w u v xs ys := by
  obtain ⟨b1, b2, h1, h2, h3, h4, h5⟩ := h
  exact ⟨b1, b2, h1, h2, fun hn => ⟨(h3 hn).1, (h3 hn).2.1, (h3 hn).2.1, (h3 hn).2.2⟩, fun hn => ⟨(h4 hn).1, (h4 hn).2.1, (h4 hn).2.1, (h4 hn).2.2⟩, h5⟩
theorem OwK.shape {B : Nat} {w : World} {u v : Value} {xs ys : List Int} (h : OwK B w u v xs ys) : ∃ ao c ao' c', u = .slice ao xs.length c ∧ v = .slice ao' ys.length c' := by
  obtain ⟨b1, b2, h1, h2, _⟩ := h
  obtain ⟨a, c, e1⟩ := h1.shape
  obtain ⟨a', c', e2⟩ := h2.shape
  exact ⟨a, c, a', c', e1, e2⟩
theorem OwK_nil (B : Nat) (w : World) : OwK B w (.slice none 0 0) (.slice none 0 0) [] [] :=
  ⟨0, 0, RdI_nilK _ _, RdI_nilK _ _, fun h => absurd rfl h, fun h => absurd rfl h, fun h => absurd rfl h⟩
theorem OwK.wr {B : Nat} {T : Nat → Prop} {w w' : World} {u v : Value} {xs ys : List Int} (h : OwK B w u v xs ys) (hw : Wr T w w') (hd : ∀ b, B ≤ b → b < w.heap.size → ¬ T b) : OwK B w' u v xs ys := by
  obtain ⟨b1, b2, h1, h2, h3, h4, h5⟩ := h
  exact ⟨b1, b2, h1.wr hw (fun hn b hb => hb ▸ hd _ (h3 hn).1 (h3 hn).2.1), h2.wr hw (fun hn b hb => hb ▸ hd _ (h4 hn).1 (h4 hn).2.1),
    fun hn => ⟨(h3 hn).1, Nat.lt_of_lt_of_le (h3 hn).2.1 hw.size, fun o => (hw.frz _ _ (h3 hn).2.1).trans ((h3 hn).2.2 o)⟩,
    fun hn => ⟨(h4 hn).1, Nat.lt_of_lt_of_le (h4 hn).2.1 hw.size, fun o => (hw.frz _ _ (h4 hn).2.1).trans ((h4 hn).2.2 o)⟩, h5⟩
theorem OwK.mono {B B' : Nat} {w : World} {u v : Value} {xs ys : List Int} (h : OwK B w u v xs ys) (hB : B' ≤ B) : OwK B' w u v xs ys := by
  obtain ⟨b1, b2, h1, h2, h3, h4, h5⟩ := h
  exact ⟨b1, b2, h1, h2, fun hn => ⟨Nat.le_trans hB (h3 hn).1, (h3 hn).2⟩, fun hn => ⟨Nat.le_trans hB (h4 hn).1, (h4 hn).2⟩, h5⟩
theorem IvK.wr {lo hi : Nat} {T : Nat → Prop} {w w' : World} {u v : Value} {xs ys : List Int} (h : IvK lo hi w u v xs ys) (hw : Wr T w w') (hd : ∀ b, lo ≤ b → b < hi → ¬ T b) : IvK lo hi w' u v xs ys := by
  obtain ⟨b1, b2, h1, h2, h3, h4, h5⟩ := h
  exact ⟨b1, b2, h1.wr hw (fun hn b hb => hb ▸ hd _ (h3 hn).1 (h3 hn).2.1), h2.wr hw (fun hn b hb => hb ▸ hd _ (h4 hn).1 (h4 hn).2.1),
    fun hn => ⟨(h3 hn).1, (h3 hn).2.1, Nat.lt_of_lt_of_le (h3 hn).2.2.1 hw.size, fun o => (hw.frz _ _ (h3 hn).2.2.1).trans ((h3 hn).2.2.2 o)⟩,
    fun hn => ⟨(h4 hn).1, (h4 hn).2.1, Nat.lt_of_lt_of_le (h4 hn).2.2.1 hw.size, fun o => (hw.frz _ _ (h4 hn).2.2.1).trans ((h4 hn).2.2.2 o)⟩, h5⟩
theorem IvK.later {lo hi : Nat} {w w' : World} {u v : Value} {xs ys : List Int} (h : IvK lo hi w u v xs ys) (hb : Below w.heap.size w w') : IvK lo hi w' u v xs ys :=
  h.wr (Wr.of_below hb fun _ => False) fun _ _ _ => id
theorem MkK.wr {k : Int} {lo hi : Nat} {T : Nat → Prop} {w w' : World} {u v : Value} {n m : Nat} (h : MkK k lo hi w u v n m) (hw : Wr T w w') (hd : ∀ b, lo ≤ b → b < hi → ¬ T b) : MkK k lo hi w' u v n m :=
  ⟨h.1.wr hw fun _ b hb => hd b hb.1 hb.2, h.2.wr hw fun _ b hb => hd b hb.1 hb.2⟩
theorem MkK.later {k : Int} {lo hi : Nat} {w w' : World} {u v : Value} {n m : Nat} (h : MkK k lo hi w u v n m) (hb : Below w.heap.size w w') : MkK k lo hi w' u v n m :=
  ⟨h.1.later hb, h.2.later hb⟩

/-- What a function leaves that answers a code with two lists. -/
def EndsK (code : Int) (xs ys : List Int) (w : World) : Ending → World → Prop := fun e w' => ∃ u v, e = .returned (.agg #[.int .i64 code, u, v]) ∧ Below w.heap.size w w' ∧ OwK w.heap.size w' u v xs ys
end Go.Proofs.YtlmaopljihbdkaaGreat
/- Chapter 7: 'TakeBlocks' of the program, walked. -/
namespace Go.Proofs.YtlmaopljihbdkaaGreat
open Go.RowKit

/-- The blocks that are free. -/
def frB (xs : List Int) : List Int := blk (fun x => !decide (x ∈ xs))
/-- The first n of them. -/
def tbL (xs : List Int) (n : Int) : List Int := (frB xs).take n.toNat
/-- The map with them. -/
def tbU (xs : List Int) (n : Int) : List Int := blk (fun x => decide (x ∈ xs) || decide (x ∈ tbL xs n))
/-- The code of 'TakeBlocks'. -/
def tbC (xs : List Int) (n : Int) : Int := if mapF xs ≠ 0 then mapF xs else if ¬ (0 ≤ n ∧ n ≤ 20) then 3 else if ((frB xs).length : Int) < n then 8 else 0
def tbR1 (xs : List Int) (n : Int) : List Int := if tbC xs n = 0 then tbL xs n else []
def tbR2 (xs : List Int) (n : Int) : List Int := if tbC xs n = 0 then tbU xs n else []
theorem frB_len (xs : List Int) : (frB xs).length ≤ 20 := blk_len _
theorem tbL_len (xs : List Int) (n : Int) : (tbL xs n).length ≤ 20 := by unfold tbL; rw [List.length_take]; have := frB_len xs; omega
theorem tbU_len (xs : List Int) (n : Int) : (tbU xs n).length ≤ 20 := blk_len _
theorem tb_bound (xs : List Int) (n : Int) : (tbR1 xs n).length + (tbR2 xs n).length ≤ 1048576 := by
  have h1 : (tbR1 xs n).length ≤ 20 := by unfold tbR1; by_cases h : tbC xs n = 0 <;> simp [h, tbL_len]
  have h2 : (tbR2 xs n).length ≤ 20 := by unfold tbR2; by_cases h : tbC xs n = 0 <;> simp [h, tbU_len]
  omega
/-- The result's variable, as it was laid. -/
structure ResK (w wr : World) : Prop where
  below : Below w.heap.size w wr
  c0 : wr.cell? ⟨w.heap.size, 0, none⟩ = some (.int .i64 0)
  c1 : wr.cell? ⟨w.heap.size, 1, none⟩ = some (.slice none 0 0)
  c2 : wr.cell? ⟨w.heap.size, 2, none⟩ = some (.slice none 0 0)
  fr : ∀ o, wr.frozen? ⟨w.heap.size, o, none⟩ = false
theorem ResK.lt {w wr : World} (h : ResK w wr) : w.heap.size < wr.heap.size := World.block_lt_of_cell? _ _ h.c0
theorem ResK.later {w wr w1 : World} (h : ResK w wr) (hb : Below wr.heap.size wr w1) : ResK w w1 :=
  ⟨below_on h.below hb, cell_later hb h.c0, cell_later hb h.c1, cell_later hb h.c2, fun o => ((bcell hb).2 _ _ h.lt).trans (h.fr o)⟩
theorem ResK.start (w : World) : ResK w (w.alloc (.cells #[.int .i64 0, .slice none 0 0, .slice none 0 0] 203)) :=
  ⟨below_alloc _ _, by simp [go_sem], by simp [go_sem], by simp [go_sem], fun o => by simp [go_sem]⟩
theorem ret_two {w w3 : World} {B r : Nat} {z y x : Value} {xs ys : List Int} (hb : Below w.heap.size w w3) (hr : w.heap.size ≤ r) (ho : OwK B w3 z y xs ys) (hB : r < B) :
    Below w.heap.size w (((w3.setCell ⟨r, 0, none⟩ x).setCell ⟨r, 1, none⟩ z).setCell ⟨r, 2, none⟩ y) ∧ OwK w.heap.size (((w3.setCell ⟨r, 0, none⟩ x).setCell ⟨r, 1, none⟩ z).setCell ⟨r, 2, none⟩ y) z y xs ys := by
  have hw : Wr (fun y => y = r) w3 (((w3.setCell ⟨r, 0, none⟩ x).setCell ⟨r, 1, none⟩ z).setCell ⟨r, 2, none⟩ y) := (((Wr.refl (fun y => y = r) _).setCell (p := ⟨r, 0, none⟩) rfl _).setCell (p := ⟨r, 1, none⟩) rfl _).setCell (p := ⟨r, 2, none⟩) rfl _
  exact ⟨((hb.setCell (p := ⟨r, 0, none⟩) hr _).setCell (p := ⟨r, 1, none⟩) hr _).setCell (p := ⟨r, 2, none⟩) hr _, (ho.wr hw (fun b h1 _ e => by omega)).mono (by omega)⟩
/-- Two lists, the one made behind the other. -/
theorem owK_of {B : Nat} {w1 w2 : World} {u v : Value} {xs ys : List Int} (h1 : OwI B w1 u xs) (hb : Below w1.heap.size w1 w2) (h2 : OwI w1.heap.size w2 v ys) (hB : B ≤ w1.heap.size) : OwK B w2 u v xs ys := by
  obtain ⟨b1, r1, f1⟩ := h1
  obtain ⟨b2, r2, f2⟩ := h2
  refine ⟨b1, b2, r1.later hb, r2, fun hn => ⟨(f1 hn).1, Nat.lt_of_lt_of_le (f1 hn).2.1 hb.size, fun o => ((bcell hb).2 _ _ (f1 hn).2.1).trans ((f1 hn).2.2 o)⟩, fun hn => ⟨Nat.le_trans hB (f2 hn).1, (f2 hn).2⟩, fun hn hn' => ?_⟩
  have := (f1 hn).2.1; have := (f2 hn').1; omega

set_option maxHeartbeats 1000000 in
set_option maxRecDepth 4000 in
theorem takeBlocks1 {w : World} {p : Nat} {xs : List Int} {f : Value} (x : Int) (hc : w.cell? ⟨p, 0, none⟩ = some f) (h : TkIn w f xs) :
    Calls Tryz.prog 195 #[.int .i64 x, .pointer (some ⟨p, 0, none⟩)] w fun e w' => w' = w ∧ e = .returned (.bool (!decide (x ∈ xs))) := by
  obtain ⟨b1, u1, S1, rfl, k1, r1⟩ := h
  have HT1 := hide (takenIn1 x k1 r1)
  clear k1 r1
  obtain ⟨B, hB⟩ : ∃ B, decide (x ∈ xs) = B := ⟨_, rfl⟩
  rw [hB] at HT1 ⊢
  clear hB
  go_enter Tryz.func195, Tryz.ntmps195
  go_wp2_with fail
  refine HT1.out.mono ?_
  rintro e w1 ⟨hw, rfl⟩
  have hw := hw.symm
  subst hw
  go_wp2
  go_ret
  exact ⟨rfl, rfl⟩
theorem take1_fp {w : World} {p : Nat} {xs : List Int} {f : Value} (hc : w.cell? ⟨p, 0, none⟩ = some f) (h : TkIn w f xs) : Fp w (.func (.func 195) #[] #[.pointer (some ⟨p, 0, none⟩)]) (fun x => !decide (x ∈ xs)) :=
  ⟨_, _, rfl, fun args w' => enter_of Tryz.func195 (by kernel_rfl) (by kernel_rfl) args w', fun _ hb x _ _ => (takeBlocks1 x (cell_later hb hc) (h.later hb)).mono fun _ _ ⟨hw, he⟩ => ⟨he, hw ▸ Below.refl _ _⟩⟩

set_option maxHeartbeats 1000000 in
set_option maxRecDepth 4000 in
theorem takeBlocks2 {w : World} {p q : Nat} {xs ys : List Int} (x : Int) (h : Two w p q xs ys) :
    Calls Tryz.prog 196 #[.int .i64 x, .pointer (some ⟨p, 0, none⟩), .pointer (some ⟨q, 0, none⟩)] w fun e w' => w' = w ∧ e = .returned (.bool (decide (x ∈ xs) || decide (x ∈ ys))) := by
  obtain ⟨⟨f, c1, b1, u1, S1, rfl, k1, r1⟩, g, c2, b2, u2, S2, rfl, k2, r2⟩ := h
  have HT1 := hide (takenIn1 x k1 r1)
  have HT2 := hide (takenIn1 x k2 r2)
  clear k1 k2 r1 r2
  obtain ⟨B, hB⟩ : ∃ B, decide (x ∈ xs) = B := ⟨_, rfl⟩
  obtain ⟨C, hC⟩ : ∃ C, decide (x ∈ ys) = C := ⟨_, rfl⟩
  rw [hB] at HT1 ⊢
  rw [hC] at HT2 ⊢
  clear hB hC
  cases B with
  | false =>
    go_enter Tryz.func196, Tryz.ntmps196
    go_wp2_with fail
    refine HT1.out.mono ?_
    rintro e w1 ⟨hw, rfl⟩
    have hw := hw.symm
    subst hw
    go_wp2_with fail
    refine HT2.out.mono ?_
    rintro e w2 ⟨hw, rfl⟩
    have hw := hw.symm
    subst hw
    go_wp2
    go_ret
    exact ⟨rfl, rfl⟩
  | true =>
    go_enter Tryz.func196, Tryz.ntmps196
    go_wp2_with fail
    refine HT1.out.mono ?_
    rintro e w1 ⟨hw, rfl⟩
    have hw := hw.symm
    subst hw
    go_wp2
    go_ret
    exact ⟨rfl, rfl⟩
theorem Two.fp2 {w : World} {p q : Nat} {xs ys : List Int} (h : Two w p q xs ys) : Fp w (.func (.func 196) #[] #[.pointer (some ⟨p, 0, none⟩), .pointer (some ⟨q, 0, none⟩)]) (fun x => decide (x ∈ xs) || decide (x ∈ ys)) :=
  ⟨_, _, rfl, fun args w' => enter_of Tryz.func196 (by kernel_rfl) (by kernel_rfl) args w', fun _ hb x _ _ => (takeBlocks2 x (h.later hb)).mono fun _ _ ⟨hw, he⟩ => ⟨he, hw ▸ Below.refl _ _⟩⟩

/-- The first n of a reading. -/
theorem rd_take {S : Nat → Prop} {w : World} {ao : Option Addr} {l c : Nat} {xs : List Int} (h : RdI S w (.slice ao l c) xs) {n : Nat} (hn : n ≤ xs.length) : RdI S w (.slice ao n c) (xs.take n) ∧ l = xs.length ∧ l ≤ c := by
  obtain ⟨ao', c', e, h2, h3⟩ := h
  injection e with e1 e2 e3
  subst e1 e2 e3
  have hl : (xs.take n).length = n := by rw [List.length_take]; omega
  refine ⟨⟨ao, xs.length - n + c', ?_, by omega, fun hne => ?_⟩, rfl, by omega⟩
  · rw [hl]; congr 1; omega
  · obtain ⟨b, off, k1, k2, k3⟩ := h3 (by rintro rfl; simp at hne)
    refine ⟨b, off, k1, k2, fun i hi => ?_⟩
    rw [hl] at hi
    rw [k3 i (by omega)]
    simp [List.getD, hi]

set_option maxHeartbeats 4000000 in
set_option maxRecDepth 4000 in
theorem implTakeBlocks {S : Nat → Prop} {w : World} {u : Value} {xs : List Int} (n : Int) (hu : RdI S w u xs) :
    Calls Tryz.prog 170 #[u, .int .i64 n] w (EndsK (tbC xs n) (tbR1 xs n) (tbR2 xs n) w) := by
  obtain ⟨ao, c, rfl⟩ := hu.shape
  have HU := hide hu
  clear hu
  obtain ⟨z, hz⟩ : ∃ z, mapF xs = z := ⟨_, rfl⟩
  have HZ := hide hz
  have hmf : ∀ (fn : Fn) (first cap : Array Value) (w : World), (Instr.makeFunc fn first cap).run Tryz.prog w = .ok (.func fn first cap) w := fun _ _ _ _ => rfl
  have hsf : ∀ (a : Addr) (m : Mode) (fn : Fn) (fi ca : Array Value) (wx : World), (store a (.func fn fi ca) m).run Tryz.prog wx = stored Tryz.prog wx a (.func fn fi ca) m := fun a m fn fi ca wx => run_store Tryz.prog wx a _ m rfl
  obtain ⟨C, hC⟩ : ∃ C, tbC xs n = C := ⟨_, rfl⟩
  have HR1 : Hid (tbR1 xs n = if C = 0 then tbL xs n else []) := by rw [Hid, tbR1, hC]
  have HR2 : Hid (tbR2 xs n = if C = 0 then tbU xs n else []) := by rw [Hid, tbR2, hC]
  rw [HR1.out, HR2.out, hC]
  unfold tbC at hC
  rw [hz] at hC
  clear hz HR1 HR2
  by_cases h0 : z = 0
  · subst h0
    rw [if_neg (by simp)] at hC
    by_cases hn : 0 ≤ n ∧ n ≤ 20
    · rw [if_neg (fun h => h hn)] at hC
      obtain ⟨hn0, hn20⟩ := hn
      have hb0 : ¬ n < 0 := by omega
      have hb20 : ¬ 20 < n := by omega
      have HFl := hide (frB_len xs)
      have HTL : Hid (tbL xs n = (frB xs).take n.toNat) := rfl
      have HTl := hide (tbL_len xs n)
      have HUl := hide (tbU_len xs n)
      have HFr : Hid (frB xs = blk (fun x => !decide (x ∈ xs))) := rfl
      have HTU : Hid (tbU xs n = blk (fun x => decide (x ∈ xs) || decide (x ∈ tbL xs n))) := rfl
      generalize frB xs = G at HFl HTL HFr hC
      generalize tbL xs n = TL at HTL HTl HTU ⊢
      generalize tbU xs n = TU at HUl HTU ⊢
      obtain ⟨g, hg⟩ : ∃ g, G.length = g := ⟨_, rfl⟩
      have HGl := hide hg
      rw [hg] at hC HFl
      have hg20 := HFl.out
      clear hg
      obtain ⟨k, rfl⟩ : ∃ k : Nat, n = (k : Int) := ⟨n.toNat, by omega⟩
      rw [show (k : Int).toNat = k by omega] at HTL
      obtain ⟨R1, hR1⟩ : ∃ R1, (if C = 0 then TL else []) = R1 := ⟨_, rfl⟩
      obtain ⟨R2, hR2⟩ : ∃ R2, (if C = 0 then TU else []) = R2 := ⟨_, rfl⟩
      rw [hR1, hR2]
      have HR1 := hide hR1
      have HR2 := hide hR2
      have HC := hide hC
      clear hR1 hR2 hC
      go_enter Tryz.func170, Tryz.ntmps170
      go_wp2_with fail
      refine (implMapFault (HU.out.later (below_alloc w _))).mono ?_
      rintro e w1 ⟨he, q, hq⟩
      rw [HZ.out] at he
      subst he
      have HRs : Hid (ResK w w1) := hq ▸ (ResK.start w).later (below_drewN _ q)
      clear hq
      go_wp2_with fail
      refine (takenIn (HU.out.later HRs.out.below)).mono ?_
      rintro e w2 ⟨f, rfl, hb, hf⟩
      obtain ⟨fb, rfl⟩ := hf.shape
      have bA := below_alloc w2 (.cells #[.func (.func 197) #[] #[.pointer (some ⟨fb, 0, none⟩)]] 206)
      have HRs3 := hide ((HRs.out.later hb).later bA)
      have HF3 := hide (hf.later bA)
      have HC3 : Hid ((w2.alloc (.cells #[.func (.func 197) #[] #[.pointer (some ⟨fb, 0, none⟩)]] 206)).cell? ⟨w2.heap.size, 0, none⟩ = some (.func (.func 197) #[] #[.pointer (some ⟨fb, 0, none⟩)])) := by simp [Hid, go_sem]
      have HBl := hide (blocksOf (take1_fp HC3.out HF3.out))
      rw [← HFr.out] at HBl
      have d1 : (w2.alloc (.cells #[.nilFunc] 206)).cell? ⟨w2.heap.size, 0, none⟩ = some .nilFunc := by simp [go_sem]
      have d2 : (w2.alloc (.cells #[.nilFunc] 206)).frozen? ⟨w2.heap.size, 0, none⟩ = false := by simp [go_sem]
      have hp2 : w.heap.size < w2.heap.size := (HRs.out.later hb).lt
      clear hb hf bA HRs
      go_wp2_with fail
      refine HBl.out.mono ?_
      rintro e w4 ⟨z4, rfl, hb, hown⟩
      have ho := ow_of_owns rfl hown (by rw [HGl.out]; omega)
      rw [HGl.out] at hown
      obtain ⟨a4, c4, rfl⟩ := owns_shapeM hown
      have HRs4 := hide (HRs3.out.later hb)
      have HF4 := hide (HF3.out.later hb)
      have HC4 := hide (cell_later hb HC3.out)
      have HG4 := hide ho.rd
      obtain ⟨p, hp⟩ : ∃ p, w2.heap.size = p := ⟨_, rfl⟩
      rw [hp] at HC4 hp2 ⊢
      clear hb ho hown d1 d2 HRs3 HF3 HC3 HBl hp
      by_cases hgk : (g : Int) < (k : Int)
      · have hC := HC.out
        rw [if_pos hgk] at hC
        subst hC
        have hR1 := HR1.out
        have hR2 := HR2.out
        rw [if_neg (by decide)] at hR1 hR2
        subst hR1 hR2
        have c0 := HRs4.out.c0
        have c1 := HRs4.out.c1
        have c2 := HRs4.out.c2
        have F0 := HRs4.out.fr 0
        have F1 := HRs4.out.fr 1
        have F2 := HRs4.out.fr 2
        have HBe := hide HRs4.out.below
        go_wp2
        refine bodyPost_ret (v := .agg #[.int .i64 8, .slice none 0 0, .slice none 0 0]) (by simp [results, Tryz.results170, go_sem, c0, c1, c2]) rfl ⟨_, _, rfl, ?_, OwK_nil _ _⟩
        exact ((HBe.out.setCell (Nat.le_refl _) _).setCell (Nat.le_refl _) _).setCell (Nat.le_refl _) _
      · have hC := HC.out
        rw [if_neg hgk] at hC
        subst hC
        have hR1 := HR1.out
        have hR2 := HR2.out
        rw [if_pos rfl] at hR1 hR2
        subst hR1 hR2
        have hkg : k ≤ g := by omega
        obtain ⟨hrt, _, hlc⟩ := rd_take HG4.out (n := k) (by rw [HGl.out]; exact hkg)
        have hkc : k ≤ c4 := by omega
        rw [← HTL.out] at hrt
        have HRt := hide hrt
        have hk0 : (0 : Int) ≤ (k : Int) := by omega
        have hkc' : (k : Int) ≤ (c4 : Int) := by omega
        clear hrt
        go_wp2_with fail
        refine (copyWords HRt.out (by have := HTl.out; omega)).mono ?_
        rintro e w5 ⟨z5, rfl, hb, ho⟩
        have HRs5 := hide (HRs4.out.later hb)
        have HF5 := hide (HF4.out.later hb)
        have HC5 := hide (cell_later hb HC4.out)
        have HO5 := hide (ho.mono (B' := w.heap.size + 1) HRs4.out.lt)
        have HL5 := hide ho.rd
        obtain ⟨a5, c5, hz5⟩ := ho.shape
        obtain ⟨l5, hl5⟩ : ∃ l, TL.length = l := ⟨_, rfl⟩
        rw [hl5] at hz5
        subst hz5
        clear hb ho HRs4 HF4 HC4 HG4 HRt hl5
        go_wp2_with fail
        refine (takenIn HL5.out).mono ?_
        rintro e w6 ⟨f', rfl, hb, hf⟩
        obtain ⟨fb', rfl⟩ := hf.shape
        have bA := below_alloc w6 (.cells #[.func (.func 197) #[] #[.pointer (some ⟨fb', 0, none⟩)]] 206)
        have hbA := below_on hb bA
        have HRs7 := hide (HRs5.out.later hbA)
        have HTw : Hid (Two (w6.alloc (.cells #[.func (.func 197) #[] #[.pointer (some ⟨fb', 0, none⟩)]] 206)) p w6.heap.size xs TL) :=
          ⟨⟨_, cell_later hbA HC5.out, HF5.out.later hbA⟩, _, by simp [go_sem], hf.later bA⟩
        have HBl := hide (blocksOf HTw.out.fp2)
        rw [← HTU.out] at HBl
        have HO7 := hide (HO5.out.later hbA)
        have d1 : (w6.alloc (.cells #[.nilFunc] 206)).cell? ⟨w6.heap.size, 0, none⟩ = some .nilFunc := by simp [go_sem]
        have d2 : (w6.alloc (.cells #[.nilFunc] 206)).frozen? ⟨w6.heap.size, 0, none⟩ = false := by simp [go_sem]
        clear hb bA hbA hf HRs5 HF5 HC5 HO5 HL5
        go_wp2_with fail
        refine HBl.out.mono ?_
        rintro e w8 ⟨z8, rfl, hb, hown⟩
        have ho := ow_of_owns rfl hown (by have := HUl.out; omega)
        obtain ⟨a8, c8, hz8⟩ := ho.shape
        have HRs8 := hide (HRs7.out.later hb)
        have HFn := hide (ret_two (x := .int .i64 0) HRs8.out.below (Nat.le_refl _) (owK_of HO7.out hb ho (by have := HRs7.out.lt; omega)) (Nat.lt_succ_self _))
        obtain ⟨l8, hl8⟩ : ∃ l, TU.length = l := ⟨_, rfl⟩
        rw [hl8] at hz8
        subst hz8
        have c0 := HRs8.out.c0
        have c1 := HRs8.out.c1
        have c2 := HRs8.out.c2
        have F0 := HRs8.out.fr 0
        have F1 := HRs8.out.fr 1
        have F2 := HRs8.out.fr 2
        clear hb ho hown hl8 HRs7 HRs8 HBl HO7 d1 d2
        go_wp2
        refine bodyPost_ret (v := .agg #[.int .i64 0, .slice a5 l5 c5, .slice a8 l8 c8]) (by simp [results, Tryz.results170, go_sem, c0, c1, c2]) rfl ⟨_, _, rfl, HFn.out.1, HFn.out.2⟩
    · rw [if_pos hn] at hC
      subst hC
      rw [if_neg (by decide), if_neg (by decide)]
      by_cases hn0 : n < 0
      · go_enter Tryz.func170, Tryz.ntmps170
        go_wp2_with fail
        refine (implMapFault (HU.out.later (below_alloc w _))).mono ?_
        rintro e w1 ⟨he, q, hq⟩
        rw [HZ.out] at he
        subst he
        have HRs : Hid (ResK w w1) := hq ▸ (ResK.start w).later (below_drewN _ q)
        clear hq
        have c0 := HRs.out.c0
        have c1 := HRs.out.c1
        have c2 := HRs.out.c2
        have F0 := HRs.out.fr 0
        have F1 := HRs.out.fr 1
        have F2 := HRs.out.fr 2
        have HBe := hide HRs.out.below
        go_wp2
        refine bodyPost_ret (v := .agg #[.int .i64 3, .slice none 0 0, .slice none 0 0]) (by simp [results, Tryz.results170, go_sem, c0, c1, c2]) rfl ⟨_, _, rfl, ?_, OwK_nil _ _⟩
        exact ((HBe.out.setCell (Nat.le_refl _) _).setCell (Nat.le_refl _) _).setCell (Nat.le_refl _) _
      · have hn20 : 20 < n := by omega
        clear hn
        go_enter Tryz.func170, Tryz.ntmps170
        go_wp2_with fail
        refine (implMapFault (HU.out.later (below_alloc w _))).mono ?_
        rintro e w1 ⟨he, q, hq⟩
        rw [HZ.out] at he
        subst he
        have HRs : Hid (ResK w w1) := hq ▸ (ResK.start w).later (below_drewN _ q)
        clear hq
        have c0 := HRs.out.c0
        have c1 := HRs.out.c1
        have c2 := HRs.out.c2
        have F0 := HRs.out.fr 0
        have F1 := HRs.out.fr 1
        have F2 := HRs.out.fr 2
        have HBe := hide HRs.out.below
        go_wp2
        refine bodyPost_ret (v := .agg #[.int .i64 3, .slice none 0 0, .slice none 0 0]) (by simp [results, Tryz.results170, go_sem, c0, c1, c2]) rfl ⟨_, _, rfl, ?_, OwK_nil _ _⟩
        exact ((HBe.out.setCell (Nat.le_refl _) _).setCell (Nat.le_refl _) _).setCell (Nat.le_refl _) _
  · rw [if_pos h0] at hC
    subst hC
    rw [if_neg h0, if_neg h0]
    have h0b : (z == 0) = false := by simpa using h0
    go_enter Tryz.func170, Tryz.ntmps170
    go_wp2_with fail
    refine (implMapFault (HU.out.later (below_alloc w _))).mono ?_
    rintro e w1 ⟨he, q, hq⟩
    rw [HZ.out] at he
    subst he
    have HRs : Hid (ResK w w1) := hq ▸ (ResK.start w).later (below_drewN _ q)
    clear hq
    have c0 := HRs.out.c0
    have c1 := HRs.out.c1
    have c2 := HRs.out.c2
    have F0 := HRs.out.fr 0
    have F1 := HRs.out.fr 1
    have F2 := HRs.out.fr 2
    have HBe := hide HRs.out.below
    go_wp2
    refine bodyPost_ret (v := .agg #[.int .i64 z, .slice none 0 0, .slice none 0 0]) (by simp [results, Tryz.results170, go_sem, c0, c1, c2]) rfl ⟨_, _, rfl, ?_, OwK_nil _ _⟩
    exact ((HBe.out.setCell (Nat.le_refl _) _).setCell (Nat.le_refl _) _).setCell (Nat.le_refl _) _
end Go.Proofs.YtlmaopljihbdkaaGreat
