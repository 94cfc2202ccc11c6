/- Tk1 Tk2 in one text: what each says stands at its head below. -/
import Derived.Test.YtlmaopljihbdkaaGreatG13
namespace Go.Proofs.YtlmaopljihbdkaaGreat
open Go.RowKit
def frB (xs : List Int) : List Int := blk (fun x => !decide (x ∈ xs))
def tbL (xs : List Int) (n : Int) : List Int := (frB xs).take n.toNat
def tbU (xs : List Int) (n : Int) : List Int := blk (fun x => decide (x ∈ xs) || decide (x ∈ tbL xs n))
def tbC (xs : List Int) (n : Int) : Int := if mapF xs ≠ 0 then mapF xs else if ¬ (0 ≤ n ∧ n ≤ 20) then 3 else if ((frB xs).length : Int) < n then 8 else 0
def tbR1 (xs : List Int) (n : Int) : List Int := if tbC xs n = 0 then tbL xs n else []
def tbR2 (xs : List Int) (n : Int) : List Int := if tbC xs n = 0 then tbU xs n else []
theorem frB_len (xs : List Int) : (frB xs).length ≤ 20 := blk_len _
theorem tbL_len (xs : List Int) (n : Int) : (tbL xs n).length ≤ 20 := by unfold tbL; rw [List.length_take]; have := frB_len xs; omega
theorem tbU_len (xs : List Int) (n : Int) : (tbU xs n).length ≤ 20 := blk_len _
structure ResK (w wr : World) : Prop where
  below : Below w.heap.size w wr
  c0 : wr.cell? ⟨w.heap.size, 0, none⟩ = some (.int .i64 0)
  c1 : wr.cell? ⟨w.heap.size, 1, none⟩ = some (.slice none 0 0)
  c2 : wr.cell? ⟨w.heap.size, 2, none⟩ = some (.slice none 0 0)
  fr : ∀ o, wr.frozen? ⟨w.heap.size, o, none⟩ = false
theorem ResK.lt {w wr : World} (h : ResK w wr) : w.heap.size < wr.heap.size := World.block_lt_of_cell? _ _ h.c0
theorem ResK.later {w wr w1 : World} (h : ResK w wr) (hb : Below wr.heap.size wr w1) : ResK w w1 :=
  ⟨below_on h.below hb, cell_later hb h.c0, cell_later hb h.c1, cell_later hb h.c2, fun o => ((bcell hb).2 _ _ h.lt).trans (h.fr o)⟩
theorem ResK.start (w : World) : ResK w (w.alloc (.cells #[.int .i64 0, .slice none 0 0, .slice none 0 0] 203)) :=
  ⟨below_alloc _ _, by simp [go_sem], by simp [go_sem], by simp [go_sem], fun o => by simp [go_sem]⟩
theorem ret_two {w w3 : World} {B r : Nat} {z y x : Value} {xs ys : List Int} (hb : Below w.heap.size w w3) (hr : w.heap.size ≤ r) (ho : OwK B w3 z y xs ys) (hB : r < B) :
    Below w.heap.size w (((w3.setCell ⟨r, 0, none⟩ x).setCell ⟨r, 1, none⟩ z).setCell ⟨r, 2, none⟩ y) ∧ OwK w.heap.size (((w3.setCell ⟨r, 0, none⟩ x).setCell ⟨r, 1, none⟩ z).setCell ⟨r, 2, none⟩ y) z y xs ys := by
  have hw : Wr (fun y => y = r) w3 (((w3.setCell ⟨r, 0, none⟩ x).setCell ⟨r, 1, none⟩ z).setCell ⟨r, 2, none⟩ y) := (((Wr.refl (fun y => y = r) _).setCell (p := ⟨r, 0, none⟩) rfl _).setCell (p := ⟨r, 1, none⟩) rfl _).setCell (p := ⟨r, 2, none⟩) rfl _
  exact ⟨((hb.setCell (p := ⟨r, 0, none⟩) hr _).setCell (p := ⟨r, 1, none⟩) hr _).setCell (p := ⟨r, 2, none⟩) hr _, (ho.wr hw (fun b h1 _ e => by omega)).mono (by omega)⟩
theorem owK_of {B : Nat} {w1 w2 : World} {u v : Value} {xs ys : List Int} (h1 : OwI B w1 u xs) (hb : Below w1.heap.size w1 w2) (h2 : OwI w1.heap.size w2 v ys) (hB : B ≤ w1.heap.size) : OwK B w2 u v xs ys := by
  obtain ⟨b1, r1, f1⟩ := h1
  obtain ⟨b2, r2, f2⟩ := h2
  refine ⟨b1, b2, r1.later hb, r2, fun hn => ⟨(f1 hn).1, Nat.lt_of_lt_of_le (f1 hn).2.1 hb.size, fun o => ((bcell hb).2 _ _ (f1 hn).2.1).trans ((f1 hn).2.2 o)⟩, fun hn => ⟨Nat.le_trans hB (f2 hn).1, (f2 hn).2⟩, fun hn hn' => ?_⟩
  have := (f1 hn).2.1; have := (f2 hn').1; omega
set_option maxHeartbeats 1000000 in
set_option maxRecDepth 4000 in
theorem takeBlocks1 {w : World} {p : Nat} {xs : List Int} {f : Value} (x : Int) (hc : w.cell? ⟨p, 0, none⟩ = some f) (h : TkIn w f xs) :
    Calls Tryz.prog 195 #[.int .i64 x, .pointer (some ⟨p, 0, none⟩)] w fun e w' => w' = w ∧ e = .returned (.bool (!decide (x ∈ xs))) := by
  obtain ⟨b1, u1, S1, rfl, k1, r1⟩ := h
  have HT1 := hide (takenIn1 x k1 r1)
  clear k1 r1
  obtain ⟨B, hB⟩ : ∃ B, decide (x ∈ xs) = B := ⟨_, rfl⟩
  rw [hB] at HT1 ⊢
  clear hB
  go_enter Tryz.func195, Tryz.ntmps195
  go_wp2_with fail
  refine HT1.out.mono ?_
  rintro e w1 ⟨hw, rfl⟩
  have hw := hw.symm
  subst hw
  go_wp2
  go_ret
  exact ⟨rfl, rfl⟩
theorem take1_fp {w : World} {p : Nat} {xs : List Int} {f : Value} (hc : w.cell? ⟨p, 0, none⟩ = some f) (h : TkIn w f xs) : Fp w (.func (.func 195) #[] #[.pointer (some ⟨p, 0, none⟩)]) (fun x => !decide (x ∈ xs)) :=
  ⟨_, _, rfl, fun args w' => enter_of Tryz.func195 (by kernel_rfl) (by kernel_rfl) args w', fun _ hb x _ _ => (takeBlocks1 x (cell_later hb hc) (h.later hb)).mono fun _ _ ⟨hw, he⟩ => ⟨he, hw ▸ Below.refl _ _⟩⟩
set_option maxHeartbeats 1000000 in
set_option maxRecDepth 4000 in
theorem takeBlocks2 {w : World} {p q : Nat} {xs ys : List Int} (x : Int) (h : Two w p q xs ys) :
    Calls Tryz.prog 196 #[.int .i64 x, .pointer (some ⟨p, 0, none⟩), .pointer (some ⟨q, 0, none⟩)] w fun e w' => w' = w ∧ e = .returned (.bool (decide (x ∈ xs) || decide (x ∈ ys))) := by
  obtain ⟨⟨f, c1, b1, u1, S1, rfl, k1, r1⟩, g, c2, b2, u2, S2, rfl, k2, r2⟩ := h
  have HT1 := hide (takenIn1 x k1 r1)
  have HT2 := hide (takenIn1 x k2 r2)
  clear k1 k2 r1 r2
  obtain ⟨B, hB⟩ : ∃ B, decide (x ∈ xs) = B := ⟨_, rfl⟩
  obtain ⟨C, hC⟩ : ∃ C, decide (x ∈ ys) = C := ⟨_, rfl⟩
  rw [hB] at HT1 ⊢
  rw [hC] at HT2 ⊢
  clear hB hC
  cases B with
  | false =>
    go_enter Tryz.func196, Tryz.ntmps196
    go_wp2_with fail
    refine HT1.out.mono ?_
    rintro e w1 ⟨hw, rfl⟩
    have hw := hw.symm
    subst hw
    go_wp2_with fail
    refine HT2.out.mono ?_
    rintro e w2 ⟨hw, rfl⟩
    have hw := hw.symm
    subst hw
    go_wp2
    go_ret
    exact ⟨rfl, rfl⟩
  | true =>
    go_enter Tryz.func196, Tryz.ntmps196
    go_wp2_with fail
    refine HT1.out.mono ?_
    rintro e w1 ⟨hw, rfl⟩
    have hw := hw.symm
    subst hw
    go_wp2
    go_ret
    exact ⟨rfl, rfl⟩
theorem Two.fp2 {w : World} {p q : Nat} {xs ys : List Int} (h : Two w p q xs ys) : Fp w (.func (.func 196) #[] #[.pointer (some ⟨p, 0, none⟩), .pointer (some ⟨q, 0, none⟩)]) (fun x => decide (x ∈ xs) || decide (x ∈ ys)) :=
  ⟨_, _, rfl, fun args w' => enter_of Tryz.func196 (by kernel_rfl) (by kernel_rfl) args w', fun _ hb x _ _ => (takeBlocks2 x (h.later hb)).mono fun _ _ ⟨hw, he⟩ => ⟨he, hw ▸ Below.refl _ _⟩⟩
theorem rd_take {S : Nat → Prop} {w : World} {ao : Option Addr} {l c : Nat} {xs : List Int} (h : RdI S w (.slice ao l c) xs) {n : Nat} (hn : n ≤ xs.length) : RdI S w (.slice ao n c) (xs.take n) ∧ l = xs.length ∧ l ≤ c := by
  obtain ⟨ao', c', e, h2, h3⟩ := h
  injection e with e1 e2 e3
  subst e1 e2 e3
  have hl : (xs.take n).length = n := by rw [List.length_take]; omega
  refine ⟨⟨ao, xs.length - n + c', ?_, by omega, fun hne => ?_⟩, rfl, by omega⟩
  · rw [hl]; congr 1; omega
  · obtain ⟨b, off, k1, k2, k3⟩ := h3 (by rintro rfl; simp at hne)
    refine ⟨b, off, k1, k2, fun i hi => ?_⟩
    rw [hl] at hi
    rw [k3 i (by omega)]
    simp [List.getD, hi]
set_option maxHeartbeats 4000000 in
set_option maxRecDepth 4000 in
theorem implTakeBlocks {S : Nat → Prop} {w : World} {u : Value} {xs : List Int} (n : Int) (hu : RdI S w u xs) :
    Calls Tryz.prog 170 #[u, .int .i64 n] w (EndsK (tbC xs n) (tbR1 xs n) (tbR2 xs n) w) := by
  obtain ⟨ao, c, rfl⟩ := hu.shape
  have HU := hide hu
  clear hu
  obtain ⟨z, hz⟩ : ∃ z, mapF xs = z := ⟨_, rfl⟩
  have HZ := hide hz
  have hmf : ∀ (fn : Fn) (first cap : Array Value) (w : World), (Instr.makeFunc fn first cap).run Tryz.prog w = .ok (.func fn first cap) w := fun _ _ _ _ => rfl
  have hsf : ∀ (a : Addr) (m : Mode) (fn : Fn) (fi ca : Array Value) (wx : World), (store a (.func fn fi ca) m).run Tryz.prog wx = stored Tryz.prog wx a (.func fn fi ca) m := fun a m fn fi ca wx => run_store Tryz.prog wx a _ m rfl
  obtain ⟨C, hC⟩ : ∃ C, tbC xs n = C := ⟨_, rfl⟩
  have HR1 : Hid (tbR1 xs n = if C = 0 then tbL xs n else []) := by rw [Hid, tbR1, hC]
  have HR2 : Hid (tbR2 xs n = if C = 0 then tbU xs n else []) := by rw [Hid, tbR2, hC]
  rw [HR1.out, HR2.out, hC]
  unfold tbC at hC
  rw [hz] at hC
  clear hz HR1 HR2
  by_cases h0 : z = 0
  · subst h0
    rw [if_neg (by simp)] at hC
    by_cases hn : 0 ≤ n ∧ n ≤ 20
    · rw [if_neg (fun h => h hn)] at hC
      obtain ⟨hn0, hn20⟩ := hn
      have hb0 : ¬ n < 0 := by omega
      have hb20 : ¬ 20 < n := by omega
      have HFl := hide (frB_len xs)
      have HTL : Hid (tbL xs n = (frB xs).take n.toNat) := rfl
      have HTl := hide (tbL_len xs n)
      have HUl := hide (tbU_len xs n)
      have HFr : Hid (frB xs = blk (fun x => !decide (x ∈ xs))) := rfl
      have HTU : Hid (tbU xs n = blk (fun x => decide (x ∈ xs) || decide (x ∈ tbL xs n))) := rfl
      generalize frB xs = G at HFl HTL HFr hC
      generalize tbL xs n = TL at HTL HTl HTU ⊢
      generalize tbU xs n = TU at HUl HTU ⊢
      obtain ⟨g, hg⟩ : ∃ g, G.length = g := ⟨_, rfl⟩
      have HGl := hide hg
      rw [hg] at hC HFl
      have hg20 := HFl.out
      clear hg
      obtain ⟨k, rfl⟩ : ∃ k : Nat, n = (k : Int) := ⟨n.toNat, by omega⟩
      rw [show (k : Int).toNat = k by omega] at HTL
      obtain ⟨R1, hR1⟩ : ∃ R1, (if C = 0 then TL else []) = R1 := ⟨_, rfl⟩
      obtain ⟨R2, hR2⟩ : ∃ R2, (if C = 0 then TU else []) = R2 := ⟨_, rfl⟩
      rw [hR1, hR2]
      have HR1 := hide hR1
      have HR2 := hide hR2
      have HC := hide hC
      clear hR1 hR2 hC
      go_enter Tryz.func170, Tryz.ntmps170
      go_wp2_with fail
      refine (implMapFault (HU.out.later (below_alloc w _))).mono ?_
      rintro e w1 ⟨he, q, hq⟩
      rw [HZ.out] at he
      subst he
      have HRs : Hid (ResK w w1) := hq ▸ (ResK.start w).later (below_drewN _ q)
      clear hq
      go_wp2_with fail
      refine (takenIn (HU.out.later HRs.out.below)).mono ?_
      rintro e w2 ⟨f, rfl, hb, hf⟩
      obtain ⟨fb, rfl⟩ := hf.shape
      have bA := below_alloc w2 (.cells #[.func (.func 197) #[] #[.pointer (some ⟨fb, 0, none⟩)]] 206)
      have HRs3 := hide ((HRs.out.later hb).later bA)
      have HF3 := hide (hf.later bA)
      have HC3 : Hid ((w2.alloc (.cells #[.func (.func 197) #[] #[.pointer (some ⟨fb, 0, none⟩)]] 206)).cell? ⟨w2.heap.size, 0, none⟩ = some (.func (.func 197) #[] #[.pointer (some ⟨fb, 0, none⟩)])) := by simp [Hid, go_sem]
      have HBl := hide (blocksOf (take1_fp HC3.out HF3.out))
      rw [← HFr.out] at HBl
      have d1 : (w2.alloc (.cells #[.nilFunc] 206)).cell? ⟨w2.heap.size, 0, none⟩ = some .nilFunc := by simp [go_sem]
      have d2 : (w2.alloc (.cells #[.nilFunc] 206)).frozen? ⟨w2.heap.size, 0, none⟩ = false := by simp [go_sem]
      have hp2 : w.heap.size < w2.heap.size := (HRs.out.later hb).lt
      clear hb hf bA HRs
      go_wp2_with fail
      refine HBl.out.mono ?_
      rintro e w4 ⟨z4, rfl, hb, hown⟩
      have ho := ow_of_owns rfl hown (by rw [HGl.out]; omega)
      rw [HGl.out] at hown
      obtain ⟨a4, c4, rfl⟩ := owns_shapeM hown
      have HRs4 := hide (HRs3.out.later hb)
      have HF4 := hide (HF3.out.later hb)
      have HC4 := hide (cell_later hb HC3.out)
      have HG4 := hide ho.rd
      obtain ⟨p, hp⟩ : ∃ p, w2.heap.size = p := ⟨_, rfl⟩
      rw [hp] at HC4 hp2 ⊢
      clear hb ho hown d1 d2 HRs3 HF3 HC3 HBl hp
      by_cases hgk : (g : Int) < (k : Int)
      · have hC := HC.out
        rw [if_pos hgk] at hC
        subst hC
        have hR1 := HR1.out
        have hR2 := HR2.out
        rw [if_neg (by decide)] at hR1 hR2
        subst hR1 hR2
        have c0 := HRs4.out.c0
        have c1 := HRs4.out.c1
        have c2 := HRs4.out.c2
        have F0 := HRs4.out.fr 0
        have F1 := HRs4.out.fr 1
        have F2 := HRs4.out.fr 2
        have HBe := hide HRs4.out.below
        go_wp2
        refine bodyPost_ret (v := .agg #[.int .i64 8, .slice none 0 0, .slice none 0 0]) (by simp [results, Tryz.results170, go_sem, c0, c1, c2]) rfl ⟨_, _, rfl, ?_, OwK_nil _ _⟩
        exact ((HBe.out.setCell (Nat.le_refl _) _).setCell (Nat.le_refl _) _).setCell (Nat.le_refl _) _
      · have hC := HC.out
        rw [if_neg hgk] at hC
        subst hC
        have hR1 := HR1.out
        have hR2 := HR2.out
        rw [if_pos rfl] at hR1 hR2
        subst hR1 hR2
        have hkg : k ≤ g := by omega
        obtain ⟨hrt, _, hlc⟩ := rd_take HG4.out (n := k) (by rw [HGl.out]; exact hkg)
        have hkc : k ≤ c4 := by omega
        rw [← HTL.out] at hrt
        have HRt := hide hrt
        have hk0 : (0 : Int) ≤ (k : Int) := by omega
        have hkc' : (k : Int) ≤ (c4 : Int) := by omega
        clear hrt
        go_wp2_with fail
        refine (copyWords HRt.out (by have := HTl.out; omega)).mono ?_
        rintro e w5 ⟨z5, rfl, hb, ho⟩
        have HRs5 := hide (HRs4.out.later hb)
        have HF5 := hide (HF4.out.later hb)
        have HC5 := hide (cell_later hb HC4.out)
        have HO5 := hide (ho.mono (B' := w.heap.size + 1) HRs4.out.lt)
        have HL5 := hide ho.rd
        obtain ⟨a5, c5, hz5⟩ := ho.shape
        obtain ⟨l5, hl5⟩ : ∃ l, TL.length = l := ⟨_, rfl⟩
        rw [hl5] at hz5
        subst hz5
        clear hb ho HRs4 HF4 HC4 HG4 HRt hl5
        go_wp2_with fail
        refine (takenIn HL5.out).mono ?_
        rintro e w6 ⟨f', rfl, hb, hf⟩
        obtain ⟨fb', rfl⟩ := hf.shape
        have bA := below_alloc w6 (.cells #[.func (.func 197) #[] #[.pointer (some ⟨fb', 0, none⟩)]] 206)
        have hbA := below_on hb bA
        have HRs7 := hide (HRs5.out.later hbA)
        have HTw : Hid (Two (w6.alloc (.cells #[.func (.func 197) #[] #[.pointer (some ⟨fb', 0, none⟩)]] 206)) p w6.heap.size xs TL) :=
          ⟨⟨_, cell_later hbA HC5.out, HF5.out.later hbA⟩, _, by simp [go_sem], hf.later bA⟩
        have HBl := hide (blocksOf HTw.out.fp2)
        rw [← HTU.out] at HBl
        have HO7 := hide (HO5.out.later hbA)
        have d1 : (w6.alloc (.cells #[.nilFunc] 206)).cell? ⟨w6.heap.size, 0, none⟩ = some .nilFunc := by simp [go_sem]
        have d2 : (w6.alloc (.cells #[.nilFunc] 206)).frozen? ⟨w6.heap.size, 0, none⟩ = false := by simp [go_sem]
        clear hb bA hbA hf HRs5 HF5 HC5 HO5 HL5
        go_wp2_with fail
        refine HBl.out.mono ?_
        rintro e w8 ⟨z8, rfl, hb, hown⟩
        have ho := ow_of_owns rfl hown (by have := HUl.out; omega)
        obtain ⟨a8, c8, hz8⟩ := ho.shape
        have HRs8 := hide (HRs7.out.later hb)
        have HFn := hide (ret_two (x := .int .i64 0) HRs8.out.below (Nat.le_refl _) (owK_of HO7.out hb ho (by have := HRs7.out.lt; omega)) (Nat.lt_succ_self _))
        obtain ⟨l8, hl8⟩ : ∃ l, TU.length = l := ⟨_, rfl⟩
        rw [hl8] at hz8
        subst hz8
        have c0 := HRs8.out.c0
        have c1 := HRs8.out.c1
        have c2 := HRs8.out.c2
        have F0 := HRs8.out.fr 0
        have F1 := HRs8.out.fr 1
        have F2 := HRs8.out.fr 2
        clear hb ho hown hl8 HRs7 HRs8 HBl HO7 d1 d2
        go_wp2
        refine bodyPost_ret (v := .agg #[.int .i64 0, .slice a5 l5 c5, .slice a8 l8 c8]) (by simp [results, Tryz.results170, go_sem, c0, c1, c2]) rfl ⟨_, _, rfl, HFn.out.1, HFn.out.2⟩
    · rw [if_pos hn] at hC
      subst hC
      rw [if_neg (by decide), if_neg (by decide)]
      by_cases hn0 : n < 0
      · go_enter Tryz.func170, Tryz.ntmps170
        go_wp2_with fail
        refine (implMapFault (HU.out.later (below_alloc w _))).mono ?_
        rintro e w1 ⟨he, q, hq⟩
        rw [HZ.out] at he
        subst he
        have HRs : Hid (ResK w w1) := hq ▸ (ResK.start w).later (below_drewN _ q)
        clear hq
        have c0 := HRs.out.c0
        have c1 := HRs.out.c1
        have c2 := HRs.out.c2
        have F0 := HRs.out.fr 0
        have F1 := HRs.out.fr 1
        have F2 := HRs.out.fr 2
        have HBe := hide HRs.out.below
        go_wp2
        refine bodyPost_ret (v := .agg #[.int .i64 3, .slice none 0 0, .slice none 0 0]) (by simp [results, Tryz.results170, go_sem, c0, c1, c2]) rfl ⟨_, _, rfl, ?_, OwK_nil _ _⟩
        exact ((HBe.out.setCell (Nat.le_refl _) _).setCell (Nat.le_refl _) _).setCell (Nat.le_refl _) _
      · have hn20 : 20 < n := by omega
        clear hn
        go_enter Tryz.func170, Tryz.ntmps170
        go_wp2_with fail
        refine (implMapFault (HU.out.later (below_alloc w _))).mono ?_
        rintro e w1 ⟨he, q, hq⟩
        rw [HZ.out] at he
        subst he
        have HRs : Hid (ResK w w1) := hq ▸ (ResK.start w).later (below_drewN _ q)
        clear hq
        have c0 := HRs.out.c0
        have c1 := HRs.out.c1
        have c2 := HRs.out.c2
        have F0 := HRs.out.fr 0
        have F1 := HRs.out.fr 1
        have F2 := HRs.out.fr 2
        have HBe := hide HRs.out.below
        go_wp2
        refine bodyPost_ret (v := .agg #[.int .i64 3, .slice none 0 0, .slice none 0 0]) (by simp [results, Tryz.results170, go_sem, c0, c1, c2]) rfl ⟨_, _, rfl, ?_, OwK_nil _ _⟩
        exact ((HBe.out.setCell (Nat.le_refl _) _).setCell (Nat.le_refl _) _).setCell (Nat.le_refl _) _
  · rw [if_pos h0] at hC
    subst hC
    rw [if_neg h0, if_neg h0]
    have h0b : (z == 0) = false := by simpa using h0
    go_enter Tryz.func170, Tryz.ntmps170
    go_wp2_with fail
    refine (implMapFault (HU.out.later (below_alloc w _))).mono ?_
    rintro e w1 ⟨he, q, hq⟩
    rw [HZ.out] at he
    subst he
    have HRs : Hid (ResK w w1) := hq ▸ (ResK.start w).later (below_drewN _ q)
    clear hq
    have c0 := HRs.out.c0
    have c1 := HRs.out.c1
    have c2 := HRs.out.c2
    have F0 := HRs.out.fr 0
    have F1 := HRs.out.fr 1
    have F2 := HRs.out.fr 2
    have HBe := hide HRs.out.below
    go_wp2
    refine bodyPost_ret (v := .agg #[.int .i64 z, .slice none 0 0, .slice none 0 0]) (by simp [results, Tryz.results170, go_sem, c0, c1, c2]) rfl ⟨_, _, rfl, ?_, OwK_nil _ _⟩
    exact ((HBe.out.setCell (Nat.le_refl _) _).setCell (Nat.le_refl _) _).setCell (Nat.le_refl _) _
end Go.Proofs.YtlmaopljihbdkaaGreat
namespace Go.Proofs.YtlmaopljihbdkaaGreat
open Go.RowKit
def lT (xs : List Int) (n k : Nat) : List Int := (blkTo (fun x => !decide (x ∈ xs)) k).take n
def aT (xs : List Int) (n k : Nat) : List Int := blkTo (fun x => decide (x ∈ xs) || decide (x ∈ tbL xs n)) k
theorem lT_len (xs : List Int) (n k : Nat) : (lT xs n k).length ≤ k := by
  unfold lT; rw [List.length_take]; have := blkTo_len (fun x => !decide (x ∈ xs)) k; omega
theorem aT_len (xs : List Int) (n k : Nat) : (aT xs n k).length ≤ k := blkTo_len _ k
theorem lT_all (xs : List Int) (n : Nat) : lT xs n 20 = tbL xs n := by unfold lT tbL frB; rw [blkTo_all]; rfl
theorem aT_all (xs : List Int) (n : Nat) : aT xs n 20 = tbU xs n := by unfold aT tbU; rw [blkTo_all]
theorem blk_split (p : Int → Bool) (k : Nat) : ∃ B, blk p = blkTo p (k + 1) ++ B := by
  refine ⟨(allB.drop (k + 1)).filter p, ?_⟩
  unfold blk blkTo
  rw [← List.filter_append, List.take_append_drop]
theorem mem_tbL (xs : List Int) (n : Nat) {k : Nat} (h : k < 20) (hx : 3 + (k : Int) ∉ xs) : (3 + (k : Int) ∈ tbL xs n) ↔ (lT xs n k).length < n := by
  obtain ⟨B, hB⟩ := blk_split (fun x => !decide (x ∈ xs)) k
  have hs : blkTo (fun x => !decide (x ∈ xs)) (k + 1) = blkTo (fun x => !decide (x ∈ xs)) k ++ [3 + (k : Int)] := by rw [blkTo_succ _ h, if_pos (by simp [hx])]
  rw [hs] at hB
  have hup := blk_up (fun x => !decide (x ∈ xs))
  unfold tbL frB lT
  rw [show ((n : Nat) : Int).toNat = n by omega, hB]
  rw [hB, List.append_assoc, List.pairwise_append] at hup
  generalize blkTo (fun x => !decide (x ∈ xs)) k = A at hup
  have hA : 3 + (k : Int) ∉ A := fun hm => by have := hup.2.2 _ hm (3 + (k : Int)) (by simp); omega
  have hBn : 3 + (k : Int) ∉ B := fun hm => by
    have h2 := hup.2.1
    rw [List.singleton_append, List.pairwise_cons] at h2
    have := h2.1 _ hm; omega
  rw [List.append_assoc, List.singleton_append, List.take_append, List.mem_append, List.length_take]
  constructor
  · rintro (hm | hm)
    · exact absurd (List.mem_of_mem_take hm) hA
    · by_cases hn : n - A.length = 0
      · rw [hn] at hm; simp at hm
      · omega
  · intro hl
    refine Or.inr ?_
    rw [show n - A.length = (n - A.length - 1) + 1 by omega, List.take_succ_cons]
    exact List.mem_cons_self
theorem tk_in (xs : List Int) (n : Nat) {k : Nat} (h : k < 20) (hx : 3 + (k : Int) ∈ xs) : lT xs n (k + 1) = lT xs n k ∧ aT xs n (k + 1) = aT xs n k ++ [3 + (k : Int)] := by
  unfold lT aT
  rw [blkTo_succ _ h, blkTo_succ _ h, if_neg (by simp [hx]), if_pos (by simp [hx]), List.append_nil]
  exact ⟨rfl, rfl⟩
theorem tk_new (xs : List Int) (n : Nat) {k : Nat} (h : k < 20) (hx : 3 + (k : Int) ∉ xs) (hl : (lT xs n k).length < n) : lT xs n (k + 1) = lT xs n k ++ [3 + (k : Int)] ∧ aT xs n (k + 1) = aT xs n k ++ [3 + (k : Int)] := by
  have hm := (mem_tbL xs n h hx).2 hl
  refine ⟨?_, ?_⟩
  · unfold lT at hl ⊢
    rw [blkTo_succ _ h, if_pos (by simp [hx])]
    generalize blkTo (fun x => !decide (x ∈ xs)) k = A at hl
    rw [List.length_take] at hl
    rw [List.take_of_length_le (by rw [List.length_append]; simp; omega), List.take_of_length_le (by omega)]
  · unfold aT
    rw [blkTo_succ _ h, if_pos (by simp [hm])]
theorem tk_not (xs : List Int) (n : Nat) {k : Nat} (h : k < 20) (hx : 3 + (k : Int) ∉ xs) (hl : ¬ (lT xs n k).length < n) : lT xs n (k + 1) = lT xs n k ∧ aT xs n (k + 1) = aT xs n k := by
  have hm : 3 + (k : Int) ∉ tbL xs n := fun h' => hl ((mem_tbL xs n h hx).1 h')
  refine ⟨?_, ?_⟩
  · unfold lT at hl ⊢
    rw [blkTo_succ _ h, if_pos (by simp [hx])]
    generalize blkTo (fun x => !decide (x ∈ xs)) k = A at hl
    rw [List.length_take] at hl
    rw [List.take_append_of_le_length (by omega)]
  · unfold aT
    rw [blkTo_succ _ h, if_neg (by simp [hx, hm]), List.append_nil]
theorem row_beside {wr w4 : World} {O : Obj} {B t g7 j c g8 j' c' g : Nat} {L A : List Value} (h7 : wr.ownsRow B t 1 (.slice (some ⟨g7, 0, none⟩) j c) j L) (h8 : wr.ownsRow B t 1 (.slice (some ⟨g8, 0, none⟩) j' c') j' A) (hne : g7 ≠ g8)
    (hgrow : (wr.alloc O).grownBy w4 (Value.slice (some ⟨g7, 0, none⟩) j c).ownBlock) (hat : (Value.slice (some ⟨g7, 0, none⟩) j c).ownBlock = some g ∨ g = wr.heap.size + 1) :
    w4.ownsRow B t 1 (.slice (some ⟨g8, 0, none⟩) j' c') j' A ∧ g ≠ g8 := by
  refine ⟨(h8.alloc O).kept hgrow (Or.inr (by simp only [Value.ownBlock]; intro e; injection e with e; exact hne e.symm)), ?_⟩
  have hl := (h8.lt g8 (by simp [Value.ownBlock])).2
  have := (h7.lt g7 (by simp [Value.ownBlock])).2
  rcases hat with e | e
  · simp only [Value.ownBlock] at e
    injection e with e
    rw [← e]; exact hne
  · omega
theorem owK_rows {w : World} {B t g7 j c g8 j' c' : Nat} {L A : List Int} (hL : L.length = j) (hA : A.length = j') (h7 : w.ownsRow B t 1 (.slice (some ⟨g7, 0, none⟩) j c) j (L.map (Value.int .i64))) (h8 : w.ownsRow B t 1 (.slice (some ⟨g8, 0, none⟩) j' c') j' (A.map (Value.int .i64))) (hne : g7 ≠ g8) (hj : j ≤ 1048576) (hj' : j' ≤ 1048576) :
    OwK B w (.slice (some ⟨g7, 0, none⟩) j c) (.slice (some ⟨g8, 0, none⟩) j' c') L A := by
  obtain ⟨b1, r1, f1⟩ := ow_of_owns hL h7 (by omega)
  obtain ⟨b2, r2, f2⟩ := ow_of_owns hA h8 (by omega)
  refine ⟨b1, b2, r1, r2, f1, f2, fun hn hn' e => ?_⟩
  obtain ⟨a, c, e1, _, k1⟩ := r1
  obtain ⟨a', c', e2, _, k2⟩ := r2
  obtain ⟨x1, o1, m1, m2, _⟩ := k1 hn
  obtain ⟨x2, o2, n1, n2, _⟩ := k2 hn'
  injection e1 with e1 _ _
  injection e2 with e2 _ _
  rw [← e1] at m1
  rw [← e2] at n1
  injection m1 with m1
  injection m1 with m1 _
  injection n1 with n1
  injection n1 with n1 _
  subst m2 n2
  exact hne (by omega)
set_option maxHeartbeats 4000000 in
set_option maxRecDepth 4000 in
theorem l7Take {S : Nat → Prop} {w : World} {u : Value} {xs : List Int} (n : Nat) (hn20 : n ≤ 20) (hu : RdI S w u xs) :
    Calls Tryz.prog 116 #[u, .int .i64 n] w fun e w' => ∃ y z, e = .returned (.tuple #[y, z, .bool (decide ((tbL xs n).length = n))]) ∧ Below w.heap.size w w' ∧ OwK w.heap.size w' y z (tbL xs n) (tbU xs n) := by
  obtain ⟨i0, hi, hz0, hz1, hz2⟩ := info_parts Tryz.infoInt
  obtain ⟨ao, c, rfl⟩ := hu.shape
  have HU := hide hu
  clear hu
  have bA := below_on (below_alloc w (.cells #[] 2)) (below_alloc (w.alloc (.cells #[] 2)) (.cells #[] 2))
  have O7 := hide ((World.ownsRow_made (base := w.heap.size) (e := 2) (size := 1) w #[] 0 (Nat.le_refl _) (by unfold maxLen; omega) (by simp)).alloc (.cells #[] 2))
  have O8 := hide (World.ownsRow_made (base := w.heap.size) (e := 2) (size := 1) (w.alloc (.cells #[] 2)) #[] 0 (by simp) (by unfold maxLen; omega) (by simp))
  have HLa := hide (lT_all xs n)
  have HAa := hide (aT_all xs n)
  have HIn := hide (fun (k : Nat) => @tk_in xs n k)
  have HNew := hide (fun (k : Nat) => @tk_new xs n k)
  have HNot := hide (fun (k : Nat) => @tk_not xs n k)
  have HLn := hide (lT_len xs n)
  have HAn := hide (aT_len xs n)
  have HL0 : Hid (lT xs n 0 = []) := by unfold Hid lT blkTo; simp
  have HA0 : Hid (aT xs n 0 = []) := by unfold Hid aT blkTo; simp
  generalize tbL xs n = TL at HLa ⊢
  generalize tbU xs n = TU at HAa ⊢
  generalize lT xs n = LT at HLa HIn HNew HNot HLn HL0
  generalize aT xs n = AT at HAa HIn HNew HNot HAn HA0
  go_enter Tryz.func116, Tryz.ntmps116
  go_wp2
  go_loopw [7, 8, 9] (fun v7 v8 i wr => ∃ (k g7 j7 c7 g8 j8 c8 : Nat), k ≤ 20 ∧ i = .int .i64 (3 + (k : Int)) ∧ v7 = .slice (some ⟨g7, 0, none⟩) j7 c7 ∧ v8 = .slice (some ⟨g8, 0, none⟩) j8 c8 ∧ g7 ≠ g8 ∧ Hid ((LT k).length = j7) ∧ Hid ((AT k).length = j8) ∧
      Hid (wr.ownsRow w.heap.size 2 1 (.slice (some ⟨g7, 0, none⟩) j7 c7) j7 ((LT k).map (Value.int .i64))) ∧ Hid (wr.ownsRow w.heap.size 2 1 (.slice (some ⟨g8, 0, none⟩) j8 c8) j8 ((AT k).map (Value.int .i64))) ∧ Hid (Below w.heap.size w wr)) (fun _ _ i _ => 23 - (RowKit.intOf i).toNat)
  case atStart =>
    refine ⟨0, w.heap.size, 0, 0, w.heap.size + 1, 0, 0, by omega, rfl, rfl, by simp, by omega, by rw [Hid, HL0.out]; rfl, by rw [Hid, HA0.out]; rfl, ?_, ?_, bA⟩
    · rw [HL0.out]; exact O7.out
    · rw [HA0.out]; unfold Hid; simpa using O8.out
  case round =>
    obtain ⟨k, g7, j7, c7, g8, j8, c8, hk, rfl, rfl, rfl, hne, HJ7, HJ8, H7, H8, HB⟩ := hrel
    have hzz := HB.out.size
    by_cases hlt : k < 20
    · have hle : (3 + (k : Int)) ≤ 22 := by omega
      have hj7 : j7 ≤ 20 := by have := HLn.out k; rw [HJ7.out] at this; omega
      have hj8 : j8 ≤ 20 := by have := HAn.out k; rw [HJ8.out] at this; omega
      have HAm := hide (l7Among (3 + (k : Int)) (HU.out.later HB.out))
      by_cases hx : 3 + (k : Int) ∈ xs
      · obtain ⟨e7, e8⟩ := HIn.out k hlt hx
        rw [decide_eq_true hx] at HAm
        have E7 := hide e7
        have E8 := hide e8
        clear e7 e8 hx
        go_wp2_with fail
        refine HAm.out.mono ?_
        rintro e w1 ⟨hw, rfl⟩
        have hw := hw.symm
        subst hw
        go_wp2_with (at_builtin; refine wpList_append_lies _ rfl _ _ _ rfl w.heap.size 2 i0 (.int .i64 0) 1 8 Tryz.underlying22 hi hz0 hz1 hz2 rfl (by omega) _ j8 _ (by rfl) (H8.out.alloc (.cells #[.int .i64 (3 + (k : Int))] 2)) ⟨wr.heap.size, 0, none⟩ 1 1 [.int .i64 (3 + (k : Int))] (by rfl) (by rfl) (World.news_of_block (cs := #[.int .i64 (3 + (k : Int))]) (t := 2) (fr := (0, 0)) (heap_alloc_new wr _)) (by simp [Value.oneCell']) (by omega) (by unfold maxLen; omega) (by omega) (by simp; omega) (wr.heap.size + 1) (by simp) ?_; intro g cap w4 hown hgrow hat hltg)
        obtain ⟨H7', hne'⟩ := row_beside H8.out H7.out (Ne.symm hne) hgrow hat
        have H7' := hide H7'
        have HB4 := hide ((below_on HB.out (below_alloc wr (.cells #[.int .i64 (3 + (k : Int))] 2))).grown hgrow (by simp; omega) (fun r hr => (H8.out.lt r hr).1))
        have H8' : Hid (w4.ownsRow w.heap.size 2 1 (.slice (some ⟨g, 0, none⟩) (j8 + 1) cap) (j8 + 1) ((AT (k + 1)).map (Value.int .i64))) := by rw [Hid, E8.out]; simpa using hown
        have HJ8' : Hid ((AT (k + 1)).length = j8 + 1) := by rw [Hid, E8.out, List.length_append, HJ8.out]; rfl
        rw [← E7.out] at H7' HJ7
        clear hown hgrow hat hltg
        go_wp2
        go_roundw
        case rel => exact ⟨k + 1, g7, j7, c7, g, j8 + 1, cap, by omega, by go_num, rfl, rfl, Ne.symm hne', HJ7.out, HJ8'.out, H7'.out, H8'.out, HB4.out⟩
        case measure => simp [RowKit.intOf]; omega
      · rw [decide_eq_false hx] at HAm
        by_cases hl : j7 < n
        · obtain ⟨e7, e8⟩ := HNew.out k hlt hx (by rw [HJ7.out]; exact hl)
          have E7 := hide e7
          have E8 := hide e8
          have hli : (j7 : Int) < (n : Int) := by omega
          clear e7 e8 hx
          go_wp2_with fail
          refine HAm.out.mono ?_
          rintro e w1 ⟨hw, rfl⟩
          have hw := hw.symm
          subst hw
          go_wp2_with (first
            | ((at_builtin; refine wpList_append_lies _ rfl _ _ _ rfl w.heap.size 2 i0 (.int .i64 0) 1 8 Tryz.underlying22 hi hz0 hz1 hz2 rfl (by omega) _ j7 _ (by rfl) (H7.out.alloc (.cells #[.int .i64 (3 + (k : Int))] 2)) ⟨wr.heap.size, 0, none⟩ 1 1 [.int .i64 (3 + (k : Int))] (by rfl) (by rfl) (World.news_of_block (cs := #[.int .i64 (3 + (k : Int))]) (t := 2) (fr := (0, 0)) (heap_alloc_new wr _)) (by simp [Value.oneCell']) (by omega) (by unfold maxLen; omega) (by omega) (by simp; omega) (wr.heap.size + 1) (by simp) ?_; intro g cap w4 hown hgrow hat hltg); obtain ⟨h8n, hne'⟩ := row_beside H7.out H8.out hne hgrow hat; have H8' := hide h8n; have HB4 := hide ((below_on HB.out (below_alloc wr (.cells #[.int .i64 (3 + (k : Int))] 2))).grown hgrow (by simp; omega) (fun r hr => (H7.out.lt r hr).1)); have H7' : Hid (w4.ownsRow w.heap.size 2 1 (.slice (some ⟨g, 0, none⟩) (j7 + 1) cap) (j7 + 1) ((LT (k + 1)).map (Value.int .i64))) := (by rw [Hid, E7.out]; simpa using hown); have HJ7' : Hid ((LT (k + 1)).length = j7 + 1) := (by rw [Hid, E7.out, List.length_append, HJ7.out]; rfl); have hz4 := HB4.out.size; clear hown hgrow hat hltg h8n)
            | (at_builtin; refine wpList_append_lies _ rfl _ _ _ rfl w.heap.size 2 i0 (.int .i64 0) 1 8 Tryz.underlying22 hi hz0 hz1 hz2 rfl (by omega) _ j8 _ (by rfl) (H8'.out.alloc (.cells #[.int .i64 (3 + (k : Int))] 2)) ⟨w4.heap.size, 0, none⟩ 1 1 [.int .i64 (3 + (k : Int))] (by rfl) (by rfl) (World.news_of_block (cs := #[.int .i64 (3 + (k : Int))]) (t := 2) (fr := (0, 0)) (heap_alloc_new w4 _)) (by simp [Value.oneCell']) (by omega) (by unfold maxLen; omega) (by omega) (by simp; omega) (w4.heap.size + 1) (by simp) ?_; intro g2 cap2 w5 hown hgrow hat hltg))
          obtain ⟨H7'', hne''⟩ := row_beside H8'.out H7'.out (Ne.symm hne') hgrow hat
          have H7'' := hide H7''
          have HB5 := hide ((below_on HB4.out (below_alloc w4 (.cells #[.int .i64 (3 + (k : Int))] 2))).grown hgrow (by simp; omega) (fun r hr => (H8'.out.lt r hr).1))
          have H8'' : Hid (w5.ownsRow w.heap.size 2 1 (.slice (some ⟨g2, 0, none⟩) (j8 + 1) cap2) (j8 + 1) ((AT (k + 1)).map (Value.int .i64))) := by rw [Hid, E8.out]; simpa using hown
          have HJ8' : Hid ((AT (k + 1)).length = j8 + 1) := by rw [Hid, E8.out, List.length_append, HJ8.out]; rfl
          clear hown hgrow hat hltg
          go_wp2
          go_roundw
          case rel => exact ⟨k + 1, g, j7 + 1, cap, g2, j8 + 1, cap2, by omega, by go_num, rfl, rfl, Ne.symm hne'', HJ7'.out, HJ8'.out, H7''.out, H8''.out, HB5.out⟩
          case measure => simp [RowKit.intOf]; omega
        · obtain ⟨e7, e8⟩ := HNot.out k hlt hx (by rw [HJ7.out]; exact hl)
          have E7 := hide e7
          have E8 := hide e8
          have hli : ¬ (j7 : Int) < (n : Int) := by omega
          clear e7 e8 hx
          rw [← E7.out] at H7 HJ7
          rw [← E8.out] at H8 HJ8
          go_wp2_with fail
          refine HAm.out.mono ?_
          rintro e w1 ⟨hw, rfl⟩
          have hw := hw.symm
          subst hw
          go_wp2
          go_roundw
          case rel => exact ⟨k + 1, g7, j7, c7, g8, j8, c8, by omega, by go_num, rfl, rfl, hne, HJ7.out, HJ8.out, H7.out, H8.out, HB.out⟩
          case measure => simp [RowKit.intOf]; omega
    · have hk20 : k = 20 := by omega
      subst hk20
      rw [HLa.out] at H7 HJ7
      rw [HAa.out] at H8 HJ8
      have hj7 : j7 ≤ 20 := by have := HLn.out 20; rw [HLa.out, HJ7.out] at this; omega
      have hj8 : j8 ≤ 20 := by have := HAn.out 20; rw [HAa.out, HJ8.out] at this; omega
      have HF := hide (owK_rows HJ7.out HJ8.out H7.out H8.out hne (by omega) (by omega))
      by_cases hjn : j7 = n
      · subst hjn
        have hd : Hid (decide (TL.length = j7) = true) := by rw [Hid, HJ7.out]; simp
        go_wp2
        refine bodyPost_ret (v := .tuple #[.slice (some ⟨g7, 0, none⟩) j7 c7, .slice (some ⟨g8, 0, none⟩) j8 c8, .bool true]) (by simp [results, Tryz.results116, go_sem]) rfl ⟨_, _, by rw [hd.out], HB.out, HF.out⟩
      · have hd : Hid (decide (TL.length = n) = false) := by rw [Hid, HJ7.out]; simpa using hjn
        have hjb : ((j7 : Int) == (n : Int)) = false := by simp; omega
        go_wp2
        refine bodyPost_ret (v := .tuple #[.slice (some ⟨g7, 0, none⟩) j7 c7, .slice (some ⟨g8, 0, none⟩) j8 c8, .bool false]) (by simp [results, Tryz.results116, go_sem]) rfl ⟨_, _, by rw [hd.out], HB.out, HF.out⟩
end Go.Proofs.YtlmaopljihbdkaaGreat
