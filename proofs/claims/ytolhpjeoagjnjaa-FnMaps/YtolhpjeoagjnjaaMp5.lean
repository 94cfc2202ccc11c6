/- Chapter 7: 'l7Pack' of the model; 'PackMap' of both sides, walked. -/
import Derived.Test.YtolhpjeoagjnjaaMp4
import Derived.Test.YtolhpjeoagjnjaaRet
namespace Go.Proofs.Ytolhpjeoagjnjaa
open Go.RowKit

set_option maxHeartbeats 1000000 in
set_option maxRecDepth 4000 in
theorem l7Pack {S : Nat → Prop} {w : World} {u : Value} {xs : List Int} (hu : RdI S w u xs) (hx : ∀ x, x ∈ xs → 3 ≤ x ∧ x ≤ 22) :
    Calls Try.prog 34 #[u] w fun e w' => ∃ z, e = .returned z ∧ Below w.heap.size w w' ∧ OwI w.heap.size w' z (pkL xs) := by
  have hml := hu.max
  obtain ⟨ao, c, rfl⟩ := hu.shape
  have HAt : Hid (∀ k, k < xs.length → 3 ≤ xs.getD k 0 ∧ xs.getD k 0 ≤ 22) := fun k hk => hx _ (by simp [List.getD, hk])
  have HSn := hide (pk_snoc xs)
  have HU := hide hu
  obtain ⟨n, hn⟩ : ∃ n, xs.length = n := ⟨_, rfl⟩
  have HN := hide hn
  rw [hn] at HAt HSn HU hml ⊢
  clear hn hu hx
  go_enter Try.func34, Try.ntmps34
  go_wp2
  obtain ⟨w1, hw1e⟩ : ∃ w1, w.alloc (.cells #[.int .i64 0, .int .i64 0] 2) = w1 := ⟨_, rfl⟩
  have HB1 : Hid (Below w.heap.size w w1) := hw1e ▸ below_alloc _ _
  have C0 : Hid (w1.cell? ⟨w.heap.size, 0, none⟩ = some (.int .i64 0)) := by subst hw1e; simp [Hid, go_sem]
  have C1 : Hid (w1.cell? ⟨w.heap.size, 1, none⟩ = some (.int .i64 0)) := by subst hw1e; simp [Hid, go_sem]
  have CF : Hid (∀ o, w1.frozen? ⟨w.heap.size, o, none⟩ = false) := by subst hw1e; exact fun o => by simp [go_sem]
  have hw1 : w.heap.size < w1.heap.size := World.block_lt_of_cell? _ _ C0.out
  have HU1 : Hid (RdI S w1 (.slice ao n c) xs) := HU.out.later HB1.out
  first | rw [hw1e] | skip
  go_loopw [4] (fun i wr => ∃ (k : Nat) (a b : Int), k ≤ n ∧ i = .int .i64 k ∧ Hid (pk (xs.take k) = (a, b)) ∧ Hid (Wr (· = w.heap.size) w1 wr) ∧ wr.cell? ⟨w.heap.size, 0, none⟩ = some (.int .i64 a) ∧ wr.cell? ⟨w.heap.size, 1, none⟩ = some (.int .i64 b)) (fun i _ => n - (RowKit.intOf i).toNat)
  case atStart => exact ⟨0, 0, 0, Nat.zero_le _, rfl, rfl, (by first | exact Wr.refl _ _ | (rw [hw1e]; exact Wr.refl _ _)), (by first | exact C0.out | (rw [hw1e]; exact C0.out)), (by first | exact C1.out | (rw [hw1e]; exact C1.out))⟩
  case round =>
    obtain ⟨k, a, b, hk, rfl, HPk, HW, g0, g1⟩ := hrel
    by_cases hlt : k < n
    · have HSk := hide (HSn.out k hlt)
      have hx := HAt.out k hlt
      obtain ⟨bb, off, rfl, q0⟩ := HU.out.at (k := k) (by rw [HN.out]; exact hlt)
      have q1 := cell_wr HW.out (cell_later HB1.out q0) (by have := World.block_lt_of_cell? _ _ q0; show ¬ bb = w.heap.size; dsimp only at this; omega)
      obtain ⟨x, hxe⟩ : ∃ x, xs.getD k 0 = x := ⟨_, rfl⟩
      rw [hxe] at hx q1 HSk
      rw [HPk.out] at HSk
      clear hxe q0
      have F0 : wr.frozen? ⟨w.heap.size, 0, none⟩ = false := (HW.out.frz _ _ hw1).trans (CF.out 0)
      have F1 : wr.frozen? ⟨w.heap.size, 1, none⟩ = false := (HW.out.frz _ _ hw1).trans (CF.out 1)
      have hk0 : (0 : Int) ≤ (k : Int) := by omega
      have hk1 : (k : Int) < (n : Int) := by omega
      by_cases h13 : x < 13
      · obtain ⟨y, hy0⟩ : ∃ y : Nat, x - 3 = (y : Int) := ⟨(x - 3).toNat, by omega⟩
        have hy : y < 10 := by omega
        have hdiv : IntKind.i64.wrap (Int.tdiv (x - 3) 10) = 0 := by rw [Int.tdiv_eq_ediv_of_nonneg (by omega), show (x - 3) / 10 = 0 by omega]; decide
        have hmod : Int.tmod (x - 3) 10 = (y : Int) := by rw [Int.tmod_eq_emod_of_nonneg (by omega)]; omega
        have hshl : IntKind.i64.wrap (2 ^ y) = 2 ^ y := shl_ok y hy
        have huw : IntKind.u64.wrap (y : Int) = (y : Int) := by simp [IntKind.wrap, IntKind.bits, IntKind.signed]; omega
        have HPk2 : Hid (pk (xs.take (k + 1)) = (bits .or .i64 a (2 ^ y), b)) := by
          rw [Hid, HSk.out, pkStep, if_pos h13, hy0]; rfl
        clear hy0 HSk
        have HW2 : Hid (Wr (· = w.heap.size) w1 (wr.setCell ⟨w.heap.size, 0, none⟩ (.int .i64 (bits .or .i64 a (2 ^ y))))) := (HW.out.setCell (p := ⟨w.heap.size, 0, none⟩) rfl _)
        go_wp2
        go_roundw
        case rel => exact ⟨k + 1, _, _, by omega, by go_num, HPk2.out, HW2.out, World.cell?_setCell_same _ _ _ g0, (World.cell?_setCell_other _ _ _ _ (by simp)).trans g1⟩
        case measure => simp [RowKit.intOf]; omega
      · obtain ⟨y, hy0⟩ : ∃ y : Nat, x - 13 = (y : Int) := ⟨(x - 13).toNat, by omega⟩
        have hy : y < 10 := by omega
        have hdiv : IntKind.i64.wrap (Int.tdiv (x - 3) 10) = 1 := by rw [Int.tdiv_eq_ediv_of_nonneg (by omega), show (x - 3) / 10 = 1 by omega]; decide
        have hmod : Int.tmod (x - 3) 10 = (y : Int) := by rw [Int.tmod_eq_emod_of_nonneg (by omega)]; omega
        have hshl : IntKind.i64.wrap (2 ^ y) = 2 ^ y := shl_ok y hy
        have huw : IntKind.u64.wrap (y : Int) = (y : Int) := by simp [IntKind.wrap, IntKind.bits, IntKind.signed]; omega
        have HPk2 : Hid (pk (xs.take (k + 1)) = (a, bits .or .i64 b (2 ^ y))) := by
          rw [Hid, HSk.out, pkStep, if_neg h13, hy0]; rfl
        clear hy0 HSk
        have HW2 : Hid (Wr (· = w.heap.size) w1 (wr.setCell ⟨w.heap.size, 1, none⟩ (.int .i64 (bits .or .i64 b (2 ^ y))))) := (HW.out.setCell (p := ⟨w.heap.size, 1, none⟩) rfl _)
        go_wp2
        go_roundw
        case rel => exact ⟨k + 1, _, _, by omega, by go_num, HPk2.out, HW2.out, (World.cell?_setCell_other _ _ _ _ (by simp)).trans g0, World.cell?_setCell_same _ _ _ g1⟩
        case measure => simp [RowKit.intOf]; omega
    · have hkn : k = n := by omega
      subst hkn
      have hfin : xs.take k = xs := by rw [← HN.out]; simp
      rw [hfin] at HPk
      have HFin : Hid (Below w.heap.size w wr ∧ OwI w.heap.size wr (.slice (some ⟨w.heap.size, 0, none⟩) 2 2) (pkL xs)) := by
        refine ⟨HB1.out.trans (HW.out.below (by omega) (fun b hb => by subst hb; exact Nat.le_refl _)), w.heap.size, ⟨_, 0, ?_, ?_, fun _ => ⟨w.heap.size, 0, rfl, rfl, fun i hi => ?_⟩⟩, fun _ => ⟨Nat.le_refl _, Nat.lt_of_lt_of_le hw1 HW.out.size, fun o => (HW.out.frz _ _ hw1).trans (CF.out o)⟩⟩
        · rfl
        · simp [pkL]
        · simp only [pkL, List.length_cons, List.length_nil] at hi
          unfold pkL
          rw [HPk.out]
          match i, hi with
          | 0, _ => exact g0
          | 1, _ => exact g1
      go_wp2
      go_ret
      exact ⟨_, rfl, HFin.out.1, HFin.out.2⟩

/-- What a map's closure tells is the map. -/
theorem pair_ext : ∀ {xs ys : List Int}, xs.Pairwise (· < ·) → ys.Pairwise (· < ·) → (∀ a, a ∈ xs ↔ a ∈ ys) → xs = ys
  | [], [], _, _, _ => rfl
  | [], y :: ys, _, _, h => absurd ((h y).2 (by simp)) (by simp)
  | x :: xs, [], _, _, h => absurd ((h x).1 (by simp)) (by simp)
  | x :: xs, y :: ys, h1, h2, h => by
    rw [List.pairwise_cons] at h1 h2
    have e : x = y := by
      have a1 := (h x).1 (by simp)
      have a2 := (h y).2 (by simp)
      rw [List.mem_cons] at a1 a2
      rcases a1 with a1 | a1
      · exact a1
      · rcases a2 with a2 | a2
        · exact a2.symm
        · have := h1.1 _ a2; have := h2.1 _ a1; omega
    subst e
    have : xs = ys := pair_ext h1.2 h2.2 fun a => by
      constructor
      · intro ha
        have := (h a).1 (by simp [ha])
        rw [List.mem_cons] at this
        rcases this with rfl | hh
        · have := h1.1 _ ha; omega
        · exact hh
      · intro ha
        have := (h a).2 (by simp [ha])
        rw [List.mem_cons] at this
        rcases this with rfl | hh
        · have := h2.1 _ ha; omega
        · exact hh
    rw [this]
theorem allB_up : allB.Pairwise (· < ·) := by decide
theorem mem_allB {x : Int} : x ∈ allB ↔ 3 ≤ x ∧ x ≤ 22 := by
  simp only [allB, List.mem_cons, List.not_mem_nil, or_false]
  omega
theorem blk_up (p : Int → Bool) : (blk p).Pairwise (· < ·) := allB_up.filter _
theorem mem_blk {p : Int → Bool} {x : Int} : x ∈ blk p ↔ (3 ≤ x ∧ x ≤ 22) ∧ p x = true := by unfold blk; rw [List.mem_filter, mem_allB]
theorem blk_map (p : Int → Bool) : IsMap (blk p) := ⟨fun _ hx => (mem_blk.1 hx).1, blk_up p⟩
theorem blk_of {xs : List Int} (h : IsMap xs) : blk (fun x => decide (x ∈ xs)) = xs :=
  pair_ext (blk_up _) h.2 fun a => by rw [mem_blk]; simp only [decide_eq_true_eq]; exact ⟨fun h => h.2, fun ha => ⟨h.1 a ha, ha⟩⟩

/-- What 'PackMap' answers. -/
def pmR (xs : List Int) : List Int := if mapF xs = 0 then pkL xs else []

set_option maxHeartbeats 1000000 in
set_option maxRecDepth 4000 in
theorem implPackMap {S : Nat → Prop} {w : World} {v : Value} {xs : List Int} (hv : RdI S w v xs) :
    Calls Try.prog 13 #[v] w (EndsI (mapF xs) (pmR xs) w) := by
  obtain ⟨ao, c, rfl⟩ := hv.shape
  have HV := hide hv
  clear hv
  unfold pmR
  obtain ⟨z, hz⟩ : ∃ z, mapF xs = z := ⟨_, rfl⟩
  have HZ := hide hz
  rw [hz]
  clear hz
  have bA := hide (below_alloc w (.cells #[.int .i64 0, .slice none 0 0] 27))
  by_cases h0 : z = 0
  · subst h0
    rw [if_pos rfl]
    have HMp := hide (mapF_iff.1 HZ.out)
    go_enter Try.func13, Try.ntmps13
    go_wp2_with fail
    refine (implMapFault (HV.out.later bA.out)).mono ?_
    rintro e w1 ⟨he, q, rfl⟩
    rw [HZ.out] at he
    subst he
    have bB := hide (below_on bA.out (below_drewN _ q))
    go_wp2_with fail
    refine (takenIn (HV.out.later bB.out)).mono ?_
    rintro e w2 ⟨f, rfl, hb, hf⟩
    have bC := hide (below_on bB.out hb)
    have c0 := cell_later hb (show World.cell? _ ⟨w.heap.size, 0, none⟩ = some (.int .i64 0) by simp [go_sem])
    have c1 := cell_later hb (show World.cell? _ ⟨w.heap.size, 1, none⟩ = some (.slice none 0 0) by simp [go_sem])
    have F0 : w2.frozen? ⟨w.heap.size, 0, none⟩ = false := ((bcell hb).2 _ _ (by simp)).trans (by simp [go_sem])
    have F1 : w2.frozen? ⟨w.heap.size, 1, none⟩ = false := ((bcell hb).2 _ _ (by simp)).trans (by simp [go_sem])
    have K0 := hide c0
    have K1 := hide c1
    have L0 := hide F0
    have L1 := hide F1
    have HFp := hide hf.fp
    have hfs : ∃ b, f = .func (.func 58) #[] #[.pointer (some ⟨b, 0, none⟩)] := by obtain ⟨b, _, _, e, _⟩ := hf; exact ⟨b, e⟩
    obtain ⟨fb, rfl⟩ := hfs
    have hw2 : w.heap.size < w2.heap.size := World.block_lt_of_cell? _ _ c0
    clear hb hf c0 c1 F0 F1
    go_wp2_with fail
    refine (packedMap HFp.out).mono ?_
    rintro e w3 ⟨z3, rfl, hb, ho⟩
    rw [blk_of HMp.out] at ho
    obtain ⟨a3, c3, hz3⟩ := ho.shape
    rw [show (pkL xs).length = 2 from rfl] at hz3
    subst hz3
    have HFn := hide (ret_ints (x := .int .i64 0) (below_on bC.out hb) (Nat.le_refl _) ho (by omega))
    have c0 := cell_later hb K0.out
    have c1 := cell_later hb K1.out
    have F0 : w3.frozen? ⟨w.heap.size, 0, none⟩ = false := ((bcell hb).2 _ _ hw2).trans L0.out
    have F1 : w3.frozen? ⟨w.heap.size, 1, none⟩ = false := ((bcell hb).2 _ _ hw2).trans L1.out
    clear hb ho K0 K1 L0 L1 hw2
    go_wp2
    refine bodyPost_ret (v := .agg #[.int .i64 0, .slice a3 2 c3]) (by simp [results, Try.results13, go_sem, c0, c1]) rfl ⟨_, rfl, HFn.out.1, HFn.out.2⟩
  · rw [if_neg h0]
    go_enter Try.func13, Try.ntmps13
    go_wp2_with fail
    refine (implMapFault (HV.out.later bA.out)).mono ?_
    rintro e w1 ⟨he, q, rfl⟩
    rw [HZ.out] at he
    subst he
    have bB := hide (below_on bA.out (below_drewN _ q))
    have h0b : (z == 0) = false := by simpa using h0
    go_wp2
    refine bodyPost_ret (v := .agg #[.int .i64 z, .slice none 0 0]) (by simp [results, Try.results13, go_sem]) rfl ⟨_, rfl, ?_, OwI_nil _ _⟩
    exact (bB.out.setCell (Nat.le_refl _) _).setCell (Nat.le_refl _) _

set_option maxHeartbeats 1000000 in
set_option maxRecDepth 4000 in
theorem specPackMap {S : Nat → Prop} {w : World} {v : Value} {xs : List Int} (hv : RdI S w v xs) :
    Calls Try.prog 24 #[v] w (EndsI (mapF xs) (pmR xs) w) := by
  obtain ⟨ao, c, rfl⟩ := hv.shape
  have HV := hide hv
  clear hv
  unfold pmR
  obtain ⟨z, hz⟩ : ∃ z, mapF xs = z := ⟨_, rfl⟩
  have HZ := hide hz
  rw [hz]
  clear hz
  have bA := hide (below_alloc w (.cells #[.int .i64 0, .slice none 0 0] 27))
  by_cases h0 : z = 0
  · subst h0
    rw [if_pos rfl]
    have HMp := hide (mapF_iff.1 HZ.out)
    go_enter Try.func24, Try.ntmps24
    go_wp2_with fail
    refine (l7Fault (HV.out.later bA.out)).mono ?_
    rintro e w1 ⟨he, q, rfl⟩
    rw [HZ.out] at he
    subst he
    have bB := hide (below_on bA.out (below_drewN _ q))
    have K0 : Hid (World.cell? ((w.alloc (.cells #[.int .i64 0, .slice none 0 0] 27)).drewN q) ⟨w.heap.size, 0, none⟩ = some (.int .i64 0)) := by simp [Hid, go_sem]
    have K1 : Hid (World.cell? ((w.alloc (.cells #[.int .i64 0, .slice none 0 0] 27)).drewN q) ⟨w.heap.size, 1, none⟩ = some (.slice none 0 0)) := by simp [Hid, go_sem]
    have L0 : Hid (World.frozen? ((w.alloc (.cells #[.int .i64 0, .slice none 0 0] 27)).drewN q) ⟨w.heap.size, 0, none⟩ = false) := by simp [Hid, go_sem]
    have L1 : Hid (World.frozen? ((w.alloc (.cells #[.int .i64 0, .slice none 0 0] 27)).drewN q) ⟨w.heap.size, 1, none⟩ = false) := by simp [Hid, go_sem]
    have hw2 : w.heap.size < ((w.alloc (.cells #[.int .i64 0, .slice none 0 0] 27)).drewN q).heap.size := World.block_lt_of_cell? _ _ K0.out
    have bC := bB
    go_wp2_with fail
    refine (l7Pack (HV.out.later bB.out) HMp.out.1).mono ?_
    rintro e w3 ⟨z3, rfl, hb, ho⟩
    obtain ⟨a3, c3, hz3⟩ := ho.shape
    rw [show (pkL xs).length = 2 from rfl] at hz3
    subst hz3
    have HFn := hide (ret_ints (x := .int .i64 0) (below_on bC.out hb) (Nat.le_refl _) ho (by omega))
    have c0 := cell_later hb K0.out
    have c1 := cell_later hb K1.out
    have F0 : w3.frozen? ⟨w.heap.size, 0, none⟩ = false := ((bcell hb).2 _ _ hw2).trans L0.out
    have F1 : w3.frozen? ⟨w.heap.size, 1, none⟩ = false := ((bcell hb).2 _ _ hw2).trans L1.out
    clear hb ho K0 K1 L0 L1 hw2
    go_wp2
    refine bodyPost_ret (v := .agg #[.int .i64 0, .slice a3 2 c3]) (by simp [results, Try.results24, go_sem, c0, c1]) rfl ⟨_, rfl, HFn.out.1, HFn.out.2⟩
  · rw [if_neg h0]
    go_enter Try.func24, Try.ntmps24
    go_wp2_with fail
    refine (l7Fault (HV.out.later bA.out)).mono ?_
    rintro e w1 ⟨he, q, rfl⟩
    rw [HZ.out] at he
    subst he
    have bB := hide (below_on bA.out (below_drewN _ q))
    have h0b : (z == 0) = false := by simpa using h0
    go_wp2
    refine bodyPost_ret (v := .agg #[.int .i64 z, .slice none 0 0]) (by simp [results, Try.results24, go_sem]) rfl ⟨_, rfl, ?_, OwI_nil _ _⟩
    exact (bB.out.setCell (Nat.le_refl _) _).setCell (Nat.le_refl _) _
end Go.Proofs.Ytolhpjeoagjnjaa
