/- Mp5 Mp6a Same Mp6b Mp7a Tk0 in one text: what each says stands at its head below. -/
import Derived.Test.YtlmaopljihbdkaaGreatG12
import Derived.Test.YtlmaopljihbdkaaGreatG11
import Derived.Test.YtlmaopljihbdkaaGreatG04
namespace Go.Proofs.YtlmaopljihbdkaaGreat
open Go.RowKit
set_option maxHeartbeats 1000000 in
set_option maxRecDepth 4000 in
theorem l7Pack {S : Nat → Prop} {w : World} {u : Value} {xs : List Int} (hu : RdI S w u xs) (hx : ∀ x, x ∈ xs → 3 ≤ x ∧ x ≤ 22) :
    Calls Tryz.prog 67 #[u] w fun e w' => ∃ z, e = .returned z ∧ Below w.heap.size w w' ∧ OwI w.heap.size w' z (pkL xs) := by
  have hml := hu.max
  obtain ⟨ao, c, rfl⟩ := hu.shape
  have HAt : Hid (∀ k, k < xs.length → 3 ≤ xs.getD k 0 ∧ xs.getD k 0 ≤ 22) := fun k hk => hx _ (by simp [List.getD, hk])
  have HSn := hide (pk_snoc xs)
  have HU := hide hu
  obtain ⟨n, hn⟩ : ∃ n, xs.length = n := ⟨_, rfl⟩
  have HN := hide hn
  rw [hn] at HAt HSn HU hml ⊢
  clear hn hu hx
  go_enter Tryz.func67, Tryz.ntmps67
  go_wp2
  obtain ⟨w1, hw1e⟩ : ∃ w1, w.alloc (.cells #[.int .i64 0, .int .i64 0] 2) = w1 := ⟨_, rfl⟩
  have HB1 : Hid (Below w.heap.size w w1) := hw1e ▸ below_alloc _ _
  have C0 : Hid (w1.cell? ⟨w.heap.size, 0, none⟩ = some (.int .i64 0)) := by subst hw1e; simp [Hid, go_sem]
  have C1 : Hid (w1.cell? ⟨w.heap.size, 1, none⟩ = some (.int .i64 0)) := by subst hw1e; simp [Hid, go_sem]
  have CF : Hid (∀ o, w1.frozen? ⟨w.heap.size, o, none⟩ = false) := by subst hw1e; exact fun o => by simp [go_sem]
  have hw1 : w.heap.size < w1.heap.size := World.block_lt_of_cell? _ _ C0.out
  have HU1 : Hid (RdI S w1 (.slice ao n c) xs) := HU.out.later HB1.out
  first | rw [hw1e] | skip
  go_loopw [4] (fun i wr => ∃ (k : Nat) (a b : Int), k ≤ n ∧ i = .int .i64 k ∧ Hid (pk (xs.take k) = (a, b)) ∧ Hid (Wr (· = w.heap.size) w1 wr) ∧ wr.cell? ⟨w.heap.size, 0, none⟩ = some (.int .i64 a) ∧ wr.cell? ⟨w.heap.size, 1, none⟩ = some (.int .i64 b)) (fun i _ => n - (RowKit.intOf i).toNat)
  case atStart => exact ⟨0, 0, 0, Nat.zero_le _, rfl, rfl, (by first | exact Wr.refl _ _ | (rw [hw1e]; exact Wr.refl _ _)), (by first | exact C0.out | (rw [hw1e]; exact C0.out)), (by first | exact C1.out | (rw [hw1e]; exact C1.out))⟩
  case round =>
    obtain ⟨k, a, b, hk, rfl, HPk, HW, g0, g1⟩ := hrel
    by_cases hlt : k < n
    · have HSk := hide (HSn.out k hlt)
      have hx := HAt.out k hlt
      obtain ⟨bb, off, rfl, q0⟩ := HU.out.at (k := k) (by rw [HN.out]; exact hlt)
      have q1 := cell_wr HW.out (cell_later HB1.out q0) (by have := World.block_lt_of_cell? _ _ q0; show ¬ bb = w.heap.size; dsimp only at this; omega)
      obtain ⟨x, hxe⟩ : ∃ x, xs.getD k 0 = x := ⟨_, rfl⟩
      rw [hxe] at hx q1 HSk
      rw [HPk.out] at HSk
      clear hxe q0
      have F0 : wr.frozen? ⟨w.heap.size, 0, none⟩ = false := (HW.out.frz _ _ hw1).trans (CF.out 0)
      have F1 : wr.frozen? ⟨w.heap.size, 1, none⟩ = false := (HW.out.frz _ _ hw1).trans (CF.out 1)
      have hk0 : (0 : Int) ≤ (k : Int) := by omega
      have hk1 : (k : Int) < (n : Int) := by omega
      by_cases h13 : x < 13
      · obtain ⟨y, hy0⟩ : ∃ y : Nat, x - 3 = (y : Int) := ⟨(x - 3).toNat, by omega⟩
        have hy : y < 10 := by omega
        have hdiv : IntKind.i64.wrap (Int.tdiv (x - 3) 10) = 0 := by rw [Int.tdiv_eq_ediv_of_nonneg (by omega), show (x - 3) / 10 = 0 by omega]; decide
        have hmod : Int.tmod (x - 3) 10 = (y : Int) := by rw [Int.tmod_eq_emod_of_nonneg (by omega)]; omega
        have hshl : IntKind.i64.wrap (2 ^ y) = 2 ^ y := shl_ok y hy
        have huw : IntKind.u64.wrap (y : Int) = (y : Int) := by simp [IntKind.wrap, IntKind.bits, IntKind.signed]; omega
        have HPk2 : Hid (pk (xs.take (k + 1)) = (bits .or .i64 a (2 ^ y), b)) := by
          rw [Hid, HSk.out, pkStep, if_pos h13, hy0]; rfl
        clear hy0 HSk
        have HW2 : Hid (Wr (· = w.heap.size) w1 (wr.setCell ⟨w.heap.size, 0, none⟩ (.int .i64 (bits .or .i64 a (2 ^ y))))) := (HW.out.setCell (p := ⟨w.heap.size, 0, none⟩) rfl _)
        go_wp2
        go_roundw
        case rel => exact ⟨k + 1, _, _, by omega, by go_num, HPk2.out, HW2.out, World.cell?_setCell_same _ _ _ g0, (World.cell?_setCell_other _ _ _ _ (by simp)).trans g1⟩
        case measure => simp [RowKit.intOf]; omega
      · obtain ⟨y, hy0⟩ : ∃ y : Nat, x - 13 = (y : Int) := ⟨(x - 13).toNat, by omega⟩
        have hy : y < 10 := by omega
        have hdiv : IntKind.i64.wrap (Int.tdiv (x - 3) 10) = 1 := by rw [Int.tdiv_eq_ediv_of_nonneg (by omega), show (x - 3) / 10 = 1 by omega]; decide
        have hmod : Int.tmod (x - 3) 10 = (y : Int) := by rw [Int.tmod_eq_emod_of_nonneg (by omega)]; omega
        have hshl : IntKind.i64.wrap (2 ^ y) = 2 ^ y := shl_ok y hy
        have huw : IntKind.u64.wrap (y : Int) = (y : Int) := by simp [IntKind.wrap, IntKind.bits, IntKind.signed]; omega
        have HPk2 : Hid (pk (xs.take (k + 1)) = (a, bits .or .i64 b (2 ^ y))) := by
          rw [Hid, HSk.out, pkStep, if_neg h13, hy0]; rfl
        clear hy0 HSk
        have HW2 : Hid (Wr (· = w.heap.size) w1 (wr.setCell ⟨w.heap.size, 1, none⟩ (.int .i64 (bits .or .i64 b (2 ^ y))))) := (HW.out.setCell (p := ⟨w.heap.size, 1, none⟩) rfl _)
        go_wp2
        go_roundw
        case rel => exact ⟨k + 1, _, _, by omega, by go_num, HPk2.out, HW2.out, (World.cell?_setCell_other _ _ _ _ (by simp)).trans g0, World.cell?_setCell_same _ _ _ g1⟩
        case measure => simp [RowKit.intOf]; omega
    · have hkn : k = n := by omega
      subst hkn
      have hfin : xs.take k = xs := by rw [← HN.out]; simp
      rw [hfin] at HPk
      have HFin : Hid (Below w.heap.size w wr ∧ OwI w.heap.size wr (.slice (some ⟨w.heap.size, 0, none⟩) 2 2) (pkL xs)) := by
        refine ⟨HB1.out.trans (HW.out.below (by omega) (fun b hb => by subst hb; exact Nat.le_refl _)), w.heap.size, ⟨_, 0, ?_, ?_, fun _ => ⟨w.heap.size, 0, rfl, rfl, fun i hi => ?_⟩⟩, fun _ => ⟨Nat.le_refl _, Nat.lt_of_lt_of_le hw1 HW.out.size, fun o => (HW.out.frz _ _ hw1).trans (CF.out o)⟩⟩
        · rfl
        · simp [pkL]
        · simp only [pkL, List.length_cons, List.length_nil] at hi
          unfold pkL
          rw [HPk.out]
          match i, hi with
          | 0, _ => exact g0
          | 1, _ => exact g1
      go_wp2
      go_ret
      exact ⟨_, rfl, HFin.out.1, HFin.out.2⟩
theorem pair_ext : ∀ {xs ys : List Int}, xs.Pairwise (· < ·) → ys.Pairwise (· < ·) → (∀ a, a ∈ xs ↔ a ∈ ys) → xs = ys
  | [], [], _, _, _ => rfl
  | [], y :: ys, _, _, h => absurd ((h y).2 (by simp)) (by simp)
  | x :: xs, [], _, _, h => absurd ((h x).1 (by simp)) (by simp)
  | x :: xs, y :: ys, h1, h2, h => by
    rw [List.pairwise_cons] at h1 h2
    have e : x = y := by
      have a1 := (h x).1 (by simp)
      have a2 := (h y).2 (by simp)
      rw [List.mem_cons] at a1 a2
      rcases a1 with a1 | a1
      · exact a1
      · rcases a2 with a2 | a2
        · exact a2.symm
        · have := h1.1 _ a2; have := h2.1 _ a1; omega
    subst e
    have : xs = ys := pair_ext h1.2 h2.2 fun a => by
      constructor
      · intro ha
        have := (h a).1 (by simp [ha])
        rw [List.mem_cons] at this
        rcases this with rfl | hh
        · have := h1.1 _ ha; omega
        · exact hh
      · intro ha
        have := (h a).2 (by simp [ha])
        rw [List.mem_cons] at this
        rcases this with rfl | hh
        · have := h2.1 _ ha; omega
        · exact hh
    rw [this]
theorem allB_up : allB.Pairwise (· < ·) := by decide
theorem mem_allB {x : Int} : x ∈ allB ↔ 3 ≤ x ∧ x ≤ 22 := by
  simp only [allB, List.mem_cons, List.not_mem_nil, or_false]
  omega
theorem blk_up (p : Int → Bool) : (blk p).Pairwise (· < ·) := allB_up.filter _
theorem mem_blk {p : Int → Bool} {x : Int} : x ∈ blk p ↔ (3 ≤ x ∧ x ≤ 22) ∧ p x = true := by unfold blk; rw [List.mem_filter, mem_allB]
theorem blk_of {xs : List Int} (h : IsMap xs) : blk (fun x => decide (x ∈ xs)) = xs :=
  pair_ext (blk_up _) h.2 fun a => by rw [mem_blk]; simp only [decide_eq_true_eq]; exact ⟨fun h => h.2, fun ha => ⟨h.1 a ha, ha⟩⟩
def pmR (xs : List Int) : List Int := if mapF xs = 0 then pkL xs else []
set_option maxHeartbeats 1000000 in
set_option maxRecDepth 4000 in
theorem implPackMap {S : Nat → Prop} {w : World} {v : Value} {xs : List Int} (hv : RdI S w v xs) :
    Calls Tryz.prog 129 #[v] w (EndsI (mapF xs) (pmR xs) w) := by
  obtain ⟨ao, c, rfl⟩ := hv.shape
  have HV := hide hv
  clear hv
  unfold pmR
  obtain ⟨z, hz⟩ : ∃ z, mapF xs = z := ⟨_, rfl⟩
  have HZ := hide hz
  rw [hz]
  clear hz
  have bA := hide (below_alloc w (.cells #[.int .i64 0, .slice none 0 0] 166))
  by_cases h0 : z = 0
  · subst h0
    rw [if_pos rfl]
    have HMp := hide (mapF_iff.1 HZ.out)
    go_enter Tryz.func129, Tryz.ntmps129
    go_wp2_with fail
    refine (implMapFault (HV.out.later bA.out)).mono ?_
    rintro e w1 ⟨he, q, rfl⟩
    rw [HZ.out] at he
    subst he
    have bB := hide (below_on bA.out (below_drewN _ q))
    go_wp2_with fail
    refine (takenIn (HV.out.later bB.out)).mono ?_
    rintro e w2 ⟨f, rfl, hb, hf⟩
    have bC := hide (below_on bB.out hb)
    have c0 := cell_later hb (show World.cell? _ ⟨w.heap.size, 0, none⟩ = some (.int .i64 0) by simp [go_sem])
    have c1 := cell_later hb (show World.cell? _ ⟨w.heap.size, 1, none⟩ = some (.slice none 0 0) by simp [go_sem])
    have F0 : w2.frozen? ⟨w.heap.size, 0, none⟩ = false := ((bcell hb).2 _ _ (by simp)).trans (by simp [go_sem])
    have F1 : w2.frozen? ⟨w.heap.size, 1, none⟩ = false := ((bcell hb).2 _ _ (by simp)).trans (by simp [go_sem])
    have K0 := hide c0
    have K1 := hide c1
    have L0 := hide F0
    have L1 := hide F1
    have HFp := hide hf.fp
    have hfs : ∃ b, f = .func (.func 197) #[] #[.pointer (some ⟨b, 0, none⟩)] := by obtain ⟨b, _, _, e, _⟩ := hf; exact ⟨b, e⟩
    obtain ⟨fb, rfl⟩ := hfs
    have hw2 : w.heap.size < w2.heap.size := World.block_lt_of_cell? _ _ c0
    clear hb hf c0 c1 F0 F1
    go_wp2_with fail
    refine (packedMap HFp.out).mono ?_
    rintro e w3 ⟨z3, rfl, hb, ho⟩
    rw [blk_of HMp.out] at ho
    obtain ⟨a3, c3, hz3⟩ := ho.shape
    rw [show (pkL xs).length = 2 from rfl] at hz3
    subst hz3
    have HFn := hide (ret_ints (x := .int .i64 0) (below_on bC.out hb) (Nat.le_refl _) ho (by omega))
    have c0 := cell_later hb K0.out
    have c1 := cell_later hb K1.out
    have F0 : w3.frozen? ⟨w.heap.size, 0, none⟩ = false := ((bcell hb).2 _ _ hw2).trans L0.out
    have F1 : w3.frozen? ⟨w.heap.size, 1, none⟩ = false := ((bcell hb).2 _ _ hw2).trans L1.out
    clear hb ho K0 K1 L0 L1 hw2
    go_wp2
    refine bodyPost_ret (v := .agg #[.int .i64 0, .slice a3 2 c3]) (by simp [results, Tryz.results129, go_sem, c0, c1]) rfl ⟨_, rfl, HFn.out.1, HFn.out.2⟩
  · rw [if_neg h0]
    go_enter Tryz.func129, Tryz.ntmps129
    go_wp2_with fail
    refine (implMapFault (HV.out.later bA.out)).mono ?_
    rintro e w1 ⟨he, q, rfl⟩
    rw [HZ.out] at he
    subst he
    have bB := hide (below_on bA.out (below_drewN _ q))
    have h0b : (z == 0) = false := by simpa using h0
    go_wp2
    refine bodyPost_ret (v := .agg #[.int .i64 z, .slice none 0 0]) (by simp [results, Tryz.results129, go_sem]) rfl ⟨_, rfl, ?_, OwI_nil _ _⟩
    exact (bB.out.setCell (Nat.le_refl _) _).setCell (Nat.le_refl _) _
end Go.Proofs.YtlmaopljihbdkaaGreat
namespace Go.Proofs.YtlmaopljihbdkaaGreat
open Go.RowKit
end Go.Proofs.YtlmaopljihbdkaaGreat
namespace Go.Proofs.YtlmaopljihbdkaaGreat
open Go.RowKit
theorem list_ext {α : Type} [Inhabited α] {d : α} {xs ys : List α} (hl : xs.length = ys.length) (h : ∀ j, j < xs.length → xs.getD j d = ys.getD j d) : xs = ys := by
  apply List.ext_getElem hl
  intro i h1 h2
  have := h i h1
  simpa [List.getD, h1, h2] using this
set_option maxHeartbeats 1000000 in
set_option maxRecDepth 4000 in
theorem l2SameR {S T : Nat → Prop} {w : World} {u v : Value} {xs ys : List Int} (hu : RdI S w u xs) (hv : RdI T w v ys) :
    Calls Tryz.prog 95 #[u, v] w fun e w' => e = .returned (.bool (decide (xs = ys))) ∧ ∃ q, w' = w.drewN q := by
  have hm : xs.length ≤ 9223372036854775807 := by obtain ⟨_, _, _, h, _⟩ := hu; exact h
  have hm' : ys.length ≤ 9223372036854775807 := by obtain ⟨_, _, _, h, _⟩ := hv; exact h
  obtain ⟨ao, c, rfl⟩ := hu.shape
  obtain ⟨ao', c', rfl⟩ := hv.shape
  have HU := hide hu
  have HV := hide hv
  obtain ⟨B, hB⟩ : ∃ B, decide (xs = ys) = B := ⟨_, rfl⟩
  have HB := hide hB
  rw [hB]
  clear hu hv hB
  obtain ⟨n, hn⟩ : ∃ n, xs.length = n := ⟨_, rfl⟩
  obtain ⟨n', hn'⟩ : ∃ n', ys.length = n' := ⟨_, rfl⟩
  have HN := hide hn
  have HN' := hide hn'
  rw [hn] at HU hm ⊢
  rw [hn'] at HV hm' ⊢
  clear hn hn'
  by_cases hl : n = n'
  · subst hl
    go_enter Tryz.func95, Tryz.ntmps95
    go_wp2
    go_loopw [5] (fun i wr => ∃ k q : Nat, k ≤ n ∧ i = .int .i64 k ∧ Hid (∀ j, j < k → xs.getD j 0 = ys.getD j 0) ∧ wr = w.drewN q) (fun i _ => n - (intOf i).toNat)
    case atStart => exact ⟨0, 0, Nat.zero_le _, rfl, fun j hj => absurd hj (Nat.not_lt_zero _), rfl⟩
    case round =>
      obtain ⟨k, q, hk, rfl, HA, rfl⟩ := hrel
      by_cases hlt : k < n
      · obtain ⟨b, off, rfl, g1⟩ := HU.out.at (k := k) (by rw [HN.out]; exact hlt)
        obtain ⟨b', off', rfl, g2⟩ := HV.out.at (k := k) (by rw [HN'.out]; exact hlt)
        obtain ⟨x, hx⟩ : ∃ x, xs.getD k 0 = x := ⟨_, rfl⟩
        obtain ⟨y, hy⟩ : ∃ y, ys.getD k 0 = y := ⟨_, rfl⟩
        have HX := hide hx
        have HY := hide hy
        rw [hx] at g1
        rw [hy] at g2
        clear hx hy
        by_cases hxy : x = y
        · subst hxy
          have HA2 : Hid (∀ j, j < k + 1 → xs.getD j 0 = ys.getD j 0) := by
            intro j hj
            by_cases e : j = k
            · subst e; rw [HX.out, HY.out]
            · exact HA.out j (by omega)
          go_wp2
          go_quiet (fail)
          go_wp2
          go_roundw
          case rel => exact ⟨k + 1, _, by omega, by go_num, HA2.out, rfl⟩
          case measure => simp [intOf]; omega
        · have hb : B = false := by
            rw [← HB.out]
            exact decide_eq_false (fun e => hxy (by rw [← HX.out, ← HY.out, e]))
          subst hb
          go_wp2
          go_quiet (fail)
          go_wp2
          go_ret
          exact ⟨rfl, _, World.drewN_drewN ..⟩
      · have hb : B = true := by
          rw [← HB.out]
          exact decide_eq_true (list_ext (by rw [HN.out, HN'.out]) (fun j hj => HA.out j (by rw [HN.out] at hj; omega)))
        subst hb
        go_wp2
        go_ret
        exact ⟨rfl, _, rfl⟩
  · have hb : B = false := by
      rw [← HB.out]
      exact decide_eq_false (fun e => hl (by rw [← HN.out, ← HN'.out, e]))
    subst hb
    have hl' : ¬ (n : Int) = (n' : Int) := by omega
    go_enter Tryz.func95, Tryz.ntmps95
    go_wp2
    go_ret
    exact ⟨rfl, 0, rfl⟩
set_option maxHeartbeats 1000000 in
set_option maxRecDepth 4000 in
theorem slicesEqualR {S T : Nat → Prop} {w : World} {u v : Value} {xs ys : List Int} (hu : RdI S w u xs) (hv : RdI T w v ys) :
    Calls Tryz.prog 102 #[u, v] w fun e w' => e = .returned (.bool (decide (xs = ys))) ∧ ∃ q, w' = w.drewN q := by
  have hm : xs.length ≤ 9223372036854775807 := by obtain ⟨_, _, _, h, _⟩ := hu; exact h
  have hm' : ys.length ≤ 9223372036854775807 := by obtain ⟨_, _, _, h, _⟩ := hv; exact h
  obtain ⟨ao, c, rfl⟩ := hu.shape
  obtain ⟨ao', c', rfl⟩ := hv.shape
  have HU := hide hu
  have HV := hide hv
  obtain ⟨B, hB⟩ : ∃ B, decide (xs = ys) = B := ⟨_, rfl⟩
  have HB := hide hB
  rw [hB]
  clear hu hv hB
  obtain ⟨n, hn⟩ : ∃ n, xs.length = n := ⟨_, rfl⟩
  obtain ⟨n', hn'⟩ : ∃ n', ys.length = n' := ⟨_, rfl⟩
  have HN := hide hn
  have HN' := hide hn'
  rw [hn] at HU hm ⊢
  rw [hn'] at HV hm' ⊢
  clear hn hn'
  by_cases hl : n = n'
  · subst hl
    go_enter Tryz.func102, Tryz.ntmps102
    go_wp2
    go_loopw [13] (fun i wr => ∃ k q : Nat, k ≤ n ∧ i = .int .i64 k ∧ Hid (∀ j, j < k → xs.getD j 0 = ys.getD j 0) ∧ wr = w.drewN q) (fun i _ => n - (intOf i).toNat)
    case atStart => exact ⟨0, 0, Nat.zero_le _, rfl, fun j hj => absurd hj (Nat.not_lt_zero _), rfl⟩
    case round =>
      obtain ⟨k, q, hk, rfl, HA, rfl⟩ := hrel
      by_cases hlt : k < n
      · obtain ⟨b, off, rfl, g1⟩ := HU.out.at (k := k) (by rw [HN.out]; exact hlt)
        obtain ⟨b', off', rfl, g2⟩ := HV.out.at (k := k) (by rw [HN'.out]; exact hlt)
        obtain ⟨x, hx⟩ : ∃ x, xs.getD k 0 = x := ⟨_, rfl⟩
        obtain ⟨y, hy⟩ : ∃ y, ys.getD k 0 = y := ⟨_, rfl⟩
        have HX := hide hx
        have HY := hide hy
        rw [hx] at g1
        rw [hy] at g2
        clear hx hy
        by_cases hxy : x = y
        · subst hxy
          have HA2 : Hid (∀ j, j < k + 1 → xs.getD j 0 = ys.getD j 0) := by
            intro j hj
            by_cases e : j = k
            · subst e; rw [HX.out, HY.out]
            · exact HA.out j (by omega)
          go_wp2
          go_quiet (fail)
          go_wp2
          go_roundw
          case rel => exact ⟨k + 1, _, by omega, by go_num, HA2.out, rfl⟩
          case measure => simp [intOf]; omega
        · have hb : B = false := by
            rw [← HB.out]
            exact decide_eq_false (fun e => hxy (by rw [← HX.out, ← HY.out, e]))
          subst hb
          go_wp2
          go_quiet (fail)
          go_wp2
          go_ret
          exact ⟨rfl, _, World.drewN_drewN ..⟩
      · have hb : B = true := by
          rw [← HB.out]
          exact decide_eq_true (list_ext (by rw [HN.out, HN'.out]) (fun j hj => HA.out j (by rw [HN.out] at hj; omega)))
        subst hb
        go_wp2
        go_ret
        exact ⟨rfl, _, rfl⟩
  · have hb : B = false := by
      rw [← HB.out]
      exact decide_eq_false (fun e => hl (by rw [← HN.out, ← HN'.out, e]))
    subst hb
    have hl' : ¬ (n : Int) = (n' : Int) := by omega
    go_enter Tryz.func102, Tryz.ntmps102
    go_wp2
    go_ret
    exact ⟨rfl, 0, rfl⟩
end Go.Proofs.YtlmaopljihbdkaaGreat
namespace Go.Proofs.YtlmaopljihbdkaaGreat
open Go.RowKit
end Go.Proofs.YtlmaopljihbdkaaGreat
namespace Go.Proofs.YtlmaopljihbdkaaGreat
open Go.RowKit
theorem TkIn.shape {w : World} {f : Value} {xs : List Int} (h : TkIn w f xs) : ∃ b, f = .func (.func 197) #[] #[.pointer (some ⟨b, 0, none⟩)] := by
  obtain ⟨b, _, _, e, _⟩ := h
  exact ⟨b, e⟩
structure Two (w : World) (p q : Nat) (xs ys : List Int) : Prop where
  f : ∃ f, w.cell? ⟨p, 0, none⟩ = some f ∧ TkIn w f xs
  g : ∃ g, w.cell? ⟨q, 0, none⟩ = some g ∧ TkIn w g ys
theorem Two.later {w w' : World} {p q : Nat} {xs ys : List Int} (h : Two w p q xs ys) (hb : Below w.heap.size w w') : Two w' p q xs ys := by
  obtain ⟨⟨f, h1, h2⟩, g, h3, h4⟩ := h
  exact ⟨⟨f, cell_later hb h1, h2.later hb⟩, g, cell_later hb h3, h4.later hb⟩
end Go.Proofs.YtlmaopljihbdkaaGreat
namespace Go.Proofs.YtlmaopljihbdkaaGreat
open Go.RowKit
theorem RdI_nilK (S : Nat → Prop) (w : World) : RdI S w (.slice none 0 0) [] := ⟨none, 0, by simp, by simp, fun h => absurd rfl h⟩
def OwK (B : Nat) (w : World) (u v : Value) (xs ys : List Int) : Prop :=
  ∃ b1 b2, RdI (· = b1) w u xs ∧ RdI (· = b2) w v ys ∧ (xs ≠ [] → B ≤ b1 ∧ b1 < w.heap.size ∧ ∀ o, w.frozen? ⟨b1, o, none⟩ = false) ∧ (ys ≠ [] → B ≤ b2 ∧ b2 < w.heap.size ∧ ∀ o, w.frozen? ⟨b2, o, none⟩ = false) ∧ (xs ≠ [] → ys ≠ [] → b1 ≠ b2)
def IvK (lo hi : Nat) (w : World) (u v : Value) (xs ys : List Int) : Prop :=
  ∃ b1 b2, RdI (· = b1) w u xs ∧ RdI (· = b2) w v ys ∧ (xs ≠ [] → lo ≤ b1 ∧ b1 < hi ∧ b1 < w.heap.size ∧ ∀ o, w.frozen? ⟨b1, o, none⟩ = false) ∧ (ys ≠ [] → lo ≤ b2 ∧ b2 < hi ∧ b2 < w.heap.size ∧ ∀ o, w.frozen? ⟨b2, o, none⟩ = false) ∧ (xs ≠ [] → ys ≠ [] → b1 ≠ b2)
theorem OwK.iv {B : Nat} {w : World} {u v : Value} {xs ys : List Int} (h : OwK B w u v xs ys) : IvK B w.heap.size w u v xs ys := by
  obtain ⟨b1, b2, h1, h2, h3, h4, h5⟩ := h
  exact ⟨b1, b2, h1, h2, fun hn => ⟨(h3 hn).1, (h3 hn).2.1, (h3 hn).2.1, (h3 hn).2.2⟩, fun hn => ⟨(h4 hn).1, (h4 hn).2.1, (h4 hn).2.1, (h4 hn).2.2⟩, h5⟩
theorem OwK.shape {B : Nat} {w : World} {u v : Value} {xs ys : List Int} (h : OwK B w u v xs ys) : ∃ ao c ao' c', u = .slice ao xs.length c ∧ v = .slice ao' ys.length c' := by
  obtain ⟨b1, b2, h1, h2, _⟩ := h
  obtain ⟨a, c, e1⟩ := h1.shape
  obtain ⟨a', c', e2⟩ := h2.shape
  exact ⟨a, c, a', c', e1, e2⟩
theorem OwK_nil (B : Nat) (w : World) : OwK B w (.slice none 0 0) (.slice none 0 0) [] [] :=
  ⟨0, 0, RdI_nilK _ _, RdI_nilK _ _, fun h => absurd rfl h, fun h => absurd rfl h, fun h => absurd rfl h⟩
theorem OwK.wr {B : Nat} {T : Nat → Prop} {w w' : World} {u v : Value} {xs ys : List Int} (h : OwK B w u v xs ys) (hw : Wr T w w') (hd : ∀ b, B ≤ b → b < w.heap.size → ¬ T b) : OwK B w' u v xs ys := by
  obtain ⟨b1, b2, h1, h2, h3, h4, h5⟩ := h
  exact ⟨b1, b2, h1.wr hw (fun hn b hb => hb ▸ hd _ (h3 hn).1 (h3 hn).2.1), h2.wr hw (fun hn b hb => hb ▸ hd _ (h4 hn).1 (h4 hn).2.1),
    fun hn => ⟨(h3 hn).1, Nat.lt_of_lt_of_le (h3 hn).2.1 hw.size, fun o => (hw.frz _ _ (h3 hn).2.1).trans ((h3 hn).2.2 o)⟩,
    fun hn => ⟨(h4 hn).1, Nat.lt_of_lt_of_le (h4 hn).2.1 hw.size, fun o => (hw.frz _ _ (h4 hn).2.1).trans ((h4 hn).2.2 o)⟩, h5⟩
theorem OwK.mono {B B' : Nat} {w : World} {u v : Value} {xs ys : List Int} (h : OwK B w u v xs ys) (hB : B' ≤ B) : OwK B' w u v xs ys := by
  obtain ⟨b1, b2, h1, h2, h3, h4, h5⟩ := h
  exact ⟨b1, b2, h1, h2, fun hn => ⟨Nat.le_trans hB (h3 hn).1, (h3 hn).2⟩, fun hn => ⟨Nat.le_trans hB (h4 hn).1, (h4 hn).2⟩, h5⟩
theorem IvK.wr {lo hi : Nat} {T : Nat → Prop} {w w' : World} {u v : Value} {xs ys : List Int} (h : IvK lo hi w u v xs ys) (hw : Wr T w w') (hd : ∀ b, lo ≤ b → b < hi → ¬ T b) : IvK lo hi w' u v xs ys := by
  obtain ⟨b1, b2, h1, h2, h3, h4, h5⟩ := h
  exact ⟨b1, b2, h1.wr hw (fun hn b hb => hb ▸ hd _ (h3 hn).1 (h3 hn).2.1), h2.wr hw (fun hn b hb => hb ▸ hd _ (h4 hn).1 (h4 hn).2.1),
    fun hn => ⟨(h3 hn).1, (h3 hn).2.1, Nat.lt_of_lt_of_le (h3 hn).2.2.1 hw.size, fun o => (hw.frz _ _ (h3 hn).2.2.1).trans ((h3 hn).2.2.2 o)⟩,
    fun hn => ⟨(h4 hn).1, (h4 hn).2.1, Nat.lt_of_lt_of_le (h4 hn).2.2.1 hw.size, fun o => (hw.frz _ _ (h4 hn).2.2.1).trans ((h4 hn).2.2.2 o)⟩, h5⟩
theorem IvK.later {lo hi : Nat} {w w' : World} {u v : Value} {xs ys : List Int} (h : IvK lo hi w u v xs ys) (hb : Below w.heap.size w w') : IvK lo hi w' u v xs ys :=
  h.wr (Wr.of_below hb fun _ => False) fun _ _ _ => id
def EndsK (code : Int) (xs ys : List Int) (w : World) : Ending → World → Prop := fun e w' => ∃ u v, e = .returned (.agg #[.int .i64 code, u, v]) ∧ Below w.heap.size w w' ∧ OwK w.heap.size w' u v xs ys
end Go.Proofs.YtlmaopljihbdkaaGreat
