/- Chapter 7: 'UnpackMap' of the program and of the model, walked. -/
import Derived.Test.YtolhpjeoagjnjaaMp6a
import Derived.Test.YtolhpjeoagjnjaaSame
namespace Go.Proofs.Ytolhpjeoagjnjaa
open Go.RowKit

set_option maxHeartbeats 1000000 in
set_option maxRecDepth 4000 in
theorem takenByBits1 {w : World} {b bb off c : Nat} {v0 v1 : Int} (x : Int) (hx : 3 ≤ x ∧ x ≤ 22) (hc : w.cell? ⟨b, 0, none⟩ = some (.slice (some ⟨bb, off, none⟩) 2 c))
    (g0 : w.cell? ⟨bb, off, none⟩ = some (.int .i64 v0)) (g1 : w.cell? ⟨bb, off + 1, none⟩ = some (.int .i64 v1)) :
    Calls Try.prog 57 #[.int .i64 x, .pointer (some ⟨b, 0, none⟩)] w fun e w' => w' = w ∧ e = .returned (.bool (bitB v0 v1 x)) := by
  by_cases h13 : x < 13
  · obtain ⟨y, hy0⟩ : ∃ y : Nat, x - 3 = (y : Int) := ⟨(x - 3).toNat, by omega⟩
    have hy : y < 10 := by omega
    have hdiv : IntKind.i64.wrap (Int.tdiv (x - 3) 10) = 0 := by rw [Int.tdiv_eq_ediv_of_nonneg (by omega), show (x - 3) / 10 = 0 by omega]; decide
    have hmod : Int.tmod (x - 3) 10 = (y : Int) := by rw [Int.tmod_eq_emod_of_nonneg (by omega)]; omega
    have HR : Hid (bitW v0 y = bitB v0 v1 x) := by
      rw [Hid, bitB, if_pos h13, show (x - 3).toNat = y by omega]
    clear hy0
    go_enter Try.func57, Try.ntmps57
    go_wp2
    go_ret
    exact ⟨rfl, ret_boolM HR.out⟩
  · obtain ⟨y, hy0⟩ : ∃ y : Nat, x - 13 = (y : Int) := ⟨(x - 13).toNat, by omega⟩
    have hy : y < 10 := by omega
    have hdiv : IntKind.i64.wrap (Int.tdiv (x - 3) 10) = 1 := by rw [Int.tdiv_eq_ediv_of_nonneg (by omega), show (x - 3) / 10 = 1 by omega]; decide
    have hmod : Int.tmod (x - 3) 10 = (y : Int) := by rw [Int.tmod_eq_emod_of_nonneg (by omega)]; omega
    have HR : Hid (bitW v1 y = bitB v0 v1 x) := by
      rw [Hid, bitB, if_neg h13, show (x - 13).toNat = y by omega]
    clear hy0
    go_enter Try.func57, Try.ntmps57
    go_wp2
    go_ret
    exact ⟨rfl, ret_boolM HR.out⟩
theorem takenByBits {w : World} {bb off c : Nat} {v0 v1 : Int} (g0 : w.cell? ⟨bb, off, none⟩ = some (.int .i64 v0)) (g1 : w.cell? ⟨bb, off + 1, none⟩ = some (.int .i64 v1)) :
    Calls Try.prog 39 #[.slice (some ⟨bb, off, none⟩) 2 c] w fun e w' => ∃ b, e = .returned (.func (.func 57) #[] #[.pointer (some ⟨b, 0, none⟩)]) ∧ Below w.heap.size w w' ∧ Fp w' (.func (.func 57) #[] #[.pointer (some ⟨b, 0, none⟩)]) (bitB v0 v1) := by
  have G0 := hide g0
  have G1 := hide g1
  clear g0 g1
  have hmf : ∀ (fn : Fn) (first cap : Array Value) (w : World), (Instr.makeFunc fn first cap).run Try.prog w = .ok (.func fn first cap) w := fun _ _ _ _ => rfl
  go_enter Try.func39, Try.ntmps39
  go_wp2
  go_ret
  have bA := below_alloc w (.cells #[.slice (some ⟨bb, off, none⟩) 2 c] 24)
  refine ⟨_, rfl, bA, _, _, rfl, fun args w' => enter_of Try.func57 (by kernel_rfl) (by kernel_rfl) args w', fun w' hb x h1 h2 => ?_⟩
  exact (takenByBits1 (b := w.heap.size) (c := c) x ⟨h1, h2⟩ (cell_later hb (by simp [go_sem])) (cell_later hb (cell_later bA G0.out)) (cell_later hb (cell_later bA G1.out))).mono fun e w'' ⟨hw, he⟩ => ⟨he, hw ▸ Below.refl _ _⟩

theorem umC_cases (ws : List Int) (hz : wordsF ws = 0) : (ws.length = 0 ∧ umC ws = 0 ∧ umR ws = []) ∨ (ws.length ≠ 0 ∧ ws.length ≠ 2 ∧ umC ws = 5 ∧ umR ws = []) ∨
    (ws.length = 2 ∧ ∃ v0 v1, ws = [v0, v1] ∧ (0 ≤ v0 ∧ v0 ≤ 65535) ∧ (0 ≤ v1 ∧ v1 ≤ 65535) ∧ ((v0 ≤ 1023 ∧ v1 ≤ 1023 ∧ umC ws = 0 ∧ umR ws = blk (bitB v0 v1)) ∨ (¬ (v0 ≤ 1023 ∧ v1 ≤ 1023) ∧ umC ws = 5 ∧ umR ws = []))) := by
  have hin := words_in hz
  match ws, hz, hin with
  | [], hz, _ => exact Or.inl ⟨rfl, by simp [umC, hz], by simp [umR]⟩
  | [a], hz, _ => exact Or.inr (Or.inl ⟨by simp, by simp, by simp [umC, hz], by simp [umR]⟩)
  | [a, b], hz, hin =>
    have h0 := hin 0 (by simp)
    have h1 := hin 1 (by simp)
    simp only [List.getD_cons_zero, List.getD_cons_succ] at h0 h1
    refine Or.inr (Or.inr ⟨rfl, a, b, rfl, h0, h1, ?_⟩)
    by_cases h : a ≤ 1023 ∧ b ≤ 1023
    · exact Or.inl ⟨h.1, h.2, by simp [umC, hz, h.1, h.2], by simp [umR, umC, hz, h.1, h.2]⟩
    · have hc : umC [a, b] = 5 := by simp only [umC, hz, List.length_cons, List.length_nil, List.getD_cons_zero, List.getD_cons_succ]; rw [if_neg (by simp), if_neg (by simp), if_neg (fun h' => h ⟨h'.2.1, h'.2.2⟩)]
      exact Or.inr ⟨h, hc, by rw [umR, if_neg (by rw [hc]; simp)]⟩
  | a :: b :: c :: ws, hz, _ =>
    have hc : umC (a :: b :: c :: ws) = 5 := by simp only [umC, hz]; rw [if_neg (by simp), if_neg (by simp), if_neg (by simp)]
    exact Or.inr (Or.inl ⟨by simp, by simp, hc, by rw [umR, if_neg (by rw [hc]; simp)]⟩)
theorem umC_bad {ws : List Int} (hz : wordsF ws ≠ 0) : umC ws = wordsF ws ∧ umR ws = [] := by
  have h : umC ws = wordsF ws := by unfold umC; rw [if_pos hz]
  exact ⟨h, by rw [umR, if_neg (by rw [h]; exact fun h' => hz h'.1)]⟩
theorem rd_two {S : Nat → Prop} {w : World} {ao : Option Addr} {n c : Nat} {v0 v1 : Int} (h : RdI S w (.slice ao n c) [v0, v1]) : ∃ b off, ao = some ⟨b, off, none⟩ ∧ w.cell? ⟨b, off, none⟩ = some (.int .i64 v0) ∧ w.cell? ⟨b, off + 1, none⟩ = some (.int .i64 v1) := by
  obtain ⟨b, off, e, q0⟩ := h.at (k := 0) (by simp)
  obtain ⟨b', off', e', q1⟩ := h.at (k := 1) (by simp)
  rw [e] at e'
  injection e' with e'
  injection e' with e1 e2
  subst e1 e2
  exact ⟨b, off, e, by simpa using q0, by simpa using q1⟩
/-- The result's variable, as it was laid. -/
structure ResI (w wr : World) : Prop where
  below : Below w.heap.size w wr
  c0 : wr.cell? ⟨w.heap.size, 0, none⟩ = some (.int .i64 0)
  c1 : wr.cell? ⟨w.heap.size, 1, none⟩ = some (.slice none 0 0)
  fr : ∀ o, wr.frozen? ⟨w.heap.size, o, none⟩ = false
theorem ResI.lt {w wr : World} (h : ResI w wr) : w.heap.size < wr.heap.size := World.block_lt_of_cell? _ _ h.c0
theorem ResI.later {w wr w1 : World} (h : ResI w wr) (hb : Below wr.heap.size wr w1) : ResI w w1 :=
  ⟨below_on h.below hb, cell_later hb h.c0, cell_later hb h.c1, fun o => ((bcell hb).2 _ _ h.lt).trans (h.fr o)⟩
theorem ResI.start (w : World) : ResI w (w.alloc (.cells #[.int .i64 0, .slice none 0 0] 27)) :=
  ⟨below_alloc _ _, by simp [go_sem], by simp [go_sem], fun o => by simp [go_sem]⟩

set_option maxHeartbeats 2000000 in
set_option maxRecDepth 4000 in
theorem implUnpackMap {S : Nat → Prop} {w : World} {v : Value} {xs : List Int} (hv : RdI S w v xs) :
    Calls Try.prog 11 #[v] w (EndsI (umC xs) (umR xs) w) := by
  have hml := hv.max
  obtain ⟨ao, c, rfl⟩ := hv.shape
  have HV := hide hv
  clear hv
  obtain ⟨z, hz⟩ : ∃ z, wordsF xs = z := ⟨_, rfl⟩
  have HZ := hide hz
  by_cases h0 : z = 0
  · subst h0
    rcases umC_cases xs hz with ⟨hl, hc, hr⟩ | ⟨hl0, hl2, hc, hr⟩ | ⟨hl, v0, v1, rfl, hv0, hv1, h⟩
    · rw [hc, hr]
      rw [hl] at HV ⊢
      clear hz hc hr
      go_enter Try.func11, Try.ntmps11
      go_wp2_with fail
      refine (wordsFault (HV.out.later (below_alloc w _))).mono ?_
      rintro e w1 ⟨he, q, hq⟩
      rw [HZ.out] at he
      subst he
      have HRs : Hid (ResI w w1) := hq ▸ (ResI.start w).later (below_drewN _ q)
      clear hq
      have c0 := HRs.out.c0
      have c1 := HRs.out.c1
      have F0 := HRs.out.fr 0
      have F1 := HRs.out.fr 1
      have HBe := hide HRs.out.below
      go_wp2
      refine bodyPost_ret (v := .agg #[.int .i64 0, .slice none 0 0]) (by simp [results, Try.results11, go_sem, c0, c1]) rfl ⟨_, rfl, ?_, OwI_nil _ _⟩
      exact (HBe.out.setCell (Nat.le_refl _) _).setCell (Nat.le_refl _) _
    · rw [hc, hr]
      obtain ⟨n, hn⟩ : ∃ n, xs.length = n := ⟨_, rfl⟩
      rw [hn] at hl0 hl2 hml HV ⊢
      have e0 : ((n : Int) == 0) = false := by simp; omega
      have e2 : ((n : Int) == 2) = false := by simp; omega
      clear hz hc hr hn
      go_enter Try.func11, Try.ntmps11
      go_wp2_with fail
      refine (wordsFault (HV.out.later (below_alloc w _))).mono ?_
      rintro e w1 ⟨he, q, hq⟩
      rw [HZ.out] at he
      subst he
      have HRs : Hid (ResI w w1) := hq ▸ (ResI.start w).later (below_drewN _ q)
      clear hq
      have c0 := HRs.out.c0
      have c1 := HRs.out.c1
      have F0 := HRs.out.fr 0
      have F1 := HRs.out.fr 1
      have HBe := hide HRs.out.below
      go_wp2
      refine bodyPost_ret (v := .agg #[.int .i64 5, .slice none 0 0]) (by simp [results, Try.results11, go_sem, c0, c1]) rfl ⟨_, rfl, ?_, OwI_nil _ _⟩
      exact (HBe.out.setCell (Nat.le_refl _) _).setCell (Nat.le_refl _) _
    · have HV2 : Hid (RdI S w (.slice ao 2 c) [v0, v1]) := HV.out
      obtain ⟨bb, off, rfl, g0, g1⟩ := rd_two HV.out
      have G0 := hide g0
      have G1 := hide g1
      have HPk := hide (pkL_bits hv0 hv1)
      have hcon : ∀ w', Below w.heap.size w w' → RdI S w' (.slice (some ⟨bb, off, none⟩) 2 c) [v0, v1] := fun w' hb => HV2.out.later hb
      have HCon := hide hcon
      clear hz g0 g1 hv0 hv1 hcon
      have stage : ∀ (w1 : World), ResI w w1 → ∃ b0 : Bool, True := fun _ _ => ⟨true, trivial⟩
      clear stage
      rcases h with ⟨k0, k1, hc, hr⟩ | ⟨hn, hc, hr⟩
      · rw [hc, hr]
        clear hc hr
        rw [show ([v0, v1] : List Int).length = 2 from rfl] at HV ⊢
        obtain ⟨G, hG⟩ : ∃ G, blk (bitB v0 v1) = G := ⟨_, rfl⟩
        rw [hG]
        have HG := hide hG
        clear hG
        go_enter Try.func11, Try.ntmps11
        go_wp2_with fail
        refine (wordsFault (HV.out.later (below_alloc w _))).mono ?_
        rintro e w1 ⟨he, q, hq⟩
        rw [HZ.out] at he
        subst he
        have HRs : Hid (ResI w w1) := hq ▸ (ResI.start w).later (below_drewN _ q)
        clear hq
        go_wp2_with fail
        refine (takenByBits (cell_later HRs.out.below G0.out) (cell_later HRs.out.below G1.out)).mono ?_
        rintro e w2 ⟨fb, rfl, hb, hf⟩
        have HRs2 := hide (HRs.out.later hb)
        have HFp := hide hf
        clear hb hf HRs
        go_wp2_with fail
        refine (packedMap HFp.out).mono ?_
        rintro e w3 ⟨z3, rfl, hb, ho⟩
        have HRs3 := hide (HRs2.out.later hb)
        have HFp3 := hide (HFp.out.later hb)
        have HO := hide ho.rd
        obtain ⟨a3, c3, hz3⟩ := ho.shape
        rw [show (pkL (blk (bitB v0 v1))).length = 2 from rfl] at hz3
        subst hz3
        clear hb ho HRs2 HFp
        go_wp2_with fail
        refine (slicesEqualR HO.out (HCon.out _ HRs3.out.below)).mono ?_
        rintro e w4 ⟨he, q, hq⟩
        rw [decide_eq_true (HPk.out.2 ⟨k0, k1⟩)] at he
        subst he
        have HRs : Hid (ResI w w4) := hq ▸ HRs3.out.later (below_drewN _ q)
        have HFp4 : Hid (Fp w4 _ (bitB v0 v1)) := hq ▸ HFp3.out.later (below_drewN _ q)
        clear hq HRs3 HFp3 HO
        go_wp2_with fail
        refine (blocksOf HFp4.out).mono ?_
        rintro e w5 ⟨z5, rfl, hb, hown⟩
        have hol := blk_len (bitB v0 v1)
        have ho := ow_of_owns rfl hown (by omega)
        obtain ⟨a5, c5, hz5⟩ := ho.shape
        have HRs5 := hide (HRs.out.later hb)
        have HFn := hide (ret_ints (x := .int .i64 0) HRs5.out.below (Nat.le_refl _) ho HRs.out.lt)
        rw [HG.out] at hz5 HFn hol
        generalize G.length = g at hz5 hol
        subst hz5
        have c0 := HRs5.out.c0
        have c1 := HRs5.out.c1
        have F0 := HRs5.out.fr 0
        have F1 := HRs5.out.fr 1
        clear hb ho hown HRs HRs5 HFp4
        go_wp2
        refine bodyPost_ret (v := .agg #[.int .i64 0, .slice a5 g c5]) (by simp [results, Try.results11, go_sem, c0, c1]) rfl ⟨_, rfl, HFn.out.1, HFn.out.2⟩
      · rw [hc, hr]
        have HN := hide hn
        clear hc hr hn
        rw [show ([v0, v1] : List Int).length = 2 from rfl] at HV ⊢
        go_enter Try.func11, Try.ntmps11
        go_wp2_with fail
        refine (wordsFault (HV.out.later (below_alloc w _))).mono ?_
        rintro e w1 ⟨he, q, hq⟩
        rw [HZ.out] at he
        subst he
        have HRs : Hid (ResI w w1) := hq ▸ (ResI.start w).later (below_drewN _ q)
        clear hq
        go_wp2_with fail
        refine (takenByBits (cell_later HRs.out.below G0.out) (cell_later HRs.out.below G1.out)).mono ?_
        rintro e w2 ⟨fb, rfl, hb, hf⟩
        have HRs2 := hide (HRs.out.later hb)
        have HFp := hide hf
        clear hb hf HRs
        go_wp2_with fail
        refine (packedMap HFp.out).mono ?_
        rintro e w3 ⟨z3, rfl, hb, ho⟩
        have HRs3 := hide (HRs2.out.later hb)
        have HFp3 := hide (HFp.out.later hb)
        have HO := hide ho.rd
        obtain ⟨a3, c3, hz3⟩ := ho.shape
        rw [show (pkL (blk (bitB v0 v1))).length = 2 from rfl] at hz3
        subst hz3
        clear hb ho HRs2 HFp
        go_wp2_with fail
        refine (slicesEqualR HO.out (HCon.out _ HRs3.out.below)).mono ?_
        rintro e w4 ⟨he, q, hq⟩
        rw [decide_eq_false (fun h => HN.out (HPk.out.1 h))] at he
        subst he
        have HRs : Hid (ResI w w4) := hq ▸ HRs3.out.later (below_drewN _ q)
        clear hq HRs3 HFp3 HO
        have c0 := HRs.out.c0
        have c1 := HRs.out.c1
        have F0 := HRs.out.fr 0
        have F1 := HRs.out.fr 1
        have HBe := hide HRs.out.below
        go_wp2
        refine bodyPost_ret (v := .agg #[.int .i64 5, .slice none 0 0]) (by simp [results, Try.results11, go_sem, c0, c1]) rfl ⟨_, rfl, ?_, OwI_nil _ _⟩
        exact (HBe.out.setCell (Nat.le_refl _) _).setCell (Nat.le_refl _) _
  · have hub := umC_bad (by rw [hz]; exact h0)
    rw [hub.1, hub.2, hz]
    have h0b : (z == 0) = false := by simpa using h0
    clear hz hub
    go_enter Try.func11, Try.ntmps11
    go_wp2_with fail
    refine (wordsFault (HV.out.later (below_alloc w _))).mono ?_
    rintro e w1 ⟨he, q, hq⟩
    rw [HZ.out] at he
    subst he
    have HRs : Hid (ResI w w1) := hq ▸ (ResI.start w).later (below_drewN _ q)
    clear hq
    have c0 := HRs.out.c0
    have c1 := HRs.out.c1
    have F0 := HRs.out.fr 0
    have F1 := HRs.out.fr 1
    have HBe := hide HRs.out.below
    go_wp2
    refine bodyPost_ret (v := .agg #[.int .i64 z, .slice none 0 0]) (by simp [results, Try.results11, go_sem, c0, c1]) rfl ⟨_, rfl, ?_, OwI_nil _ _⟩
    exact (HBe.out.setCell (Nat.le_refl _) _).setCell (Nat.le_refl _) _
end Go.Proofs.Ytolhpjeoagjnjaa
