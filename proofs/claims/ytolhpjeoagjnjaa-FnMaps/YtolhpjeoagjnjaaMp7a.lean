/- Chapter 7: 'FreeBlocks' of the program, walked. -/
import Derived.Test.YtolhpjeoagjnjaaMp6b
namespace Go.Proofs.Ytolhpjeoagjnjaa
open Go.RowKit

/-- The code of 'FreeBlocks'. -/
def fbC (xs ys : List Int) : Int := if mapF xs ≠ 0 then mapF xs else if mapF ys ≠ 0 then mapF ys else if ∀ y, y ∈ ys → y ∈ xs then 0 else 4
/-- .. and the map. -/
def fbR (xs ys : List Int) : List Int := if fbC xs ys = 0 then xs.filter (fun x => !decide (x ∈ ys)) else []
theorem isMap_len {xs : List Int} (h : IsMap xs) : xs.length ≤ 20 := by rw [← blk_of h]; exact blk_len _
theorem fbR_len (xs ys : List Int) : (fbR xs ys).length ≤ 1048576 := by
  unfold fbR
  by_cases h : fbC xs ys = 0
  · rw [if_pos h]
    have hx : mapF xs = 0 := by
      by_cases h1 : mapF xs = 0
      · exact h1
      · unfold fbC at h; rw [if_pos h1] at h; exact absurd h h1
    have := isMap_len (mapF_iff.1 hx)
    have := List.length_filter_le (fun x => !decide (x ∈ ys)) xs
    omega
  · rw [if_neg h]; simp
theorem blk_free {xs ys : List Int} (h : IsMap xs) : blk (fun x => decide (x ∈ xs) && !decide (x ∈ ys)) = xs.filter (fun x => !decide (x ∈ ys)) :=
  pair_ext (blk_up _) (h.2.filter _) fun a => by
    rw [mem_blk, List.mem_filter]
    simp only [Bool.and_eq_true, decide_eq_true_eq]
    exact ⟨fun h' => h'.2, fun h' => ⟨h.1 a h'.1, h'⟩⟩
theorem TkIn.shape {w : World} {f : Value} {xs : List Int} (h : TkIn w f xs) : ∃ b, f = .func (.func 58) #[] #[.pointer (some ⟨b, 0, none⟩)] := by
  obtain ⟨b, _, _, e, _⟩ := h
  exact ⟨b, e⟩
/-- Two closures in two variables. -/
structure Two (w : World) (p q : Nat) (xs ys : List Int) : Prop where
  f : ∃ f, w.cell? ⟨p, 0, none⟩ = some f ∧ TkIn w f xs
  g : ∃ g, w.cell? ⟨q, 0, none⟩ = some g ∧ TkIn w g ys
theorem Two.later {w w' : World} {p q : Nat} {xs ys : List Int} (h : Two w p q xs ys) (hb : Below w.heap.size w w') : Two w' p q xs ys := by
  obtain ⟨⟨f, h1, h2⟩, g, h3, h4⟩ := h
  exact ⟨⟨f, cell_later hb h1, h2.later hb⟩, g, cell_later hb h3, h4.later hb⟩
theorem two_cells (w4 : World) : ((w4.alloc (.cells #[.nilFunc] 51)).alloc (.cells #[.nilFunc] 51)).cell? ⟨w4.heap.size, 0, none⟩ = some .nilFunc ∧ ((w4.alloc (.cells #[.nilFunc] 51)).alloc (.cells #[.nilFunc] 51)).frozen? ⟨w4.heap.size, 0, none⟩ = false ∧
    ((w4.alloc (.cells #[.nilFunc] 51)).alloc (.cells #[.nilFunc] 51)).cell? ⟨w4.heap.size + 1, 0, none⟩ = some .nilFunc ∧ ((w4.alloc (.cells #[.nilFunc] 51)).alloc (.cells #[.nilFunc] 51)).frozen? ⟨w4.heap.size + 1, 0, none⟩ = false := by
  refine ⟨by simp [go_sem], by simp [go_sem], by simp [go_sem], by simp [go_sem]⟩
theorem two_made {w w4 : World} {f g : Value} {xs ys : List Int} (hr : ResI w w4) (hf : TkIn w4 f xs) (hg : TkIn w4 g ys) :
    ResI w ((w4.alloc (.cells #[f] 51)).alloc (.cells #[g] 51)) ∧ Two ((w4.alloc (.cells #[f] 51)).alloc (.cells #[g] 51)) w4.heap.size (w4.heap.size + 1) xs ys := by
  have hb : Below w4.heap.size w4 ((w4.alloc (.cells #[f] 51)).alloc (.cells #[g] 51)) := below_on (below_alloc w4 _) (below_alloc _ _)
  exact ⟨hr.later hb, ⟨f, by simp [go_sem], hf.later hb⟩, g, by simp [go_sem], hg.later hb⟩

set_option maxHeartbeats 1000000 in
set_option maxRecDepth 4000 in
theorem freeBlocks1 {w : World} {p q : Nat} {xs ys : List Int} (x : Int) (h : Two w p q xs ys) :
    Calls Try.prog 53 #[.int .i64 x, .pointer (some ⟨p, 0, none⟩), .pointer (some ⟨q, 0, none⟩)] w fun e w' => w' = w ∧ e = .returned (.bool (decide (x ∈ xs) && !decide (x ∈ ys))) := by
  obtain ⟨⟨f, c1, b1, u1, S1, rfl, k1, r1⟩, g, c2, b2, u2, S2, rfl, k2, r2⟩ := h
  have HT1 := hide (takenIn1 x k1 r1)
  have HT2 := hide (takenIn1 x k2 r2)
  clear k1 k2 r1 r2
  obtain ⟨B, hB⟩ : ∃ B, decide (x ∈ xs) = B := ⟨_, rfl⟩
  obtain ⟨C, hC⟩ : ∃ C, decide (x ∈ ys) = C := ⟨_, rfl⟩
  rw [hB] at HT1 ⊢
  rw [hC] at HT2 ⊢
  clear hB hC
  cases B with
  | true =>
    go_enter Try.func53, Try.ntmps53
    go_wp2_with fail
    refine HT1.out.mono ?_
    rintro e w1 ⟨hw, rfl⟩
    have hw := hw.symm
    subst hw
    go_wp2_with fail
    refine HT2.out.mono ?_
    rintro e w2 ⟨hw, rfl⟩
    have hw := hw.symm
    subst hw
    go_wp2
    go_ret
    exact ⟨rfl, rfl⟩
  | false =>
    go_enter Try.func53, Try.ntmps53
    go_wp2_with fail
    refine HT1.out.mono ?_
    rintro e w1 ⟨hw, rfl⟩
    have hw := hw.symm
    subst hw
    go_wp2
    go_ret
    exact ⟨rfl, rfl⟩
theorem Two.fp {w : World} {p q : Nat} {xs ys : List Int} (h : Two w p q xs ys) : Fp w (.func (.func 53) #[] #[.pointer (some ⟨p, 0, none⟩), .pointer (some ⟨q, 0, none⟩)]) (fun x => decide (x ∈ xs) && !decide (x ∈ ys)) :=
  ⟨_, _, rfl, fun args w' => enter_of Try.func53 (by kernel_rfl) (by kernel_rfl) args w', fun _ hb x _ _ => (freeBlocks1 x (h.later hb)).mono fun _ _ ⟨hw, he⟩ => ⟨he, hw ▸ Below.refl _ _⟩⟩

set_option maxHeartbeats 2000000 in
set_option maxRecDepth 4000 in
theorem implFreeBlocks {S T : Nat → Prop} {w : World} {u v : Value} {xs ys : List Int} (hu : RdI S w u xs) (hv : RdI T w v ys) :
    Calls Try.prog 19 #[u, v] w (EndsI (fbC xs ys) (fbR xs ys) w) := by
  have hml := hv.max
  obtain ⟨ao, c, rfl⟩ := hu.shape
  obtain ⟨ao', c', rfl⟩ := hv.shape
  have HU := hide hu
  have HV := hide hv
  clear hu hv
  obtain ⟨z, hz⟩ : ∃ z, mapF xs = z := ⟨_, rfl⟩
  have HZ := hide hz
  have hmf : ∀ (fn : Fn) (first cap : Array Value) (w : World), (Instr.makeFunc fn first cap).run Try.prog w = .ok (.func fn first cap) w := fun _ _ _ _ => rfl
  by_cases h0 : z = 0
  · subst h0
    obtain ⟨z', hz'⟩ : ∃ z', mapF ys = z' := ⟨_, rfl⟩
    have HZ' := hide hz'
    by_cases h0' : z' = 0
    · subst h0'
      have HC : Hid (fbC xs ys = if ∀ y, y ∈ ys → y ∈ xs then 0 else 4) := by rw [Hid, fbC, hz, hz', if_neg (by simp), if_neg (by simp)]
      have HR : Hid (fbR xs ys = if fbC xs ys = 0 then xs.filter (fun x => !decide (x ∈ ys)) else []) := rfl
      have HBk := hide (blk_free (ys := ys) (mapF_iff.1 HZ.out))
      have HLn : Hid ((fbR xs ys).length ≤ 1048576) := fbR_len xs ys
      generalize fbC xs ys = C at HC HR ⊢
      generalize fbR xs ys = R at HR HLn ⊢
      obtain ⟨n, hn⟩ : ∃ n, ys.length = n := ⟨_, rfl⟩
      have HN := hide hn
      rw [hn] at hml HV ⊢
      clear hz hz' hn
      go_enter Try.func19, Try.ntmps19
      go_wp2_with fail
      refine (implMapFault (HU.out.later (below_alloc w _))).mono ?_
      rintro e w1 ⟨he, q, hq⟩
      rw [HZ.out] at he
      subst he
      have HRs : Hid (ResI w w1) := hq ▸ (ResI.start w).later (below_drewN _ q)
      clear hq
      go_wp2_with fail
      refine (implMapFault (HV.out.later HRs.out.below)).mono ?_
      rintro e w2 ⟨he, q, hq⟩
      rw [HZ'.out] at he
      subst he
      have HRs2 : Hid (ResI w w2) := hq ▸ HRs.out.later (below_drewN _ q)
      clear hq HRs
      go_wp2_with fail
      refine (takenIn (HU.out.later HRs2.out.below)).mono ?_
      rintro e w3 ⟨f, rfl, hb, hf⟩
      have HRs3 := hide (HRs2.out.later hb)
      have HF := hide hf
      clear hb hf HRs2
      go_wp2_with fail
      refine (takenIn (HV.out.later HRs3.out.below)).mono ?_
      rintro e w4 ⟨g, rfl, hb, hg⟩
      have HRs4 := hide (HRs3.out.later hb)
      have HF4 := hide (HF.out.later hb)
      have HG := hide hg
      clear hb hg HRs3 HF
      have hfs := HF4.out.shape
      have hgs := HG.out.shape
      obtain ⟨fb, rfl⟩ := hfs
      obtain ⟨gb, rfl⟩ := hgs
      obtain ⟨HR5, HT5⟩ := two_made HRs4.out HF4.out HG.out
      have HR5 := hide HR5
      have HT5 := hide HT5
      have hw4 := HRs4.out.lt
      clear HRs4 HF4 HG
      obtain ⟨d1, d2, d3, d4⟩ := two_cells w4
      have hsf : ∀ (a : Addr) (m : Mode) (fn : Fn) (fi ca : Array Value) (wx : World), (store a (.func fn fi ca) m).run Try.prog wx = stored Try.prog wx a (.func fn fi ca) m := fun a m fn fi ca wx => run_store Try.prog wx a _ m rfl
      go_wp2
      clear d1 d2 d3 d4 hsf
      go_loopw [29] (fun i wr => ∃ k : Nat, k ≤ n ∧ i = .int .i64 k ∧ Hid (∀ j, j < k → ys.getD j 0 ∈ xs) ∧ Hid (ResI w wr) ∧ Hid (Two wr w4.heap.size (w4.heap.size + 1) xs ys)) (fun i _ => n - (RowKit.intOf i).toNat)
      case atStart => exact ⟨0, Nat.zero_le _, rfl, fun j hj => absurd hj (Nat.not_lt_zero _), HR5.out, HT5.out⟩
      case round =>
        obtain ⟨k, hk, rfl, HA, HRs, HTw⟩ := hrel
        by_cases hlt : k < n
        · obtain ⟨b, off, rfl, q0⟩ := HV.out.at (k := k) (by rw [HN.out]; exact hlt)
          have q1 := cell_later HRs.out.below q0
          obtain ⟨x, hx⟩ : ∃ x, ys.getD k 0 = x := ⟨_, rfl⟩
          rw [hx] at q1
          have HX := hide hx
          have hmem : Hid (x ∈ ys) := by rw [Hid, ← hx]; simp [List.getD, show k < ys.length by rw [HN.out]; exact hlt]
          have hk0 : (0 : Int) ≤ (k : Int) := by omega
          have hk1 : (k : Int) < (n : Int) := by omega
          clear hx q0
          obtain ⟨⟨f, c1, b1, u1, S1, rfl, m1, r1⟩, _⟩ := id HTw.out
          have HTk := hide (takenIn1 x m1 r1)
          clear m1 r1
          by_cases hin : x ∈ xs
          · rw [decide_eq_true hin] at HTk
            have HA' : Hid (∀ j, j < k + 1 → ys.getD j 0 ∈ xs) := fun j hj => by
              by_cases e : j = k
              · subst e; rw [HX.out]; exact hin
              · exact HA.out j (by omega)
            clear hin
            go_wp2_with fail
            refine HTk.out.mono ?_
            rintro e w6 ⟨hw, rfl⟩
            have hw := hw.symm
            subst hw
            go_wp2
            go_roundw
            case rel => exact ⟨k + 1, hlt, by go_num, HA'.out, HRs.out, HTw.out⟩
            case measure => simp [RowKit.intOf]; omega
          · rw [decide_eq_false hin] at HTk
            have hC4 : C = 4 := by rw [HC.out, if_neg (fun h => hin (h x hmem.out))]
            subst hC4
            have hRn : R = [] := by rw [HR.out, if_neg (by decide)]
            subst hRn
            clear hin
            go_wp2_with fail
            refine HTk.out.mono ?_
            rintro e w6 ⟨hw, rfl⟩
            have hw := hw.symm
            subst hw
            have c0 := HRs.out.c0
            have c1 := HRs.out.c1
            have F0 := HRs.out.fr 0
            have F1 := HRs.out.fr 1
            have HBe := hide HRs.out.below
            go_wp2
            refine bodyPost_ret (v := .agg #[.int .i64 4, .slice none 0 0]) (by simp [results, Try.results19, go_sem, c0, c1]) rfl ⟨_, rfl, ?_, OwI_nil _ _⟩
            exact (HBe.out.setCell (Nat.le_refl _) _).setCell (Nat.le_refl _) _
        · have hall : ∀ y, y ∈ ys → y ∈ xs := fun y hy => by
            obtain ⟨j, hj, rfl⟩ := List.mem_iff_getElem.1 hy
            have := HA.out j (by rw [HN.out] at hj; omega)
            simpa [List.getD, hj] using this
          have hC0 : C = 0 := by rw [HC.out, if_pos hall]
          subst hC0
          have HRe : Hid (R = blk (fun x => decide (x ∈ xs) && !decide (x ∈ ys))) := by rw [Hid, HR.out, if_pos rfl, HBk.out]
          have HBl := hide (blocksOf HTw.out.fp)
          rw [← HRe.out] at HBl
          clear hall
          go_wp2_with fail
          refine HBl.out.mono ?_
          rintro e w7 ⟨z7, rfl, hb, hown⟩
          have hln := HLn.out
          have ho := ow_of_owns rfl hown (by omega)
          obtain ⟨a7, c7, hz7⟩ := ho.shape
          have HRs7 := hide (HRs.out.later hb)
          have HFn := hide (ret_ints (x := .int .i64 0) HRs7.out.below (Nat.le_refl _) ho HRs.out.lt)
          generalize R.length = g at hz7 hln
          subst hz7
          have c0 := HRs7.out.c0
          have c1 := HRs7.out.c1
          have F0 := HRs7.out.fr 0
          have F1 := HRs7.out.fr 1
          clear hb ho hown HRs HRs7
          go_wp2
          refine bodyPost_ret (v := .agg #[.int .i64 0, .slice a7 g c7]) (by simp [results, Try.results19, go_sem, c0, c1]) rfl ⟨_, rfl, HFn.out.1, HFn.out.2⟩
    · have hC : fbC xs ys = z' := by rw [fbC, hz, hz', if_neg (by simp), if_pos h0']
      have hR : fbR xs ys = [] := by rw [fbR, hC, if_neg h0']
      rw [hC, hR]
      have h0b : (z' == 0) = false := by simpa using h0'
      clear hz hz' hC hR
      go_enter Try.func19, Try.ntmps19
      go_wp2_with fail
      refine (implMapFault (HU.out.later (below_alloc w _))).mono ?_
      rintro e w1 ⟨he, q, hq⟩
      rw [HZ.out] at he
      subst he
      have HRs : Hid (ResI w w1) := hq ▸ (ResI.start w).later (below_drewN _ q)
      clear hq
      go_wp2_with fail
      refine (implMapFault (HV.out.later HRs.out.below)).mono ?_
      rintro e w2 ⟨he, q, hq⟩
      rw [HZ'.out] at he
      subst he
      have HRs2 : Hid (ResI w w2) := hq ▸ HRs.out.later (below_drewN _ q)
      clear hq HRs
      have c0 := HRs2.out.c0
      have c1 := HRs2.out.c1
      have F0 := HRs2.out.fr 0
      have F1 := HRs2.out.fr 1
      have HBe := hide HRs2.out.below
      go_wp2
      refine bodyPost_ret (v := .agg #[.int .i64 z', .slice none 0 0]) (by simp [results, Try.results19, go_sem, c0, c1]) rfl ⟨_, rfl, ?_, OwI_nil _ _⟩
      exact (HBe.out.setCell (Nat.le_refl _) _).setCell (Nat.le_refl _) _
  · have hC : fbC xs ys = z := by rw [fbC, hz, if_pos h0]
    have hR : fbR xs ys = [] := by rw [fbR, hC, if_neg h0]
    rw [hC, hR]
    have h0b : (z == 0) = false := by simpa using h0
    clear hz hC hR
    go_enter Try.func19, Try.ntmps19
    go_wp2_with fail
    refine (implMapFault (HU.out.later (below_alloc w _))).mono ?_
    rintro e w1 ⟨he, q, hq⟩
    rw [HZ.out] at he
    subst he
    have HRs : Hid (ResI w w1) := hq ▸ (ResI.start w).later (below_drewN _ q)
    clear hq
    have c0 := HRs.out.c0
    have c1 := HRs.out.c1
    have F0 := HRs.out.fr 0
    have F1 := HRs.out.fr 1
    have HBe := hide HRs.out.below
    go_wp2
    refine bodyPost_ret (v := .agg #[.int .i64 z, .slice none 0 0]) (by simp [results, Try.results19, go_sem, c0, c1]) rfl ⟨_, rfl, ?_, OwI_nil _ _⟩
    exact (HBe.out.setCell (Nat.le_refl _) _).setCell (Nat.le_refl _) _
end Go.Proofs.Ytolhpjeoagjnjaa
