/- Sz in one text: what each says stands at its head below. -/
import Derived.Test.YtlmaopljihbdkaaGreatG01
namespace Go.Proofs.YtlmaopljihbdkaaGreat
open Go.RowKit
def szv (left s : Int) : Int := if s ≤ left then left - s else -1
theorem szv_yes {left s : Int} (h : s ≤ left) : szv left s = left - s := by unfold szv; rw [if_pos h]
theorem szv_no {left s : Int} (h : left < s) : szv left s = -1 := by unfold szv; rw [if_neg (by omega)]
def totW (ps : List (Int × List Int)) (i : Nat) : Nat := ((ps.take i).map fun p => p.2.length).sum
theorem totW_zero (ps : List (Int × List Int)) : totW ps 0 = 0 := by simp [totW]
theorem totW_succ (ps : List (Int × List Int)) (i : Nat) (h : i < ps.length) : totW ps (i + 1) = totW ps i + (ps.getD i (0, [])).2.length := by
  unfold totW
  rw [List.take_succ_eq_append_getElem h]
  simp only [List.map_append, List.sum_append, List.map_cons, List.map_nil, List.sum_cons, List.sum_nil]
  simp [List.getD, h]
theorem totW_le (ps : List (Int × List Int)) : ∀ (i j : Nat), i ≤ j → totW ps i ≤ totW ps j := by
  intro i j h
  unfold totW
  have : ps.take j = ps.take i ++ (ps.drop i).take (j - i) := by
    rw [← List.take_add]; congr 1; omega
  rw [this]; simp
theorem szI (n c : Nat) (ao : Option Addr) (left : Int) (w : World) (hn : n ≤ 9223372036854775807) (h0 : 0 ≤ left) (h1 : left ≤ 1048576) :
    Calls Tryz.prog 29 #[.slice ao n c, .int .i64 left] w fun e w' => e = .returned (.int .i64 (szv left n)) ∧ w' = w := by
  by_cases h : (n : Int) ≤ left
  · rw [szv_yes h]
    go_enter Tryz.func29, Tryz.ntmps29
    go_wp2
    go_ret
    exact ⟨rfl, rfl⟩
  · rw [szv_no (by omega)]
    go_enter Tryz.func29, Tryz.ntmps29
    go_wp2
    go_ret
    exact ⟨rfl, rfl⟩
theorem szI' {S : Nat → Prop} {w : World} {v : Value} {xs : List Int} {left : Int} {m : Nat} (hv : RdI S w v xs) (hl : xs.length = m) (h0 : 0 ≤ left) (h1 : left ≤ 1048576) :
    Calls Tryz.prog 29 #[v, .int .i64 left] w fun e w' => e = .returned (.int .i64 (szv left (m : Int))) ∧ Below w.heap.size w w' := by
  obtain ⟨ao, c, rfl, hm, _⟩ := hv
  subst hl
  exact (szI _ _ _ _ _ hm h0 h1).mono fun e w' ⟨he, hw⟩ => ⟨he, hw ▸ Below.refl _ _⟩
theorem szII_cells (xss : List (List Int)) (n b off c : Nat) (V : Nat → Value) (left : Int) (w : World) (hn : xss.length = n) (hm : n ≤ 9223372036854775807) (h0 : 0 ≤ left) (h1 : left ≤ 1048576)
    (hx : ∀ i, i < n → w.cell? ⟨b, off + i, none⟩ = some (V i) ∧ ∃ S, RdI S w (V i) (xss.getD i [])) :
    Calls Tryz.prog 105 #[.slice (some ⟨b, off, none⟩) n c, .int .i64 left] w fun e w' => e = .returned (.int .i64 (szv left ((n : Int) + (tot xss n : Int)))) ∧ Below w.heap.size w w' := by
  have HN := hide hn
  have HX := hide hx
  clear hn hx
  by_cases h : (n : Int) ≤ left
  · go_enter Tryz.func105, Tryz.ntmps105
    go_wp2
    go_loopw [1, 5] (fun t i wr => ∃ j : Nat, j ≤ n ∧ (n : Int) + (tot xss j : Int) ≤ left ∧ t = .int .i64 (left - ((n : Int) + (tot xss j : Int))) ∧ i = .int .i64 j ∧ Hid (Below w.heap.size w wr)) (fun _ i _ => n - (intOf i).toNat)
    case atStart => exact ⟨0, Nat.zero_le _, by simpa [tot_zero] using h, by simp [tot_zero], rfl, Below.refl _ _⟩
    case round =>
      obtain ⟨j, hj, hs, rfl, rfl, HB⟩ := hrel
      by_cases hlt : j < n
      · obtain ⟨q1, S, hR⟩ := HX.out j hlt
        have g1 := cell_later HB.out q1
        have HR := hide (hR.later HB.out)
        have ht := tot_succ xss j (by rw [HN.out]; exact hlt)
        obtain ⟨m, hml⟩ : ∃ m, (xss.getD j []).length = m := ⟨_, rfl⟩
        rw [hml] at ht
        have HL := hide hml
        have HT := hide ht
        clear hml ht
        have hle := tot_le xss (j + 1) n hlt
        clear hR q1
        by_cases hy : (n : Int) + (tot xss (j + 1) : Int) ≤ left
        · have HY := hide (szv_yes (left := left - ((n : Int) + (tot xss j : Int))) (s := (m : Int)) (by have := HT.out; omega))
          have hp : ¬ left - ((n : Int) + (tot xss j : Int)) - (m : Int) < 0 := by have := HT.out; omega
          clear hle
          go_wp2_with fail
          refine (szI' HR.out HL.out (by omega) (by omega)).mono ?_
          rintro e w' ⟨he, hb⟩
          rw [HY.out] at he
          subst he
          have HB2 := hide (below_on HB.out hb)
          clear hb
          go_wp2
          go_roundw
          case rel => exact ⟨j + 1, hlt, hy, by rw [HT.out]; go_num, by go_num, HB2.out⟩
          case measure => simp [intOf]; omega
        · have HY := hide (szv_no (left := left - ((n : Int) + (tot xss j : Int))) (s := (m : Int)) (by have := HT.out; omega))
          have HZ := hide (szv_no (left := left) (s := (n : Int) + (tot xss n : Int)) (by omega))
          clear hle
          go_wp2_with fail
          refine (szI' HR.out HL.out (by omega) (by omega)).mono ?_
          rintro e w' ⟨he, hb⟩
          rw [HY.out] at he
          subst he
          have HB2 := hide (below_on HB.out hb)
          clear hb
          go_wp2
          go_ret
          exact ⟨ret_int HZ.out.symm, HB2.out⟩
      · have : j = n := by omega
        subst this
        have HZ := hide (szv_yes hs)
        go_wp2
        go_ret
        exact ⟨ret_int HZ.out.symm, HB.out⟩
  · have HZ := hide (szv_no (left := left) (s := (n : Int) + (tot xss n : Int)) (by omega))
    go_enter Tryz.func105, Tryz.ntmps105
    go_wp2
    go_ret
    exact ⟨ret_int HZ.out.symm, Below.refl _ _⟩
theorem szII_none (ao : Option Addr) (c : Nat) (left : Int) (w : World) (h0 : 0 ≤ left) (h1 : left ≤ 1048576) :
    Calls Tryz.prog 105 #[.slice ao 0 c, .int .i64 left] w fun e w' => e = .returned (.int .i64 left) ∧ w' = w := by
  go_enter Tryz.func105, Tryz.ntmps105
  go_wp2
  go_loopw [1, 5] (fun t i wr => t = .int .i64 left ∧ i = .int .i64 0 ∧ wr = w) (fun _ _ _ => 0)
  case atStart => exact ⟨rfl, rfl, rfl⟩
  case round =>
    obtain ⟨rfl, rfl, rfl⟩ := hrel
    go_wp2
    go_ret
    exact ⟨rfl, rfl⟩
theorem szII {S : Nat → Prop} {w : World} {v : Value} {xss : List (List Int)} {left : Int} (hv : RdII S w v xss) (h0 : 0 ≤ left) (h1 : left ≤ 1048576) :
    Calls Tryz.prog 105 #[v, .int .i64 left] w fun e w' => e = .returned (.int .i64 (szv left ((xss.length : Int) + (tot xss xss.length : Int)))) ∧ Below w.heap.size w w' := by
  obtain ⟨ao, c, rfl, hm, h⟩ := hv
  by_cases hne : xss = []
  · subst hne
    exact (szII_none _ _ _ _ h0 h1).mono fun e w' ⟨he, hw⟩ => ⟨by rw [szv_yes (by simp [tot]; omega)]; simpa [tot] using he, hw ▸ Below.refl _ _⟩
  · obtain ⟨b, off, V, rfl, _, hc⟩ := h hne
    exact szII_cells xss _ b off c V left w rfl hm h0 h1 fun i hi => ⟨(hc i hi).1, S, (hc i hi).2⟩
theorem szPut {S : Nat → Prop} {w : World} {v : Value} {x : Int} {xs : List Int} {left : Int} {m : Nat} (hv : RdI S w v xs) (hl : xs.length = m) (h0 : 0 ≤ left) (h1 : left ≤ 1048576) :
    Calls Tryz.prog 45 #[.agg #[.int .i64 x, v], .int .i64 left] w fun e w' => e = .returned (.int .i64 (szv left (m : Int))) ∧ Below w.heap.size w w' := by
  obtain ⟨ao, c, rfl, hm, _⟩ := hv
  subst hl
  by_cases h : (xs.length : Int) ≤ left
  · have HZ := hide (szv_yes h)
    go_enter Tryz.func45, Tryz.ntmps45
    go_wp2_with fail
    refine (szI _ _ _ _ _ hm h0 h1).mono ?_
    rintro e w' ⟨he, rfl⟩
    rw [HZ.out] at he
    subst he
    have hp : ¬ left - (xs.length : Int) < 0 := by omega
    go_wp2
    go_ret
    exact ⟨ret_int HZ.out.symm, below_alloc _ _⟩
  · have HZ := hide (szv_no (left := left) (s := (xs.length : Int)) (by omega))
    go_enter Tryz.func45, Tryz.ntmps45
    go_wp2_with fail
    refine (szI _ _ _ _ _ hm h0 h1).mono ?_
    rintro e w' ⟨he, rfl⟩
    rw [HZ.out] at he
    subst he
    go_wp2
    go_ret
    exact ⟨ret_int HZ.out.symm, below_alloc _ _⟩
theorem szP_cells (ps : List (Int × List Int)) (n b off c : Nat) (X : Nat → Int) (V : Nat → Value) (left : Int) (w : World) (hn : ps.length = n) (hm : n ≤ 9223372036854775807) (h0 : 0 ≤ left) (h1 : left ≤ 1048576)
    (hx : ∀ i, i < n → w.cell? ⟨b, off + i * 2, none⟩ = some (.int .i64 (X i)) ∧ w.cell? ⟨b, off + i * 2 + 1, none⟩ = some (V i) ∧ ∃ S, RdI S w (V i) (ps.getD i (0, [])).2) :
    Calls Tryz.prog 15 #[.slice (some ⟨b, off, none⟩) n c, .int .i64 left] w fun e w' => e = .returned (.int .i64 (szv left ((n : Int) + (totW ps n : Int)))) ∧ Below w.heap.size w w' := by
  have HN := hide hn
  have HX := hide hx
  clear hn hx
  by_cases h : (n : Int) ≤ left
  · go_enter Tryz.func15, Tryz.ntmps15
    go_wp2
    go_loopw [1, 5] (fun t i wr => ∃ j : Nat, j ≤ n ∧ (n : Int) + (totW ps j : Int) ≤ left ∧ t = .int .i64 (left - ((n : Int) + (totW ps j : Int))) ∧ i = .int .i64 j ∧ Hid (Below w.heap.size w wr)) (fun _ i _ => n - (intOf i).toNat)
    case atStart => exact ⟨0, Nat.zero_le _, by simpa [totW_zero] using h, by simp [totW_zero], rfl, Below.refl _ _⟩
    case round =>
      obtain ⟨j, hj, hs, rfl, rfl, HB⟩ := hrel
      by_cases hlt : j < n
      · obtain ⟨q1, q2, S, hR⟩ := HX.out j hlt
        have g1 := cell_later HB.out q1
        have g2 := cell_later HB.out q2
        have HR := hide (hR.later HB.out)
        have ht := totW_succ ps j (by rw [HN.out]; exact hlt)
        obtain ⟨m, hml⟩ : ∃ m, (ps.getD j (0, [])).2.length = m := ⟨_, rfl⟩
        rw [hml] at ht
        have HL := hide hml
        have HT := hide ht
        clear hml ht
        have hle := totW_le ps (j + 1) n hlt
        clear hR q1 q2
        by_cases hy : (n : Int) + (totW ps (j + 1) : Int) ≤ left
        · have HY := hide (szv_yes (left := left - ((n : Int) + (totW ps j : Int))) (s := (m : Int)) (by have := HT.out; omega))
          have hp : ¬ left - ((n : Int) + (totW ps j : Int)) - (m : Int) < 0 := by have := HT.out; omega
          clear hle
          go_wp2_with fail
          refine (szPut HR.out HL.out (by omega) (by omega)).mono ?_
          rintro e w' ⟨he, hb⟩
          rw [HY.out] at he
          subst he
          have HB2 := hide (below_on HB.out hb)
          clear hb
          go_wp2
          go_roundw
          case rel => exact ⟨j + 1, hlt, hy, by rw [HT.out]; go_num, by go_num, HB2.out⟩
          case measure => simp [intOf]; omega
        · have HY := hide (szv_no (left := left - ((n : Int) + (totW ps j : Int))) (s := (m : Int)) (by have := HT.out; omega))
          have HZ := hide (szv_no (left := left) (s := (n : Int) + (totW ps n : Int)) (by omega))
          clear hle
          go_wp2_with fail
          refine (szPut HR.out HL.out (by omega) (by omega)).mono ?_
          rintro e w' ⟨he, hb⟩
          rw [HY.out] at he
          subst he
          have HB2 := hide (below_on HB.out hb)
          clear hb
          go_wp2
          go_ret
          exact ⟨ret_int HZ.out.symm, HB2.out⟩
      · have : j = n := by omega
        subst this
        have HZ := hide (szv_yes hs)
        go_wp2
        go_ret
        exact ⟨ret_int HZ.out.symm, HB.out⟩
  · have HZ := hide (szv_no (left := left) (s := (n : Int) + (totW ps n : Int)) (by omega))
    go_enter Tryz.func15, Tryz.ntmps15
    go_wp2
    go_ret
    exact ⟨ret_int HZ.out.symm, Below.refl _ _⟩
theorem szP_none (ao : Option Addr) (c : Nat) (left : Int) (w : World) (h0 : 0 ≤ left) (h1 : left ≤ 1048576) :
    Calls Tryz.prog 15 #[.slice ao 0 c, .int .i64 left] w fun e w' => e = .returned (.int .i64 left) ∧ Below w.heap.size w w' := by
  go_enter Tryz.func15, Tryz.ntmps15
  go_wp2
  go_loopw [1, 5] (fun t i wr => t = .int .i64 left ∧ i = .int .i64 0 ∧ wr = w) (fun _ _ _ => 0)
  case atStart => exact ⟨rfl, rfl, rfl⟩
  case round =>
    obtain ⟨rfl, rfl, rfl⟩ := hrel
    go_wp2
    go_ret
    exact ⟨rfl, Below.refl _ _⟩
theorem szP {S : Nat → Prop} {w : World} {v : Value} {ps : List (Int × List Int)} {left : Int} (hv : RdP S w v ps) (h0 : 0 ≤ left) (h1 : left ≤ 1048576) :
    Calls Tryz.prog 15 #[v, .int .i64 left] w fun e w' => e = .returned (.int .i64 (szv left ((ps.length : Int) + (totW ps ps.length : Int)))) ∧ Below w.heap.size w w' := by
  obtain ⟨ao, c, rfl, hm, h⟩ := hv
  by_cases hne : ps = []
  · subst hne
    exact (szP_none _ _ _ _ h0 h1).mono fun e w' ⟨he, hw⟩ => ⟨by rw [szv_yes (by simp [totW]; omega)]; simpa [totW] using he, hw⟩
  · obtain ⟨b, off, V, rfl, _, hc⟩ := h hne
    exact szP_cells ps _ b off c _ V left w rfl hm h0 h1 fun i hi => ⟨(hc i hi).1, (hc i hi).2.1, S, (hc i hi).2.2⟩
def szD (xss : List (List Int)) (ps : List (Int × List Int)) : Int := (xss.length : Int) + (tot xss xss.length : Int) + ((ps.length : Int) + (totW ps ps.length : Int))
theorem szDisk {S T : Nat → Prop} {w : World} {u v : Value} {xss : List (List Int)} {ps : List (Int × List Int)} {left : Int} (hu : RdII S w u xss) (hv : RdP T w v ps) (h0 : 0 ≤ left) (h1 : left ≤ 1048576) :
    Calls Tryz.prog 56 #[.agg #[u, v], .int .i64 left] w fun e w' => e = .returned (.int .i64 (szv left (szD xss ps))) ∧ Below w.heap.size w w' := by
  have HU := hide hu
  have HV := hide hv
  clear hu hv
  by_cases h : (xss.length : Int) + (tot xss xss.length : Int) ≤ left
  · have HY := hide (szv_yes h)
    go_enter Tryz.func56, Tryz.ntmps56
    go_wp2_with fail
    refine (szII (HU.out.later (below_alloc _ _)) h0 h1).mono ?_
    rintro e w1 ⟨he, hb1⟩
    rw [HY.out] at he
    subst he
    have hp : ¬ left - ((xss.length : Int) + (tot xss xss.length : Int)) < 0 := by omega
    have HB1 := hide hb1
    obtain ⟨hc1, hf1⟩ := bcell hb1
    clear hb1
    go_wp2_with fail
    refine (szP ((HV.out.later (below_alloc _ _)).later HB1.out) (by omega) (by omega)).mono ?_
    rintro e w2 ⟨he, hb⟩
    have HB := hide hb
    clear hb hc1 hf1
    by_cases h2 : szD xss ps ≤ left
    · have HZ := hide (szv_yes h2)
      rw [szv_yes (by unfold szD at h2; omega)] at he
      subst he
      have hp2 : ¬ left - ((xss.length : Int) + (tot xss xss.length : Int)) - ((ps.length : Int) + (totW ps ps.length : Int)) < 0 := by unfold szD at h2; omega
      clear h2
      go_wp2
      go_ret
      exact ⟨ret_int (by rw [HZ.out]; unfold szD; omega), below_on (below_on (below_alloc _ _) HB1.out) HB.out⟩
    · have HZ := hide (szv_no (left := left) (s := szD xss ps) (by omega))
      rw [szv_no (by unfold szD at h2; omega)] at he
      subst he
      clear h2
      go_wp2
      go_ret
      exact ⟨ret_int HZ.out.symm, below_on (below_on (below_alloc _ _) HB1.out) HB.out⟩
  · have HY := hide (szv_no (left := left) (s := (xss.length : Int) + (tot xss xss.length : Int)) (by omega))
    have HZ := hide (szv_no (left := left) (s := szD xss ps) (by unfold szD; omega))
    go_enter Tryz.func56, Tryz.ntmps56
    go_wp2_with fail
    refine (szII (HU.out.later (below_alloc _ _)) h0 h1).mono ?_
    rintro e w' ⟨he, hb⟩
    rw [HY.out] at he
    subst he
    have HB := hide hb
    clear hb
    go_wp2
    go_ret
    exact ⟨ret_int HZ.out.symm, below_on (below_alloc _ _) HB.out⟩
end Go.Proofs.YtlmaopljihbdkaaGreat
