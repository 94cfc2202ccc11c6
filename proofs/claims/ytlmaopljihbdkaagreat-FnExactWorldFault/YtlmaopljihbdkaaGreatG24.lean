/- Impl2f Spec2e in one text: what each says stands at its head below. -/
import Derived.Test.YtlmaopljihbdkaaGreatG22
import Derived.Test.YtlmaopljihbdkaaGreatG23
namespace Go.Proofs.YtlmaopljihbdkaaGreat
open Go.RowKit
theorem append_zeros_at (xs : List Int) (m j : Nat) : (xs ++ List.replicate m 0).getD j 0 = xs.getD j 0 := by
  by_cases h : j < xs.length
  · simp [List.getD, List.getElem?_append_left h]
  · simp only [List.getD, List.getElem?_append_right (show xs.length ≤ j by omega), List.getElem?_replicate]
    rw [List.getElem?_eq_none (show xs.length ≤ j by omega)]
    split <;> rfl
theorem packH_at (s t : Int) (xs : List Int) (i : Nat) : (packH s t xs).getD i 0 = if i = 0 then s else if i = 1 then t else if i = 2 then (xs.length : Int) else xs.getD (i - 3) 0 := by
  have e : packH s t xs = s :: t :: (xs.length : Int) :: (xs ++ List.replicate (29 - xs.length) 0) := by simp [packH]
  rw [e]
  match i with
  | 0 => rfl
  | 1 => rfl
  | 2 => rfl
  | j + 3 =>
    have h := append_zeros_at xs (29 - xs.length) j
    rw [if_neg (by omega), if_neg (by omega), if_neg (by omega), show j + 3 - 3 = j by omega, ← h]
    rfl
theorem take_at {ws : List Int} {f i : Nat} (hi : i < 32) : ((ws.drop f).take 32).getD i 0 = ws.getD (f + i) 0 := by
  simp [List.getD, hi, List.getElem?_drop]
theorem okH_iff {ws : List Int} (hl : ws.length = 64) (hr : ∀ i, i < ws.length → 0 ≤ ws.getD i 0 ∧ ws.getD i 0 ≤ 65535) : okH ((ws.drop 0).take 32) ((ws.drop 32).take 32) ↔ okU ws := by
  obtain ⟨k, hk⟩ : ∃ k : Nat, ws.getD 2 0 = (k : Int) := ⟨_, (Int.toNat_of_nonneg (hr 2 (by omega)).1).symm⟩
  have e0 : ((ws.drop 0).take 32).getD 0 0 = ws.getD 0 0 := take_at (by omega)
  have e1 : ((ws.drop 0).take 32).getD 1 0 = ws.getD 1 0 := take_at (by omega)
  have e2 : ((ws.drop 0).take 32).getD 2 0 = ws.getD 2 0 := take_at (by omega)
  have hL : ((ws.drop 0).take 32).length = 32 := by simp; omega
  have hM : ((ws.drop 32).take 32).length = 32 := by simp; omega
  have hcat : (ws.drop 0).take 32 ++ (ws.drop 32).take 32 = ws := by
    rw [List.drop_zero, List.take_of_length_le (l := ws.drop 32) (by simp; omega), List.take_append_drop]
  unfold okH okU
  rw [e0, e1, e2, hk]
  have key : ∀ (h24 : (k : Int) ≤ 24), adrH ((ws.drop 0).take 32) = addrsOf ws ∧ (addrsOf ws).length = k := by
    intro h24
    unfold adrH addrsOf
    rw [e2, hk]
    refine ⟨?_, by simp; omega⟩
    rw [List.drop_zero, List.drop_take, List.take_take]
    congr 1
    simp
    omega
  constructor
  · rintro ⟨hLM, h24, hF, hz⟩
    obtain ⟨ha, hal⟩ := key h24
    rw [ha] at hF
    refine ⟨hl, h24, hF, ?_⟩
    have hp : packH (ws.getD 0 0) (ws.getD 1 0) (addrsOf ws) = (ws.drop 0).take 32 := by
      refine list_eq_of_at' (by rw [hL, packH_len (by omega)]) fun i hi => ?_
      rw [packH_len (by omega)] at hi
      rw [packH_at, take_at hi, Nat.zero_add, hal]
      split
      · rename_i h; rw [h]
      · split
        · rename_i h; rw [h]
        · split
          · rename_i h; rw [h, hk]
          · by_cases hik : i < 3 + k
            · unfold addrsOf
              rw [hk]
              simp only [List.getD, List.getElem?_take, List.getElem?_drop]
              rw [if_pos (by simp; omega), show 3 + (i - 3) = i by omega]
            · have h1 := hz i (by simp; omega) hi
              rw [take_at hi, Nat.zero_add] at h1
              rw [h1]
              simp only [List.getD]
              rw [List.getElem?_eq_none (by omega)]
              rfl
    unfold packL
    rw [hp]
    conv => lhs; rhs; rw [hLM]
    exact hcat
  · rintro ⟨_, h24, hF, hP⟩
    obtain ⟨ha, hal⟩ := key h24
    unfold packL at hP
    have hpl : (packH (ws.getD 0 0) (ws.getD 1 0) (addrsOf ws)).length = 32 := packH_len (by omega)
    have hsp := List.append_inj (hP.trans hcat.symm) (by rw [hpl, hL])
    refine ⟨hsp.1.symm.trans hsp.2, h24, by rw [ha]; exact hF, fun i h1 h2 => ?_⟩
    rw [← hsp.1, packH_at, if_neg (by omega), if_neg (by omega), if_neg (by omega)]
    simp only [List.getD]
    rw [List.getElem?_eq_none (by simp at h1; omega)]
    rfl
theorem adrH_take {ws : List Int} (hok : okU ws) : adrH ((ws.drop 0).take 32) = addrsOf ws := by
  have e2 : ((ws.drop 0).take 32).getD 2 0 = ws.getD 2 0 := take_at (by omega)
  have h24 := hok.2.1
  unfold adrH addrsOf
  rw [e2, List.drop_zero, List.drop_take, List.take_take]
  congr 1
  omega
set_option maxHeartbeats 2000000 in
set_option maxRecDepth 4000 in
theorem implUnpack {S : Nat → Prop} {w : World} {y : Value} {ws : List Int} (hy : RdI S w y ws) :
    Calls Tryz.prog 210 #[y] w (EndsH (unpF ws) (unpS ws) (unpT ws) (unpA ws) w) := by
  unfold EndsH unpS unpT unpA
  have HY := hide hy
  obtain ⟨ay, cy, rfl⟩ := hy.shape
  obtain ⟨n, hn⟩ : ∃ n, ws.length = n := ⟨_, rfl⟩
  have HN := hide hn
  rw [hn] at HY ⊢
  clear hy hn
  have A0 := hide (below_alloc w (.cells #[.int .i64 0, .int .i64 0, .int .i64 0, .slice none 0 0] 180))
  obtain ⟨z, hz⟩ : ∃ z, wordsF ws = z := ⟨_, rfl⟩
  have HZ := hide hz
  by_cases h0 : z = 0
  · subst h0
    obtain ⟨ok, hok⟩ : ∃ ok, okUb ws = ok := ⟨_, rfl⟩
    have HOk := hide hok
    obtain ⟨c, hc⟩ : ∃ c, unpF ws = c := ⟨_, rfl⟩
    have HC := hide hc
    have HC2 : Hid (c = if ok = true then 0 else 5) := by unfold Hid; rw [← hc]; unfold unpF; rw [if_pos hz, hok]
    obtain ⟨s0, hs0⟩ : ∃ s0, (if unpF ws = 0 then ws.getD 0 0 else 0) = s0 := ⟨_, rfl⟩
    obtain ⟨t0, ht0⟩ : ∃ t0, (if unpF ws = 0 then ws.getD 1 0 else 0) = t0 := ⟨_, rfl⟩
    obtain ⟨a0, ha0⟩ : ∃ a0, (if unpF ws = 0 then addrsOf ws else []) = a0 := ⟨_, rfl⟩
    rw [hs0, ht0, ha0, hc]
    have HS0 := hide hs0
    have HT0 := hide ht0
    have HA0 := hide ha0
    clear hs0 ht0 ha0 hc hok hz
    by_cases h64 : n = 64
    · subst h64
      have HHf0 := hide (fun (w' : World) (hb : Below w.heap.size w w') => halfFrom (f := 0) (HY.out.later hb) HZ.out (by rw [HN.out]; omega))
      have HHf1 := hide (fun (w' : World) (hb : Below w.heap.size w w') => halfFrom (f := 32) (HY.out.later hb) HZ.out (by rw [HN.out]; omega))
      have hLl : ((ws.drop 0).take 32).length = 32 := by simp [HN.out]
      have hMl : ((ws.drop 32).take 32).length = 32 := by simp [HN.out]
      have hrr : ∀ i, i < 32 → 0 ≤ ((ws.drop 0).take 32).getD i 0 ∧ ((ws.drop 0).take 32).getD i 0 ≤ 65535 := fun i hi => by rw [take_at hi]; exact (wordsF_zero HZ.out).2 _ (by rw [HN.out]; omega)
      have HRh := hide (fun (w' : World) => readHeader (w := w') hLl hMl hrr)
      obtain ⟨A, hA⟩ : ∃ A, u16s ((ws.drop 0).take 32) = A := ⟨_, rfl⟩
      obtain ⟨B, hB⟩ : ∃ B, u16s ((ws.drop 32).take 32) = B := ⟨_, rfl⟩
      rw [hA] at HHf0 HRh
      rw [hB] at HHf1 HRh
      clear hA hB hLl hMl hrr
      go_enter Tryz.func210, Tryz.ntmps210
      go_wp2_with fail
      refine (wordsFault (HY.out.later A0.out)).mono ?_
      rintro e w1 ⟨he, q, rfl⟩
      rw [HZ.out] at he
      subst he
      have B1 := hide (below_on A0.out (below_drewN _ q))
      go_wp2_with fail
      refine (HHf0.out _ B1.out).mono ?_
      rintro e w2 ⟨rfl, hb2⟩
      have B2 := hide (below_on B1.out hb2)
      have v0 : w2.cell? ⟨w.heap.size, 0, none⟩ = some (.int .i64 0) := cell_later hb2 (by simp [go_sem])
      have v1 : w2.cell? ⟨w.heap.size, 1, none⟩ = some (.int .i64 0) := cell_later hb2 (by simp [go_sem])
      have v2 : w2.cell? ⟨w.heap.size, 2, none⟩ = some (.int .i64 0) := cell_later hb2 (by simp [go_sem])
      have v3 : w2.cell? ⟨w.heap.size, 3, none⟩ = some (.slice none 0 0) := cell_later hb2 (by simp [go_sem])
      have vf : ∀ o, w2.frozen? ⟨w.heap.size, o, none⟩ = false := fun o => ((bcell hb2).2 _ _ (by simp)).trans (by simp [go_sem])
      have hz2 : w.heap.size < w2.heap.size := World.block_lt_of_cell? _ _ v0
      clear hb2 B1
      go_wp2_with fail
      refine (HHf1.out _ B2.out).mono ?_
      rintro e w3 ⟨rfl, hb3⟩
      have B3 := hide (below_on B2.out hb3)
      have x0 := cell_later hb3 v0
      have x1 := cell_later hb3 v1
      have x2 := cell_later hb3 v2
      have x3 := cell_later hb3 v3
      have xf : ∀ o, w3.frozen? ⟨w.heap.size, o, none⟩ = false := fun o => ((bcell hb3).2 _ _ hz2).trans (vf o)
      have hz3 : w.heap.size < w3.heap.size := World.block_lt_of_cell? _ _ x0
      clear hb3 B2 v0 v1 v2 v3 vf hz2
      go_wp2_with fail
      refine (HRh.out w3).mono ?_
      rintro e w4 ⟨s, t, z4, ad, ok2, rfl, hb4, ho4, hl4, hiff, hval⟩
      obtain ⟨az, cz, rfl⟩ := ho4.shape
      obtain ⟨l, hl⟩ : ∃ l, ad.length = l := ⟨_, rfl⟩
      rw [hl] at ho4 ⊢
      have v0 := cell_later hb4 x0
      have v1 := cell_later hb4 x1
      have v2 := cell_later hb4 x2
      have v3 := cell_later hb4 x3
      have y0 := ((bcell hb4).2 _ _ hz3).trans (xf 0)
      have y1 := ((bcell hb4).2 _ _ hz3).trans (xf 1)
      have y2 := ((bcell hb4).2 _ _ hz3).trans (xf 2)
      have y3 := ((bcell hb4).2 _ _ hz3).trans (xf 3)
      have hsz : w.heap.size < w4.heap.size := World.block_lt_of_cell? _ _ v0
      have HB := hide (below_on B3.out hb4)
      have HO : Hid (OwI (w.heap.size + 1) w4 (.slice az l cz) ad) := ho4.mono (by omega)
      have HIff : Hid (ok2 = true ↔ okU ws) := hiff.trans (okH_iff HN.out (wordsF_zero HZ.out).2)
      have HVal : Hid (ok2 = true → s = ws.getD 0 0 ∧ t = ws.getD 1 0 ∧ ad = addrsOf ws) := fun h => by
        obtain ⟨q1, q2, q3⟩ := hval h
        exact ⟨q1.trans (take_at (by omega)), q2.trans (take_at (by omega)), q3.trans (adrH_take (HIff.out.1 h))⟩
      clear hb4 ho4 hiff hval hl x0 x1 x2 x3 xf hz3
      have hokk : ok2 = ok := by
        have h1 := HIff.out
        have h2 := okUb_iff ws
        rw [HOk.out] at h2
        cases ok2 <;> cases ok <;> simp_all
      subst hokk
      cases ok2 with
      | true =>
        have hc0 : c = 0 := by rw [HC2.out]; rfl
        subst hc0
        obtain ⟨e1, e2, e3⟩ := HVal.out rfl
        have hs : s0 = s := by rw [← HS0.out, if_pos HC.out, e1]
        have ht : t0 = t := by rw [← HT0.out, if_pos HC.out, e2]
        have ha : a0 = ad := by rw [← HA0.out, if_pos HC.out, e3]
        subst hs ht ha
        clear e1 e2 e3
        go_wp2
        have hfin := ret_head (x := .int .i64 0) (s := .int .i64 s0) (t := .int .i64 t0) HB.out (r := w.heap.size) (Nat.le_refl _) HO.out (by omega) (by omega)
        have BA := below_alloc ((((w4.setCell ⟨w.heap.size, 0, none⟩ (.int .i64 0)).setCell ⟨w.heap.size, 1, none⟩ (.int .i64 s0)).setCell ⟨w.heap.size, 2, none⟩ (.int .i64 t0)).setCell ⟨w.heap.size, 3, none⟩ (.slice az l cz)) (.cells #[.int .i64 s0, .int .i64 t0, .slice az l cz] 178)
        have m0 := cell_later BA (a := ⟨w.heap.size, 0, none⟩) (v := .int .i64 0) (by simp [go_sem, v0])
        have m1 := cell_later BA (a := ⟨w.heap.size, 1, none⟩) (v := .int .i64 s0) (by simp [go_sem, v1])
        have m2 := cell_later BA (a := ⟨w.heap.size, 2, none⟩) (v := .int .i64 t0) (by simp [go_sem, v2])
        have m3 := cell_later BA (a := ⟨w.heap.size, 3, none⟩) (v := .slice az l cz) (by simp [go_sem, v3])
        exact bodyPost_ret (v := .agg #[.int .i64 0, .int .i64 s0, .int .i64 t0, .slice az l cz]) (by simp [results, Tryz.results210, go_sem, m0, m1, m2, m3]) rfl ⟨_, rfl, hfin.1.trans (BA.mono (by simp; omega)), hfin.2.later BA⟩
      | false =>
        have hc5 : c = 5 := by rw [HC2.out]; rfl
        subst hc5
        have hs : s0 = 0 := by rw [← HS0.out, if_neg (by rw [HC.out]; decide)]
        have ht : t0 = 0 := by rw [← HT0.out, if_neg (by rw [HC.out]; decide)]
        have ha : a0 = [] := by rw [← HA0.out, if_neg (by rw [HC.out]; decide)]
        subst hs ht ha
        go_wp2
        have BA := below_alloc ((((w4.setCell ⟨w.heap.size, 0, none⟩ (.int .i64 5)).setCell ⟨w.heap.size, 1, none⟩ (.int .i64 0)).setCell ⟨w.heap.size, 2, none⟩ (.int .i64 0)).setCell ⟨w.heap.size, 3, none⟩ (.slice none 0 0)) (.cells #[.int .i64 s, .int .i64 t, .slice az l cz] 178)
        have m0 := cell_later BA (a := ⟨w.heap.size, 0, none⟩) (v := .int .i64 5) (by simp [go_sem, v0])
        have m1 := cell_later BA (a := ⟨w.heap.size, 1, none⟩) (v := .int .i64 0) (by simp [go_sem, v1])
        have m2 := cell_later BA (a := ⟨w.heap.size, 2, none⟩) (v := .int .i64 0) (by simp [go_sem, v2])
        have m3 := cell_later BA (a := ⟨w.heap.size, 3, none⟩) (v := .slice none 0 0) (by simp [go_sem, v3])
        have hfin := ret_head (x := .int .i64 5) (s := .int .i64 0) (t := .int .i64 0) HB.out (r := w.heap.size) (Nat.le_refl _) (OwI_nil (w.heap.size + 1) w4) (by omega) (by omega)
        exact bodyPost_ret (v := .agg #[.int .i64 5, .int .i64 0, .int .i64 0, .slice none 0 0]) (by simp [results, Tryz.results210, go_sem, m0, m1, m2, m3]) rfl ⟨_, rfl, hfin.1.trans (BA.mono (by simp; omega)), OwI_nil _ _⟩
    · have hok0 : ok = false := by
        have h1 := okUb_iff ws
        rw [HOk.out] at h1
        cases ok with
        | true => exact absurd (by rw [← HN.out]; exact (h1.1 rfl).1) h64
        | false => rfl
      subst hok0
      have hc5 : c = 5 := by rw [HC2.out]; rfl
      subst hc5
      have hs : s0 = 0 := by rw [← HS0.out, if_neg (by rw [HC.out]; decide)]
      have ht : t0 = 0 := by rw [← HT0.out, if_neg (by rw [HC.out]; decide)]
      have ha : a0 = [] := by rw [← HA0.out, if_neg (by rw [HC.out]; decide)]
      subst hs ht ha
      have hn64 : ¬ ((n : Int) = 64) := by omega
      go_enter Tryz.func210, Tryz.ntmps210
      go_wp2_with fail
      refine (wordsFault (HY.out.later A0.out)).mono ?_
      rintro e w1 ⟨he, q, rfl⟩
      rw [HZ.out] at he
      subst he
      have HB := hide (below_on A0.out (below_drewN _ q))
      go_wp2
      refine bodyPost_ret (v := .agg #[.int .i64 5, .int .i64 0, .int .i64 0, .slice none 0 0]) (by simp [results, Tryz.results210, go_sem]) rfl ⟨_, rfl, ?_, OwI_nil _ _⟩
      repeat (first | refine Below.setCell ?_ (by first | (simp; done) | (simp; omega) | omega) _ | exact HB.out)
  · have hc : unpF ws = z := by unfold unpF; rw [if_neg (by rw [hz]; exact h0), hz]
    rw [hc, if_neg h0, if_neg h0, if_neg h0]
    clear hz hc
    go_enter Tryz.func210, Tryz.ntmps210
    go_wp2_with fail
    refine (wordsFault (HY.out.later A0.out)).mono ?_
    rintro e w1 ⟨he, q, rfl⟩
    rw [HZ.out] at he
    subst he
    have HB := hide (below_on A0.out (below_drewN _ q))
    go_wp2
    refine bodyPost_ret (v := .agg #[.int .i64 z, .int .i64 0, .int .i64 0, .slice none 0 0]) (by simp [results, Tryz.results210, go_sem]) rfl ⟨_, rfl, ?_, OwI_nil _ _⟩
    repeat (first | refine Below.setCell ?_ (by first | (simp; done) | (simp; omega) | omega) _ | exact HB.out)
end Go.Proofs.YtlmaopljihbdkaaGreat
namespace Go.Proofs.YtlmaopljihbdkaaGreat
open Go.RowKit
def rightB (c s t : Int) (xs : List Int) : Bool := decide (c = 0) && decide (headF s t xs = 0)
set_option maxRecDepth 4000 in
theorem l2Right {S : Nat → Prop} {w : World} {b : Nat} {c s t : Int} {y : Value} {xs : List Int} (hc : w.cell? ⟨b, 0, none⟩ = some (.int .i64 c)) (hd : HdAt w b 1 s t y) (hy : RdI S w y xs) :
    Calls Tryz.prog 225 #[.pointer (some ⟨b, 0, none⟩)] w fun e w' => e = .returned (.bool (rightB c s t xs)) ∧ w' = w := by
  unfold rightB
  obtain ⟨z, hz⟩ : ∃ z, headF s t xs = z := ⟨_, rfl⟩
  have HF := hide (l2Fault hd hy)
  rw [hz] at HF ⊢
  clear hz hd hy
  by_cases h0 : c = 0
  · subst h0
    by_cases h1 : z = 0
    · subst h1
      go_enter Tryz.func225, Tryz.ntmps225
      go_wp2_with fail
      refine HF.out.mono ?_
      rintro e w1 ⟨rfl, rfl⟩
      go_wp2
      go_ret
      exact ⟨by simp, rfl⟩
    · go_enter Tryz.func225, Tryz.ntmps225
      go_wp2_with fail
      refine HF.out.mono ?_
      rintro e w1 ⟨rfl, rfl⟩
      go_wp2
      go_ret
      exact ⟨by simp [h1], rfl⟩
  · go_enter Tryz.func225, Tryz.ntmps225
    go_wp2
    go_ret
    exact ⟨by simp [h0], rfl⟩
set_option maxHeartbeats 1000000 in
set_option maxRecDepth 4000 in
theorem l2Copy {S : Nat → Prop} {w : World} {y : Value} {xs : List Int} (s t : Int) (hy : RdI S w y xs) (hm : xs.length ≤ 1048576) :
    Calls Tryz.prog 226 #[.agg #[.int .i64 s, .int .i64 t, y]] w fun e w' => ∃ z, e = .returned (.agg #[.int .i64 s, .int .i64 t, z]) ∧ Below w.heap.size w w' ∧ OwI (w.heap.size + 2) w' z xs := by
  have HY := hide hy
  obtain ⟨ay, cy, rfl⟩ := hy.shape
  obtain ⟨l, hl⟩ : ∃ l, xs.length = l := ⟨_, rfl⟩
  have HL := hide hl
  rw [hl] at HY ⊢
  clear hy hl
  go_enter Tryz.func226, Tryz.ntmps226
  go_wp2_with fail
  refine (l1Ints ((HY.out.later (below_alloc _ _)).later (below_alloc _ _)) hm).mono ?_
  rintro e w1 ⟨z, rfl, hb, ho⟩
  obtain ⟨az, cz, rfl⟩ := ho.shape
  rw [HL.out] at ho ⊢
  have c0 : w1.cell? ⟨w.heap.size, 0, none⟩ = some (.int .i64 s) := cell_later hb (by simp [go_sem])
  have c1 : w1.cell? ⟨w.heap.size, 1, none⟩ = some (.int .i64 t) := cell_later hb (by simp [go_sem])
  have c2 : w1.cell? ⟨w.heap.size, 2, none⟩ = some (.slice ay l cy) := cell_later hb (by simp [go_sem])
  have d2 : w1.frozen? ⟨w.heap.size, 2, none⟩ = false := ((bcell hb).2 _ _ (by simp; omega)).trans (by simp [go_sem])
  have v0 : w1.cell? ⟨w.heap.size + 1, 0, none⟩ = some (.int .i64 0) := cell_later hb (by simp [go_sem])
  have v1 : w1.cell? ⟨w.heap.size + 1, 1, none⟩ = some (.int .i64 0) := cell_later hb (by simp [go_sem])
  have v2 : w1.cell? ⟨w.heap.size + 1, 2, none⟩ = some (.slice none 0 0) := cell_later hb (by simp [go_sem])
  have f0 : w1.frozen? ⟨w.heap.size + 1, 0, none⟩ = false := ((bcell hb).2 _ _ (by simp)).trans (by simp [go_sem])
  have f1 : w1.frozen? ⟨w.heap.size + 1, 1, none⟩ = false := ((bcell hb).2 _ _ (by simp)).trans (by simp [go_sem])
  have f2 : w1.frozen? ⟨w.heap.size + 1, 2, none⟩ = false := ((bcell hb).2 _ _ (by simp)).trans (by simp [go_sem])
  have HB := hide (below_on (below_on (below_alloc _ _) (below_alloc _ _)) hb)
  have HO := hide ho
  clear hb ho
  go_wp2
  refine bodyPost_ret (v := .agg #[.int .i64 s, .int .i64 t, .slice az l cz]) (by simp [results, Tryz.results226, go_sem, v0, v1, v2]) rfl ⟨_, rfl, ?_, ?_⟩
  · repeat (first | refine Below.setCell ?_ (by first | (simp; done) | (simp; omega) | omega) _ | exact HB.out)
  · refine OwI.mono (OwI.wr HO.out (T := fun b => b < w.heap.size + 2) ?_ (fun b hb _ => by simp at hb; omega)) (by simp)
    repeat (first | refine Wr.setCell ?_ (by first | (simp; done) | (simp; omega) | omega) _ | exact Wr.refl _ _)
def nwP (ca sa ta : Int) (xa : List Int) (cb sb tb : Int) (xb : List Int) : Nat :=
  if rightB ca sa ta xa = true ∧ (rightB cb sb tb xb = false ∨ sb ≤ sa) then 1 else if rightB cb sb tb xb = true then 2 else 0
def nwF (k : Nat) : Int := if k = 0 then 4 else 0
def nwI (k : Nat) (a b : Int) : Int := if k = 1 then a else if k = 2 then b else 0
def nwA (k : Nat) (xa xb : List Int) : List Int := if k = 1 then xa else if k = 2 then xb else []
set_option maxHeartbeats 4000000 in
set_option maxRecDepth 4000 in
theorem specNewest {S T : Nat → Prop} {w : World} {ya yb : Value} {xa xb : List Int} (ca sa ta cb sb tb : Int) (ha : RdI S w ya xa) (hb : RdI T w yb xb) (hma : xa.length ≤ 1048576) (hmb : xb.length ≤ 1048576) :
    Calls Tryz.prog 203 #[.agg #[.int .i64 ca, .int .i64 sa, .int .i64 ta, ya], .agg #[.int .i64 cb, .int .i64 sb, .int .i64 tb, yb]] w
      (EndsH (nwF (nwP ca sa ta xa cb sb tb xb)) (nwI (nwP ca sa ta xa cb sb tb xb) sa sb) (nwI (nwP ca sa ta xa cb sb tb xb) ta tb) (nwA (nwP ca sa ta xa cb sb tb xb) xa xb) w) := by
  unfold EndsH
  have HA := hide ha
  have HB := hide hb
  obtain ⟨aa, ka, rfl⟩ := ha.shape
  obtain ⟨ab, kb, rfl⟩ := hb.shape
  obtain ⟨la, hla⟩ : ∃ la, xa.length = la := ⟨_, rfl⟩
  obtain ⟨lb, hlb⟩ : ∃ lb, xb.length = lb := ⟨_, rfl⟩
  have HLa := hide hla
  have HLb := hide hlb
  rw [hla] at HA ⊢
  rw [hlb] at HB ⊢
  clear ha hb hla hlb
  obtain ⟨W, hW⟩ : ∃ W, ((w.alloc (.cells #[.int .i64 ca, .int .i64 sa, .int .i64 ta, .slice aa la ka] 180)).alloc (.cells #[.int .i64 cb, .int .i64 sb, .int .i64 tb, .slice ab lb kb] 180)).alloc (.cells #[.int .i64 0, .int .i64 0, .int .i64 0, .slice none 0 0] 180) = W := ⟨_, rfl⟩
  have BW : Hid (Below w.heap.size w W) := by rw [← hW]; exact below_on (below_on (below_alloc _ _) (below_alloc _ _)) (below_alloc _ _)
  have hWs : W.heap.size = w.heap.size + 3 := by rw [← hW]; simp
  have a0 : W.cell? ⟨w.heap.size, 0, none⟩ = some (.int .i64 ca) := by rw [← hW]; simp [go_sem]
  have a1 : W.cell? ⟨w.heap.size, 1, none⟩ = some (.int .i64 sa) := by rw [← hW]; simp [go_sem]
  have a2 : W.cell? ⟨w.heap.size, 2, none⟩ = some (.int .i64 ta) := by rw [← hW]; simp [go_sem]
  have a3 : W.cell? ⟨w.heap.size, 3, none⟩ = some (.slice aa la ka) := by rw [← hW]; simp [go_sem]
  have b0 : W.cell? ⟨w.heap.size + 1, 0, none⟩ = some (.int .i64 cb) := by rw [← hW]; simp [go_sem]
  have b1 : W.cell? ⟨w.heap.size + 1, 1, none⟩ = some (.int .i64 sb) := by rw [← hW]; simp [go_sem]
  have b2 : W.cell? ⟨w.heap.size + 1, 2, none⟩ = some (.int .i64 tb) := by rw [← hW]; simp [go_sem]
  have b3 : W.cell? ⟨w.heap.size + 1, 3, none⟩ = some (.slice ab lb kb) := by rw [← hW]; simp [go_sem]
  have r0 : W.cell? ⟨w.heap.size + 1 + 1, 0, none⟩ = some (.int .i64 0) := by rw [← hW]; simp [go_sem]
  have r1 : W.cell? ⟨w.heap.size + 1 + 1, 1, none⟩ = some (.int .i64 0) := by rw [← hW]; simp [go_sem]
  have r2 : W.cell? ⟨w.heap.size + 1 + 1, 2, none⟩ = some (.int .i64 0) := by rw [← hW]; simp [go_sem]
  have r3 : W.cell? ⟨w.heap.size + 1 + 1, 3, none⟩ = some (.slice none 0 0) := by rw [← hW]; simp [go_sem]
  have rf : ∀ o, W.frozen? ⟨w.heap.size + 1 + 1, o, none⟩ = false := by rw [← hW]; intro o; simp [go_sem]
  have RA := hide (fun (q : Nat) => l2Right (w := W.drewN q) (b := w.heap.size) a0 ⟨a1, a2, a3⟩ ((HA.out.later BW.out).drewN q))
  have RB := hide (fun (q : Nat) => l2Right (w := W.drewN q) (b := w.heap.size + 1) b0 ⟨b1, b2, b3⟩ ((HB.out.later BW.out).drewN q))
  obtain ⟨pa, hpa⟩ : ∃ pa, rightB ca sa ta xa = pa := ⟨_, rfl⟩
  obtain ⟨pb, hpb⟩ : ∃ pb, rightB cb sb tb xb = pb := ⟨_, rfl⟩
  rw [hpa] at RA
  rw [hpb] at RB
  obtain ⟨k, hk⟩ : ∃ k, nwP ca sa ta xa cb sb tb xb = k := ⟨_, rfl⟩
  have HK : Hid (k = if pa = true ∧ (pb = false ∨ sb ≤ sa) then 1 else if pb = true then 2 else 0) := by unfold Hid; rw [← hk]; unfold nwP; rw [hpa, hpb]
  rw [hk]
  clear hk hpa hpb
  cases pa with
  | true =>
    cases pb with
    | true =>
      by_cases hs : sb ≤ sa
      · have hk1 : k = 1 := by rw [HK.out]; simp [hs]
        subst hk1
        go_enter Tryz.func203, Tryz.ntmps203
        go_wp2_with fail
        refine (RA.out 0).mono ?_
        rintro e wy ⟨he, hwy⟩
        rw [he, hwy, show W.drewN 0 = W from rfl]
        clear he hwy
        go_wp2_with fail
        refine (RB.out 0).mono ?_
        rintro e wy ⟨he, hwy⟩
        rw [he, hwy, show W.drewN 0 = W from rfl]
        clear he hwy
        go_wp2_with fail
        refine (l2Copy sa ta (HA.out.later BW.out) hma).mono ?_
        rintro e w1 ⟨z1, rfl, hb1, ho1⟩
        obtain ⟨az, cz, hz1⟩ := ho1.shape
        rw [HLa.out] at hz1
        subst hz1
        have v0 := cell_later hb1 r0
        have v1 := cell_later hb1 r1
        have v2 := cell_later hb1 r2
        have v3 := cell_later hb1 r3
        have y0 := ((bcell hb1).2 _ _ (by omega)).trans (rf 0)
        have y1 := ((bcell hb1).2 _ _ (by omega)).trans (rf 1)
        have y2 := ((bcell hb1).2 _ _ (by omega)).trans (rf 2)
        have y3 := ((bcell hb1).2 _ _ (by omega)).trans (rf 3)
        have HB1 := hide (below_on BW.out hb1)
        have HO1 := hide ho1
        clear hb1 ho1
        go_wp2
        have hfin := ret_head (x := .int .i64 0) (s := .int .i64 sa) (t := .int .i64 ta) HB1.out (r := w.heap.size + 1 + 1) (by omega) HO1.out (by omega) (by omega)
        exact bodyPost_ret (v := .agg #[.int .i64 0, .int .i64 sa, .int .i64 ta, .slice az la cz]) (by simp [results, Tryz.results203, go_sem, v0, v1, v2, v3]) rfl ⟨_, rfl, hfin.1, hfin.2⟩
      · have hk2 : k = 2 := by rw [HK.out]; simp [hs]
        subst hk2
        go_enter Tryz.func203, Tryz.ntmps203
        go_wp2_with fail
        refine (RA.out 0).mono ?_
        rintro e wy ⟨he, hwy⟩
        rw [he, hwy, show W.drewN 0 = W from rfl]
        clear he hwy
        go_wp2_with fail
        refine (RB.out 0).mono ?_
        rintro e wy ⟨he, hwy⟩
        rw [he, hwy, show W.drewN 0 = W from rfl]
        clear he hwy
        go_wp2_with fail
        refine (RB.out 0).mono ?_
        rintro e wy ⟨he, hwy⟩
        rw [he, hwy, show W.drewN 0 = W from rfl]
        clear he hwy
        go_wp2_with fail
        refine (l2Copy sb tb (HB.out.later BW.out) hmb).mono ?_
        rintro e w1 ⟨z1, rfl, hb1, ho1⟩
        obtain ⟨az, cz, hz1⟩ := ho1.shape
        rw [HLb.out] at hz1
        subst hz1
        have v0 := cell_later hb1 r0
        have v1 := cell_later hb1 r1
        have v2 := cell_later hb1 r2
        have v3 := cell_later hb1 r3
        have y0 := ((bcell hb1).2 _ _ (by omega)).trans (rf 0)
        have y1 := ((bcell hb1).2 _ _ (by omega)).trans (rf 1)
        have y2 := ((bcell hb1).2 _ _ (by omega)).trans (rf 2)
        have y3 := ((bcell hb1).2 _ _ (by omega)).trans (rf 3)
        have HB1 := hide (below_on BW.out hb1)
        have HO1 := hide ho1
        clear hb1 ho1
        go_wp2
        have hfin := ret_head (x := .int .i64 0) (s := .int .i64 sb) (t := .int .i64 tb) HB1.out (r := w.heap.size + 1 + 1) (by omega) HO1.out (by omega) (by omega)
        exact bodyPost_ret (v := .agg #[.int .i64 0, .int .i64 sb, .int .i64 tb, .slice az lb cz]) (by simp [results, Tryz.results203, go_sem, v0, v1, v2, v3]) rfl ⟨_, rfl, hfin.1, hfin.2⟩
    | false =>
      have hk1 : k = 1 := by rw [HK.out]; simp
      subst hk1
      go_enter Tryz.func203, Tryz.ntmps203
      go_wp2_with fail
      refine (RA.out 0).mono ?_
      rintro e wy ⟨he, hwy⟩
      rw [he, hwy, show W.drewN 0 = W from rfl]
      clear he hwy
      go_wp2_with fail
      refine (RB.out 0).mono ?_
      rintro e wy ⟨he, hwy⟩
      rw [he, hwy, show W.drewN 0 = W from rfl]
      clear he hwy
      go_wp2_with fail
      refine (l2Copy sa ta (HA.out.later BW.out) hma).mono ?_
      rintro e w1 ⟨z1, rfl, hb1, ho1⟩
      obtain ⟨az, cz, hz1⟩ := ho1.shape
      rw [HLa.out] at hz1
      subst hz1
      have v0 := cell_later hb1 r0
      have v1 := cell_later hb1 r1
      have v2 := cell_later hb1 r2
      have v3 := cell_later hb1 r3
      have y0 := ((bcell hb1).2 _ _ (by omega)).trans (rf 0)
      have y1 := ((bcell hb1).2 _ _ (by omega)).trans (rf 1)
      have y2 := ((bcell hb1).2 _ _ (by omega)).trans (rf 2)
      have y3 := ((bcell hb1).2 _ _ (by omega)).trans (rf 3)
      have HB1 := hide (below_on BW.out hb1)
      have HO1 := hide ho1
      clear hb1 ho1
      go_wp2
      have hfin := ret_head (x := .int .i64 0) (s := .int .i64 sa) (t := .int .i64 ta) HB1.out (r := w.heap.size + 1 + 1) (by omega) HO1.out (by omega) (by omega)
      exact bodyPost_ret (v := .agg #[.int .i64 0, .int .i64 sa, .int .i64 ta, .slice az la cz]) (by simp [results, Tryz.results203, go_sem, v0, v1, v2, v3]) rfl ⟨_, rfl, hfin.1, hfin.2⟩
  | false =>
    cases pb with
    | true =>
      have hk2 : k = 2 := by rw [HK.out]; simp
      subst hk2
      go_enter Tryz.func203, Tryz.ntmps203
      go_wp2_with fail
      refine (RA.out 0).mono ?_
      rintro e wy ⟨he, hwy⟩
      rw [he, hwy, show W.drewN 0 = W from rfl]
      clear he hwy
      go_wp2_with fail
      refine (RB.out 0).mono ?_
      rintro e wy ⟨he, hwy⟩
      rw [he, hwy, show W.drewN 0 = W from rfl]
      clear he hwy
      go_wp2_with fail
      refine (l2Copy sb tb (HB.out.later BW.out) hmb).mono ?_
      rintro e w1 ⟨z1, rfl, hb1, ho1⟩
      obtain ⟨az, cz, hz1⟩ := ho1.shape
      rw [HLb.out] at hz1
      subst hz1
      have v0 := cell_later hb1 r0
      have v1 := cell_later hb1 r1
      have v2 := cell_later hb1 r2
      have v3 := cell_later hb1 r3
      have y0 := ((bcell hb1).2 _ _ (by omega)).trans (rf 0)
      have y1 := ((bcell hb1).2 _ _ (by omega)).trans (rf 1)
      have y2 := ((bcell hb1).2 _ _ (by omega)).trans (rf 2)
      have y3 := ((bcell hb1).2 _ _ (by omega)).trans (rf 3)
      have HB1 := hide (below_on BW.out hb1)
      have HO1 := hide ho1
      clear hb1 ho1
      go_wp2
      have hfin := ret_head (x := .int .i64 0) (s := .int .i64 sb) (t := .int .i64 tb) HB1.out (r := w.heap.size + 1 + 1) (by omega) HO1.out (by omega) (by omega)
      exact bodyPost_ret (v := .agg #[.int .i64 0, .int .i64 sb, .int .i64 tb, .slice az lb cz]) (by simp [results, Tryz.results203, go_sem, v0, v1, v2, v3]) rfl ⟨_, rfl, hfin.1, hfin.2⟩
    | false =>
      have hk0 : k = 0 := by rw [HK.out]; simp
      subst hk0
      go_enter Tryz.func203, Tryz.ntmps203
      go_wp2_with fail
      refine (RA.out 0).mono ?_
      rintro e wy ⟨he, hwy⟩
      rw [he, hwy, show W.drewN 0 = W from rfl]
      clear he hwy
      go_wp2_with fail
      refine (RB.out 0).mono ?_
      rintro e wy ⟨he, hwy⟩
      rw [he, hwy, show W.drewN 0 = W from rfl]
      clear he hwy
      have y0 := rf 0
      have y1 := rf 1
      have y2 := rf 2
      have y3 := rf 3
      go_wp2
      refine bodyPost_ret (v := .agg #[.int .i64 4, .int .i64 0, .int .i64 0, .slice none 0 0]) (by simp [results, Tryz.results203, go_sem, r0, r1, r2, r3]) rfl ⟨_, rfl, ?_, OwI_nil _ _⟩
      repeat (first | refine Below.setCell ?_ (by first | (simp; done) | (simp; omega) | omega) _ | exact BW.out)
end Go.Proofs.YtlmaopljihbdkaaGreat
