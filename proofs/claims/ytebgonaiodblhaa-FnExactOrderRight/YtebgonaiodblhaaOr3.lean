/- Chapter 15: 'impl.inOrder', 'impl.OrderRight' and the model's, walked. -/
import Derived.Test.YtebgonaiodblhaaOr2
import Derived.Deep.RegionHeld3
namespace Go.Proofs.Ytebgonaiodblhaa
open Go.RowKit

/-- A reading of rows of what was done. -/
def RdHs (w : World) (v : Value) (X : List (List Dn)) : Prop :=
  ∃ ao c, v = .slice ao X.length c ∧ ∀ j, j < X.length → ∃ R y, ao = some ⟨R, 0, none⟩ ∧ w.cell? ⟨R, j, none⟩ = some y ∧ RdDn (fun _ => True) w y (X.getD j [])
theorem RdHs.later {w w' : World} {v : Value} {X : List (List Dn)} (h : RdHs w v X) (hb : Below w.heap.size w w') : RdHs w' v X := by
  obtain ⟨ao, c, e, h1⟩ := h
  refine ⟨ao, c, e, fun j hj => ?_⟩
  obtain ⟨R, y, e1, e2, e3⟩ := h1 j hj
  exact ⟨R, y, e1, cell_later hb e2, e3.later hb⟩
theorem HsI.rd {M : Nat} {w : World} {v : Value} {X : List (List Dn)} {V : Nat → Value} (h : HsI M w v X V) (hm : ∀ j, j < X.length → (X.getD j []).length ≤ 1048576) : RdHs w v X := by
  obtain ⟨ao, c, e⟩ := ownsRow_form h.row
  refine ⟨ao, c, e, fun j hj => ?_⟩
  obtain ⟨R, c2, a, l, e2, _, _, e3, e4, _, _⟩ := h.form hj
  rw [e] at e2
  injection e2 with f1 f2 f3
  refine ⟨R, V j, f1, e4, ?_⟩
  have hmj := hm j hj
  have hin := h.inn j hj
  rw [e3] at hin ⊢
  rcases hin.2 with ⟨q1, q2⟩ | ⟨g, cap, cur, q1, _, _, q2, _⟩
  · have e0 : X.getD j [] = [] := List.eq_nil_of_length_eq_zero q2
    rw [e0] at q1 ⊢
    injection q1 with q1 _ q3
    subst q1
    subst q3
    exact ⟨none, 0, rfl, Nat.zero_le _, fun h => absurd rfl h⟩
  · injection q1 with q1 _ q3
    subst q1
    subst q3
    refine ⟨_, l - (X.getD j []).length, by rw [Nat.add_sub_cancel' q2], by omega, fun _ => ⟨g, 0, rfl, trivial, fun i hi => ?_⟩⟩
    have at_ : ∀ t, t < 4 → w.cell? ⟨g, i * 4 + t, none⟩ = (dnL ((X.getD j []).getD i dn0))[t]? := fun t ht => by
      rw [hin.cellAt (i * 4 + t) (by omega), cellsDn_at _ _ _ hi ht]
    unfold DnAt
    rw [Nat.zero_add]
    exact ⟨at_ 0 (by omega), at_ 1 (by omega), at_ 2 (by omega), at_ 3 (by omega)⟩

set_option maxHeartbeats 2000000 in
set_option maxRecDepth 4000 in
theorem inOrderI {w : World} {u : Value} {X : List (List Dn)} (hu : RdHs w u X) (hm : X.length ≤ 1048576) (hmj : ∀ j, j < X.length → (X.getD j []).length ≤ 1048576) :
    Calls Try.prog 16 #[u] w fun e w' => ∃ z, e = .returned (.bool z) ∧ (z = true ↔ goodX X) ∧ Below w.heap.size w w' := by
  obtain ⟨ao, c, rfl, hc⟩ := hu
  have HC := hide hc
  have HMJ := hide hmj
  have HG : Hid (goodX X ↔ ∀ j, j < X.length → ∀ i, i < (X.getD j []).length → ((X.getD j []).getD i dn0).2.1 = (i : Int)) := Iff.rfl
  obtain ⟨G, hG⟩ : ∃ G, goodX X = G := ⟨_, rfl⟩
  rw [hG] at HG ⊢
  obtain ⟨p, hp⟩ : ∃ p, X.length = p := ⟨_, rfl⟩
  rw [hp] at HC HMJ HG hm ⊢
  clear hc hmj hG hp
  go_enter Try.func16, Try.ntmps16
  go_wp2
  go_step3
  go_wp2
  go_step3
  go_wp2
  go_loopw [3, 10] (fun r i wr => ∃ k : Nat, k ≤ p ∧ r = .bool true ∧ i = .int .i64 (k : Int) ∧ Hid (Below w.heap.size w wr) ∧ Hid (∀ j, j < k → ∀ i, i < (X.getD j []).length → ((X.getD j []).getD i dn0).2.1 = (i : Int))) (fun _ i _ => p - (RowKit.intOf i).toNat)
  case atStart => exact ⟨0, Nat.zero_le _, rfl, rfl, Below.refl _ _, fun j h => absurd h (Nat.not_lt_zero _)⟩
  case round =>
    obtain ⟨k, hk, rfl, rfl, HB, HK⟩ := hrel
    by_cases hlt : k < p
    · obtain ⟨R, y, rfl, hy1, hy2⟩ := HC.out k hlt
      have g0 := cell_later HB.out hy1
      have HY := hide (hy2.later HB.out)
      have hml := HMJ.out k hlt
      obtain ⟨ay, cy, rfl⟩ := hy2.shape
      clear hy1 hy2
      obtain ⟨wo, hwo⟩ : ∃ wo, wo = wr := ⟨_, rfl⟩
      subst hwo
      obtain ⟨L, hL⟩ : ∃ L, X.getD k [] = L := ⟨_, rfl⟩
      have HLk := hide hL
      rw [hL] at HY hml g0
      clear hL
      obtain ⟨m, hm'⟩ : ∃ m, L.length = m := ⟨_, rfl⟩
      have HLm := hide hm'
      rw [hm'] at HY hml g0
      clear hm'
      go_wp2
      go_loopw [3, 16] (fun r i wr => ∃ q : Nat, q ≤ m ∧ r = .bool true ∧ i = .int .i64 (q : Int) ∧ Hid (Below wo.heap.size wo wr) ∧ Hid (∀ i, i < q → (L.getD i dn0).2.1 = (i : Int))) (fun _ i _ => m - (RowKit.intOf i).toNat)
      case atStart => exact ⟨0, Nat.zero_le _, rfl, rfl, Below.refl _ _, fun j h => absurd h (Nat.not_lt_zero _)⟩
      case round =>
        obtain ⟨q, hq, rfl, rfl, HB1, HQ⟩ := hrel
        by_cases hlt2 : q < m
        · obtain ⟨b, off, rfl, hA⟩ := HY.out.at (k := q) (by rw [HLm.out]; exact hlt2)
          have hA := hA.later HB1.out
          obtain ⟨d, hd⟩ : ∃ d, L.getD q dn0 = d := ⟨_, rfl⟩
          rw [hd] at hA
          have HD := hide hd
          clear hd
          obtain ⟨t, a, y', z⟩ := d
          obtain ⟨c0, c1, c2, c3⟩ := hA
          simp only [] at c0 c1 c2 c3
          have HBa := hide (below_on HB1.out (below_alloc wr (.cells #[.int .i64 t, .int .i64 a, .int .i64 y', .int .i64 z] 41)))
          by_cases hac : a = (q : Int)
          · have hab : (a != (q : Int)) = false := by simp [hac]
            have HQ1 : Hid (∀ i, i < q + 1 → (L.getD i dn0).2.1 = (i : Int)) := by
              intro i hi
              by_cases e : i = q
              · subst e; rw [HD.out]; exact hac
              · exact HQ.out i (by omega)
            clear hac
            go_wp2
            go_roundw
            case rel => exact ⟨q + 1, hlt2, rfl, by go_num, HBa.out, HQ1.out⟩
            case measure => simp [RowKit.intOf]; omega
          · have hab : (a != (q : Int)) = true := by simp [hac]
            have HNG : Hid (¬ G) := fun hg => by
              have := (HG.out.1 hg) k hlt q (by rw [HLk.out, HLm.out]; exact hlt2)
              rw [HLk.out, HD.out] at this
              exact hac this
            clear hac
            go_wp2
            rw [Exit.noGoto_ret]
            go_ret
            exact ⟨false, rfl, ⟨fun h => (by cases h), fun hg => absurd hg HNG.out⟩, below_on HB.out HBa.out⟩
        · have hqm : q = m := by omega
          subst hqm
          have HKn : Hid (∀ j, j < k + 1 → ∀ i, i < (X.getD j []).length → ((X.getD j []).getD i dn0).2.1 = (i : Int)) := by
            intro j hj i hi
            by_cases e : j = k
            · subst e
              rw [HLk.out] at hi ⊢
              rw [HLm.out] at hi
              exact HQ.out i hi
            · exact HK.out j (by omega) i hi
          have HBn := hide (below_on HB.out HB1.out)
          clear HK HQ HB HB1
          go_wp2
          refine ⟨⟨k + 1, hlt, rfl, by go_num, HBn.out, HKn.out⟩, ?_⟩
          simp [RowKit.intOf]
          omega
    · have hkp : k = p := by omega
      subst hkp
      have HG1 : Hid G := HG.out.2 HK.out
      go_wp2
      rw [Exit.noGoto_ret]
      go_ret
      exact ⟨true, rfl, ⟨fun _ => HG1.out, fun _ => rfl⟩, HB.out⟩

set_option maxHeartbeats 2000000 in
theorem implOrderRight {S : Nat → Prop} {w : World} {u : Value} {xs : List Dn} (hu : RdDn S w u xs) (hm : xs.length ≤ 1048576) (hwf : WfDn xs) :
    Calls Try.prog 8 #[u] w fun e w' => e = .returned (.bool (orF xs xs.length)) ∧ Below w.heap.size w w' := by
  have H1 := hide (historiesOf hu hm hwf)
  have hcl : ∀ j, j < (hsF xs xs.length).length → ((hsF xs xs.length).getD j []).length ≤ 1048576 := fun j hj => by
    rw [(hsK xs xs.length).cnt j (by rw [← hs_len]; exact hj)]
    exact Nat.le_trans (cntD_le _ _ _) hm
  have hxl : (hsF xs xs.length).length ≤ 1048576 := by rw [hs_len]; exact Nat.le_trans (ts_len _ _) hm
  have H2 := hide (fun (w' : World) (v : Value) (h : RdHs w' v (hsF xs xs.length)) => inOrderI h hxl hcl)
  have H3 := hide (fun (w' : World) (v : Value) (V : Nat → Value) (h : HsI (w.heap.size + 1) w' v (hsF xs xs.length) V) => h.rd hcl)
  have H4 := hide (or_good xs xs.length)
  obtain ⟨au, cu, rfl⟩ := hu.shape
  generalize orF xs xs.length = Z at *
  generalize hsF xs xs.length = X at *
  generalize xs.length = n at *
  clear hu hm hwf hcl hxl
  go_enter Try.func8, Try.ntmps8
  go_wp2_with fail
  refine H1.out.mono ?_
  rintro e w1 ⟨v, V, rfl, hb, hI⟩
  have B1 := hide hb
  have R1 := hide (H3.out _ _ _ hI)
  obtain ⟨ao, c, rfl⟩ := ownsRow_form hI.row
  clear hb hI
  go_wp2_with fail
  refine (H2.out _ _ R1.out).mono ?_
  rintro e w2 ⟨z, rfl, hz, hb⟩
  have B2 := hide (below_on B1.out hb)
  have HZ : Hid (z = Z) := by
    have := H4.out.trans hz.symm
    cases z <;> cases Z <;> simp_all
  clear hb hz
  go_wp2
  go_ret
  exact ⟨by rw [← HZ.out]; rfl, B2.out⟩
end Go.Proofs.Ytebgonaiodblhaa
