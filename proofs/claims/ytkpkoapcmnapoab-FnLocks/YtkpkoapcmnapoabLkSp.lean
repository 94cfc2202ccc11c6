/- Chapter 6, the model's side: 'l6Owner', 'OwnerOf', walked. -/
import Derived.Test.YtkpkoapcmnapoabLkOf
namespace Go.Proofs.Ytkpkoapcmnapoab
open Go.RowKit Go.Maps

theorem ownr_first {os : List Wn} {a : Int} {j : Nat} (hj : j < os.length) (he : (os.getD j wn0).1 = a) (hn : ∀ i, i < j → (os.getD i wn0).1 ≠ a) : ownr os a = (os.getD j wn0).2 := by
  unfold ownr
  have hf : os.find? (fun o => o.1 == a) = some (os.getD j wn0) := by
    rw [List.find?_eq_some_iff_getElem]
    refine ⟨by simpa using he, j, hj, by simp [List.getD, hj], fun i hi => ?_⟩
    have := hn i hi
    have hi' : i < os.length := by omega
    simp [List.getD, hi'] at this
    simpa using this
  rw [hf]

set_option maxRecDepth 4000 in
/-- 'l6Owner'. -/
theorem l6Owner {S : Nat → Prop} {w : World} {v : Value} {os : List Wn} (a : Int) (hv : RdO S w v os) :
    Calls Try.prog 40 #[v, .int .i64 a] w fun e w' => e = .returned (.int .i64 (ownr os a)) ∧ Below w.heap.size w w' := by
  obtain ⟨ao, c, rfl⟩ := hv.shape
  have hm := hv.max
  have HV := hide hv
  have HF := hide (fun (j : Nat) => @ownr_first os a j)
  have HN := hide (@ownr_none os a)
  obtain ⟨m, hmm⟩ : ∃ m, os.length = m := ⟨_, rfl⟩
  have HM := hide hmm
  rw [hmm] at HV hm HF HN ⊢
  obtain ⟨r, hr⟩ : ∃ r, ownr os a = r := ⟨_, rfl⟩
  rw [hr] at HF HN ⊢
  clear hv hmm hr
  go_enter Try.func40, Try.ntmps40
  go_wp2
  go_loopw [5] (fun i wr => ∃ k : Nat, k ≤ m ∧ i = .int .i64 k ∧ Hid (∀ i, i < k → (os.getD i wn0).1 ≠ a) ∧ Hid (Below w.heap.size w wr)) (fun i _ => m - (RowKit.intOf i).toNat)
  case atStart => exact ⟨0, Nat.zero_le _, rfl, fun i hi => absurd hi (Nat.not_lt_zero _), Below.refl _ _⟩
  case round =>
    obtain ⟨k, hk, rfl, HA, HB⟩ := hrel
    by_cases hlt : k < m
    · obtain ⟨b, off, rfl, q1, q2⟩ := HV.out.at (k := k) (by rw [HM.out]; exact hlt)
      have g1 := cell_later HB.out q1
      have g2 := cell_later HB.out q2
      have HFk := hide (fun h => HF.out k hlt h HA.out)
      obtain ⟨x, hx⟩ : ∃ x, (os.getD k wn0).1 = x := ⟨_, rfl⟩
      obtain ⟨y, hy⟩ : ∃ y, (os.getD k wn0).2 = y := ⟨_, rfl⟩
      rw [hx] at g1 HFk
      rw [hy] at g2 HFk
      have HX := hide hx
      clear q1 q2 hx hy
      by_cases hxa : x = a
      · have hry := HFk.out hxa
        subst hry
        subst hxa
        clear HFk HF HN
        go_wp2
        go_ret
        exact ⟨rfl, HB.out⟩
      · have hxb : (x == a) = false := by simpa using hxa
        have HA' : Hid (∀ i, i < k + 1 → (os.getD i wn0).1 ≠ a) := fun i hi => by
          by_cases e : i = k
          · rw [e, HX.out]; exact hxa
          · exact HA.out i (by omega)
        go_wp2
        go_roundw
        case rel => exact ⟨k + 1, by omega, by go_num, HA'.out, HB.out⟩
        case measure => simp [RowKit.intOf]; omega
    · have h0 : r = 0 := HN.out (fun i hi => HA.out i (by omega))
      subst h0
      clear HN HF
      go_wp2
      go_ret
      exact ⟨rfl, HB.out⟩

theorem l2HomeB (v : Int) (w : World) : Calls Try.prog 24 #[.int .i64 v] w fun e w' => e = .returned (.bool (decide (0 ≤ v ∧ v < 40))) ∧ w' = w := by
  by_cases h : 0 ≤ v ∧ v < 40
  · rw [decide_eq_true h]; exact l2HomeY v h.1 h.2 w
  · rw [decide_eq_false h]; exact l2HomeN v h w

end Go.Proofs.Ytkpkoapcmnapoab
