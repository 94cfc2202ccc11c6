/- Chapter 15: the model's OrderRight, walked. -/
import Derived.Test.YtebgonaiodblhaaOr1
import Derived.Deep.RegionHeld3
namespace Go.Proofs.Ytebgonaiodblhaa
open Go.RowKit

set_option maxHeartbeats 4000000 in
set_option maxRecDepth 4000 in
theorem specOrderRight {S : Nat → Prop} {w : World} {u : Value} {xs : List Dn} (hu : RdDn S w u xs) (hm : xs.length ≤ 1048576) :
    Calls Try.prog 6 #[u] w fun e w' => e = .returned (.bool (orF xs xs.length)) ∧ Below w.heap.size w w' := by
  have HU := hide hu
  have HO1 := hide (fun k => show orF xs (k + 1) = (orF xs k && decide ((xs.getD k dn0).2.1 = (cntD xs (xs.getD k dn0).1 k : Int))) from rfl)
  have HO0 : Hid (orF xs 0 = true) := rfl
  have HOd := hide (fun (k : Nat) (h : orF xs k = false) (n : Nat) (hn : k ≤ n) => orF_down xs h n hn)
  have HC0 : Hid (∀ t, cntD xs t 0 = 0) := fun _ => rfl
  have HC1 : Hid (∀ t k, cntD xs t (k + 1) = if (xs.getD k dn0).1 = t then cntD xs t k + 1 else cntD xs t k) := fun _ _ => rfl
  have HCl := hide (cntD_le xs)
  obtain ⟨au, cu, rfl⟩ := hu.shape
  obtain ⟨n, hn⟩ : ∃ n, xs.length = n := ⟨_, rfl⟩
  have HN := hide hn
  rw [hn] at HU hm ⊢
  clear hu hn
  generalize orF xs = O at *
  generalize cntD xs = C at *
  go_enter Try.func6, Try.ntmps6
  go_wp2
  go_loopw [3] (fun i wr => ∃ k q : Nat, k ≤ n ∧ i = .int .i64 (k : Int) ∧ wr = w.drewN q ∧ Hid (O k = true)) (fun i _ => n - (RowKit.intOf i).toNat)
  case atStart => exact ⟨0, 0, Nat.zero_le _, rfl, rfl, HO0.out⟩
  case round =>
    obtain ⟨k, q0, hk, rfl, rfl, HOk⟩ := hrel
    by_cases hlt : k < n
    · obtain ⟨b, off, rfl, hA⟩ := HU.out.at (k := k) (by rw [HN.out]; exact hlt)
      have HOn := hide (HO1.out k)
      have HCk := hide (fun t => HC1.out t)
      obtain ⟨d, hd⟩ : ∃ d, xs.getD k dn0 = d := ⟨_, rfl⟩
      rw [hd] at hA HOn
      clear hd
      obtain ⟨t, a, y, z⟩ := d
      obtain ⟨d0, d1, d2, d3⟩ := hA
      simp only [] at d0 d1 d2 d3
      dsimp only at HOn
      clear d2 d3
      obtain ⟨wo, hwo⟩ : ∃ wo, wo = w.drewN q0 := ⟨_, rfl⟩
      have hk0 : (0 : Int) ≤ (k : Int) := by omega
      have hk1 : (k : Int) < (n : Int) := by omega
      have Hd0 := hide d0
      have Hd1 := hide d1
      clear d0 d1 hwo wo
      go_wp2
      go_loopw [4, 5] (fun c i wr => ∃ j q : Nat, j ≤ k ∧ c = .int .i64 (C t j : Int) ∧ i = .int .i64 (j : Int) ∧ wr = w.drewN q) (fun _ i _ => k - (RowKit.intOf i).toNat)
      case atStart => exact ⟨0, q0, Nat.zero_le _, by rw [HC0.out]; rfl, rfl, rfl⟩
      case round =>
        obtain ⟨j, q, hj, rfl, rfl, rfl⟩ := hrel
        by_cases hlt2 : j < k
        · obtain ⟨b', off', hbo, hA⟩ := HU.out.at (k := j) (by rw [HN.out]; omega)
          injection hbo with hbo
          injection hbo with h1 h2
          subst h1
          subst h2
          have HCn := hide (HCk.out t j)
          obtain ⟨d, hd⟩ : ∃ d, xs.getD j dn0 = d := ⟨_, rfl⟩
          rw [hd] at hA HCn
          clear hd
          obtain ⟨t', a', y', z'⟩ := d
          obtain ⟨c0, c1, c2, c3⟩ := hA
          simp only [] at c0
          dsimp only at HCn
          clear c1 c2 c3
          have d0 := Hd0.out
          have hj0 : (0 : Int) ≤ (j : Int) := by omega
          have hj1 : (j : Int) < (n : Int) := by omega
          have hcl := HCl.out t j
          obtain ⟨cc, hcc⟩ : ∃ cc, C t j = cc := ⟨_, rfl⟩
          rw [hcc] at HCn hcl ⊢
          clear hcc
          by_cases htt : t' = t
          · have htb : (t' == t) = true := by simp [htt]
            have HCs : Hid (C t (j + 1) = cc + 1) := by rw [Hid, HCn.out, if_pos htt]
            have hov : (cc : Int) + 1 ≤ 9223372036854775807 := by omega
            clear htt HCn
            go_wp2_with fail
            go_quiet (fail)
            go_wp2
            go_roundw
            case rel => exact ⟨j + 1, _, hlt2, by rw [HCs.out]; go_num, by go_num, rfl⟩
            case measure => simp [RowKit.intOf]; omega
          · have htb : (t' == t) = false := by simp [htt]
            have HCs : Hid (C t (j + 1) = cc) := by rw [Hid, HCn.out, if_neg htt]
            clear htt HCn
            go_wp2_with fail
            go_quiet (fail)
            go_wp2
            go_roundw
            case rel => exact ⟨j + 1, _, hlt2, by rw [HCs.out], by go_num, rfl⟩
            case measure => simp [RowKit.intOf]; omega
        · have hjk : j = k := by omega
          subst hjk
          have d1 := Hd1.out
          obtain ⟨cc, hcc⟩ : ∃ cc, C t j = cc := ⟨_, rfl⟩
          rw [hcc] at HOn ⊢
          clear hcc
          by_cases hac : a = (cc : Int)
          · have hab : (a != (cc : Int)) = false := by simp [hac]
            have HOs : Hid (O (j + 1) = true) := by rw [Hid, HOn.out, HOk.out, decide_eq_true hac]; rfl
            clear hac HOn HOk
            go_wp2
            go_roundw
            case rel => exact ⟨j + 1, _, hlt, by go_num, rfl, HOs.out⟩
            case measure => simp [RowKit.intOf]; omega
          · have hab : (a != (cc : Int)) = true := by simp [hac]
            have HOs : Hid (O (j + 1) = false) := by rw [Hid, HOn.out, decide_eq_false hac, Bool.and_false]
            have HF := hide (HOd.out _ HOs.out n hlt)
            clear hac HOn HOk HOs
            go_wp2
            go_ret
            exact ⟨by rw [HF.out]; rfl, below_drewN _ _⟩
    · have hkn : k = n := by omega
      subst hkn
      go_wp2
      go_ret
      exact ⟨by rw [HOk.out]; rfl, below_drewN _ _⟩
end Go.Proofs.Ytebgonaiodblhaa
