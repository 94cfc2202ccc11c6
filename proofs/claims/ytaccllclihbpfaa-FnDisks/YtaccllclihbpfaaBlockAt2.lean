/- 'BlockAt' of the model, walked; and the laws' functions over a code with a list. -/
import Derived.Test.YtaccllclihbpfaaBlockAt
import Derived.Test.YtaccllclihbpfaaIv
namespace Go.Proofs.Ytaccllclihbpfaa
open Go.RowKit

theorem l1Place_yes (n c bd : Nat) (ao : Option Addr) (at_ : Int) (w : World) (h : w.cell? ⟨bd, 0, none⟩ = some (.slice ao n c)) (h1 : 0 ≤ at_) (h2 : at_ < (n : Int)) (hn : n ≤ 9223372036854775807) :
    Calls Try.prog 98 #[.pointer (some ⟨bd, 0, none⟩), .int .i64 at_] w fun e w' => e = .returned (.bool true) ∧ ∃ q, w' = w.drewN q := by
  have h3 : at_ ≤ (n : Int) - 1 := by omega
  go_enter Try.func98, Try.ntmps98
  go_wp2_with fail
  refine (l1In_yes _ _ _ h1 h3 _).mono ?_
  rintro e w' ⟨rfl, rfl⟩
  go_wp2
  go_ret
  exact ⟨rfl, 0, rfl⟩

theorem l1Place_no (n c bd : Nat) (ao : Option Addr) (at_ : Int) (w : World) (h : w.cell? ⟨bd, 0, none⟩ = some (.slice ao n c)) (ha : ¬ (0 ≤ at_ ∧ at_ < (n : Int))) (hn : n ≤ 9223372036854775807) :
    Calls Try.prog 98 #[.pointer (some ⟨bd, 0, none⟩), .int .i64 at_] w fun e w' => e = .returned (.bool false) ∧ ∃ q, w' = w.drewN q := by
  have HA := hide (show at_ < 0 ∨ (n : Int) - 1 < at_ by omega)
  clear ha
  go_enter Try.func98, Try.ntmps98
  go_wp2_with fail
  refine (l1In_no _ _ _ HA.out _).mono ?_
  rintro e w' ⟨rfl, rfl⟩
  go_wp2
  go_ret
  exact ⟨rfl, 0, rfl⟩

theorem l1At_cells {S T : Nat → Prop} (xss : List (List Int)) (ps : List (Int × List Int)) (n m bd : Nat) (ao ao' : Option Addr) (c c' : Nat) (w : World) (at_ : Int) (hn : xss.length = n) (hm : ps.length = m) (hm' : m ≤ 9223372036854775807)
    (hd0 : w.cell? ⟨bd, 0, none⟩ = some (.slice ao n c)) (hd1 : w.cell? ⟨bd, 1, none⟩ = some (.slice ao' m c'))
    (hu : RdII S w (.slice ao n c) xss) (hv : RdP T w (.slice ao' m c') ps) (ha1 : 0 ≤ at_) (ha2 : at_ < (n : Int)) :
    Calls Try.prog 108 #[.pointer (some ⟨bd, 0, none⟩), .int .i64 at_] w fun e w' => ∃ z, e = .returned z ∧ (∃ q, w' = w.drewN q) ∧ RdI (fun _ => True) w' z (blkTo xss ps at_ m) := by
  have HU := hide hu
  have HV := hide hv
  have HN := hide hn
  have HM := hide hm
  clear hu hv hn hm
  go_enter Try.func108, Try.ntmps108
  go_wp2
  go_loopw [5] (fun i wr => ∃ k : Nat, k ≤ m ∧ i = .int .i64 ((k : Int) - 1) ∧ Hid (blkTo xss ps at_ m = blkTo xss ps at_ k) ∧ wr = w) (fun i _ => (intOf i + 1).toNat)
  case atStart => exact ⟨m, Nat.le_refl _, rfl, rfl, rfl⟩
  case round =>
    obtain ⟨k, hk, rfl, HK, rfl⟩ := hrel
    cases k with
    | zero =>
      obtain ⟨b, off, V, rfl, g1, g2⟩ := HU.out.at (k := at_.toNat) (by rw [HN.out]; omega)
      have R := hide g2
      clear g2
      go_wp2
      go_ret
      exact ⟨V, rfl, ⟨0, rfl⟩, by rw [HK.out]; exact R.out.narrow fun _ _ _ => trivial⟩
    | succ k =>
      obtain ⟨b, off, V, rfl, g1, g2, gR⟩ := HV.out.at (k := k) (by rw [HM.out]; omega)
      have R := hide gR
      obtain ⟨x, hx⟩ : ∃ x, (ps.getD k (0, [])).1 = x := ⟨_, rfl⟩
      rw [hx] at g1
      have e : (((k + 1 : Nat) : Int) - 1) = (k : Int) := by omega
      rw [e]
      have hkl : k < m := by omega
      clear e gR hk
      by_cases hxa : x = at_
      · subst hxa
        have HK2 : Hid (blkTo xss ps x m = (ps.getD k (0, [])).2) := by rw [Hid, HK.out]; unfold blkTo; rw [if_pos hx]
        clear hx
        go_wp2
        go_ret
        exact ⟨V, rfl, ⟨0, rfl⟩, by rw [HK2.out]; exact R.out.narrow fun _ _ _ => trivial⟩
      · have HK2 : Hid (blkTo xss ps at_ m = blkTo xss ps at_ k) := by rw [Hid, HK.out]; show (if (ps.getD k (0, [])).1 = at_ then _ else _) = _; rw [if_neg (by rw [hx]; exact hxa)]
        clear hx
        go_wp2
        go_roundw
        case rel => exact ⟨k, by omega, by go_num, HK2.out, by simp⟩
        case measure => simp [intOf]

/-- What both functions answer: the list. -/
def blkOf (xss : List (List Int)) (ps : List (Int × List Int)) (at_ : Int) : List Int := if placeF xss ps at_ = 0 then blkTo xss ps at_ ps.length else []

theorem placeF_zero {xss : List (List Int)} {ps : List (Int × List Int)} {at_ : Int} (h : placeF xss ps at_ = 0) : diskF xss ps = 0 ∧ 0 ≤ at_ ∧ at_ < (xss.length : Int) := by
  unfold placeF at h
  split at h
  · rename_i h0
    split at h
    · rename_i h1; exact ⟨h0, h1⟩
    · cases h
  · rename_i h0; exact absurd h h0

theorem blkOf_len {xss : List (List Int)} {ps : List (Int × List Int)} {at_ : Int} (hs : Small xss ps) : (blkOf xss ps at_).length ≤ 1048576 := by
  unfold blkOf
  split
  · rename_i h
    obtain ⟨_, h1, h2⟩ := placeF_zero h
    exact blkTo_len hs _ (Nat.le_refl _) h1 h2
  · simp

theorem implBlockAt {S T : Nat → Prop} {w : World} {u v : Value} {xss : List (List Int)} {ps : List (Int × List Int)} (at_ : Int) (hu : RdII S w u xss) (hv : RdP T w v ps) (hs : Small xss ps) :
    Calls Try.prog 17 #[.agg #[u, v], .int .i64 at_] w (EndsI (placeF xss ps at_) (blkOf xss ps at_) w) := by
  unfold EndsI blkOf
  by_cases h : placeF xss ps at_ = 0
  · obtain ⟨_, h1, h2⟩ := placeF_zero h
    obtain ⟨ao, c, rfl, _⟩ := hu.shape
    obtain ⟨ao', c', rfl, hm⟩ := hv.shape
    rw [if_pos h, h]
    exact implBlockAt_yes xss ps _ _ ao ao' c c' w at_ rfl rfl hm hu hv hs h h1 h2
  · rw [if_neg h]
    exact (implBlockAt_no at_ hu hv h).mono fun e w' ⟨he, hb⟩ => ⟨_, he, hb, OwI_nil _ _⟩

set_option maxHeartbeats 1000000 in
theorem specBlockAt {S T : Nat → Prop} {w : World} {u v : Value} {xss : List (List Int)} {ps : List (Int × List Int)} (at_ : Int) (hu : RdII S w u xss) (hv : RdP T w v ps) (hs : Small xss ps) :
    Calls Try.prog 46 #[.agg #[u, v], .int .i64 at_] w (EndsI (placeF xss ps at_) (blkOf xss ps at_) w) := by
  unfold EndsI blkOf
  have HU := hide hu
  have HV := hide hv
  have HS := hide hs
  obtain ⟨ao, c, rfl, hn⟩ := hu.shape
  obtain ⟨ao', c', rfl, hm⟩ := hv.shape
  clear hu hv hs
  obtain ⟨z, hz⟩ : ∃ z, diskF xss ps = z := ⟨_, rfl⟩
  by_cases h0 : z = 0
  · subst h0
    by_cases hat : 0 ≤ at_ ∧ at_ < (xss.length : Int)
    · have hp := placeF_ok hz hat
      rw [if_pos hp, hp]
      have HL := hide (blkTo_len HS.out ps.length (Nat.le_refl _) hat.1 hat.2)
      have HZ := hide hz
      obtain ⟨ha1, ha2⟩ := hat
      clear hz hp
      go_enter Try.func46, Try.ntmps46
      go_wp2_with fail
      refine (l1Fault (u := .slice ao xss.length c) (v := .slice ao' ps.length c') (by simp [go_sem]) (by simp [go_sem]) ((HU.out.later (below_alloc _ _)).later (below_alloc _ _)) ((HV.out.later (below_alloc _ _)).later (below_alloc _ _))).mono ?_
      rintro e w1 ⟨he, q, rfl⟩
      rw [HZ.out] at he
      subst he
      go_wp2_with fail
      refine (l1Place_yes xss.length c _ ao at_ _ (by simp [go_sem]) ha1 ha2 hn).mono ?_
      rintro e w1 ⟨rfl, q', rfl⟩
      go_wp2_with fail
      refine (l1At_cells xss ps _ _ _ ao ao' c c' _ at_ rfl rfl hm (by simp [go_sem]) (by simp [go_sem]) ((HU.out.later (below_alloc _ _)).later (below_on (below_alloc _ _) (below_drewN _ _))) ((HV.out.later (below_alloc _ _)).later (below_on (below_alloc _ _) (below_drewN _ _))) ha1 ha2).mono ?_
      rintro e w1 ⟨z1, rfl, ⟨q2, rfl⟩, hr⟩
      rw [World.drewN_drewN] at hr
      have HR := hide hr
      clear hr
      go_wp2_with fail
      refine (l1Ints HR.out HL.out).mono ?_
      rintro e w3 ⟨z3, rfl, hb3, ho3⟩
      obtain ⟨ao3, c3, rfl⟩ := ho3.shape
      have k0 : w3.cell? ⟨w.heap.size + 1, 0, none⟩ = some (.int .i64 0) := cell_later hb3 (by simp [go_sem])
      have k1 : w3.cell? ⟨w.heap.size + 1, 1, none⟩ = some (.slice none 0 0) := cell_later hb3 (by simp [go_sem])
      have f0 : w3.frozen? ⟨w.heap.size + 1, 0, none⟩ = false := ((bcell hb3).2 _ _ (by simp)).trans (by simp [go_sem])
      have f1 : w3.frozen? ⟨w.heap.size + 1, 1, none⟩ = false := ((bcell hb3).2 _ _ (by simp)).trans (by simp [go_sem])
      have HB3 := hide (below_on (below_on (below_on (below_alloc w _) (below_alloc _ _)) (below_drewN _ _)) hb3)
      have HO := hide ho3
      clear hb3 ho3
      go_wp2
      have hfin := ret_ints (x := .int .i64 0) HB3.out (r := w.heap.size + 1) (by omega) HO.out (by simp)
      refine bodyPost_ret (v := .agg #[.int .i64 0, .slice ao3 (blkTo xss ps at_ ps.length).length c3]) (by simp [results, Try.results46, go_sem, k0, k1]) rfl ⟨_, rfl, hfin.1, hfin.2⟩
    · have hp := placeF_no hz hat
      rw [if_neg (by rw [hp]; decide), hp]
      have HZ := hide hz
      have HA := hide hat
      clear hz hp hat
      go_enter Try.func46, Try.ntmps46
      go_wp2_with fail
      refine (l1Fault (u := .slice ao xss.length c) (v := .slice ao' ps.length c') (by simp [go_sem]) (by simp [go_sem]) ((HU.out.later (below_alloc _ _)).later (below_alloc _ _)) ((HV.out.later (below_alloc _ _)).later (below_alloc _ _))).mono ?_
      rintro e w1 ⟨he, q, rfl⟩
      rw [HZ.out] at he
      subst he
      go_wp2_with fail
      refine (l1Place_no xss.length c _ ao at_ _ (by simp [go_sem]) HA.out hn).mono ?_
      rintro e w1 ⟨rfl, q', rfl⟩
      go_wp2
      refine bodyPost_ret (v := .agg #[.int .i64 3, .slice none 0 0]) (by simp [results, Try.results46, go_sem]) rfl ⟨_, rfl, ?_, OwI_nil _ _⟩
      exact ((below_on (below_on (below_alloc _ _) (below_alloc _ _)) (below_drewN _ _)).setCell (by simp) _).setCell (by simp) _
  · have hp := placeF_disk (at_ := at_) (by rw [hz]; exact h0)
    rw [if_neg (by rw [hp, hz]; exact h0), hp, hz]
    have HZ := hide hz
    clear hz hp
    go_enter Try.func46, Try.ntmps46
    go_wp2_with fail
    refine (l1Fault (u := .slice ao xss.length c) (v := .slice ao' ps.length c') (by simp [go_sem]) (by simp [go_sem]) ((HU.out.later (below_alloc _ _)).later (below_alloc _ _)) ((HV.out.later (below_alloc _ _)).later (below_alloc _ _))).mono ?_
    rintro e w1 ⟨he, q, rfl⟩
    rw [HZ.out] at he
    subst he
    go_wp2
    refine bodyPost_ret (v := .agg #[.int .i64 z, .slice none 0 0]) (by simp [results, Try.results46, go_sem]) rfl ⟨_, rfl, ?_, OwI_nil _ _⟩
    exact ((below_on (below_on (below_alloc _ _) (below_alloc _ _)) (below_drewN _ _)).setCell (by simp) _).setCell (by simp) _
end Go.Proofs.Ytaccllclihbpfaa
