/- 'BlockAt' of the model, walked; and the laws' functions over a code with a list. -/
import Derived.Test.YtbjmmhcbjcngcaaBlockAt
import Derived.Test.YtbjmmhcbjcngcaaIv
namespace Go.Proofs.Ytbjmmhcbjcngcaa
open Go.RowKit
theorem l1At_cells {S T : Nat → Prop} (xss : List (List Int)) (ps : List (Int × List Int)) (n m bd : Nat) (ao ao' : Option Addr) (c c' : Nat) (w : World) (at_ : Int) (hn : xss.length = n) (hm : ps.length = m) (hm' : m ≤ 9223372036854775807)
    (hd0 : w.cell? ⟨bd, 0, none⟩ = some (.slice ao n c)) (hd1 : w.cell? ⟨bd, 1, none⟩ = some (.slice ao' m c'))
    (hu : RdII S w (.slice ao n c) xss) (hv : RdP T w (.slice ao' m c') ps) (ha1 : 0 ≤ at_) (ha2 : at_ < (n : Int)) :
    Calls Try.prog 33 #[.pointer (some ⟨bd, 0, none⟩), .int .i64 at_] w fun e w' => ∃ z, e = .returned z ∧ (∃ q, w' = w.drewN q) ∧ RdI (fun _ => True) w' z (blkTo xss ps at_ m) := by
  have HU := hide hu
  have HV := hide hv
  have HN := hide hn
  have HM := hide hm
  clear hu hv hn hm
  go_enter Try.func33, Try.ntmps33
  go_wp2
  go_loopw [5] (fun i wr => ∃ k : Nat, k ≤ m ∧ i = .int .i64 ((k : Int) - 1) ∧ Hid (blkTo xss ps at_ m = blkTo xss ps at_ k) ∧ wr = w) (fun i _ => (intOf i + 1).toNat)
  case atStart => exact ⟨m, Nat.le_refl _, rfl, rfl, rfl⟩
  case round =>
    obtain ⟨k, hk, rfl, HK, rfl⟩ := hrel
    cases k with
    | zero =>
      obtain ⟨b, off, V, rfl, g1, g2⟩ := HU.out.at (k := at_.toNat) (by rw [HN.out]; omega)
      have R := hide g2
      clear g2
      go_wp2
      go_ret
      exact ⟨V, rfl, ⟨0, rfl⟩, by rw [HK.out]; exact R.out.narrow fun _ _ _ => trivial⟩
    | succ k =>
      obtain ⟨b, off, V, rfl, g1, g2, gR⟩ := HV.out.at (k := k) (by rw [HM.out]; omega)
      have R := hide gR
      obtain ⟨x, hx⟩ : ∃ x, (ps.getD k (0, [])).1 = x := ⟨_, rfl⟩
      rw [hx] at g1
      have e : (((k + 1 : Nat) : Int) - 1) = (k : Int) := by omega
      rw [e]
      have hkl : k < m := by omega
      clear e gR hk
      by_cases hxa : x = at_
      · subst hxa
        have HK2 : Hid (blkTo xss ps x m = (ps.getD k (0, [])).2) := by rw [Hid, HK.out]; unfold blkTo; rw [if_pos hx]
        clear hx
        go_wp2
        go_ret
        exact ⟨V, rfl, ⟨0, rfl⟩, by rw [HK2.out]; exact R.out.narrow fun _ _ _ => trivial⟩
      · have HK2 : Hid (blkTo xss ps at_ m = blkTo xss ps at_ k) := by rw [Hid, HK.out]; show (if (ps.getD k (0, [])).1 = at_ then _ else _) = _; rw [if_neg (by rw [hx]; exact hxa)]
        clear hx
        go_wp2
        go_roundw
        case rel => exact ⟨k, by omega, by go_num, HK2.out, by simp⟩
        case measure => simp [intOf]

/-- What both functions answer: the list. -/
def blkOf (xss : List (List Int)) (ps : List (Int × List Int)) (at_ : Int) : List Int := if placeF xss ps at_ = 0 then blkTo xss ps at_ ps.length else []

theorem placeF_zero {xss : List (List Int)} {ps : List (Int × List Int)} {at_ : Int} (h : placeF xss ps at_ = 0) : diskF xss ps = 0 ∧ 0 ≤ at_ ∧ at_ < (xss.length : Int) := by
  unfold placeF at h
  split at h
  · rename_i h0
    split at h
    · rename_i h1; exact ⟨h0, h1⟩
    · cases h
  · rename_i h0; exact absurd h h0

theorem blkOf_len {xss : List (List Int)} {ps : List (Int × List Int)} {at_ : Int} (hs : Small xss ps) : (blkOf xss ps at_).length ≤ 1048576 := by
  unfold blkOf
  split
  · rename_i h
    obtain ⟨_, h1, h2⟩ := placeF_zero h
    exact blkTo_len hs _ (Nat.le_refl _) h1 h2
  · simp

end Go.Proofs.Ytbjmmhcbjcngcaa
