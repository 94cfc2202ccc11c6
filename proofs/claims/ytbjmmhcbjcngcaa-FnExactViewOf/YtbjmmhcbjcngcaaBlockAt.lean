/- 'BlockAt' of the program and of the model, walked. -/
import Derived.Test.YtbjmmhcbjcngcaaSmall
import Derived.Test.YtbjmmhcbjcngcaaFault3
import Derived.Test.YtbjmmhcbjcngcaaCopy
import Derived.Test.YtbjmmhcbjcngcaaRet
namespace Go.Proofs.Ytbjmmhcbjcngcaa
open Go.RowKit

/-- The fault of a place on a disk. -/
def placeF (xss : List (List Int)) (ps : List (Int × List Int)) (at_ : Int) : Int :=
  if diskF xss ps = 0 then (if 0 ≤ at_ ∧ at_ < (xss.length : Int) then 0 else 3) else diskF xss ps
theorem placeF_disk {xss : List (List Int)} {ps : List (Int × List Int)} {at_ : Int} (h : diskF xss ps ≠ 0) : placeF xss ps at_ = diskF xss ps := by unfold placeF; rw [if_neg h]
theorem placeF_ok {xss : List (List Int)} {ps : List (Int × List Int)} {at_ : Int} (h : diskF xss ps = 0) (h' : 0 ≤ at_ ∧ at_ < (xss.length : Int)) : placeF xss ps at_ = 0 := by unfold placeF; rw [if_pos h, if_pos h']
theorem placeF_no {xss : List (List Int)} {ps : List (Int × List Int)} {at_ : Int} (h : diskF xss ps = 0) (h' : ¬ (0 ≤ at_ ∧ at_ < (xss.length : Int))) : placeF xss ps at_ = 3 := by unfold placeF; rw [if_pos h, if_neg h']

/-- What was put last at a place, of the first k puts. -/
def blkTo (xss : List (List Int)) (ps : List (Int × List Int)) (at_ : Int) : Nat → List Int
  | 0 => xss.getD at_.toNat []
  | k + 1 => if (ps.getD k (0, [])).1 = at_ then (ps.getD k (0, [])).2 else blkTo xss ps at_ k

theorem blkTo_len {xss : List (List Int)} {ps : List (Int × List Int)} (hs : Small xss ps) {at_ : Int} : ∀ k, k ≤ ps.length → 0 ≤ at_ → at_ < (xss.length : Int) → (blkTo xss ps at_ k).length ≤ 1048576 := by
  intro k
  induction k with
  | zero => intro _ h1 h2; exact hs.row _ (by omega)
  | succ k ih =>
    intro hk h1 h2
    unfold blkTo
    split
    · exact hs.put k (by omega)
    · exact ih (by omega) h1 h2

set_option maxHeartbeats 1000000 in
/-- 'impl.wordsAt' of a reading, at a place. -/
theorem wordsAt_cells {S T : Nat → Prop} (xss : List (List Int)) (ps : List (Int × List Int)) (n m : Nat) (ao ao' : Option Addr) (c c' : Nat) (w : World) (at_ : Int) (hn : xss.length = n) (hm : ps.length = m) (hm' : m ≤ 9223372036854775807)
    (hu : RdII S w (.slice ao n c) xss) (hv : RdP T w (.slice ao' m c') ps) (hs : Small xss ps) (ha1 : 0 ≤ at_) (ha2 : at_ < (n : Int)) :
    Calls Try.prog 39 #[.agg #[.slice ao n c, .slice ao' m c'], .int .i64 at_] w fun e w' =>
      ∃ z, e = .returned z ∧ Below w.heap.size w w' ∧ OwI w.heap.size w' z (blkTo xss ps at_ m) := by
  have HU := hide hu
  have HV := hide hv
  have HS := hide hs
  have HN := hide hn
  have HM := hide hm
  clear hu hv hs hn hm
  have HB := hide (below_alloc w (.cells #[.slice ao n c, .slice ao' m c'] 32))
  have hz : w.heap.size ≤ (w.alloc (.cells #[.slice ao n c, .slice ao' m c'] 32)).heap.size := by simp
  go_enter Try.func39, Try.ntmps39
  go_wp2
  go_loopw [5] (fun i wr => ∃ k : Nat, k ≤ m ∧ i = .int .i64 ((k : Int) - 1) ∧ Hid (blkTo xss ps at_ m = blkTo xss ps at_ k) ∧ wr = w.alloc (.cells #[.slice ao n c, .slice ao' m c'] 32)) (fun i _ => (intOf i + 1).toNat)
  case atStart => exact ⟨m, Nat.le_refl _, rfl, rfl, rfl⟩
  case round =>
    obtain ⟨k, hk, rfl, HK, rfl⟩ := hrel
    cases k with
    | zero =>
      obtain ⟨b, off, V, rfl, g1, g2⟩ := HU.out.at (k := at_.toNat) (by rw [HN.out]; omega)
      have g3 := cell_later HB.out g1
      have R := hide (g2.later HB.out)
      have HL := hide (HS.out.row at_.toNat (by rw [HN.out]; omega))
      clear g1 g2
      go_wp2_with fail
      refine (copyWords R.out HL.out).mono ?_
      rintro e w3 ⟨z, rfl, hb3, ho3⟩
      have HB3 := hide (below_on HB.out hb3)
      have HO := hide (ho3.mono hz)
      clear hb3 ho3 g3
      go_wp2
      go_ret
      exact ⟨_, rfl, HB3.out, by rw [HK.out]; exact HO.out⟩
    | succ k =>
      obtain ⟨b, off, V, rfl, g1, g2, gR⟩ := HV.out.at (k := k) (by rw [HM.out]; omega)
      have g1 := cell_later HB.out g1
      have g2 := cell_later HB.out g2
      have R := hide (gR.later HB.out)
      have HL := hide (HS.out.put k (by rw [HM.out]; omega))
      obtain ⟨x, hx⟩ : ∃ x, (ps.getD k (0, [])).1 = x := ⟨_, rfl⟩
      rw [hx] at g1
      have e : (((k + 1 : Nat) : Int) - 1) = (k : Int) := by omega
      rw [e]
      have hkl : k < m := by omega
      clear e gR hk
      by_cases hxa : x = at_
      · subst hxa
        have HK2 : Hid (blkTo xss ps x m = (ps.getD k (0, [])).2) := by rw [Hid, HK.out]; unfold blkTo; rw [if_pos hx]
        clear hx
        go_wp2_with fail
        refine (copyWords R.out HL.out).mono ?_
        rintro e w3 ⟨z, rfl, hb3, ho3⟩
        have HB3 := hide (below_on HB.out hb3)
        have HO := hide (ho3.mono hz)
        clear hb3 ho3 g1 g2
        go_wp2
        go_ret
        exact ⟨_, rfl, HB3.out, by rw [HK2.out]; exact HO.out⟩
      · have HK2 : Hid (blkTo xss ps at_ m = blkTo xss ps at_ k) := by rw [Hid, HK.out]; show (if (ps.getD k (0, [])).1 = at_ then _ else _) = _; rw [if_neg (by rw [hx]; exact hxa)]
        clear hx
        go_wp2
        go_roundw
        case rel => exact ⟨k, by omega, by go_num, HK2.out, by simp⟩
        case measure => simp [intOf]

/-- 'impl.wordsAt' of a reading, at a place. -/
theorem wordsAt {S T : Nat → Prop} {w : World} {u v : Value} {xss : List (List Int)} {ps : List (Int × List Int)} (at_ : Int) (hu : RdII S w u xss) (hv : RdP T w v ps) (hs : Small xss ps) (ha1 : 0 ≤ at_) (ha2 : at_ < (xss.length : Int)) :
    Calls Try.prog 39 #[.agg #[u, v], .int .i64 at_] w fun e w' => ∃ z, e = .returned z ∧ Below w.heap.size w w' ∧ OwI w.heap.size w' z (blkTo xss ps at_ ps.length) := by
  obtain ⟨ao, c, rfl, _⟩ := hu.shape
  obtain ⟨ao', c', rfl, hm⟩ := hv.shape
  exact wordsAt_cells xss ps _ _ ao ao' c c' w at_ rfl rfl hm hu hv hs ha1 ha2

end Go.Proofs.Ytbjmmhcbjcngcaa
