/- The model's draw of picks: 'spec.l1Picks', walked. -/
import Derived.Test.YtaccllclihbpfaaDraw4
namespace Go.Proofs.Ytaccllclihbpfaa
open Go.RowKit

set_option maxHeartbeats 2000000 in
set_option maxRecDepth 4000 in
/-- 'l1Picks': some list of n numbers, of new memory. -/
theorem l1Picks {s : Nat} {v : Value} {bs : List Nat} {w : World} {t : Nat} (hS : Src s v bs w t) (ht : t ≤ 1000000000) (m : Nat) (hm : m ≤ 1000) :
    Calls Try.prog 55 #[.pointer (some ⟨s, 0, none⟩), .int .i64 (m : Int)] w fun e w' => ∃ (ao : Option Addr) (c : Nat) (xs : List Int), e = .returned (.slice ao m c) ∧ xs.length = m ∧ w'.ownsRow w.heap.size 2 1 (.slice ao m c) m (xs.map (Value.int .i64)) ∧ ∃ t', Drawn m s v bs t t' w w' := by
  have HS := hide hS
  have hsl := hS.lt
  obtain ⟨i0, hi, hz0, hz1, hz2⟩ := info_parts Try.infoInt
  clear hS
  have D0 := hide ((Drawn.refl HS.out).later (below_alloc w (.cells #[] 2)))
  have O0 := hide (World.ownsRow_made (base := w.heap.size) (e := 2) (size := 1) w #[] 0 (Nat.le_refl _) (by unfold maxLen; omega) (by simp))
  go_enter Try.func55, Try.ntmps55
  go_wp2
  go_loopw [1, 5] (fun k v' wr => ∃ (n K : Nat) (ao : Option Addr) (c : Nat) (xs : List Int) (t5 : Nat), n + K = m ∧ k = .int .i64 K ∧ v' = .slice ao n c ∧ Hid (xs.length = n) ∧ Hid (wr.ownsRow w.heap.size 2 1 (.slice ao n c) n (xs.map (Value.int .i64))) ∧ Hid (Drawn n s v bs t t5 w wr)) (fun k _ _ => (intOf k).toNat)
  case atStart => exact ⟨0, m, _, _, [], t, by omega, rfl, rfl, rfl, O0.out, D0.out⟩
  case round =>
    obtain ⟨n, K, ao, c, xs, t5, hnK, rfl, rfl, HL, HO, HD⟩ := hrel
    have hz := HD.out.2.1.size
    by_cases hK0 : 0 < K
    · have HnK := hide hnK
      clear hnK
      go_wp2_with fail
      refine (l1Next 4 HD.out.1 (by have := HD.out.2.2; have := HnK.out; omega) (by omega) (by omega)).mono ?_
      rintro e w6 ⟨r, rfl, ar, br, t6, hd6⟩
      have D6 := hide (HD.out.on hd6)
      have O6 := hide (ownsRow_wr HO.out hd6.2.1 (ownBlock_ne HO.out hsl))
      have hz6 := hd6.2.1.size
      have hn1 : n ≤ 1000 := by have := HnK.out; omega
      have hK1 : K ≤ 1000 := by have := HnK.out; omega
      clear hd6 br
      go_wp2_with (at_builtin; refine wpList_append_lies _ rfl _ _ _ rfl w.heap.size 2 i0 (.int .i64 0) 1 8 Try.underlying28 hi hz0 hz1 hz2 rfl (by omega) _ n _ (by rfl) (O6.out.alloc _) ⟨w6.heap.size, 0, none⟩ 1 1 [.int .i64 r] (by rfl) (by rfl) (World.news_of_block (cs := #[.int .i64 r]) (t := 2) (fr := (0, 0)) (heap_alloc_new w6 _)) (by simp [Value.oneCell']) (by omega) (by unfold maxLen; omega) (by omega) (by simp; omega) (w6.heap.size + 1) (by simp) ?_)
      intro g cap w7 hown hgrow hat hlt7
      have HB7 := hide ((Below.mono (below_alloc w6 (.cells #[.int .i64 r] 2)) (show w.heap.size ≤ w6.heap.size by omega)).grown hgrow (by simp; omega) (fun r hr => (O6.out.lt r hr).1))
      have D7 := hide (D6.out.onBelow HS.out HB7.out)
      have O7 : Hid (w7.ownsRow w.heap.size 2 1 (.slice (some ⟨g, 0, none⟩) (n + 1) cap) (n + 1) ((xs ++ [r]).map (Value.int .i64))) := by rw [Hid, List.map_append]; exact hown
      have HL7 : Hid ((xs ++ [r]).length = n + 1) := by unfold Hid; rw [List.length_append, HL.out]; rfl
      clear hown hgrow hat hlt7 HB7 O6 D6
      obtain ⟨K', rfl⟩ : ∃ K', K = K' + 1 := ⟨K - 1, by omega⟩
      go_wp2
      go_roundw
      case rel => exact ⟨n + 1, K', _, _, xs ++ [r], t6, by have := HnK.out; omega, by go_num, rfl, HL7.out, O7.out, D7.out⟩
      case measure => simp [intOf]
    · have hKz : K = 0 := by omega
      have hnm : n = m := by omega
      subst hKz hnm
      go_wp2
      go_ret
      exact ⟨ao, c, xs, rfl, HL.out, HO.out, t5, HD.out⟩
end Go.Proofs.Ytaccllclihbpfaa
