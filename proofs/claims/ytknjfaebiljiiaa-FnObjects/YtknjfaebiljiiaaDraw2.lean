/- The model's draws of lists: 'spec.l1Pick', 'spec.l1Source', 'spec.l1DrawWords', walked. -/
import Derived.Test.YtknjfaebiljiiaaDraw
import Derived.Test.YtknjfaebiljiiaaTear
import Derived.Test.YtknjfaebiljiiaaTo
namespace Go.Proofs.Ytknjfaebiljiiaa
open Go.RowKit

theorem Wr.onBelow {S : Nat → Prop} {a w w' : World} (h : Wr S a w) (k : Below a.heap.size w w') : Wr S a w' :=
  ⟨k.os.trans h.os, k.tape.trans h.tape, k.output.trans h.output, Nat.le_trans h.size k.size, fun i hi hs => (k.block i hi).trans (h.block i hi hs), fun b o hb => (k.frozen (p := ⟨b, o, none⟩) hb).trans (h.frz b o hb)⟩

theorem Drawn.on {M N s : Nat} {v : Value} {bs : List Nat} {t t' t'' : Nat} {a b c : World} (h : Drawn M s v bs t t' a b) (k : Drawn N s v bs t' t'' b c) : Drawn (M + N) s v bs t t'' a c :=
  ⟨k.1, h.2.1.trans k.2.1, by have := h.2.2; have := k.2.2; omega⟩
theorem Drawn.refl {s : Nat} {v : Value} {bs : List Nat} {t : Nat} {w : World} (h : Src s v bs w t) : Drawn 0 s v bs t t w w := ⟨h, Wr.refl _ _, Nat.le_refl _⟩
theorem Drawn.later {N s : Nat} {v : Value} {bs : List Nat} {t t' : Nat} {a b c : World} (h : Drawn N s v bs t t' a b) (hb : Below b.heap.size b c) : Drawn N s v bs t t' a c :=
  ⟨h.1.later hb, h.2.1.on hb, h.2.2⟩
theorem Drawn.mono {M N s : Nat} {v : Value} {bs : List Nat} {t t' : Nat} {a b : World} (h : Drawn M s v bs t t' a b) (hN : M ≤ N) : Drawn N s v bs t t' a b := ⟨h.1, h.2.1, by have := h.2.2; omega⟩

theorem l1Source {w : World} {v : Value} {bs : List Nat} (hv : RdB w.heap.size w v bs) :
    Calls Try.prog 29 #[v] w fun e w' => e = .returned (.pointer (some ⟨w.heap.size, 0, none⟩)) ∧ Below w.heap.size w w' ∧ w'.heap.size = w.heap.size + 1 ∧ Src w.heap.size v bs w' 0 := by
  have HV := hide hv
  obtain ⟨ao, c, rfl, h2, h3⟩ := hv
  go_enter Try.func29, Try.ntmps29
  go_wp2
  go_ret
  refine ⟨rfl, below_alloc _ _, by simp, by simp [go_sem], by simp [go_sem], fun o => by simp [go_sem], ?_⟩
  obtain ⟨ao', c', e1, e2, e3⟩ := HV.out
  refine ⟨ao', c', e1, e2, fun hne => ?_⟩
  obtain ⟨b, off, f1, f2, f3⟩ := e3 hne
  exact ⟨b, off, f1, f2, fun i hi => ⟨cell_later (below_alloc _ _) (f3 i hi).1, (f3 i hi).2⟩⟩

set_option maxHeartbeats 1000000 in
/-- 'l1Pick': one of the list. -/
theorem l1Pick {s : Nat} {v u : Value} {bs : List Nat} {w : World} {t : Nat} {xs : List Int} (hS : Src s v bs w t) (ht : t ≤ 1073741824) (hu : RdI (· ≠ s) w u xs) (hx0 : xs ≠ []) (hxl : xs.length ≤ 1048576) :
    Calls Try.prog 45 #[.pointer (some ⟨s, 0, none⟩), u] w fun e w' => ∃ i, i < xs.length ∧ e = .returned (.int .i64 (xs.getD i 0)) ∧ ∃ t', Drawn 1 s v bs t t' w w' := by
  have HS := hide hS
  obtain ⟨ao, c, rfl, h2, h3⟩ := hu
  obtain ⟨b, off, rfl, hb, hc⟩ := h3 hx0
  have HC := hide hc
  obtain ⟨k, hk⟩ : ∃ k, xs.length = k := ⟨_, rfl⟩
  have HK := hide hk
  have hk0 : 0 < k := by rw [← hk]; exact List.length_pos_iff.2 hx0
  rw [hk] at hxl ⊢
  clear hS h2 h3 hc hk hx0
  go_enter Try.func45, Try.ntmps45
  go_wp2_with fail
  refine (l1Next (k : Int) HS.out ht (by omega) (by omega)).mono ?_
  rintro e w1 ⟨r, rfl, hr0, hr1, t', hd⟩
  have hr2 : r < (k : Int) := hr1 (by omega)
  obtain ⟨i, rfl⟩ : ∃ i : Nat, r = (i : Int) := ⟨r.toNat, (Int.toNat_of_nonneg hr0).symm⟩
  have hi : i < k := by omega
  have g1 := cell_wr hd.2.1 (HC.out i (by rw [HK.out]; exact hi)) hb
  obtain ⟨x, hx⟩ : ∃ x, xs.getD i 0 = x := ⟨_, rfl⟩
  have HX := hide hx
  rw [hx] at g1
  have HD := hide hd
  clear hr1 hd hx
  go_wp2
  go_ret
  exact ⟨i, hi, ret_int HX.out.symm, t', HD.out⟩
theorem RdI_new (s : Nat) (w : World) (xs : List Int) (t : TypeId) (hs : s < w.heap.size) (hl : xs.length ≤ 1048576) : RdI (· ≠ s) (w.alloc (.cells (xs.map (Value.int .i64)).toArray t)) (.slice (some ⟨w.heap.size, 0, none⟩) xs.length xs.length) xs := by
  refine ⟨_, 0, by simp, by omega, fun _ => ⟨w.heap.size, 0, rfl, by omega, fun i hi => ?_⟩⟩
  simp [go_sem]
  rw [List.getElem?_eq_getElem hi]
  rfl

theorem Drawn.onBelow {N s : Nat} {v : Value} {bs : List Nat} {t0 t t' : Nat} {a b c : World} (h0 : Src s v bs a t0) (h : Drawn N s v bs t t' a b) (hb : Below a.heap.size b c) : Drawn N s v bs t t' a c := by
  have hl := h0.lt
  have hw := h.2.1.onBelow hb
  exact ⟨⟨(hb.cell (p := ⟨s, 0, none⟩) hl).trans h.1.code, (hb.cell (p := ⟨s, 1, none⟩) hl).trans h.1.at_, fun o => (hb.frozen (p := ⟨s, o, none⟩) hl).trans (h.1.free o), h0.rd.wr hw⟩, hw, h.2.2⟩

theorem ownsRow_wr {w w' : World} {B e z s : Nat} {v : Value} {n : Nat} {xs : List Value} (h : w.ownsRow B e z v n xs) (hw : Wr (· = s) w w') (hs : v.ownBlock ≠ some s) : w'.ownsRow B e z v n xs := by
  obtain ⟨h1, h2⟩ := h
  refine ⟨h1, ?_⟩
  rcases h2 with h2 | ⟨g, cap, cur, hv, hg, hh, r⟩
  · exact Or.inl h2
  · exact Or.inr ⟨g, cap, cur, hv, hg, by rw [hw.block g (Array.getElem?_eq_some_iff.1 hh).1 (fun e => hs (by rw [hv, e]; rfl))]; exact hh, r⟩
theorem ownBlock_ne {w : World} {B e z s : Nat} {v : Value} {n : Nat} {xs : List Value} (h : w.ownsRow B e z v n xs) (hs : s < B) : v.ownBlock ≠ some s := fun e => by have := (h.lt _ e).1; omega

theorem made_ints (w : World) (n : Nat) (hn : n ≤ 1048576) (t : TypeId) : OwI w.heap.size (w.alloc (.cells (madeCells #[.int .i64 0] n) t)) (.slice (some ⟨w.heap.size, 0, none⟩) n n) (List.replicate n 0) := by
  refine ⟨w.heap.size, ⟨_, 0, by simp, by simp; omega, fun _ => ⟨w.heap.size, 0, rfl, rfl, fun i hi => ?_⟩⟩, fun _ => ⟨Nat.le_refl _, by simp, fun o => by simp [go_sem]⟩⟩
  have hi' : i < n := by simpa using hi
  have := (World.rowIs_made w (.int .i64 0) n t).cell hi'
  simpa [List.getD, hi'] using this

set_option maxHeartbeats 4000000 in
set_option maxRecDepth 4000 in
/-- 'l1DrawWords': some list of new memory. -/
theorem l1DrawWords {s : Nat} {v : Value} {bs : List Nat} {w : World} {t : Nat} (hS : Src s v bs w t) (ht : t ≤ 1000000000) :
    Calls Try.prog 30 #[.pointer (some ⟨s, 0, none⟩)] w fun e w' => ∃ z xs, e = .returned z ∧ xs.length ≤ 65 ∧ OwI w.heap.size w' z xs ∧ ∃ t', Drawn 100 s v bs t t' w w' := by
  have HS := hide hS
  have hsl := hS.lt
  obtain ⟨i0, hi, hz0, hz1, hz2⟩ := info_parts Try.infoInt
  clear hS
  go_enter Try.func30, Try.ntmps30
  go_wp2_with fail
  have D0 := hide ((Drawn.refl HS.out).later (below_alloc w (.cells #[] 2)))
  have O0 := hide (World.ownsRow_made (base := w.heap.size) (e := 2) (size := 1) w #[] 0 (Nat.le_refl _) (by unfold maxLen; omega) (by simp))
  have hne := ownBlock_ne O0.out hsl
  refine (l1Next 5 D0.out.1 (by omega) (by omega) (by omega)).mono ?_
  rintro e w1 ⟨r1, rfl, a1, b1, t1, hd1⟩
  have O1 := hide (ownsRow_wr O0.out hd1.2.1 hne)
  have b1' := b1 (by omega)
  have D1 := hide (D0.out.on hd1)
  clear hd1 b1
  go_wp2_with fail
  refine (l1Next 5 D1.out.1 (by have := D1.out.2.2; omega) (by omega) (by omega)).mono ?_
  rintro e w2 ⟨r2, rfl, a2, b2, t2, hd2⟩
  have O2 := hide (ownsRow_wr O1.out hd2.2.1 hne)
  have b2' := b2 (by omega)
  have D2 := hide (D1.out.on hd2)
  clear hd2 b2
  go_wp2_with fail
  refine (l1Next 30 D2.out.1 (by have := D2.out.2.2; omega) (by omega) (by omega)).mono ?_
  rintro e w3 ⟨r3, rfl, a3, b3, t3, hd3⟩
  have O3 := hide ((ownsRow_wr O2.out hd3.2.1 hne).alloc (.cells #[.int .i64 r1, .int .i64 r2, .int .i64 (30 + r3)] 2))
  have b3' := b3 (by omega)
  have D3 := hide (D2.out.on hd3)
  clear hd3 b3
  go_wp2_with fail
  have D4 := hide (D3.out.later (below_alloc w3 (.cells #[.int .i64 r1, .int .i64 r2, .int .i64 (30 + r3)] 2)))
  refine (l1Pick (xs := [r1, r2, 30 + r3]) D4.out.1 (by have := D4.out.2.2; omega) (RdI_new s w3 [r1, r2, 30 + r3] 2 (by have := D3.out.1.lt; omega) (by simp)) (by simp) (by simp)).mono ?_
  rintro e w4 ⟨i, hi3, rfl, t4, hd4⟩
  obtain ⟨K, hK, hK2⟩ : ∃ K : Nat, [r1, r2, 30 + r3].getD i 0 = (K : Int) ∧ K ≤ 59 := by
    have : i = 0 ∨ i = 1 ∨ i = 2 := by simp at hi3; omega
    rcases this with rfl | rfl | rfl
    · exact ⟨r1.toNat, by simp; omega, by omega⟩
    · exact ⟨r2.toNat, by simp; omega, by omega⟩
    · exact ⟨(30 + r3).toNat, by simp; omega, by omega⟩
  rw [hK]
  have D5 := hide (D4.out.on hd4)
  have O4 := hide (ownsRow_wr O3.out hd4.2.1 hne)
  clear O0 O1 O2 O3 hne
  clear hK hd4 D4 hi3
  go_wp2
  go_loopw [3, 4] (fun v' k wr => ∃ (n K : Nat) (ao : Option Addr) (c : Nat) (xs : List Int) (t5 : Nat), n + K ≤ 59 ∧ k = .int .i64 K ∧ v' = .slice ao n c ∧ Hid (xs.length = n) ∧ Hid (wr.ownsRow w.heap.size 2 1 (.slice ao n c) n (xs.map (Value.int .i64))) ∧ Hid (Drawn (4 + n) s v bs t t5 w wr)) (fun _ k _ => (intOf k).toNat)
  case atStart => exact ⟨0, K, _, _, [], t4, by omega, rfl, rfl, rfl, O4.out, D5.out⟩
  case round =>
    obtain ⟨n, K, ao, c, xs, t5, hnK, rfl, rfl, HL, HO, HD⟩ := hrel
    have hz := HD.out.2.1.size
    by_cases hK0 : 0 < K
    · go_wp2_with fail
      refine (l1Next 99 HD.out.1 (by have := HD.out.2.2; omega) (by omega) (by omega)).mono ?_
      rintro e w6 ⟨r, rfl, ar, br, t6, hd6⟩
      have D6 := hide (HD.out.on hd6)
      have O6 := hide (ownsRow_wr HO.out hd6.2.1 (ownBlock_ne HO.out hsl))
      have hz6 := hd6.2.1.size
      clear hd6 br
      go_wp2_with (at_builtin; refine wpList_append_lies _ rfl _ _ _ rfl w.heap.size 2 i0 (.int .i64 0) 1 8 Try.underlying24 hi hz0 hz1 hz2 rfl (by omega) _ n _ (by rfl) (O6.out.alloc _) ⟨w6.heap.size, 0, none⟩ 1 1 [.int .i64 r] (by rfl) (by rfl) (World.news_of_block (cs := #[.int .i64 r]) (t := 2) (fr := (0, 0)) (heap_alloc_new w6 _)) (by simp [Value.oneCell']) (by omega) (by unfold maxLen; omega) (by omega) (by simp; omega) (w6.heap.size + 1) (by simp) ?_)
      intro g cap w7 hown hgrow hat hlt7
      have HB7 := hide ((Below.mono (below_alloc w6 (.cells #[.int .i64 r] 2)) (show w.heap.size ≤ w6.heap.size by omega)).grown hgrow (by simp; omega) (fun r hr => (O6.out.lt r hr).1))
      have D7 := hide (D6.out.onBelow HS.out HB7.out)
      have O7 : Hid (w7.ownsRow w.heap.size 2 1 (.slice (some ⟨g, 0, none⟩) (n + 1) cap) (n + 1) ((xs ++ [r]).map (Value.int .i64))) := by rw [Hid, List.map_append]; exact hown
      have HL7 : Hid ((xs ++ [r]).length = n + 1) := by unfold Hid; rw [List.length_append, HL.out]; rfl
      clear hown hgrow hat hlt7 HB7 O6 D6
      obtain ⟨K', rfl⟩ : ∃ K', K = K' + 1 := ⟨K - 1, by omega⟩
      go_wp2
      go_roundw
      case rel => exact ⟨n + 1, K', _, _, xs ++ [r], t6, by omega, by go_num, rfl, HL7.out, O7.out, D7.out.mono (by omega)⟩
      case measure => simp [intOf]
    · have hKz : K = 0 := by omega
      subst hKz
      go_wp2_with fail
      refine (l1Next 30 HD.out.1 (by have := HD.out.2.2; omega) (by omega) (by omega)).mono ?_
      rintro e w6 ⟨r, rfl, ar, br, t6, hd6⟩
      have D6 := hide (HD.out.on hd6)
      have O6 := hide (ownsRow_wr HO.out hd6.2.1 (ownBlock_ne HO.out hsl))
      have hz6 := hd6.2.1.size
      clear hd6 br
      by_cases hr0 : r = 0
      · subst hr0
        go_wp2_with fail
        have D7 := hide (D6.out.later (below_alloc w6 (.cells #[.int .i64 (-1), .int .i64 65536, .int .i64 65535] 2)))
        refine (l1Pick (xs := [-1, 65536, 65535]) D7.out.1 (by have := D7.out.2.2; omega) (RdI_new s w6 [-1, 65536, 65535] 2 (by omega) (by simp)) (by simp) (by simp)).mono ?_
        rintro e w8 ⟨i, hi3, rfl, t8, hd8⟩
        obtain ⟨x, hx⟩ : ∃ x : Int, ([-1, 65536, 65535] : List Int).getD i 0 = x := ⟨_, rfl⟩
        rw [hx]
        have D8 := hide (D7.out.on hd8)
        have O8 := hide (ownsRow_wr (O6.out.alloc (.cells #[.int .i64 (-1), .int .i64 65536, .int .i64 65535] 2)) hd8.2.1 (ownBlock_ne O6.out hsl))
        have hz8 := hd8.2.1.size
        simp only [World.size_alloc] at hz8
        clear hd8 hx hi3 D7
        go_wp2_with (at_builtin; refine wpList_append_lies _ rfl _ _ _ rfl w.heap.size 2 i0 (.int .i64 0) 1 8 Try.underlying24 hi hz0 hz1 hz2 rfl (by omega) _ n _ (by rfl) (O8.out.alloc _) ⟨w8.heap.size, 0, none⟩ 1 1 [.int .i64 x] (by rfl) (by rfl) (World.news_of_block (cs := #[.int .i64 x]) (t := 2) (fr := (0, 0)) (heap_alloc_new w8 _)) (by simp [Value.oneCell']) (by omega) (by unfold maxLen; omega) (by omega) (by simp; omega) (w8.heap.size + 1) (by simp) ?_)
        intro g cap w9 hown hgrow hat hlt9
        have HB9 := hide ((Below.mono (below_alloc w8 (.cells #[.int .i64 x] 2)) (show w.heap.size ≤ w8.heap.size by omega)).grown hgrow (by simp; omega) (fun r hr => (O8.out.lt r hr).1))
        have D9 := hide (D8.out.onBelow HS.out HB9.out)
        have O9 : Hid (w9.ownsRow w.heap.size 2 1 (.slice (some ⟨g, 0, none⟩) (n + 1) cap) (n + 1) ((xs ++ [x]).map (Value.int .i64))) := by rw [Hid, List.map_append]; exact hown
        have HL9 : Hid ((xs ++ [x]).length = n + 1) := by unfold Hid; rw [List.length_append, HL.out]; rfl
        clear hown hgrow hat hlt9 HB9 O8 D8
        go_wp2
        go_ret
        exact ⟨.slice (some ⟨g, 0, none⟩) (n + 1) cap, xs ++ [x], rfl, by rw [HL9.out]; omega, ow_of_owns HL9.out O9.out (by rw [HL9.out]; omega), t8, D9.out.mono (by omega)⟩
      · by_cases hr1 : r = 1
        · subst hr1
          have HI := hide (made_ints w6 65 (by omega) 2)
          have hmk : ∀ w, (Instr.makeSlice 24 (.int .i64 65) (.int .i64 65)).run Try.prog w = .ok (.slice (some ⟨w.heap.size, 0, none⟩) 65 65) (w.alloc (.cells (madeCells #[.int .i64 0] 65) 2)) := run_make_row' (P := Try.prog) 24 2 (.int .i64 0) 8 Try.underlying24 Try.infoInt rfl .i64 .i64 65 (by omega) (by omega)
          generalize madeCells #[.int .i64 0] 65 = M at hmk HI
          have D7 := hide (D6.out.later (below_alloc w6 (.cells M 2)))
          go_wp2
          go_ret
          exact ⟨.slice (some ⟨w6.heap.size, 0, none⟩) 65 65, List.replicate 65 0, rfl, by simp, HI.out.mono (by omega), t6, D7.out.mono (by omega)⟩
        · go_wp2
          go_ret
          exact ⟨.slice ao n c, xs, rfl, by rw [HL.out]; omega, ow_of_owns HL.out O6.out (by rw [HL.out]; omega), t6, D6.out.mono (by omega)⟩
end Go.Proofs.Ytknjfaebiljiiaa
