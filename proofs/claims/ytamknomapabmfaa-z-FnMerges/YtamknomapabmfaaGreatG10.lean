/- Draw2 Draw4 Iv4 in one text: what each says stands at its head below. -/
import Derived.Test.YtamknomapabmfaaGreatG09
import Derived.Test.YtamknomapabmfaaGreatG03
import Derived.Test.YtamknomapabmfaaGreatG02
import Derived.Test.YtamknomapabmfaaGreatG06
import Derived.Test.YtamknomapabmfaaGreatG04
/- The model's draws of lists: 'spec.l1Pick', 'spec.l1Source', 'spec.l1DrawWords', walked. -/
namespace Go.Proofs.YtamknomapabmfaaGreat
open Go.RowKit

theorem Wr.onBelow {S : Nat → Prop} {a w w' : World} (h : Wr S a w) (k : Below a.heap.size w w') : Wr S a w' :=
  ⟨k.os.trans h.os, k.tape.trans h.tape, k.output.trans h.output, Nat.le_trans h.size k.size, fun i hi hs => (k.block i hi).trans (h.block i hi hs), fun b o hb => (k.frozen (p := ⟨b, o, none⟩) hb).trans (h.frz b o hb)⟩

theorem Drawn.on {M N s : Nat} {v : Value} {bs : List Nat} {t t' t'' : Nat} {a b c : World} (h : Drawn M s v bs t t' a b) (k : Drawn N s v bs t' t'' b c) : Drawn (M + N) s v bs t t'' a c :=
  ⟨k.1, h.2.1.trans k.2.1, by have := h.2.2; have := k.2.2; omega⟩
theorem Drawn.refl {s : Nat} {v : Value} {bs : List Nat} {t : Nat} {w : World} (h : Src s v bs w t) : Drawn 0 s v bs t t w w := ⟨h, Wr.refl _ _, Nat.le_refl _⟩
theorem Drawn.later {N s : Nat} {v : Value} {bs : List Nat} {t t' : Nat} {a b c : World} (h : Drawn N s v bs t t' a b) (hb : Below b.heap.size b c) : Drawn N s v bs t t' a c :=
  ⟨h.1.later hb, h.2.1.on hb, h.2.2⟩
theorem Drawn.mono {M N s : Nat} {v : Value} {bs : List Nat} {t t' : Nat} {a b : World} (h : Drawn M s v bs t t' a b) (hN : M ≤ N) : Drawn N s v bs t t' a b := ⟨h.1, h.2.1, by have := h.2.2; omega⟩

theorem l1Source {w : World} {v : Value} {bs : List Nat} (hv : RdB w.heap.size w v bs) :
    Calls Tryz.prog 14 #[v] w fun e w' => e = .returned (.pointer (some ⟨w.heap.size, 0, none⟩)) ∧ Below w.heap.size w w' ∧ w'.heap.size = w.heap.size + 1 ∧ Src w.heap.size v bs w' 0 := by
  have HV := hide hv
  obtain ⟨ao, c, rfl, h2, h3⟩ := hv
  go_enter Tryz.func14, Tryz.ntmps14
  go_wp2
  go_ret
  refine ⟨rfl, below_alloc _ _, by simp, by simp [go_sem], by simp [go_sem], fun o => by simp [go_sem], ?_⟩
  obtain ⟨ao', c', e1, e2, e3⟩ := HV.out
  refine ⟨ao', c', e1, e2, fun hne => ?_⟩
  obtain ⟨b, off, f1, f2, f3⟩ := e3 hne
  exact ⟨b, off, f1, f2, fun i hi => ⟨cell_later (below_alloc _ _) (f3 i hi).1, (f3 i hi).2⟩⟩

set_option maxHeartbeats 1000000 in
/-- 'l1Pick': one of the list. -/
theorem l1Pick {s : Nat} {v u : Value} {bs : List Nat} {w : World} {t : Nat} {xs : List Int} (hS : Src s v bs w t) (ht : t ≤ 1073741824) (hu : RdI (· ≠ s) w u xs) (hx0 : xs ≠ []) (hxl : xs.length ≤ 1048576) :
    Calls Tryz.prog 42 #[.pointer (some ⟨s, 0, none⟩), u] w fun e w' => ∃ i, i < xs.length ∧ e = .returned (.int .i64 (xs.getD i 0)) ∧ ∃ t', Drawn 1 s v bs t t' w w' := by
  have HS := hide hS
  obtain ⟨ao, c, rfl, h2, h3⟩ := hu
  obtain ⟨b, off, rfl, hb, hc⟩ := h3 hx0
  have HC := hide hc
  obtain ⟨k, hk⟩ : ∃ k, xs.length = k := ⟨_, rfl⟩
  have HK := hide hk
  have hk0 : 0 < k := by rw [← hk]; exact List.length_pos_iff.2 hx0
  rw [hk] at hxl ⊢
  clear hS h2 h3 hc hk hx0
  go_enter Tryz.func42, Tryz.ntmps42
  go_wp2_with fail
  refine (l1Next (k : Int) HS.out ht (by omega) (by omega)).mono ?_
  rintro e w1 ⟨r, rfl, hr0, hr1, t', hd⟩
  have hr2 : r < (k : Int) := hr1 (by omega)
  obtain ⟨i, rfl⟩ : ∃ i : Nat, r = (i : Int) := ⟨r.toNat, (Int.toNat_of_nonneg hr0).symm⟩
  have hi : i < k := by omega
  have g1 := cell_wr hd.2.1 (HC.out i (by rw [HK.out]; exact hi)) hb
  obtain ⟨x, hx⟩ : ∃ x, xs.getD i 0 = x := ⟨_, rfl⟩
  have HX := hide hx
  rw [hx] at g1
  have HD := hide hd
  clear hr1 hd hx
  go_wp2
  go_ret
  exact ⟨i, hi, ret_int HX.out.symm, t', HD.out⟩
theorem RdI_new (s : Nat) (w : World) (xs : List Int) (t : TypeId) (hs : s < w.heap.size) (hl : xs.length ≤ 1048576) : RdI (· ≠ s) (w.alloc (.cells (xs.map (Value.int .i64)).toArray t)) (.slice (some ⟨w.heap.size, 0, none⟩) xs.length xs.length) xs := by
  refine ⟨_, 0, by simp, by omega, fun _ => ⟨w.heap.size, 0, rfl, by omega, fun i hi => ?_⟩⟩
  simp [go_sem]
  rw [List.getElem?_eq_getElem hi]
  rfl

theorem Drawn.onBelow {N s : Nat} {v : Value} {bs : List Nat} {t0 t t' : Nat} {a b c : World} (h0 : Src s v bs a t0) (h : Drawn N s v bs t t' a b) (hb : Below a.heap.size b c) : Drawn N s v bs t t' a c := by
  have hl := h0.lt
  have hw := h.2.1.onBelow hb
  exact ⟨⟨(hb.cell (p := ⟨s, 0, none⟩) hl).trans h.1.code, (hb.cell (p := ⟨s, 1, none⟩) hl).trans h.1.at_, fun o => (hb.frozen (p := ⟨s, o, none⟩) hl).trans (h.1.free o), h0.rd.wr hw⟩, hw, h.2.2⟩

theorem ownsRow_wr {w w' : World} {B e z s : Nat} {v : Value} {n : Nat} {xs : List Value} (h : w.ownsRow B e z v n xs) (hw : Wr (· = s) w w') (hs : v.ownBlock ≠ some s) : w'.ownsRow B e z v n xs := by
  obtain ⟨h1, h2⟩ := h
  refine ⟨h1, ?_⟩
  rcases h2 with h2 | ⟨g, cap, cur, hv, hg, hh, r⟩
  · exact Or.inl h2
  · exact Or.inr ⟨g, cap, cur, hv, hg, by rw [hw.block g (Array.getElem?_eq_some_iff.1 hh).1 (fun e => hs (by rw [hv, e]; rfl))]; exact hh, r⟩
theorem ownBlock_ne {w : World} {B e z s : Nat} {v : Value} {n : Nat} {xs : List Value} (h : w.ownsRow B e z v n xs) (hs : s < B) : v.ownBlock ≠ some s := fun e => by have := (h.lt _ e).1; omega

theorem made_ints (w : World) (n : Nat) (hn : n ≤ 1048576) (t : TypeId) : OwI w.heap.size (w.alloc (.cells (madeCells #[.int .i64 0] n) t)) (.slice (some ⟨w.heap.size, 0, none⟩) n n) (List.replicate n 0) := by
  refine ⟨w.heap.size, ⟨_, 0, by simp, by simp; omega, fun _ => ⟨w.heap.size, 0, rfl, rfl, fun i hi => ?_⟩⟩, fun _ => ⟨Nat.le_refl _, by simp, fun o => by simp [go_sem]⟩⟩
  have hi' : i < n := by simpa using hi
  have := (World.rowIs_made w (.int .i64 0) n t).cell hi'
  simpa [List.getD, hi'] using this

set_option maxHeartbeats 4000000 in
set_option maxRecDepth 4000 in
/-- 'l1DrawWords': some list of new memory. -/
theorem l1DrawWords {s : Nat} {v : Value} {bs : List Nat} {w : World} {t : Nat} (hS : Src s v bs w t) (ht : t ≤ 1000000000) :
    Calls Tryz.prog 69 #[.pointer (some ⟨s, 0, none⟩)] w fun e w' => ∃ z xs, e = .returned z ∧ xs.length ≤ 65 ∧ OwI w.heap.size w' z xs ∧ ∃ t', Drawn 100 s v bs t t' w w' := by
  have HS := hide hS
  have hsl := hS.lt
  obtain ⟨i0, hi, hz0, hz1, hz2⟩ := info_parts Tryz.infoInt
  clear hS
  go_enter Tryz.func69, Tryz.ntmps69
  go_wp2_with fail
  have D0 := hide ((Drawn.refl HS.out).later (below_alloc w (.cells #[] 2)))
  have O0 := hide (World.ownsRow_made (base := w.heap.size) (e := 2) (size := 1) w #[] 0 (Nat.le_refl _) (by unfold maxLen; omega) (by simp))
  have hne := ownBlock_ne O0.out hsl
  refine (l1Next 5 D0.out.1 (by omega) (by omega) (by omega)).mono ?_
  rintro e w1 ⟨r1, rfl, a1, b1, t1, hd1⟩
  have O1 := hide (ownsRow_wr O0.out hd1.2.1 hne)
  have b1' := b1 (by omega)
  have D1 := hide (D0.out.on hd1)
  clear hd1 b1
  go_wp2_with fail
  refine (l1Next 5 D1.out.1 (by have := D1.out.2.2; omega) (by omega) (by omega)).mono ?_
  rintro e w2 ⟨r2, rfl, a2, b2, t2, hd2⟩
  have O2 := hide (ownsRow_wr O1.out hd2.2.1 hne)
  have b2' := b2 (by omega)
  have D2 := hide (D1.out.on hd2)
  clear hd2 b2
  go_wp2_with fail
  refine (l1Next 30 D2.out.1 (by have := D2.out.2.2; omega) (by omega) (by omega)).mono ?_
  rintro e w3 ⟨r3, rfl, a3, b3, t3, hd3⟩
  have O3 := hide ((ownsRow_wr O2.out hd3.2.1 hne).alloc (.cells #[.int .i64 r1, .int .i64 r2, .int .i64 (30 + r3)] 2))
  have b3' := b3 (by omega)
  have D3 := hide (D2.out.on hd3)
  clear hd3 b3
  go_wp2_with fail
  have D4 := hide (D3.out.later (below_alloc w3 (.cells #[.int .i64 r1, .int .i64 r2, .int .i64 (30 + r3)] 2)))
  refine (l1Pick (xs := [r1, r2, 30 + r3]) D4.out.1 (by have := D4.out.2.2; omega) (RdI_new s w3 [r1, r2, 30 + r3] 2 (by have := D3.out.1.lt; omega) (by simp)) (by simp) (by simp)).mono ?_
  rintro e w4 ⟨i, hi3, rfl, t4, hd4⟩
  obtain ⟨K, hK, hK2⟩ : ∃ K : Nat, [r1, r2, 30 + r3].getD i 0 = (K : Int) ∧ K ≤ 59 := by
    have : i = 0 ∨ i = 1 ∨ i = 2 := by simp at hi3; omega
    rcases this with rfl | rfl | rfl
    · exact ⟨r1.toNat, by simp; omega, by omega⟩
    · exact ⟨r2.toNat, by simp; omega, by omega⟩
    · exact ⟨(30 + r3).toNat, by simp; omega, by omega⟩
  rw [hK]
  have D5 := hide (D4.out.on hd4)
  have O4 := hide (ownsRow_wr O3.out hd4.2.1 hne)
  clear O0 O1 O2 O3 hne
  clear hK hd4 D4 hi3
  go_wp2
  go_loopw [3, 4] (fun v' k wr => ∃ (n K : Nat) (ao : Option Addr) (c : Nat) (xs : List Int) (t5 : Nat), n + K ≤ 59 ∧ k = .int .i64 K ∧ v' = .slice ao n c ∧ Hid (xs.length = n) ∧ Hid (wr.ownsRow w.heap.size 2 1 (.slice ao n c) n (xs.map (Value.int .i64))) ∧ Hid (Drawn (4 + n) s v bs t t5 w wr)) (fun _ k _ => (intOf k).toNat)
  case atStart => exact ⟨0, K, _, _, [], t4, by omega, rfl, rfl, rfl, O4.out, D5.out⟩
  case round =>
    obtain ⟨n, K, ao, c, xs, t5, hnK, rfl, rfl, HL, HO, HD⟩ := hrel
    have hz := HD.out.2.1.size
    by_cases hK0 : 0 < K
    · go_wp2_with fail
      refine (l1Next 99 HD.out.1 (by have := HD.out.2.2; omega) (by omega) (by omega)).mono ?_
      rintro e w6 ⟨r, rfl, ar, br, t6, hd6⟩
      have D6 := hide (HD.out.on hd6)
      have O6 := hide (ownsRow_wr HO.out hd6.2.1 (ownBlock_ne HO.out hsl))
      have hz6 := hd6.2.1.size
      clear hd6 br
      go_wp2_with (at_builtin; refine wpList_append_lies _ rfl _ _ _ rfl w.heap.size 2 i0 (.int .i64 0) 1 8 Tryz.underlying24 hi hz0 hz1 hz2 rfl (by omega) _ n _ (by rfl) (O6.out.alloc _) ⟨w6.heap.size, 0, none⟩ 1 1 [.int .i64 r] (by rfl) (by rfl) (World.news_of_block (cs := #[.int .i64 r]) (t := 2) (fr := (0, 0)) (heap_alloc_new w6 _)) (by simp [Value.oneCell']) (by omega) (by unfold maxLen; omega) (by omega) (by simp; omega) (w6.heap.size + 1) (by simp) ?_)
      intro g cap w7 hown hgrow hat hlt7
      have HB7 := hide ((Below.mono (below_alloc w6 (.cells #[.int .i64 r] 2)) (show w.heap.size ≤ w6.heap.size by omega)).grown hgrow (by simp; omega) (fun r hr => (O6.out.lt r hr).1))
      have D7 := hide (D6.out.onBelow HS.out HB7.out)
      have O7 : Hid (w7.ownsRow w.heap.size 2 1 (.slice (some ⟨g, 0, none⟩) (n + 1) cap) (n + 1) ((xs ++ [r]).map (Value.int .i64))) := by rw [Hid, List.map_append]; exact hown
      have HL7 : Hid ((xs ++ [r]).length = n + 1) := by unfold Hid; rw [List.length_append, HL.out]; rfl
      clear hown hgrow hat hlt7 HB7 O6 D6
      obtain ⟨K', rfl⟩ : ∃ K', K = K' + 1 := ⟨K - 1, by omega⟩
      go_wp2
      go_roundw
      case rel => exact ⟨n + 1, K', _, _, xs ++ [r], t6, by omega, by go_num, rfl, HL7.out, O7.out, D7.out.mono (by omega)⟩
      case measure => simp [intOf]
    · have hKz : K = 0 := by omega
      subst hKz
      go_wp2_with fail
      refine (l1Next 30 HD.out.1 (by have := HD.out.2.2; omega) (by omega) (by omega)).mono ?_
      rintro e w6 ⟨r, rfl, ar, br, t6, hd6⟩
      have D6 := hide (HD.out.on hd6)
      have O6 := hide (ownsRow_wr HO.out hd6.2.1 (ownBlock_ne HO.out hsl))
      have hz6 := hd6.2.1.size
      clear hd6 br
      by_cases hr0 : r = 0
      · subst hr0
        go_wp2_with fail
        have D7 := hide (D6.out.later (below_alloc w6 (.cells #[.int .i64 (-1), .int .i64 65536, .int .i64 65535] 2)))
        refine (l1Pick (xs := [-1, 65536, 65535]) D7.out.1 (by have := D7.out.2.2; omega) (RdI_new s w6 [-1, 65536, 65535] 2 (by omega) (by simp)) (by simp) (by simp)).mono ?_
        rintro e w8 ⟨i, hi3, rfl, t8, hd8⟩
        obtain ⟨x, hx⟩ : ∃ x : Int, ([-1, 65536, 65535] : List Int).getD i 0 = x := ⟨_, rfl⟩
        rw [hx]
        have D8 := hide (D7.out.on hd8)
        have O8 := hide (ownsRow_wr (O6.out.alloc (.cells #[.int .i64 (-1), .int .i64 65536, .int .i64 65535] 2)) hd8.2.1 (ownBlock_ne O6.out hsl))
        have hz8 := hd8.2.1.size
        simp only [World.size_alloc] at hz8
        clear hd8 hx hi3 D7
        go_wp2_with (at_builtin; refine wpList_append_lies _ rfl _ _ _ rfl w.heap.size 2 i0 (.int .i64 0) 1 8 Tryz.underlying24 hi hz0 hz1 hz2 rfl (by omega) _ n _ (by rfl) (O8.out.alloc _) ⟨w8.heap.size, 0, none⟩ 1 1 [.int .i64 x] (by rfl) (by rfl) (World.news_of_block (cs := #[.int .i64 x]) (t := 2) (fr := (0, 0)) (heap_alloc_new w8 _)) (by simp [Value.oneCell']) (by omega) (by unfold maxLen; omega) (by omega) (by simp; omega) (w8.heap.size + 1) (by simp) ?_)
        intro g cap w9 hown hgrow hat hlt9
        have HB9 := hide ((Below.mono (below_alloc w8 (.cells #[.int .i64 x] 2)) (show w.heap.size ≤ w8.heap.size by omega)).grown hgrow (by simp; omega) (fun r hr => (O8.out.lt r hr).1))
        have D9 := hide (D8.out.onBelow HS.out HB9.out)
        have O9 : Hid (w9.ownsRow w.heap.size 2 1 (.slice (some ⟨g, 0, none⟩) (n + 1) cap) (n + 1) ((xs ++ [x]).map (Value.int .i64))) := by rw [Hid, List.map_append]; exact hown
        have HL9 : Hid ((xs ++ [x]).length = n + 1) := by unfold Hid; rw [List.length_append, HL.out]; rfl
        clear hown hgrow hat hlt9 HB9 O8 D8
        go_wp2
        go_ret
        exact ⟨.slice (some ⟨g, 0, none⟩) (n + 1) cap, xs ++ [x], rfl, by rw [HL9.out]; omega, ow_of_owns HL9.out O9.out (by rw [HL9.out]; omega), t8, D9.out.mono (by omega)⟩
      · by_cases hr1 : r = 1
        · subst hr1
          have HI := hide (made_ints w6 65 (by omega) 2)
          have hmk : ∀ w, (Instr.makeSlice 24 (.int .i64 65) (.int .i64 65)).run Tryz.prog w = .ok (.slice (some ⟨w.heap.size, 0, none⟩) 65 65) (w.alloc (.cells (madeCells #[.int .i64 0] 65) 2)) := run_make_row' (P := Tryz.prog) 24 2 (.int .i64 0) 8 Tryz.underlying24 Tryz.infoInt rfl .i64 .i64 65 (by omega) (by omega)
          generalize madeCells #[.int .i64 0] 65 = M at hmk HI
          have D7 := hide (D6.out.later (below_alloc w6 (.cells M 2)))
          go_wp2
          go_ret
          exact ⟨.slice (some ⟨w6.heap.size, 0, none⟩) 65 65, List.replicate 65 0, rfl, by simp, HI.out.mono (by omega), t6, D7.out.mono (by omega)⟩
        · go_wp2
          go_ret
          exact ⟨.slice ao n c, xs, rfl, by rw [HL.out]; omega, ow_of_owns HL.out O6.out (by rw [HL.out]; omega), t6, D6.out.mono (by omega)⟩
end Go.Proofs.YtamknomapabmfaaGreat
/- The model's draws of a header: 'spec.l2Draw', walked. -/
namespace Go.Proofs.YtamknomapabmfaaGreat
open Go.RowKit

/-- A header that is being drawn: in block h, the result's variable in block r. -/
structure DrAt (w : World) (s : Nat) (v : Value) (bs : List Nat) (t : Nat) (r h : Nat) (a b : Int) (xs : List Int) (ao : Option Addr) (n c N t5 : Nat) (wr : World) : Prop where
  dr : Drawn N s v bs t t5 w wr
  rw : w.heap.size ≤ r
  rh : r < h
  hl : h < wr.heap.size
  r0 : wr.cell? ⟨r, 0, none⟩ = some (.int .i64 0)
  r1 : wr.cell? ⟨r, 1, none⟩ = some (.int .i64 0)
  r2 : wr.cell? ⟨r, 2, none⟩ = some (.slice none 0 0)
  rf : ∀ o, wr.frozen? ⟨r, o, none⟩ = false
  h0 : wr.cell? ⟨h, 0, none⟩ = some (.int .i64 a)
  h1 : wr.cell? ⟨h, 1, none⟩ = some (.int .i64 b)
  h2 : wr.cell? ⟨h, 2, none⟩ = some (.slice ao n c)
  hf : ∀ o, wr.frozen? ⟨h, o, none⟩ = false
  own : wr.ownsRow (h + 1) 2 1 (.slice ao n c) n (xs.map (Value.int .i64))
  len : xs.length = n

/-- A number has been drawn on the way. -/
theorem DrAt.on {w : World} {s : Nat} {v : Value} {bs : List Nat} {t r h : Nat} {a b : Int} {xs : List Int} {ao : Option Addr} {n c N t5 t6 M : Nat} {wr w6 : World} (H : DrAt w s v bs t r h a b xs ao n c N t5 wr) (hs : s < w.heap.size) (hd : Drawn M s v bs t5 t6 wr w6) :
    DrAt w s v bs t r h a b xs ao n c (N + M) t6 w6 := by
  have hw := hd.2.1
  have h1 := H.rw
  have h2 := H.rh
  have h3 := H.hl
  exact ⟨H.dr.on hd, H.rw, H.rh, Nat.lt_of_lt_of_le H.hl hw.size, cell_wr hw H.r0 (by omega), cell_wr hw H.r1 (by omega), cell_wr hw H.r2 (by omega), fun o => (hw.frz _ _ (by omega)).trans (H.rf o),
    cell_wr hw H.h0 (by omega), cell_wr hw H.h1 (by omega), cell_wr hw H.h2 (by omega), fun o => (hw.frz _ _ (by omega)).trans (H.hf o), ownsRow_wr H.own hw (ownBlock_ne H.own (by omega)), H.len⟩
theorem DrAt.later {w : World} {s : Nat} {v : Value} {bs : List Nat} {t r h : Nat} {a b : Int} {xs : List Int} {ao : Option Addr} {n c N t5 : Nat} {wr w6 : World} (H : DrAt w s v bs t r h a b xs ao n c N t5 wr) (hb : Below wr.heap.size wr w6) :
    DrAt w s v bs t r h a b xs ao n c N t5 w6 := by
  have h2 := H.rh
  have h3 := H.hl
  exact ⟨H.dr.later hb, H.rw, H.rh, Nat.lt_of_lt_of_le H.hl hb.size, cell_later hb H.r0, cell_later hb H.r1, cell_later hb H.r2, fun o => ((bcell hb).2 _ _ (by omega)).trans (H.rf o),
    cell_later hb H.h0, cell_later hb H.h1, cell_later hb H.h2, fun o => ((bcell hb).2 _ _ (by omega)).trans (H.hf o), ownsRow_later H.own hb, H.len⟩

/-- One address more. -/
theorem DrAt.step {w : World} {s : Nat} {v : Value} {bs : List Nat} {t r h : Nat} {a b x : Int} {xs : List Int} {ao : Option Addr} {n c N t5 g cap : Nat} {wr w3 : World} (hS : Src s v bs w t) (H : DrAt w s v bs t r h a b xs ao n c N t5 wr)
    (hown : w3.ownsRow (h + 1) 2 1 (.slice (some ⟨g, 0, none⟩) (n + 1) cap) (n + 1) ((xs ++ [x]).map (Value.int .i64)))
    (hgrow : (wr.alloc (.cells #[.int .i64 x] 2)).grownBy w3 (Value.slice ao n c).ownBlock) :
    DrAt w s v bs t r h a b (xs ++ [x]) (some ⟨g, 0, none⟩) (n + 1) cap N t5 (w3.setCell ⟨h, 2, none⟩ (.slice (some ⟨g, 0, none⟩) (n + 1) cap)) := by
  have k1 := H.rw
  have k2 := H.rh
  have k3 := H.hl
  have hB : Below (h + 1) wr w3 := ((below_alloc wr (.cells #[.int .i64 x] 2)).mono (by omega)).grown hgrow (by simp; omega) (fun r hr => (H.own.lt r hr).1)
  have hc : ∀ b o, b < h + 1 → w3.cell? ⟨b, o, none⟩ = wr.cell? ⟨b, o, none⟩ := fun b o hb => hB.cell (p := ⟨b, o, none⟩) hb
  have hz : ∀ b o, b < h + 1 → w3.frozen? ⟨b, o, none⟩ = wr.frozen? ⟨b, o, none⟩ := fun b o hb => hB.frozen (p := ⟨b, o, none⟩) hb
  have hs := hB.size
  have hB2 : Below w.heap.size wr (w3.setCell ⟨h, 2, none⟩ (.slice (some ⟨g, 0, none⟩) (n + 1) cap)) := (hB.mono (by omega)).setCell (by simp; omega) _
  refine ⟨H.dr.onBelow hS hB2, H.rw, H.rh, by simp; omega, ?_, ?_, ?_, fun o => ?_, ?_, ?_, ?_, fun o => ?_, ?_, by simp [H.len]⟩
  · rw [World.cell?_setCell_other _ _ _ _ (by intro e; injection e with e _; omega), hc _ _ (by omega)]; exact H.r0
  · rw [World.cell?_setCell_other _ _ _ _ (by intro e; injection e with e _; omega), hc _ _ (by omega)]; exact H.r1
  · rw [World.cell?_setCell_other _ _ _ _ (by intro e; injection e with e _; omega), hc _ _ (by omega)]; exact H.r2
  · rw [World.frozen?_setCell, hz _ _ (by omega)]; exact H.rf o
  · rw [World.cell?_setCell_other _ _ _ _ (by intro e; injection e with _ e; omega), hc _ _ (by omega)]; exact H.h0
  · rw [World.cell?_setCell_other _ _ _ _ (by intro e; injection e with _ e; omega), hc _ _ (by omega)]; exact H.h1
  · exact World.cell?_setCell_same _ _ _ ((hc _ _ (by omega)).trans H.h2)
  · rw [World.frozen?_setCell, hz _ _ (by omega)]; exact H.hf o
  · exact ownsRow_set hown (fun e => by have := (hown.lt _ e).1; omega)

theorem ownsRow_mono {w : World} {B B' e z : Nat} {v : Value} {n : Nat} {xs : List Value} (h : w.ownsRow B e z v n xs) (hB : B' ≤ B) : w.ownsRow B' e z v n xs := by
  obtain ⟨h1, h2⟩ := h
  refine ⟨h1, ?_⟩
  rcases h2 with h2 | ⟨g, cap, cur, hv, hg, r⟩
  · exact Or.inl h2
  · exact Or.inr ⟨g, cap, cur, hv, Nat.le_trans hB hg, r⟩

end Go.Proofs.YtamknomapabmfaaGreat
/- Four cells of a variable. -/
namespace Go.Proofs.YtamknomapabmfaaGreat
open Go.RowKit

def Var4 (w : World) (b : Nat) (x y z u : Value) : Prop := w.cell? ⟨b, 0, none⟩ = some x ∧ w.cell? ⟨b, 1, none⟩ = some y ∧ w.cell? ⟨b, 2, none⟩ = some z ∧ w.cell? ⟨b, 3, none⟩ = some u
theorem Var4.later {w w' : World} {b : Nat} {x y z u : Value} (h : Var4 w b x y z u) (hb : Below w.heap.size w w') : Var4 w' b x y z u :=
  ⟨cell_later hb h.1, cell_later hb h.2.1, cell_later hb h.2.2.1, cell_later hb h.2.2.2⟩
theorem Var4.wr {S : Nat → Prop} {w w' : World} {b : Nat} {x y z u : Value} (h : Var4 w b x y z u) (hb : Wr S w w') (hd : ¬ S b) : Var4 w' b x y z u :=
  ⟨cell_wr hb h.1 hd, cell_wr hb h.2.1 hd, cell_wr hb h.2.2.1 hd, cell_wr hb h.2.2.2 hd⟩
theorem Var4.lt {w : World} {b : Nat} {x y z u : Value} (h : Var4 w b x y z u) : b < w.heap.size := World.block_lt_of_cell? _ _ h.1
theorem Var4_new (w : World) (x y z u : Value) (t : TypeId) : Var4 (w.alloc (.cells #[x, y, z, u] t)) w.heap.size x y z u := by
  refine ⟨?_, ?_, ?_, ?_⟩ <;> simp [go_sem]
theorem IvI.mono {lo hi lo' hi' : Nat} {w : World} {v : Value} {xs : List Int} (h : IvI lo hi w v xs) (h1 : lo' ≤ lo) (h2 : hi ≤ hi') : IvI lo' hi' w v xs := by
  obtain ⟨b, k1, k2⟩ := h
  exact ⟨b, k1, fun hne => ⟨Nat.le_trans h1 (k2 hne).1, Nat.lt_of_lt_of_le (k2 hne).2.1 h2, (k2 hne).2.2⟩⟩
theorem set4_other {w : World} {b h o : Nat} {x y z u : Value} (hb : b ≠ h) : ((((w.setCell ⟨h, 0, none⟩ x).setCell ⟨h, 1, none⟩ y).setCell ⟨h, 2, none⟩ z).setCell ⟨h, 3, none⟩ u).cell? ⟨b, o, none⟩ = w.cell? ⟨b, o, none⟩ := by
  rw [World.cell?_setCell_other _ _ _ _ (by intro e; injection e with e1 _; exact hb e1.symm), World.cell?_setCell_other _ _ _ _ (by intro e; injection e with e1 _; exact hb e1.symm), World.cell?_setCell_other _ _ _ _ (by intro e; injection e with e1 _; exact hb e1.symm), World.cell?_setCell_other _ _ _ _ (by intro e; injection e with e1 _; exact hb e1.symm)]
/-- Of the world that a region that draws stands in no more is kept than R. -/
theorem forgetH {P : Program} {md : Region.Mode} {ops : Array Oper} {Q : Exit → Act → World → Prop} {S : World → Prop} {fuel : Nat} {listed : Array Bool} {a : Act} {w0 : World} (R : World → Prop) (h0 : R w0) (h : ∀ w, R w → wpAnyH P md ops Q S fuel listed a w) : wpAnyH P md ops Q S fuel listed a w0 := h _ h0
end Go.Proofs.YtamknomapabmfaaGreat
