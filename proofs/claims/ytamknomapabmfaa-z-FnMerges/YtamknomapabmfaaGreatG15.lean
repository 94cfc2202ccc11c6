/- DrawP2 BuiltT in one text: what each says stands at its head below. -/
import Derived.Test.YtamknomapabmfaaGreatG14
import Derived.Test.YtamknomapabmfaaGreatG06
import Derived.Test.YtamknomapabmfaaGreatG13
/- Chapter 3: the model's draw of puts, walked: 'l3DrawPuts'. -/
namespace Go.Proofs.YtamknomapabmfaaGreat
open Go.RowKit

set_option maxHeartbeats 8000000 in
set_option maxRecDepth 4000 in
theorem l3DrawPuts_some {s : Nat} {v : Value} {bs : List Nat} {w : World} {t : Nat} (hS : Src s v bs w t) (ht : t ≤ 900000000) :
    Calls Tryz.prog 50 #[.pointer (some ⟨s, 0, none⟩)] w fun e w' => ∃ z ps, e = .returned z ∧ ps.length ≤ 13 ∧ BltM w.heap.size w'.heap.size w' z ps ∧ ∃ t', Drawn 1000 s v bs t t' w w' := by
  have HS := hide hS
  have hsl := hS.lt
  obtain ⟨i0, hi, hz0, hz1, hz2⟩ := info_parts Tryz.infoPut
  clear hS
  go_enter Tryz.func50, Tryz.ntmps50
  go_wp2_with fail
  have D0 := hide ((Drawn.refl HS.out).later (below_alloc w (.cells #[] 38)))
  refine (l1Next 6 D0.out.1 (by omega) (by omega) (by omega)).mono ?_
  rintro e w1 ⟨k1, rfl, k1a, k1b, t1, hd1⟩
  have k1c := k1b (by omega)
  obtain ⟨K, rfl⟩ : ∃ K : Nat, k1 = (K : Int) := ⟨k1.toNat, (Int.toNat_of_nonneg k1a).symm⟩
  have D1 := hide (D0.out.on hd1)
  have hs1 := hd1.2.1.size
  simp only [World.size_alloc] at hs1
  have HB1 : Hid (BltM w.heap.size w1.heap.size w1 (.slice (some ⟨w.heap.size, 0, none⟩) 0 0) []) :=
    BuiltP.drawn (BuiltP.empty w (fun b => w.heap.size ≤ b ∧ b < w1.heap.size) ⟨Nat.le_refl _, by omega⟩ []) hd1.2.1 (fun b hb => by omega)
  have hwK : IntKind.i64.wrap (1 + (K : Int)) = ((K + 1 : Nat) : Int) := by simp [IntKind.wrap, IntKind.bits, IntKind.signed]; omega
  clear hd1 k1b D0
  go_wp2
  go_loopw [3, 4, 5] (fun v' k _ wr => ∃ (K n : Nat) (ao : Option Addr) (c : Nat) (ps : List (Int × List Int)) (t5 : Nat), K + n ≤ 7 ∧ k = .int .i64 (K : Int) ∧ v' = .slice ao n c ∧ Hid (ps.length = n) ∧ Hid (BltM w.heap.size wr.heap.size wr (.slice ao n c) ps) ∧ Hid (Drawn (1 + 102 * n) s v bs t t5 w wr)) (fun _ k _ _ => (RowKit.intOf k).toNat)
  case atStart => exact ⟨K + 1, 0, some ⟨w.heap.size, 0, none⟩, 0, [], t1, by omega, by first | rfl | (rw [hwK]) | go_num, rfl, rfl, HB1.out, D1.out.mono (by omega)⟩
  case round =>
    clear HB1 D1 hwK
    obtain ⟨K, n, ao, c, ps, t5, hKn, rfl, rfl, HN, HB, HD⟩ := hrel
    have hwM : w.heap.size ≤ wr.heap.size := HD.out.2.1.size
    by_cases hK0 : 0 < K
    · obtain ⟨K', rfl⟩ : ∃ K', K = K' + 1 := ⟨K - 1, by omega⟩
      go_wp2_with fail
      refine (l1DrawWords HD.out.1 (by have := HD.out.2.2; omega)).mono ?_
      rintro e w2 ⟨z2, xs, rfl, hl2, ho2, t2, hd2⟩
      have D2 := hide (HD.out.on hd2)
      have B2 := hide (HB.out.drawn hd2.2.1 hsl)
      have O2 := hide ho2
      have hs2 := hd2.2.1.size
      obtain ⟨a2, c2, rfl⟩ := ho2.shape
      obtain ⟨l2, hl2'⟩ : ∃ l2, xs.length = l2 := ⟨_, rfl⟩
      rw [hl2'] at O2 hl2 ⊢
      clear hd2 ho2 hl2'
      go_wp2_with fail
      refine (l1WordsR O2.out.rd).mono ?_
      rintro e w3 ⟨cc, rfl, q3, hw3⟩
      have hb3 : Below w2.heap.size w2 w3 := by rw [hw3]; exact below_drewN _ _
      have hs3 : w2.heap.size = w3.heap.size := by rw [hw3]; rfl
      have D3 := hide (D2.out.later hb3)
      have B3 := hide (B2.out.later hb3)
      have O3 := hide (O2.out.later hb3)
      clear hb3 hw3
      by_cases hcc : cc = 0
      · subst hcc
        go_wp2_with fail
        refine (l1Next 8 D3.out.1 (by have := D3.out.2.2; omega) (by omega) (by omega)).mono ?_
        rintro e w4 ⟨x, rfl, xa, xb, t4, hd4⟩
        have D4 := hide (D3.out.on hd4)
        have HZw := hide (O3.out.wr hd4.2.1 (fun b hb _ => by omega))
        have hs4 := hd4.2.1.size
        obtain ⟨V, Bk, hrw, hpw, hiw⟩ := B3.out.drawn hd4.2.1 hsl
        rw [HN.out] at hrw hiw
        have HRw := hide hrw
        have HPw := hide hpw
        have HIw := hide hiw
        have hMw : wr.heap.size ≤ w4.heap.size := by omega
        clear hd4 hrw hpw hiw xb
        go_wp2_with (at_builtin; refine wpList_append_lies _ rfl _ _ _ rfl 0 38 i0 (.agg #[.int .i64 0, .slice none 0 0]) 2 32 Tryz.underlying30 hi hz0 hz1 hz2 rfl (by omega) (.slice ao n c) n _ (by rfl) (HRw.out.alloc (.cells #[.int .i64 x, .slice a2 l2 c2] 38)) ⟨w4.heap.size, 0, none⟩ 1 1 [.int .i64 x, .slice a2 l2 c2] (by rfl) (by rfl) (World.news_of_block (cs := #[.int .i64 x, .slice a2 l2 c2]) (t := 38) (fr := (0, 0)) (heap_alloc_new w4 _)) cells2_one (by omega) (by unfold maxLen; omega) (by omega) (Nat.zero_le _) (w4.heap.size + 1) (by simp) ?_)
        intro g cap w9 hown hgrow hat hlt9
        have HOne : Hid (BltM w.heap.size w9.heap.size w9 (.slice (some ⟨g, 0, none⟩) (n + 1) cap) (ps ++ [(x, xs)])) := by
          have hN := HN.out
          have h2 := HPw.out
          have h3 := HIw.out
          have h4 := hown
          have h5 := hgrow
          have h6 := hat
          rw [← hN] at h2 h3 h4 h5 h6 ⊢
          exact BltM.one h2 h3 hwM hMw HZw.out h4 h5 (by simpa using h6)
        have hB9 : Below w.heap.size w4 w9 := ((below_alloc w4 _).mono (by omega)).grown hgrow (by simp; omega) (fun r hr => (HPw.out r hr).1)
        have HD9 := hide (D4.out.onBelow HS.out hB9)
        have HN9 : Hid ((ps ++ [(x, xs)]).length = n + 1) := by rw [Hid, List.length_append, HN.out]; rfl
        clear hown hgrow hat hlt9 hB9
        go_wp2
        go_roundw
        case rel => exact ⟨K', n + 1, _, _, _, t4, by omega, by go_num, rfl, HN9.out, HOne.out, HD9.out.mono (by omega)⟩
        case measure => simp [RowKit.intOf]
      · have hcb : (cc != 0) = true := by simpa using hcc
        go_wp2_with fail
        refine (l1Next 99 D3.out.1 (by have := D3.out.2.2; omega) (by omega) (by omega)).mono ?_
        rintro e w4 ⟨r, rfl, ra, rb, t4, hd4⟩
        have D4 := hide ((D3.out.on hd4).later (below_alloc w4 (.cells #[.int .i64 r] 2)))
        have B4 := hide ((B3.out.drawn hd4.2.1 hsl).later (below_alloc w4 (.cells #[.int .i64 r] 2)))
        have hs4 := hd4.2.1.size
        have O4 : Hid (OwI wr.heap.size (w4.alloc (.cells #[.int .i64 r] 2)) (.slice (some ⟨w4.heap.size, 0, none⟩) 1 1) [r]) := (OwI_new w4 [r] 2 (by simp)).mono (by omega)
        clear hd4 rb
        go_wp2_with fail
        refine (l1Next 8 D4.out.1 (by have := D4.out.2.2; omega) (by omega) (by omega)).mono ?_
        rintro e w5 ⟨x, rfl, xa, xb, t6, hd5⟩
        have D5 := hide (D4.out.on hd5)
        have HZw := hide (O4.out.wr hd5.2.1 (fun b hb _ => by omega))
        have hs5 := hd5.2.1.size
        simp only [World.size_alloc] at hs5
        obtain ⟨V, Bk, hrw, hpw, hiw⟩ := B4.out.drawn hd5.2.1 hsl
        rw [HN.out] at hrw hiw
        have HRw := hide hrw
        have HPw := hide hpw
        have HIw := hide hiw
        have hMw : wr.heap.size ≤ w5.heap.size := by omega
        clear hd5 hrw hpw hiw xb
        go_wp2_with (at_builtin; refine wpList_append_lies _ rfl _ _ _ rfl 0 38 i0 (.agg #[.int .i64 0, .slice none 0 0]) 2 32 Tryz.underlying30 hi hz0 hz1 hz2 rfl (by omega) (.slice ao n c) n _ (by rfl) (HRw.out.alloc (.cells #[.int .i64 x, .slice (some ⟨w4.heap.size, 0, none⟩) 1 1] 38)) ⟨w5.heap.size, 0, none⟩ 1 1 [.int .i64 x, .slice (some ⟨w4.heap.size, 0, none⟩) 1 1] (by rfl) (by rfl) (World.news_of_block (cs := #[.int .i64 x, .slice (some ⟨w4.heap.size, 0, none⟩) 1 1]) (t := 38) (fr := (0, 0)) (heap_alloc_new w5 _)) cells2_one (by omega) (by unfold maxLen; omega) (by omega) (Nat.zero_le _) (w5.heap.size + 1) (by simp) ?_)
        intro g cap w9 hown hgrow hat hlt9
        have HOne : Hid (BltM w.heap.size w9.heap.size w9 (.slice (some ⟨g, 0, none⟩) (n + 1) cap) (ps ++ [(x, [r])])) := by
          have hN := HN.out
          have h2 := HPw.out
          have h3 := HIw.out
          have h4 := hown
          have h5 := hgrow
          have h6 := hat
          rw [← hN] at h2 h3 h4 h5 h6 ⊢
          exact BltM.one h2 h3 hwM hMw HZw.out h4 h5 (by simpa using h6)
        have hB9 : Below w.heap.size w5 w9 := ((below_alloc w5 _).mono (by omega)).grown hgrow (by simp; omega) (fun r hr => (HPw.out r hr).1)
        have HD9 := hide (D5.out.onBelow HS.out hB9)
        have HN9 : Hid ((ps ++ [(x, [r])]).length = n + 1) := by rw [Hid, List.length_append, HN.out]; rfl
        clear hown hgrow hat hlt9 hB9
        go_wp2
        go_roundw
        case rel => exact ⟨K', n + 1, _, _, _, t6, by omega, by go_num, rfl, HN9.out, HOne.out, HD9.out.mono (by omega)⟩
        case measure => simp [RowKit.intOf]
    · have hKz : K = 0 := by omega
      subst hKz
      go_wp2_with fail
      refine (l1Next 16 HD.out.1 (by have := HD.out.2.2; omega) (by omega) (by omega)).mono ?_
      rintro e w2 ⟨k, rfl, ka, kb, t2, hd2⟩
      have D2 := hide (HD.out.on hd2)
      have hs2 := hd2.2.1.size
      have B2 := hide ((HB.out.drawn hd2.2.1 hsl))
      clear hd2 kb
      by_cases hk0 : k = 0
      · subst hk0
        go_wp2_with fail
        have E2 := hide (D2.out.later (below_alloc w2 (.cells #[.int .i64 (-1), .int .i64 40, .int .i64 39] 2)))
        have Q2 := hide (B2.out.later (below_alloc w2 (.cells #[.int .i64 (-1), .int .i64 40, .int .i64 39] 2)))
        refine (l1Pick (xs := [-1, 40, 39]) E2.out.1 (by have := E2.out.2.2; omega) (RdI_new s w2 [-1, 40, 39] 2 (by omega) (by simp)) (by simp) (by simp)).mono ?_
        rintro e w3 ⟨i, hi3, rfl, t3, hd3⟩
        obtain ⟨x, hx⟩ : ∃ x : Int, ([-1, 40, 39] : List Int).getD i 0 = x := ⟨_, rfl⟩
        rw [hx]
        have D3 := hide (E2.out.on hd3)
        have Q3 := hide (Q2.out.drawn hd3.2.1 hsl)
        have hs3 := hd3.2.1.size
        simp only [World.size_alloc] at hs3
        clear hd3 hx hi3
        go_wp2_with fail
        refine (l1DrawWords D3.out.1 (by have := D3.out.2.2; omega)).mono ?_
        rintro e w4 ⟨z4, xs, rfl, hl4, ho4, t4, hd4⟩
        have D4 := hide (D3.out.on hd4)
        have HZw := hide (ho4.mono (show wr.heap.size ≤ w3.heap.size by omega))
        have hs4 := hd4.2.1.size
        obtain ⟨a4, c4, rfl⟩ := ho4.shape
        obtain ⟨l4, hl4'⟩ : ∃ l4, xs.length = l4 := ⟨_, rfl⟩
        rw [hl4'] at HZw hl4 ⊢
        obtain ⟨V, Bk, hrw, hpw, hiw⟩ := Q3.out.drawn hd4.2.1 hsl
        rw [HN.out] at hrw hiw
        have HRw := hide hrw
        have HPw := hide hpw
        have HIw := hide hiw
        have hMw : wr.heap.size ≤ w4.heap.size := by omega
        clear hd4 hrw hpw hiw ho4 hl4'
        go_wp2_with (at_builtin; refine wpList_append_lies _ rfl _ _ _ rfl 0 38 i0 (.agg #[.int .i64 0, .slice none 0 0]) 2 32 Tryz.underlying30 hi hz0 hz1 hz2 rfl (by omega) (.slice ao n c) n _ (by rfl) (HRw.out.alloc (.cells #[.int .i64 x, .slice a4 l4 c4] 38)) ⟨w4.heap.size, 0, none⟩ 1 1 [.int .i64 x, .slice a4 l4 c4] (by rfl) (by rfl) (World.news_of_block (cs := #[.int .i64 x, .slice a4 l4 c4]) (t := 38) (fr := (0, 0)) (heap_alloc_new w4 _)) cells2_one (by omega) (by unfold maxLen; omega) (by omega) (Nat.zero_le _) (w4.heap.size + 1) (by simp) ?_)
        intro g cap w9 hown hgrow hat hlt9
        have HOne : Hid (BltM w.heap.size w9.heap.size w9 (.slice (some ⟨g, 0, none⟩) (n + 1) cap) (ps ++ [(x, xs)])) := by
          have hN := HN.out
          have h2 := HPw.out
          have h3 := HIw.out
          have h4 := hown
          have h5 := hgrow
          have h6 := hat
          rw [← hN] at h2 h3 h4 h5 h6 ⊢
          exact BltM.one h2 h3 hwM hMw HZw.out h4 h5 (by simpa using h6)
        have hB9 : Below w.heap.size w4 w9 := ((below_alloc w4 _).mono (by omega)).grown hgrow (by simp; omega) (fun r hr => (HPw.out r hr).1)
        have HD9 := hide (D4.out.onBelow HS.out hB9)
        have HN9 : Hid ((ps ++ [(x, xs)]).length = n + 1) := by rw [Hid, List.length_append, HN.out]; rfl
        clear hown hgrow hat hlt9 hB9
        go_wp2
        go_ret
        exact ⟨_, _, rfl, by rw [HN9.out]; omega, HOne.out, t4, HD9.out.mono (by omega)⟩
      by_cases hk1 : k = 1
      · subst hk1
        have hmk := run_make_puts 13 (by omega)
        have HF : Hid (BltM w.heap.size (w2.heap.size + 1) (w2.alloc (.cells (madeCells #[.int .i64 0, .slice none 0 0] (13 * 2)) 38)) (.slice (some ⟨w2.heap.size, 0, none⟩) 13 13) (List.replicate 13 (0, []))) := BuiltP.mono (made_bltM w2 13 (by omega)) (fun b hb _ => ⟨by omega, hb.2⟩)
        have HD9 := hide (D2.out.later (below_alloc w2 (.cells (madeCells #[.int .i64 0, .slice none 0 0] (13 * 2)) 38)))
        have HNl : Hid ((List.replicate 13 ((0, []) : Int × List Int)).length ≤ 13) := by simp [Hid]
        generalize madeCells #[Value.int .i64 0, Value.slice none 0 0] (13 * 2) = Z at hmk HF HD9
        rw [show ((13 : Nat) : Int) = 13 from rfl] at hmk
        go_wp2
        go_ret
        exact ⟨_, List.replicate 13 (0, []), rfl, HNl.out, by simpa using HF.out, t2, HD9.out.mono (by omega)⟩
      by_cases hk2 : k = 2
      · subst hk2
        go_wp2
        go_ret
        exact ⟨_, [], rfl, by simp, BuiltP.nil _ _ _, t2, D2.out.mono (by omega)⟩
      · have hb0 : (k == 0) = false := by simpa using hk0
        have hb1 : (k == 1) = false := by simpa using hk1
        have hb2 : (k == 2) = false := by simpa using hk2
        have HF : Hid (BltM w.heap.size w2.heap.size w2 (.slice ao n c) ps) := BuiltP.mono B2.out (fun b hb _ => ⟨hb.1, by omega⟩)
        have HNl : Hid (ps.length ≤ 13) := by rw [Hid, HN.out]; omega
        go_wp2
        go_ret
        exact ⟨_, ps, rfl, HNl.out, HF.out, t2, D2.out.mono (by omega)⟩
end Go.Proofs.YtamknomapabmfaaGreat
/- Steps that are built by append. -/
namespace Go.Proofs.YtamknomapabmfaaGreat
open Go.RowKit

/-- The cells of k steps. -/
def cellsT (ts : List St) (k : Nat) (V : Nat → Value) : List Value :=
  (List.range (k * 3)).map fun t => if t % 3 = 0 then .bool (ts.getD (t / 3) st0).1 else if t % 3 = 1 then .int .i64 (ts.getD (t / 3) st0).2.1 else V (t / 3)
theorem cellsT_len (ts : List St) (k : Nat) (V : Nat → Value) : (cellsT ts k V).length = k * 3 := by simp [cellsT]
theorem cellsT_flg (ts : List St) (k : Nat) (V : Nat → Value) (i : Nat) (h : i < k) : (cellsT ts k V)[i * 3]? = some (.bool (ts.getD i st0).1) := by
  unfold cellsT
  rw [List.getElem?_map, List.getElem?_range (by omega)]
  simp only [Option.map_some]
  rw [if_pos (by omega), show i * 3 / 3 = i by omega]
theorem cellsT_num (ts : List St) (k : Nat) (V : Nat → Value) (i : Nat) (h : i < k) : (cellsT ts k V)[i * 3 + 1]? = some (.int .i64 (ts.getD i st0).2.1) := by
  unfold cellsT
  rw [List.getElem?_map, List.getElem?_range (by omega)]
  simp only [Option.map_some]
  rw [if_neg (by omega), if_pos (by omega), show (i * 3 + 1) / 3 = i by omega]
theorem cellsT_words (ts : List St) (k : Nat) (V : Nat → Value) (i : Nat) (h : i < k) : (cellsT ts k V)[i * 3 + 2]? = some (V i) := by
  unfold cellsT
  rw [List.getElem?_map, List.getElem?_range (by omega)]
  simp only [Option.map_some]
  rw [if_neg (by omega), if_neg (by omega), show (i * 3 + 2) / 3 = i by omega]
theorem cellsT_next (ts : List St) (k : Nat) (V : Nat → Value) : cellsT ts (k + 1) V = cellsT ts k V ++ [.bool (ts.getD k st0).1, .int .i64 (ts.getD k st0).2.1, V k] := by
  unfold cellsT
  rw [show (k + 1) * 3 = k * 3 + 1 + 1 + 1 by omega, List.range_succ, List.range_succ, List.range_succ]
  simp only [List.map_append, List.append_assoc, List.map_cons, List.map_nil, List.singleton_append]
  congr 1
  rw [if_pos (by omega), if_neg (by omega), if_pos (by omega), if_neg (by omega), if_neg (by omega), show k * 3 / 3 = k by omega, show (k * 3 + 1) / 3 = k by omega, show (k * 3 + 1 + 1) / 3 = k by omega]
  rfl
theorem cellsT_congr (ts : List St) (k : Nat) (V V' : Nat → Value) (h : ∀ i, i < k → V i = V' i) : cellsT ts k V = cellsT ts k V' := by
  unfold cellsT
  refine List.map_congr_left fun t ht => ?_
  have := List.mem_range.1 ht
  rw [h (t / 3) (by omega)]
theorem cellsT_ext (ts ts' : List St) (k : Nat) (V : Nat → Value) (h : ∀ i, i < k → ts.getD i st0 = ts'.getD i st0) : cellsT ts k V = cellsT ts' k V := by
  unfold cellsT
  refine List.map_congr_left fun t ht => ?_
  have := List.mem_range.1 ht
  rw [h (t / 3) (by omega)]

/-- k steps have been built. -/
def BuiltT (P : Nat → Prop) (w : World) (v : Value) (k : Nat) (ts : List St) : Prop :=
  ∃ V Bk, w.ownsRow 0 115 3 v k (cellsT ts k V) ∧ (∀ r, v.ownBlock = some r → P r) ∧ Inner P w v.ownBlock k V Bk (fun i => (ts.getD i st0).2.2)
theorem BuiltT.nil (P : Nat → Prop) (w : World) (ts : List St) : BuiltT P w (.slice none 0 0) 0 ts :=
  ⟨fun _ => .bool false, fun _ => 0, World.ownsRow_nil _ _ _ _, fun _ h => (by cases h), Inner.zero _ _ _ _ _ _⟩
theorem BuiltT.empty (w : World) (P : Nat → Prop) (hP : P w.heap.size) (ts : List St) : BuiltT P (w.alloc (.cells #[] 115)) (.slice (some ⟨w.heap.size, 0, none⟩) 0 0) 0 ts :=
  ⟨fun _ => .bool false, fun _ => 0, World.ownsRow_made w #[] 0 (Nat.zero_le _) (by unfold maxLen; omega) (by simp), fun r h => by injection h with h; subst h; exact hP, Inner.zero _ _ _ _ _ _⟩
theorem BuiltT.later {P : Nat → Prop} {w w' : World} {v : Value} {k : Nat} {ts : List St} (h : BuiltT P w v k ts) (hb : Below w.heap.size w w') : BuiltT P w' v k ts := by
  obtain ⟨V, Bk, h1, h2, h3⟩ := h
  exact ⟨V, Bk, ownsRow_later h1 hb, h2, h3.later hb⟩
theorem BuiltT.mono {P P' : Nat → Prop} {w : World} {v : Value} {k : Nat} {ts : List St} (h : BuiltT P w v k ts) (hP : ∀ b, P b → b < w.heap.size → P' b) : BuiltT P' w v k ts := by
  obtain ⟨V, Bk, h1, h2, h3⟩ := h
  exact ⟨V, Bk, h1, fun r hr => hP r (h2 r hr) (h1.lt r hr).2, h3.mono hP⟩
theorem BuiltT.shape {P : Nat → Prop} {w : World} {v : Value} {k : Nat} {ts : List St} (h : BuiltT P w v k ts) : ∃ ao c, v = .slice ao k c := by
  obtain ⟨V, Bk, h1, _⟩ := h
  rcases h1.2 with ⟨rfl, e⟩ | ⟨g, cap, cur, rfl, _⟩
  · exact ⟨none, 0, by rw [e]⟩
  · exact ⟨_, _, rfl⟩

theorem BuiltT.step {P P' : Nat → Prop} {w w1 w2 w3 : World} {v z : Value} {k g cap : Nat} {V : Nat → Value} {Bk : Nat → Nat} {ts : List St} (hi : Inner P w v.ownBlock k V Bk (fun i => (ts.getD i st0).2.2)) (hr : w.ownsRow 0 115 3 v k (cellsT ts k V)) (hpr : ∀ r, v.ownBlock = some r → P r)
    (hP : ∀ b, P b → P' b) (hN : ∀ b, w.heap.size ≤ b → P' b) (hb1 : Below w.heap.size w w1) (hz : OwI w.heap.size w1 z (ts.getD k st0).2.2) (hb2 : Below w1.heap.size w1 w2)
    (hown : w3.ownsRow 0 115 3 (.slice (some ⟨g, 0, none⟩) (k + 1) cap) (k + 1) (cellsT ts k V ++ [.bool (ts.getD k st0).1, .int .i64 (ts.getD k st0).2.1, z])) (hg : w2.grownBy w3 v.ownBlock) (hat : v.ownBlock = some g ∨ g = w2.heap.size) :
    BuiltT P' w3 (.slice (some ⟨g, 0, none⟩) (k + 1) cap) (k + 1) ts := by
  obtain ⟨Bk', h⟩ := hi.step hP hN (fun r hr' => (hr.lt r hr').2) hb1 hz hb2 hg hat
  refine ⟨_, Bk', ?_, fun r hr' => ?_, h⟩
  · rw [cellsT_next, cellsT_congr ts k _ V (fun i hi => by rw [if_neg (by omega)]), if_pos rfl]
    exact hown
  · injection hr' with hr'
    subst hr'
    rcases hat with hat | hat
    · exact hP _ (hpr _ hat)
    · have h1 := hb1.size
      have h2 := hb2.size
      exact hN _ (by dsimp only; omega)

/-- A flush, the header, and a flush: what stands behind k steps. -/
theorem BuiltT.three {P P' : Nat → Prop} {w w1 w2 w3 : World} {v z : Value} {k g cap : Nat} {V : Nat → Value} {Bk : Nat → Nat} {ts : List St} {a : Int} {ws : List Int} (hi : Inner P w v.ownBlock k V Bk (fun i => (ts.getD i st0).2.2)) (hr : w.ownsRow 0 115 3 v k (cellsT ts k V)) (hpr : ∀ r, v.ownBlock = some r → P r)
    (e0 : ts.getD k st0 = (true, 0, [])) (e1 : ts.getD (k + 1) st0 = (false, a, ws)) (e2 : ts.getD (k + 2) st0 = (true, 0, []))
    (hP : ∀ b, P b → P' b) (hN : ∀ b, w.heap.size ≤ b → P' b) (hb1 : Below w.heap.size w w1) (hz : OwI w.heap.size w1 z ws) (hb2 : Below w1.heap.size w1 w2)
    (hown : w3.ownsRow 0 115 3 (.slice (some ⟨g, 0, none⟩) (k + 3) cap) (k + 3) (cellsT ts k V ++ [.bool true, .int .i64 0, .slice none 0 0, .bool false, .int .i64 a, z, .bool true, .int .i64 0, .slice none 0 0])) (hg : w2.grownBy w3 v.ownBlock) (hat : v.ownBlock = some g ∨ g = w2.heap.size) :
    BuiltT P' w3 (.slice (some ⟨g, 0, none⟩) (k + 3) cap) (k + 3) ts := by
  -- the header's words stand as the k-th for a while
  obtain ⟨Bk', h⟩ := Inner.step (X := fun i => if i = k then ws else (ts.getD i st0).2.2) (V := V) (Bk := Bk) (k := k) (row := v.ownBlock) (P := P) (w := w)
    ⟨fun i hi' => by have := hi.rd i hi'; simp only [if_neg (show i ≠ k by omega)]; exact this, fun i hi' hn => by
      simp only [if_neg (show i ≠ k by omega)] at hn
      obtain ⟨q1, q2, q3, q4, q5⟩ := hi.own i hi' hn
      exact ⟨q1, q2, q3, q4, fun j hj hj' ej => q5 j hj (by simpa only [if_neg (show j ≠ k by omega)] using hj') ej⟩⟩
    hP hN (fun r hr' => (hr.lt r hr').2) hb1 (by simpa only [if_true] using hz) hb2 hg hat
  let V' : Nat → Value := fun i => if i = k + 1 then z else if i < k then V i else .slice none 0 0
  have rnil : ∀ (S : Nat → Prop), RdI S w3 (.slice none 0 0) [] := fun S => ⟨none, 0, by simp, by simp, fun h => absurd rfl h⟩
  refine ⟨V', fun i => if i = k + 1 then Bk' k else Bk' i, ?_, fun r hr' => ?_, fun i hi' => ?_, fun i hi' hn => ?_⟩
  · have c1 : cellsT ts k V' = cellsT ts k V := cellsT_congr ts k _ _ (fun i hi => by simp only [V', if_neg (show i ≠ k + 1 by omega), if_pos hi])
    have c2 : V' k = .slice none 0 0 := by simp only [V', if_neg (show k ≠ k + 1 by omega), if_neg (Nat.lt_irrefl k)]
    have c3 : V' (k + 1) = z := by simp only [V', if_true]
    have c4 : V' (k + 2) = .slice none 0 0 := by simp only [V', if_neg (show k + 2 ≠ k + 1 by omega), if_neg (show ¬ k + 2 < k by omega)]
    rw [show k + 3 = k + 1 + 1 + 1 by omega, cellsT_next, cellsT_next, cellsT_next, c1, c2, c3, c4, e0, e1, e2]
    simpa using hown
  · injection hr' with hr'
    subst hr'
    rcases hat with hat | hat
    · exact hP _ (hpr _ hat)
    · have h1 := hb1.size
      have h2 := hb2.size
      exact hN _ (by dsimp only; omega)
  · by_cases a1 : i = k + 1
    · subst a1
      have := h.rd k (by omega)
      simp only [if_true] at this
      simp only [V', if_true, e1]
      exact this
    · simp only [V', if_neg a1]
      by_cases a2 : i < k
      · have := h.rd i (by omega)
        simp only [if_neg (show i ≠ k by omega)] at this
        simp only [if_pos a2]
        exact this
      · have : i = k ∨ i = k + 2 := by omega
        simp only [if_neg a2]
        rcases this with rfl | rfl
        · rw [e0]; exact rnil _
        · rw [e2]; exact rnil _
  · have hw : i = k + 1 ∨ i < k := by
      by_cases a1 : i = k + 1
      · exact Or.inl a1
      · by_cases a2 : i < k
        · exact Or.inr a2
        · have : i = k ∨ i = k + 2 := by omega
          rcases this with rfl | rfl
          · rw [e0] at hn; exact absurd rfl hn
          · rw [e2] at hn; exact absurd rfl hn
    have back : ∀ j, j < k + 3 → (ts.getD j st0).2.2 ≠ [] → j = k + 1 ∨ j < k := by
      intro j hj hj'
      by_cases a1 : j = k + 1
      · exact Or.inl a1
      · by_cases a2 : j < k
        · exact Or.inr a2
        · have : j = k ∨ j = k + 2 := by omega
          rcases this with rfl | rfl
          · rw [e0] at hj'; exact absurd rfl hj'
          · rw [e2] at hj'; exact absurd rfl hj'
    rcases hw with rfl | a2
    · rw [e1] at hn
      obtain ⟨q1, q2, q3, q4, q5⟩ := h.own k (by omega) (by simpa only [if_true] using hn)
      simp only [if_true]
      refine ⟨q1, q2, q3, q4, fun j hj hj' ej => ?_⟩
      rcases back j hj hj' with rfl | a3
      · rfl
      · simp only [if_neg (show j ≠ k + 1 by omega)] at ej
        have := q5 j (by omega) (by simpa only [if_neg (show j ≠ k by omega)] using hj') ej
        omega
    · obtain ⟨q1, q2, q3, q4, q5⟩ := h.own i (by omega) (by simpa only [if_neg (show i ≠ k by omega)] using hn)
      simp only [if_neg (show i ≠ k + 1 by omega)]
      refine ⟨q1, q2, q3, q4, fun j hj hj' ej => ?_⟩
      rcases back j hj hj' with rfl | a3
      · simp only [if_true] at ej
        rw [e1] at hj'
        have := q5 k (by omega) (by simpa only [if_true] using hj') ej
        omega
      · simp only [if_neg (show j ≠ k + 1 by omega)] at ej
        exact q5 j (by omega) (by simpa only [if_neg (show j ≠ k by omega)] using hj') ej

theorem BuiltT.ow {P : Nat → Prop} {w : World} {v : Value} {k : Nat} {ts : List St} (h : BuiltT P w v k ts) (hk : ts.length = k) (hm : k ≤ 9223372036854775807) : OwT (fun b => P b ∧ b < w.heap.size) w v ts := by
  obtain ⟨V, Bk, h1, hpr, h2⟩ := h
  subst hk
  rcases h1.2 with ⟨rfl, e⟩ | ⟨g, cap, cur, rfl, hg, hh, _⟩
  · have : ts = [] := List.eq_nil_of_length_eq_zero e
    subst this
    exact OwT_nil _ _
  · refine ⟨_, cap, g, 0, V, Bk, rfl, hm, fun _ => ⟨rfl, ⟨hpr g rfl, (Array.getElem?_eq_some_iff.1 hh).1⟩, fun o => h1.frozenAt o⟩, fun i hi => ⟨?_, ?_, ?_, h2.rd i hi, fun hn => ?_⟩⟩
    · rw [Nat.zero_add, h1.cellAt (i * 3) (by omega)]
      exact cellsT_flg _ _ _ _ hi
    · rw [Nat.zero_add, h1.cellAt (i * 3 + 1) (by omega)]
      exact cellsT_num _ _ _ _ hi
    · rw [Nat.zero_add, h1.cellAt (i * 3 + 2) (by omega)]
      exact cellsT_words _ _ _ _ hi
    · obtain ⟨k1, k2, k3, k4, k5⟩ := h2.own i hi hn
      exact ⟨⟨k1, k2⟩, fun e => k4 (by rw [e]; rfl), k3, k5⟩
theorem cells3_one {x : Bool} {y : Int} {ao : Option Addr} {n c : Nat} : ∀ u ∈ ([.bool x, .int .i64 y, .slice ao n c] : List Value), u.oneCell' = true := by
  intro u hu
  simp at hu
  rcases hu with rfl | rfl | rfl <;> rfl
theorem cells9_one {y : Int} {ao : Option Addr} {n c : Nat} : ∀ u ∈ ([.bool true, .int .i64 0, .slice none 0 0, .bool false, .int .i64 y, .slice ao n c, .bool true, .int .i64 0, .slice none 0 0] : List Value), u.oneCell' = true := by
  intro u hu
  simp at hu
  rcases hu with rfl | rfl | rfl | rfl | rfl | rfl | rfl | rfl | rfl <;> rfl

/-- The end of a function that stores a code and steps into its result's variable. -/
theorem ret_steps {w w3 : World} {P : Nat → Prop} {r : Nat} {z x : Value} {ts : List St} (hb : Below w.heap.size w w3) (hr : w.heap.size ≤ r) (ho : OwT P w3 z ts) (hP : ∀ b, P b → r < b ∧ b < w3.heap.size) :
    Below w.heap.size w ((w3.setCell ⟨r, 0, none⟩ x).setCell ⟨r, 1, none⟩ z) ∧ OwT (fun b => w.heap.size ≤ b ∧ b < ((w3.setCell ⟨r, 0, none⟩ x).setCell ⟨r, 1, none⟩ z).heap.size) ((w3.setCell ⟨r, 0, none⟩ x).setCell ⟨r, 1, none⟩ z) z ts := by
  have hw : Wr (fun y => y = r) w3 ((w3.setCell ⟨r, 0, none⟩ x).setCell ⟨r, 1, none⟩ z) := ((Wr.refl (fun y => y = r) _).setCell (p := ⟨r, 0, none⟩) rfl _).setCell (p := ⟨r, 1, none⟩) rfl _
  exact ⟨(hb.setCell (p := ⟨r, 0, none⟩) hr _).setCell (p := ⟨r, 1, none⟩) hr _, (ho.wr hw (fun b h1 e => by have := (hP b h1).1; omega)).mono fun b h1 => by have := hP b h1; simp; omega⟩
end Go.Proofs.YtamknomapabmfaaGreat
