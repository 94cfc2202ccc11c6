/- DrawE2 Draw5 in one text: what each says stands at its head below. -/
import Derived.Test.YtncgpfapepminaaDoorG31
import Derived.Test.YtncgpfapepminaaDoorG05
import Derived.Deep.CutRange
import Derived.Test.YtncgpfapepminaaDoorG20
/- Chapter 9, draws: 'spec.l9Draw', walked. -/
namespace Go.Proofs.YtncgpfapepminaaDoor
open Go.RowKit

theorem l1ChanceE {s : Nat} {v : Value} {bs : List Nat} {w : World} {t : Nat} (n : Int) (hS : Src s v bs w t) (ht : t ≤ 1073741824) (hn : n ≤ 1073741824) (hn1 : -1073741824 ≤ n) :
    Calls Tryd.prog 46 #[.pointer (some ⟨s, 0, none⟩), .int .i64 n] w fun e w' => ∃ ch : Bool, e = .returned (.bool ch) ∧ ∃ t', Drawn 1 s v bs t t' w w' := by
  have HC := hide (l1Next n hS ht hn hn1)
  clear hS
  go_enter Tryd.func46, Tryd.ntmps46
  go_wp2_with fail
  refine HC.out.mono ?_
  rintro e w1 ⟨a, rfl, _, _, t1, hd1⟩
  have HD := hide hd1
  clear hd1
  go_wp2
  go_ret
  exact ⟨_, rfl, _, HD.out⟩
theorem EoRow.lt {P : Nat → Prop} {w : World} {v : Value} {k : Nat} {gs : List Oj} (h : EoRow P w v k gs) : EoRow (fun b => P b ∧ b < w.heap.size) w v k gs := by
  obtain ⟨V, h1, h2, h3⟩ := h
  exact ⟨V, h1, fun r hr => ⟨h2 r hr, (h1.lt r hr).2⟩, fun i hi => ⟨(h3.1 i hi).1, fun r hr => ⟨⟨((h3.1 i hi).2 r hr).1, ((h3.1 i hi).1.lt r hr).2⟩, ((h3.1 i hi).2 r hr).2⟩⟩, h3.2⟩

/-- An entry that is being drawn lies in block h; ahead of it the entries that were drawn. -/
structure EdAt (w : World) (s : Nat) (v : Value) (bs : List Nat) (t : Nat) (h : Nat) (a b : Int) (xs : List Int) (ao : Option Addr) (n c N t5 : Nat) (ov : Value) (k : Nat) (gs : List Oj) (wr : World) : Prop where
  dr : Drawn N s v bs t t5 w wr
  hw : w.heap.size ≤ h
  hl : h < wr.heap.size
  h0 : wr.cell? ⟨h, 0, none⟩ = some (.int .i64 a)
  h1 : wr.cell? ⟨h, 1, none⟩ = some (.int .i64 b)
  h2 : wr.cell? ⟨h, 2, none⟩ = some (.slice ao n c)
  hf : ∀ o, wr.frozen? ⟨h, o, none⟩ = false
  own : wr.ownsRow (h + 1) 2 1 (.slice ao n c) n (xs.map (Value.int .i64))
  len : xs.length = n
  row : EoRow (fun b => w.heap.size ≤ b ∧ b < h) wr ov k gs
theorem EdAt.on {w : World} {s : Nat} {v : Value} {bs : List Nat} {t h : Nat} {a b : Int} {xs : List Int} {ao : Option Addr} {n c N t5 t6 M k : Nat} {ov : Value} {gs : List Oj} {wr w6 : World} (H : EdAt w s v bs t h a b xs ao n c N t5 ov k gs wr) (hs : s < w.heap.size) (hd : Drawn M s v bs t5 t6 wr w6) :
    EdAt w s v bs t h a b xs ao n c (N + M) t6 ov k gs w6 := by
  have hw := hd.2.1
  have h2 := H.hw
  have h3 := H.hl
  exact ⟨H.dr.on hd, H.hw, Nat.lt_of_lt_of_le H.hl hw.size, cell_wr hw H.h0 (by omega), cell_wr hw H.h1 (by omega), cell_wr hw H.h2 (by omega), fun o => (hw.frz _ _ (by omega)).trans (H.hf o), ownsRow_wr H.own hw (ownBlock_ne H.own (by omega)), H.len, H.row.drawn hw (by omega)⟩
theorem EdAt.later {w : World} {s : Nat} {v : Value} {bs : List Nat} {t h : Nat} {a b : Int} {xs : List Int} {ao : Option Addr} {n c N t5 k : Nat} {ov : Value} {gs : List Oj} {wr w6 : World} (H : EdAt w s v bs t h a b xs ao n c N t5 ov k gs wr) (hb : Below wr.heap.size wr w6) :
    EdAt w s v bs t h a b xs ao n c N t5 ov k gs w6 := by
  have h3 := H.hl
  exact ⟨H.dr.later hb, H.hw, Nat.lt_of_lt_of_le H.hl hb.size, cell_later hb H.h0, cell_later hb H.h1, cell_later hb H.h2, fun o => ((bcell hb).2 _ _ (by omega)).trans (H.hf o), ownsRow_later H.own hb, H.len, H.row.later hb⟩
/-- One word more. -/
theorem EdAt.step {w : World} {s : Nat} {v : Value} {bs : List Nat} {t h : Nat} {a b x : Int} {xs : List Int} {ao : Option Addr} {n c N t5 g cap k : Nat} {ov : Value} {gs : List Oj} {wr w3 : World} (hS : Src s v bs w t) (H : EdAt w s v bs t h a b xs ao n c N t5 ov k gs wr)
    (hown : w3.ownsRow (h + 1) 2 1 (.slice (some ⟨g, 0, none⟩) (n + 1) cap) (n + 1) ((xs ++ [x]).map (Value.int .i64)))
    (hgrow : (wr.alloc (.cells #[.int .i64 x] 2)).grownBy w3 (Value.slice ao n c).ownBlock) :
    EdAt w s v bs t h a b (xs ++ [x]) (some ⟨g, 0, none⟩) (n + 1) cap N t5 ov k gs (w3.setCell ⟨h, 2, none⟩ (.slice (some ⟨g, 0, none⟩) (n + 1) cap)) := by
  have k2 := H.hw
  have k3 := H.hl
  have hB : Below (h + 1) wr w3 := ((below_alloc wr (.cells #[.int .i64 x] 2)).mono (by omega)).grown hgrow (by simp; omega) (fun r hr => (H.own.lt r hr).1)
  have hc : ∀ b o, b < h + 1 → w3.cell? ⟨b, o, none⟩ = wr.cell? ⟨b, o, none⟩ := fun b o hb => hB.cell (p := ⟨b, o, none⟩) hb
  have hz : ∀ b o, b < h + 1 → w3.frozen? ⟨b, o, none⟩ = wr.frozen? ⟨b, o, none⟩ := fun b o hb => hB.frozen (p := ⟨b, o, none⟩) hb
  have hs := hB.size
  have hBh : Below h wr (w3.setCell ⟨h, 2, none⟩ (.slice (some ⟨g, 0, none⟩) (n + 1) cap)) := (hB.mono (by omega)).setCell (by simp) _
  refine ⟨H.dr.onBelow hS (hBh.mono (by omega)), H.hw, by simp; omega, ?_, ?_, ?_, fun o => ?_, ?_, by simp [H.len], H.row.under (fun b hb => hb.2) hBh⟩
  · rw [World.cell?_setCell_other _ _ _ _ (by intro e; injection e with _ e; omega), hc _ _ (by omega)]; exact H.h0
  · rw [World.cell?_setCell_other _ _ _ _ (by intro e; injection e with _ e; omega), hc _ _ (by omega)]; exact H.h1
  · exact World.cell?_setCell_same _ _ _ ((hc _ _ (by omega)).trans H.h2)
  · rw [World.frozen?_setCell, hz _ _ (by omega)]; exact H.hf o
  · exact ownsRow_set hown (fun e => by have := (hown.lt _ e).1; omega)
/-- The entry is appended. -/
theorem EdAt.fin {w : World} {s : Nat} {v : Value} {bs : List Nat} {t h : Nat} {a b : Int} {xs : List Int} {ao : Option Addr} {n c N t5 g cap k : Nat} {ov : Value} {gs : List Oj} {V : Nat → Value} {wr w3 : World} (hS : Src s v bs w t) (H : EdAt w s v bs t h a b xs ao n c N t5 ov k gs wr) (hk : gs.length = k)
    (hr : wr.ownsRow 0 43 3 ov k (cellsEn gs k V)) (hpr : ∀ r, ov.ownBlock = some r → w.heap.size ≤ r ∧ r < h) (hi : RowsI (fun b => w.heap.size ≤ b ∧ b < h) wr ov.ownBlock k V (fun i => (gs.getD i oj0).2.2))
    (hown : w3.ownsRow 0 43 3 (.slice (some ⟨g, 0, none⟩) (k + 1) cap) (k + 1) (cellsEn gs k V ++ [.int .i64 a, .int .i64 b, .slice ao n c]))
    (hg : (wr.alloc (.cells #[.int .i64 a, .int .i64 b, .slice ao n c] 43)).grownBy w3 ov.ownBlock) (hat : ov.ownBlock = some g ∨ g = wr.heap.size + 1) :
    EoRow (w.heap.size ≤ ·) w3 (.slice (some ⟨g, 0, none⟩) (k + 1) cap) (k + 1) (gs ++ [(a, b, xs)]) ∧ Drawn N s v bs t t5 w w3 := by
  have h1 := H.hw
  have h2 := H.hl
  have he : ∀ i, i < k → gs.getD i oj0 = (gs ++ [(a, b, xs)]).getD i oj0 := fun i hi => by
    have : i < gs.length := by omega
    simp [List.getD, List.getElem?_append_left this]
  have hek : (gs ++ [(a, b, xs)]).getD k oj0 = (a, b, xs) := by subst hk; simp [List.getD]
  refine ⟨EoRow.one (P := (w.heap.size ≤ ·)) (w2 := wr) (V := V) (z := .slice ao n c) (o := .cells #[.int .i64 a, .int .i64 b, .slice ao n c] 43) ⟨fun i hik => ?_, hi.2⟩ (by rw [← cellsEn_ext gs _ k V he]; exact hr) (fun r hr => (hpr r hr).1) (by omega) (by rw [hek]; dsimp only; rw [H.len]; exact ownsRow_zero H.own) (fun r hr' => ?_) (by rw [hek, ← cellsEn_ext gs _ k V he]; exact hown) hg hat, ?_⟩
  · dsimp only
    rw [← he i hik]
    exact ⟨(hi.1 i hik).1, fun r hr' => ⟨((hi.1 i hik).2 r hr').1.1, ((hi.1 i hik).2 r hr').2⟩⟩
  · have h3 := (H.own.lt r hr').1
    exact ⟨by omega, fun e => by have := (hpr r e).2; omega, fun i hik e => by have := ((hi.1 i hik).2 r e).1.2; omega⟩
  · have hB : Below w.heap.size wr w3 := ((below_alloc wr _).mono (by omega)).grown hg (by simp; omega) (fun r hr => (hpr r hr).1)
    exact H.dr.onBelow hS hB

set_option maxHeartbeats 8000000 in
set_option maxRecDepth 4000 in
/-- 'l9Draw': entries in rows that may be appended to. -/
theorem l9Draw {s : Nat} {v : Value} {bs : List Nat} {w : World} {t : Nat} (hS : Src s v bs w t) (ht : t ≤ 900000000) (f tm : Int) (n : Nat) (hn : n ≤ 16) (hf0 : 0 ≤ f) (hf1 : f ≤ 100000) (ht0 : 0 ≤ tm) (ht1 : tm ≤ 100000) :
    Calls Tryd.prog 44 #[.pointer (some ⟨s, 0, none⟩), .int .i64 f, .int .i64 tm, .int .i64 (n : Int)] w fun e w' => ∃ z gs, e = .returned z ∧ gs.length = n ∧ (∀ p, p ∈ gs → p.2.2.length ≤ 4) ∧ EoRow (w.heap.size ≤ ·) w' z n gs ∧ ∃ t', Drawn 100 s v bs t t' w w' := by
  have HS := hide hS
  have hsl := hS.lt
  obtain ⟨i0, hi, hz0, hz1, hz2⟩ := info_parts Tryd.infoInt
  obtain ⟨j0, hj, jz0, jz1, jz2⟩ := info_parts Tryd.infoEn
  clear hS
  have HD0 := hide ((Drawn.refl HS.out).later (below_alloc w (.cells #[] 43)))
  go_enter Tryd.func44, Tryd.ntmps44
  go_wp2
  go_loopw [1, 2, 3, 9] (fun fv tv nv ov wr => ∃ (m k t5 : Nat) (f' tm' : Int) (gs : List Oj), k + m = n ∧ nv = .int .i64 (m : Int) ∧ fv = .int .i64 f' ∧ 0 ≤ f' ∧ f' ≤ f + k ∧ tv = .int .i64 tm' ∧ 0 ≤ tm' ∧ tm' ≤ tm + k ∧ gs.length = k ∧ Hid (∀ p, p ∈ gs → p.2.2.length ≤ 4) ∧ Hid (EoRow (w.heap.size ≤ ·) wr ov k gs) ∧ Hid (Drawn (5 * k) s v bs t t5 w wr)) (fun _ _ m _ _ => (intOf m).toNat)
  case atStart => exact ⟨n, 0, t, f, tm, [], by omega, rfl, rfl, hf0, by omega, rfl, ht0, by omega, rfl, fun p hp => absurd hp (by simp), EoRow.empty _ _ (Nat.le_refl _) _, HD0.out⟩
  case round =>
    clear HD0
    obtain ⟨m, k, t5, f', tm', gs, hkm, rfl, rfl, hf0', hf1', rfl, ht0', ht1', hgl, HPl, HRow, HDr⟩ := hrel
    have HGl := hide hgl
    clear hgl
    by_cases hm0 : 0 < m
    · obtain ⟨m', rfl⟩ : ∃ m', m = m' + 1 := ⟨m - 1, by omega⟩
      have hmi : (0 : Int) < ((m' + 1 : Nat) : Int) := by omega
      have ht5 := HDr.out.2.2
      go_upto_if 18 with (go_at_call 46; refine (l1ChanceE 4 HDr.out.1 (by omega) (by omega) (by omega)).mono ?_; rintro e w1 ⟨ch, rfl, t6, hd⟩; have HRow1 := hide (HRow.out.drawn hd.2.1 (by omega)); have HDr1 := hide (HDr.out.on hd); clear hd)
      go_cut [2] from 13 to 42 (fun tv wx => ∃ tn : Int, tv = .int .i64 tn ∧ 0 ≤ tn ∧ tn ≤ tm + k + 1 ∧ wx = w1)
      case first =>
        cases ch with
        | true =>
          go_wp2
          go_meet
          case rel => exact ⟨tm' + 1, by go_num, by omega, by omega, rfl⟩
        | false =>
          go_wp2
          go_meet
          case rel => exact ⟨tm', rfl, by omega, by omega, rfl⟩
      case rest =>
        obtain ⟨tn, rfl, htn0, htn1, hwc⟩ := hcut
        have hwc := hwc.symm
        subst hwc
        have HA : Hid (EdAt w s v bs t w1.heap.size f' tn [] none 0 0 (5 * k + 1) t6 u9 k gs (w1.alloc (.cells #[.int .i64 f', .int .i64 tn, .slice none 0 0] 43))) := by
          have hb := below_alloc w1 (.cells #[.int .i64 f', .int .i64 tn, .slice none 0 0] 43)
          exact ⟨HDr1.out.later hb, HDr1.out.2.1.size, by simp, by simp [go_sem], by simp [go_sem], by simp [go_sem], fun o => by simp [go_sem], World.ownsRow_nil _ _ _ _, rfl, HRow1.out.lt.later hb⟩
        have ht6 := HDr1.out.2.2
        go_wp2_with fail
        refine (l1Next 4 HA.out.dr.1 (by omega) (by omega) (by omega)).mono ?_
        rintro e w3 ⟨k1, rfl, k1a, k1b, t7, hd3⟩
        have k1c := k1b (by omega)
        obtain ⟨K, rfl⟩ : ∃ K : Nat, k1 = (K : Int) := ⟨k1.toNat, (Int.toNat_of_nonneg k1a).symm⟩
        have HA3 := hide (HA.out.on hsl hd3)
        clear hd3 k1b HA
        obtain ⟨hb, hhb⟩ : ∃ hb, w1.heap.size = hb := ⟨_, rfl⟩
        rw [hhb] at HA3 ⊢
        clear hhb
        go_wp2
        obtain ⟨wq, hwq⟩ : ∃ wq, wq = wr := ⟨_, rfl⟩
        subst hwq
        go_loopw [11] (fun kv wr => ∃ (l K : Nat) (ao : Option Addr) (c : Nat) (xs : List Int) (t8 : Nat), l + K ≤ 3 ∧ kv = .int .i64 (K : Int) ∧ Hid (EdAt w s v bs t hb f' tn xs ao l c (5 * k + 2 + l) t8 u9 k gs wr)) (fun k _ => (intOf k).toNat)
        case atStart => exact ⟨0, K, none, 0, [], t7, by omega, rfl, HA3.out⟩
        case round =>
          clear HA3
          obtain ⟨l, K, ao, c, xs, t8, hlK, rfl, HD⟩ := hrel
          have ht8 := HD.out.dr.2.2
          by_cases hK0 : 0 < K
          · have q2 := HD.out.h2
            have qf := HD.out.hf 2
            have hbl := HD.out.hl
            obtain ⟨K', rfl⟩ : ∃ K', K = K' + 1 := ⟨K - 1, by omega⟩
            have HNx := hide (l1Next 99 (HD.out.dr.1.drewN 1) (by omega) (by omega) (by omega))
            go_wp2_with fail
            go_region_law (first
              | (refine step_append_lies _ (by rfl) _ _ _ (by rfl) (hb + 1) 2 i0 (.int .i64 0) 1 8 Tryd.underlying24 hi hz0 hz1 hz2 rfl (by omega) (.slice ao l c) l _ (by rfl) (H6.out.own.alloc (.cells #[.int .i64 r] 2)) ⟨w6.heap.size, 0, none⟩ 1 1 [.int .i64 r] (by rfl) (by rfl) (World.news_of_block (cs := #[.int .i64 r]) (t := 2) (fr := (0, 0)) (heap_alloc_new w6 _)) (by simp [Value.oneCell']) (by omega) (by unfold maxLen; omega) (by omega) (by simp; have := H6.out.hl; omega) (w6.heap.size + 1) (by simp) ?_; intro g cap w7 hown hgrow hat hlt7; have s0 := (hgrow.cell_far ⟨hb, 2, none⟩ (by simp; have := H6.out.hl; omega) (fun e => by have := (H6.out.own.lt _ e.symm).1; dsimp only at this; omega)).trans e1; have s1 : w7.frozen? ⟨hb, 2, none⟩ = false := (hgrow.frozen_far ⟨hb, 2, none⟩ (by simp; have := H6.out.hl; omega) (fun e => by have := (H6.out.own.lt _ e.symm).1; dsimp only at this; omega)).trans (((bcell (below_alloc w6 _)).2 _ _ H6.out.hl).trans (H6.out.hf 2)))
              | (go_simp; go_at_call 26; refine HNx.out.mono ?_; rintro e w6 ⟨r, rfl, ra, rb, t9, hd6⟩; have H6 := hide ((HD.out.later (below_drewN wr 1)).on hsl hd6); have e0 := H6.out.h2; have e1 := cell_later (below_alloc w6 (.cells #[.int .i64 r] 2)) e0; clear hd6 rb))
            all_goals
              have HSt := hide (EdAt.step HS.out H6.out (by rw [List.map_append]; exact hown) hgrow)
              clear hown hgrow hat s0 s1 e0 e1
              go_wp2
              go_roundw
              case rel => exact ⟨l + 1, K', _, _, _, t9, by omega, by go_num, HSt.out⟩
              case measure => simp [intOf]
          · have hKz : K = 0 := by omega
            subst hKz
            have q0 := HD.out.h0
            have q1 := HD.out.h1
            have q2 := HD.out.h2
            have hbl := HD.out.hl
            have HLen := hide HD.out.len
            obtain ⟨V, hown0, hpr0, hin0⟩ := HD.out.row
            have HOw0 := hide hown0
            have HPr0 := hide hpr0
            have HIn0 := hide hin0
            clear hown0 hpr0 hin0
            go_wp2_with (at_builtin; refine wpList_append_lies _ rfl _ _ _ rfl 0 43 j0 (.agg #[.int .i64 0, .int .i64 0, .slice none 0 0]) 3 40 Tryd.underlying25 hj jz0 jz1 jz2 rfl (by omega) _ k _ (by rfl) (HOw0.out.alloc (.cells #[.int .i64 f', .int .i64 tn, .slice ao l c] 43)) ⟨wr.heap.size, 0, none⟩ 1 1 [.int .i64 f', .int .i64 tn, .slice ao l c] (by rfl) (by rfl) (World.news_of_block (cs := #[.int .i64 f', .int .i64 tn, .slice ao l c]) (t := 43) (fr := (0, 0)) (heap_alloc_new wr _)) cellsEn_one (by omega) (by unfold maxLen; omega) (by omega) (Nat.zero_le _) (wr.heap.size + 1) (by simp) ?_; intro g cap w4 hown hgrow hat hlt4)
            have HFn := hide (EdAt.fin HS.out HD.out HGl.out HOw0.out HPr0.out HIn0.out hown hgrow (by simpa using hat))
            have HGl2 : Hid ((gs ++ [(f', tn, xs)]).length = k + 1) := by rw [Hid, List.length_append, HGl.out]; rfl
            have HPl2 : Hid (∀ p, p ∈ gs ++ [(f', tn, xs)] → p.2.2.length ≤ 4) := by
              intro p hp
              rcases List.mem_append.1 hp with hp | hp
              · exact HPl.out p hp
              · rw [List.mem_singleton] at hp
                subst hp
                have := HLen.out
                dsimp only
                omega
            clear hown hgrow hat hlt4
            go_wp2
            go_roundw
            case rel => exact ⟨m', k + 1, t8, f' + 1, tn, gs ++ [(f', tn, xs)], by omega, by go_num, by go_num, by omega, by omega, rfl, by omega, by omega, HGl2.out, HPl2.out, HFn.out.1, HFn.out.2.mono (by omega)⟩
            case measure => simp [intOf]
    · have hmz : m = 0 := by omega
      subst hmz
      have hkn : k = n := by omega
      subst hkn
      go_wp2
      go_ret
      exact ⟨_, gs, rfl, HGl.out, HPl.out, HRow.out, t5, HDr.out.mono (by omega)⟩
end Go.Proofs.YtncgpfapepminaaDoor
/- The model's draws of a header that may be bent: 'spec.l2Bent', 'spec.DrawPackHeader', walked. -/
namespace Go.Proofs.YtncgpfapepminaaDoor
open Go.RowKit

/-- Of the world that the walk stands in no more is kept than R. -/
theorem forget' {P : Program} {c : Code} {Q : Exit → Act → World → Prop} {a : Act} {w0 : World} (R : World → Prop) (h0 : R w0) (h : ∀ w, R w → c.wp P Q a w) : c.wp P Q a w0 := h _ h0

theorem iv_of_owns {w : World} {B t g n cap : Nat} {xs : List Int} (hn : xs.length = n) (h : w.ownsRow B t 1 (.slice (some ⟨g, 0, none⟩) n cap) n (xs.map (Value.int .i64))) (hm : xs.length ≤ 9223372036854775807) : IvI g (g + 1) w (.slice (some ⟨g, 0, none⟩) n cap) xs := by
  subst hn
  rcases h.2 with ⟨e, _⟩ | ⟨g', cap', cur, e, hg, hh, hnc, _⟩
  · cases e
  · injection e with e1 e2 e3
    injection e1 with e1
    injection e1 with e1
    subst e1 e3
    refine ⟨g, ⟨_, cap - xs.length, by rw [Nat.add_sub_cancel' hnc], hm, fun _ => ⟨g, 0, rfl, rfl, fun i hi => ?_⟩⟩, fun _ => ⟨Nat.le_refl _, by omega, (Array.getElem?_eq_some_iff.1 hh).1, fun o => h.frozenAt o⟩⟩
    rw [Nat.zero_add, h.cellAt i (by simpa using hi)]
    simp [List.getD, hi]

/-- A header that is being bent: in block h, the result's variable in block r; its addresses lie in another block. -/
structure BtAt (w : World) (s : Nat) (v : Value) (bs : List Nat) (t : Nat) (r h : Nat) (a b : Int) (ao : Option Addr) (n c : Nat) (xs : List Int) (N t5 : Nat) (wr : World) : Prop where
  dr : Drawn N s v bs t t5 w wr
  rw : w.heap.size ≤ r
  rh : r < h
  hl : h < wr.heap.size
  r0 : wr.cell? ⟨r, 0, none⟩ = some (.int .i64 0)
  r1 : wr.cell? ⟨r, 1, none⟩ = some (.int .i64 0)
  r2 : wr.cell? ⟨r, 2, none⟩ = some (.slice none 0 0)
  rf : ∀ o, wr.frozen? ⟨r, o, none⟩ = false
  h0 : wr.cell? ⟨h, 0, none⟩ = some (.int .i64 a)
  h1 : wr.cell? ⟨h, 1, none⟩ = some (.int .i64 b)
  h2 : wr.cell? ⟨h, 2, none⟩ = some (.slice ao n c)
  hf : ∀ o, wr.frozen? ⟨h, o, none⟩ = false
  own : ∃ lo hi, IvI lo hi wr (.slice ao n c) xs ∧ r < lo ∧ (hi ≤ h ∨ h < lo)
  len : xs.length = n

theorem BtAt.on {w : World} {s : Nat} {v : Value} {bs : List Nat} {t r h : Nat} {a b : Int} {xs : List Int} {ao : Option Addr} {n c N t5 t6 M : Nat} {wr w6 : World} (H : BtAt w s v bs t r h a b ao n c xs N t5 wr) (hs : s < w.heap.size) (hd : Drawn M s v bs t5 t6 wr w6) :
    BtAt w s v bs t r h a b ao n c xs (N + M) t6 w6 := by
  have hw := hd.2.1
  have h1 := H.rw
  have h2 := H.rh
  have h3 := H.hl
  refine ⟨H.dr.on hd, H.rw, H.rh, Nat.lt_of_lt_of_le H.hl hw.size, cell_wr hw H.r0 (by omega), cell_wr hw H.r1 (by omega), cell_wr hw H.r2 (by omega), fun o => (hw.frz _ _ (by omega)).trans (H.rf o),
    cell_wr hw H.h0 (by omega), cell_wr hw H.h1 (by omega), cell_wr hw H.h2 (by omega), fun o => (hw.frz _ _ (by omega)).trans (H.hf o), ?_, H.len⟩
  obtain ⟨lo, hi, k1, k2, k3⟩ := H.own
  exact ⟨lo, hi, k1.wr hw (fun b g1 g2 => by omega), k2, k3⟩
theorem BtAt.later {w : World} {s : Nat} {v : Value} {bs : List Nat} {t r h : Nat} {a b : Int} {xs : List Int} {ao : Option Addr} {n c N t5 : Nat} {wr w6 : World} (H : BtAt w s v bs t r h a b ao n c xs N t5 wr) (hb : Below wr.heap.size wr w6) :
    BtAt w s v bs t r h a b ao n c xs N t5 w6 := by
  have h2 := H.rh
  have h3 := H.hl
  refine ⟨H.dr.later hb, H.rw, H.rh, Nat.lt_of_lt_of_le H.hl hb.size, cell_later hb H.r0, cell_later hb H.r1, cell_later hb H.r2, fun o => ((bcell hb).2 _ _ (by omega)).trans (H.rf o),
    cell_later hb H.h0, cell_later hb H.h1, cell_later hb H.h2, fun o => ((bcell hb).2 _ _ (by omega)).trans (H.hf o), ?_, H.len⟩
  obtain ⟨lo, hi, k1, k2, k3⟩ := H.own
  exact ⟨lo, hi, k1.later hb, k2, k3⟩

/-- The end: the header is laid into the result's variable. -/
theorem BtAt.fin {w : World} {s : Nat} {v : Value} {bs : List Nat} {t r h : Nat} {a b : Int} {xs : List Int} {ao : Option Addr} {n c N t5 : Nat} {wr : World} (hS : Src s v bs w t) (H : BtAt w s v bs t r h a b ao n c xs N t5 wr) (x y z : Value) :
    OwI w.heap.size (((wr.setCell ⟨r, 0, none⟩ x).setCell ⟨r, 1, none⟩ y).setCell ⟨r, 2, none⟩ z) (.slice ao n c) xs ∧ Drawn N s v bs t t5 w (((wr.setCell ⟨r, 0, none⟩ x).setCell ⟨r, 1, none⟩ y).setCell ⟨r, 2, none⟩ z) := by
  have k1 := H.rw
  have hB : Below w.heap.size wr (((wr.setCell ⟨r, 0, none⟩ x).setCell ⟨r, 1, none⟩ y).setCell ⟨r, 2, none⟩ z) := (((Below.refl _ _).setCell k1 _).setCell k1 _).setCell k1 _
  have hW : Wr (fun y => y = r) wr (((wr.setCell ⟨r, 0, none⟩ x).setCell ⟨r, 1, none⟩ y).setCell ⟨r, 2, none⟩ z) := (((Wr.refl (fun y => y = r) _).setCell (p := ⟨r, 0, none⟩) rfl _).setCell (p := ⟨r, 1, none⟩) rfl _).setCell (p := ⟨r, 2, none⟩) rfl _
  refine ⟨?_, H.dr.onBelow hS hB⟩
  obtain ⟨lo, hi, g1, g2, g3⟩ := H.own
  obtain ⟨b', q1, q2⟩ := g1.wr hW (fun b e1 e2 => by omega)
  exact ⟨b', q1, fun hne => ⟨by have := (q2 hne).1; omega, (q2 hne).2.2.1, (q2 hne).2.2.2⟩⟩

theorem BtAt.set0 {w : World} {s : Nat} {v : Value} {bs : List Nat} {t r h : Nat} {a b : Int} {xs : List Int} {ao : Option Addr} {n c N t5 : Nat} {wr : World} (hS : Src s v bs w t) (H : BtAt w s v bs t r h a b ao n c xs N t5 wr) (x : Int) :
    BtAt w s v bs t r h x b ao n c xs N t5 (wr.setCell ⟨h, 0, none⟩ (.int .i64 x)) := by
  have k1 := H.rw
  have k2 := H.rh
  have hW : Wr (fun y => y = h) wr (wr.setCell ⟨h, 0, none⟩ (.int .i64 x)) := (Wr.refl (fun y => y = h) _).setCell (p := ⟨h, 0, none⟩) rfl _
  refine ⟨H.dr.onBelow hS ((Below.refl _ _).setCell (by simp; omega) _), H.rw, H.rh, by simpa using H.hl, cell_wr hW H.r0 (by omega), cell_wr hW H.r1 (by omega), cell_wr hW H.r2 (by omega), fun o => by rw [World.frozen?_setCell]; exact H.rf o, World.cell?_setCell_same _ _ _ H.h0, ?_, ?_, fun o => by rw [World.frozen?_setCell]; exact H.hf o, ?_, H.len⟩
  · rw [World.cell?_setCell_other _ _ _ _ (by simp)]; exact H.h1
  · rw [World.cell?_setCell_other _ _ _ _ (by simp)]; exact H.h2
  · obtain ⟨lo, hi, g1, g2, g3⟩ := H.own
    exact ⟨lo, hi, g1.wr hW (fun b e1 e2 => by omega), g2, g3⟩
theorem BtAt.set1 {w : World} {s : Nat} {v : Value} {bs : List Nat} {t r h : Nat} {a b : Int} {xs : List Int} {ao : Option Addr} {n c N t5 : Nat} {wr : World} (hS : Src s v bs w t) (H : BtAt w s v bs t r h a b ao n c xs N t5 wr) (x : Int) :
    BtAt w s v bs t r h a x ao n c xs N t5 (wr.setCell ⟨h, 1, none⟩ (.int .i64 x)) := by
  have k1 := H.rw
  have k2 := H.rh
  have hW : Wr (fun y => y = h) wr (wr.setCell ⟨h, 1, none⟩ (.int .i64 x)) := (Wr.refl (fun y => y = h) _).setCell (p := ⟨h, 1, none⟩) rfl _
  refine ⟨H.dr.onBelow hS ((Below.refl _ _).setCell (by simp; omega) _), H.rw, H.rh, by simpa using H.hl, cell_wr hW H.r0 (by omega), cell_wr hW H.r1 (by omega), cell_wr hW H.r2 (by omega), fun o => by rw [World.frozen?_setCell]; exact H.rf o, ?_, World.cell?_setCell_same _ _ _ H.h1, ?_, fun o => by rw [World.frozen?_setCell]; exact H.hf o, ?_, H.len⟩
  · rw [World.cell?_setCell_other _ _ _ _ (by simp)]; exact H.h0
  · rw [World.cell?_setCell_other _ _ _ _ (by simp)]; exact H.h2
  · obtain ⟨lo, hi, g1, g2, g3⟩ := H.own
    exact ⟨lo, hi, g1.wr hW (fun b e1 e2 => by omega), g2, g3⟩
theorem BtAt.set2 {w : World} {s : Nat} {v : Value} {bs : List Nat} {t r h : Nat} {a b : Int} {xs ys : List Int} {ao ao' : Option Addr} {n c N t5 n' c' lo hi : Nat} {wr w3 : World} (hS : Src s v bs w t) (H : BtAt w s v bs t r h a b ao n c xs N t5 wr) (hc : ∀ b o, b = r ∨ b = h → w3.cell? ⟨b, o, none⟩ = wr.cell? ⟨b, o, none⟩) (hz : ∀ b o, b = r ∨ b = h → w3.frozen? ⟨b, o, none⟩ = wr.frozen? ⟨b, o, none⟩) (hB2 : Below w.heap.size wr w3)
    (hi3 : IvI lo hi w3 (.slice ao' n' c') ys) (h1 : r < lo) (h2 : hi ≤ h ∨ h < lo) (hl : ys.length = n') :
    BtAt w s v bs t r h a b ao' n' c' ys N t5 (w3.setCell ⟨h, 2, none⟩ (.slice ao' n' c')) := by
  have k1 := H.rw
  have k2 := H.rh
  have k3 := H.hl
  have hW : Wr (fun y => y = h) w3 (w3.setCell ⟨h, 2, none⟩ (.slice ao' n' c')) := (Wr.refl (fun y => y = h) _).setCell (p := ⟨h, 2, none⟩) rfl _
  refine ⟨H.dr.onBelow hS (hB2.setCell (by simp; omega) _), H.rw, H.rh, by simp; have := hB2.size; omega, ?_, ?_, ?_, fun o => by rw [World.frozen?_setCell, hz _ _ (Or.inl rfl)]; exact H.rf o, ?_, ?_, World.cell?_setCell_same _ _ _ ((hc _ _ (Or.inr rfl)).trans H.h2), fun o => by rw [World.frozen?_setCell, hz _ _ (Or.inr rfl)]; exact H.hf o, ⟨lo, hi, hi3.wr hW (fun b e1 e2 => by omega), h1, h2⟩, hl⟩
  · exact cell_wr hW ((hc _ _ (Or.inl rfl)).trans H.r0) (by omega)
  · exact cell_wr hW ((hc _ _ (Or.inl rfl)).trans H.r1) (by omega)
  · exact cell_wr hW ((hc _ _ (Or.inl rfl)).trans H.r2) (by omega)
  · rw [World.cell?_setCell_other _ _ _ _ (by simp)]; exact (hc _ _ (Or.inr rfl)).trans H.h0
  · rw [World.cell?_setCell_other _ _ _ _ (by simp)]; exact (hc _ _ (Or.inr rfl)).trans H.h1
end Go.Proofs.YtncgpfapepminaaDoor
