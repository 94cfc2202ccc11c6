/- TkOwn Iv4 Built4 in one text: what each says stands at its head below. -/
import Derived.Test.YtbfdnjhdlnfpmaaG14
import Derived.Test.YtbfdnjhdlnfpmaaG03
import Derived.Test.YtbfdnjhdlnfpmaaG06
import Derived.Deep.RegionLaw
/- Chapter 7: 'spec.l7Take' once more: what it takes lies in a row that may be appended to. Made by program (gentkown.py). -/
namespace Go.Proofs.Ytbfdnjhdlnfpmaa
open Go.RowKit

set_option maxHeartbeats 4000000 in
set_option maxRecDepth 4000 in
theorem l7TakeOwn {S : Nat → Prop} {w : World} {u : Value} {xs : List Int} (n : Nat) (hn20 : n ≤ 20) (hu : RdI S w u xs) :
    Calls Try.prog 32 #[u, .int .i64 n] w fun e w' => ∃ (g j c : Nat) (z : Value) (r : Bool), e = .returned (.tuple #[.slice (some ⟨g, 0, none⟩) j c, z, .bool r]) ∧ Below w.heap.size w w' ∧ (tbL xs n).length = j ∧ j ≤ 20 ∧ w'.ownsRow w.heap.size 2 1 (.slice (some ⟨g, 0, none⟩) j c) j ((tbL xs n).map (Value.int .i64)) := by
  obtain ⟨i0, hi, hz0, hz1, hz2⟩ := info_parts Try.infoInt
  obtain ⟨ao, c, rfl⟩ := hu.shape
  have HU := hide hu
  clear hu
  have bA := below_on (below_alloc w (.cells #[] 2)) (below_alloc (w.alloc (.cells #[] 2)) (.cells #[] 2))
  have O7 := hide ((World.ownsRow_made (base := w.heap.size) (e := 2) (size := 1) w #[] 0 (Nat.le_refl _) (by unfold maxLen; omega) (by simp)).alloc (.cells #[] 2))
  have O8 := hide (World.ownsRow_made (base := w.heap.size) (e := 2) (size := 1) (w.alloc (.cells #[] 2)) #[] 0 (by simp) (by unfold maxLen; omega) (by simp))
  have HLa := hide (lT_all xs n)
  have HAa := hide (aT_all xs n)
  have HIn := hide (fun (k : Nat) => @tk_in xs n k)
  have HNew := hide (fun (k : Nat) => @tk_new xs n k)
  have HNot := hide (fun (k : Nat) => @tk_not xs n k)
  have HLn := hide (lT_len xs n)
  have HAn := hide (aT_len xs n)
  have HL0 : Hid (lT xs n 0 = []) := by unfold Hid lT blkTo; simp
  have HA0 : Hid (aT xs n 0 = []) := by unfold Hid aT blkTo; simp
  generalize tbL xs n = TL at HLa ⊢
  generalize tbU xs n = TU at HAa
  generalize lT xs n = LT at HLa HIn HNew HNot HLn HL0
  generalize aT xs n = AT at HAa HIn HNew HNot HAn HA0
  go_enter Try.func32, Try.ntmps32
  go_wp2
  go_loopw [7, 8, 9] (fun v7 v8 i wr => ∃ (k g7 j7 c7 g8 j8 c8 : Nat), k ≤ 20 ∧ i = .int .i64 (3 + (k : Int)) ∧ v7 = .slice (some ⟨g7, 0, none⟩) j7 c7 ∧ v8 = .slice (some ⟨g8, 0, none⟩) j8 c8 ∧ g7 ≠ g8 ∧ Hid ((LT k).length = j7) ∧ Hid ((AT k).length = j8) ∧
      Hid (wr.ownsRow w.heap.size 2 1 (.slice (some ⟨g7, 0, none⟩) j7 c7) j7 ((LT k).map (Value.int .i64))) ∧ Hid (wr.ownsRow w.heap.size 2 1 (.slice (some ⟨g8, 0, none⟩) j8 c8) j8 ((AT k).map (Value.int .i64))) ∧ Hid (Below w.heap.size w wr)) (fun _ _ i _ => 23 - (RowKit.intOf i).toNat)
  case atStart =>
    refine ⟨0, w.heap.size, 0, 0, w.heap.size + 1, 0, 0, by omega, rfl, rfl, by simp, by omega, by rw [Hid, HL0.out]; rfl, by rw [Hid, HA0.out]; rfl, ?_, ?_, bA⟩
    · rw [HL0.out]; exact O7.out
    · rw [HA0.out]; unfold Hid; simpa using O8.out
  case round =>
    obtain ⟨k, g7, j7, c7, g8, j8, c8, hk, rfl, rfl, rfl, hne, HJ7, HJ8, H7, H8, HB⟩ := hrel
    have hzz := HB.out.size
    by_cases hlt : k < 20
    · have hle : (3 + (k : Int)) ≤ 22 := by omega
      have hj7 : j7 ≤ 20 := by have := HLn.out k; rw [HJ7.out] at this; omega
      have hj8 : j8 ≤ 20 := by have := HAn.out k; rw [HJ8.out] at this; omega
      have HAm := hide (l7Among (3 + (k : Int)) (HU.out.later HB.out))
      by_cases hx : 3 + (k : Int) ∈ xs
      · obtain ⟨e7, e8⟩ := HIn.out k hlt hx
        rw [decide_eq_true hx] at HAm
        have E7 := hide e7
        have E8 := hide e8
        clear e7 e8 hx
        go_wp2_with fail
        refine HAm.out.mono ?_
        rintro e w1 ⟨hw, rfl⟩
        have hw := hw.symm
        subst hw
        go_wp2_with (at_builtin; refine wpList_append_lies _ rfl _ _ _ rfl w.heap.size 2 i0 (.int .i64 0) 1 8 Try.underlying24 hi hz0 hz1 hz2 rfl (by omega) _ j8 _ (by rfl) (H8.out.alloc (.cells #[.int .i64 (3 + (k : Int))] 2)) ⟨wr.heap.size, 0, none⟩ 1 1 [.int .i64 (3 + (k : Int))] (by rfl) (by rfl) (World.news_of_block (cs := #[.int .i64 (3 + (k : Int))]) (t := 2) (fr := (0, 0)) (heap_alloc_new wr _)) (by simp [Value.oneCell']) (by omega) (by unfold maxLen; omega) (by omega) (by simp; omega) (wr.heap.size + 1) (by simp) ?_; intro g cap w4 hown hgrow hat hltg)
        obtain ⟨H7', hne'⟩ := row_beside H8.out H7.out (Ne.symm hne) hgrow hat
        have H7' := hide H7'
        have HB4 := hide ((below_on HB.out (below_alloc wr (.cells #[.int .i64 (3 + (k : Int))] 2))).grown hgrow (by simp; omega) (fun r hr => (H8.out.lt r hr).1))
        have H8' : Hid (w4.ownsRow w.heap.size 2 1 (.slice (some ⟨g, 0, none⟩) (j8 + 1) cap) (j8 + 1) ((AT (k + 1)).map (Value.int .i64))) := by rw [Hid, E8.out]; simpa using hown
        have HJ8' : Hid ((AT (k + 1)).length = j8 + 1) := by rw [Hid, E8.out, List.length_append, HJ8.out]; rfl
        rw [← E7.out] at H7' HJ7
        clear hown hgrow hat hltg
        go_wp2
        go_roundw
        case rel => exact ⟨k + 1, g7, j7, c7, g, j8 + 1, cap, by omega, by go_num, rfl, rfl, Ne.symm hne', HJ7.out, HJ8'.out, H7'.out, H8'.out, HB4.out⟩
        case measure => simp [RowKit.intOf]; omega
      · rw [decide_eq_false hx] at HAm
        by_cases hl : j7 < n
        · obtain ⟨e7, e8⟩ := HNew.out k hlt hx (by rw [HJ7.out]; exact hl)
          have E7 := hide e7
          have E8 := hide e8
          have hli : (j7 : Int) < (n : Int) := by omega
          clear e7 e8 hx
          go_wp2_with fail
          refine HAm.out.mono ?_
          rintro e w1 ⟨hw, rfl⟩
          have hw := hw.symm
          subst hw
          go_wp2_with (first
            | ((at_builtin; refine wpList_append_lies _ rfl _ _ _ rfl w.heap.size 2 i0 (.int .i64 0) 1 8 Try.underlying24 hi hz0 hz1 hz2 rfl (by omega) _ j7 _ (by rfl) (H7.out.alloc (.cells #[.int .i64 (3 + (k : Int))] 2)) ⟨wr.heap.size, 0, none⟩ 1 1 [.int .i64 (3 + (k : Int))] (by rfl) (by rfl) (World.news_of_block (cs := #[.int .i64 (3 + (k : Int))]) (t := 2) (fr := (0, 0)) (heap_alloc_new wr _)) (by simp [Value.oneCell']) (by omega) (by unfold maxLen; omega) (by omega) (by simp; omega) (wr.heap.size + 1) (by simp) ?_; intro g cap w4 hown hgrow hat hltg); obtain ⟨h8n, hne'⟩ := row_beside H7.out H8.out hne hgrow hat; have H8' := hide h8n; have HB4 := hide ((below_on HB.out (below_alloc wr (.cells #[.int .i64 (3 + (k : Int))] 2))).grown hgrow (by simp; omega) (fun r hr => (H7.out.lt r hr).1)); have H7' : Hid (w4.ownsRow w.heap.size 2 1 (.slice (some ⟨g, 0, none⟩) (j7 + 1) cap) (j7 + 1) ((LT (k + 1)).map (Value.int .i64))) := (by rw [Hid, E7.out]; simpa using hown); have HJ7' : Hid ((LT (k + 1)).length = j7 + 1) := (by rw [Hid, E7.out, List.length_append, HJ7.out]; rfl); have hz4 := HB4.out.size; clear hown hgrow hat hltg h8n)
            | (at_builtin; refine wpList_append_lies _ rfl _ _ _ rfl w.heap.size 2 i0 (.int .i64 0) 1 8 Try.underlying24 hi hz0 hz1 hz2 rfl (by omega) _ j8 _ (by rfl) (H8'.out.alloc (.cells #[.int .i64 (3 + (k : Int))] 2)) ⟨w4.heap.size, 0, none⟩ 1 1 [.int .i64 (3 + (k : Int))] (by rfl) (by rfl) (World.news_of_block (cs := #[.int .i64 (3 + (k : Int))]) (t := 2) (fr := (0, 0)) (heap_alloc_new w4 _)) (by simp [Value.oneCell']) (by omega) (by unfold maxLen; omega) (by omega) (by simp; omega) (w4.heap.size + 1) (by simp) ?_; intro g2 cap2 w5 hown hgrow hat hltg))
          obtain ⟨H7'', hne''⟩ := row_beside H8'.out H7'.out (Ne.symm hne') hgrow hat
          have H7'' := hide H7''
          have HB5 := hide ((below_on HB4.out (below_alloc w4 (.cells #[.int .i64 (3 + (k : Int))] 2))).grown hgrow (by simp; omega) (fun r hr => (H8'.out.lt r hr).1))
          have H8'' : Hid (w5.ownsRow w.heap.size 2 1 (.slice (some ⟨g2, 0, none⟩) (j8 + 1) cap2) (j8 + 1) ((AT (k + 1)).map (Value.int .i64))) := by rw [Hid, E8.out]; simpa using hown
          have HJ8' : Hid ((AT (k + 1)).length = j8 + 1) := by rw [Hid, E8.out, List.length_append, HJ8.out]; rfl
          clear hown hgrow hat hltg
          go_wp2
          go_roundw
          case rel => exact ⟨k + 1, g, j7 + 1, cap, g2, j8 + 1, cap2, by omega, by go_num, rfl, rfl, Ne.symm hne'', HJ7'.out, HJ8'.out, H7''.out, H8''.out, HB5.out⟩
          case measure => simp [RowKit.intOf]; omega
        · obtain ⟨e7, e8⟩ := HNot.out k hlt hx (by rw [HJ7.out]; exact hl)
          have E7 := hide e7
          have E8 := hide e8
          have hli : ¬ (j7 : Int) < (n : Int) := by omega
          clear e7 e8 hx
          rw [← E7.out] at H7 HJ7
          rw [← E8.out] at H8 HJ8
          go_wp2_with fail
          refine HAm.out.mono ?_
          rintro e w1 ⟨hw, rfl⟩
          have hw := hw.symm
          subst hw
          go_wp2
          go_roundw
          case rel => exact ⟨k + 1, g7, j7, c7, g8, j8, c8, by omega, by go_num, rfl, rfl, hne, HJ7.out, HJ8.out, H7.out, H8.out, HB.out⟩
          case measure => simp [RowKit.intOf]; omega
    · have hk20 : k = 20 := by omega
      subst hk20
      rw [HLa.out] at H7 HJ7
      rw [HAa.out] at H8 HJ8
      have hj7 : j7 ≤ 20 := by have := HLn.out 20; rw [HLa.out, HJ7.out] at this; omega
      have hj8 : j8 ≤ 20 := by have := HAn.out 20; rw [HAa.out, HJ8.out] at this; omega
      by_cases hjn : j7 = n
      · subst hjn
        have hd : Hid (decide (TL.length = j7) = true) := by rw [Hid, HJ7.out]; simp
        go_wp2
        refine bodyPost_ret (v := .tuple #[.slice (some ⟨g7, 0, none⟩) j7 c7, .slice (some ⟨g8, 0, none⟩) j8 c8, .bool true]) (by simp [results, Try.results32, go_sem]) rfl ⟨g7, _, c7, _, _, rfl, HB.out, HJ7.out, hj7, H7.out⟩
      · have hd : Hid (decide (TL.length = n) = false) := by rw [Hid, HJ7.out]; simpa using hjn
        have hjb : ((j7 : Int) == (n : Int)) = false := by simp; omega
        go_wp2
        refine bodyPost_ret (v := .tuple #[.slice (some ⟨g7, 0, none⟩) j7 c7, .slice (some ⟨g8, 0, none⟩) j8 c8, .bool false]) (by simp [results, Try.results32, go_sem]) rfl ⟨g7, _, c7, _, _, rfl, HB.out, HJ7.out, hj7, H7.out⟩
end Go.Proofs.Ytbfdnjhdlnfpmaa
/- Four cells of a variable. -/
namespace Go.Proofs.Ytbfdnjhdlnfpmaa
open Go.RowKit

def Var4 (w : World) (b : Nat) (x y z u : Value) : Prop := w.cell? ⟨b, 0, none⟩ = some x ∧ w.cell? ⟨b, 1, none⟩ = some y ∧ w.cell? ⟨b, 2, none⟩ = some z ∧ w.cell? ⟨b, 3, none⟩ = some u
theorem Var4.later {w w' : World} {b : Nat} {x y z u : Value} (h : Var4 w b x y z u) (hb : Below w.heap.size w w') : Var4 w' b x y z u :=
  ⟨cell_later hb h.1, cell_later hb h.2.1, cell_later hb h.2.2.1, cell_later hb h.2.2.2⟩
theorem Var4.wr {S : Nat → Prop} {w w' : World} {b : Nat} {x y z u : Value} (h : Var4 w b x y z u) (hb : Wr S w w') (hd : ¬ S b) : Var4 w' b x y z u :=
  ⟨cell_wr hb h.1 hd, cell_wr hb h.2.1 hd, cell_wr hb h.2.2.1 hd, cell_wr hb h.2.2.2 hd⟩
theorem Var4.lt {w : World} {b : Nat} {x y z u : Value} (h : Var4 w b x y z u) : b < w.heap.size := World.block_lt_of_cell? _ _ h.1
theorem Var4_new (w : World) (x y z u : Value) (t : TypeId) : Var4 (w.alloc (.cells #[x, y, z, u] t)) w.heap.size x y z u := by
  refine ⟨?_, ?_, ?_, ?_⟩ <;> simp [go_sem]
theorem IvI.mono {lo hi lo' hi' : Nat} {w : World} {v : Value} {xs : List Int} (h : IvI lo hi w v xs) (h1 : lo' ≤ lo) (h2 : hi ≤ hi') : IvI lo' hi' w v xs := by
  obtain ⟨b, k1, k2⟩ := h
  exact ⟨b, k1, fun hne => ⟨Nat.le_trans h1 (k2 hne).1, Nat.lt_of_lt_of_le (k2 hne).2.1 h2, (k2 hne).2.2⟩⟩
theorem set4_other {w : World} {b h o : Nat} {x y z u : Value} (hb : b ≠ h) : ((((w.setCell ⟨h, 0, none⟩ x).setCell ⟨h, 1, none⟩ y).setCell ⟨h, 2, none⟩ z).setCell ⟨h, 3, none⟩ u).cell? ⟨b, o, none⟩ = w.cell? ⟨b, o, none⟩ := by
  rw [World.cell?_setCell_other _ _ _ _ (by intro e; injection e with e1 _; exact hb e1.symm), World.cell?_setCell_other _ _ _ _ (by intro e; injection e with e1 _; exact hb e1.symm), World.cell?_setCell_other _ _ _ _ (by intro e; injection e with e1 _; exact hb e1.symm), World.cell?_setCell_other _ _ _ _ (by intro e; injection e with e1 _; exact hb e1.symm)]
/-- Of the world that a region that draws stands in no more is kept than R. -/
theorem forgetH {P : Program} {md : Region.Mode} {ops : Array Oper} {Q : Exit → Act → World → Prop} {S : World → Prop} {fuel : Nat} {listed : Array Bool} {a : Act} {w0 : World} (R : World → Prop) (h0 : R w0) (h : ∀ w, R w → wpAnyH P md ops Q S fuel listed a w) : wpAnyH P md ops Q S fuel listed a w0 := h _ h0
end Go.Proofs.Ytbfdnjhdlnfpmaa
/- 'spec.l1Copy', walked. -/
namespace Go.Proofs.Ytbfdnjhdlnfpmaa
open Go.RowKit

theorem Inner.set {P : Nat → Prop} {w : World} {row : Option Nat} {k : Nat} {V : Nat → Value} {Bk : Nat → Nat} {X : Nat → List Int} (h : Inner P w row k V Bk X) {r o : Nat} {x : Value} (hr : ∀ b, P b → b ≠ r) : Inner P (w.setCell ⟨r, o, none⟩ x) row k V Bk X := by
  refine ⟨fun i hi => (h.rd i hi).setOther fun hn => hr _ (h.own i hi hn).1, fun i hi hn => ?_⟩
  obtain ⟨h1, h2, h3, h4, h5⟩ := h.own i hi hn
  exact ⟨h1, by simpa using h2, fun o => by rw [World.frozen?_setCell]; exact h3 o, h4, h5⟩

theorem ownsRow_set {w : World} {B e s r o : Nat} {v x : Value} {n : Nat} {xs : List Value} (h : w.ownsRow B e s v n xs) (hr : v.ownBlock ≠ some r) : (w.setCell ⟨r, o, none⟩ x).ownsRow B e s v n xs := by
  obtain ⟨h1, h2⟩ := h
  refine ⟨h1, ?_⟩
  rcases h2 with h2 | ⟨g, cap, cur, rfl, hg, hh, t⟩
  · exact Or.inl h2
  · exact Or.inr ⟨g, cap, cur, rfl, hg, by rw [Below.heap_setCell _ _ _ _ (fun e => hr (congrArg some e))]; exact hh, t⟩

theorem BuiltII.set {P : Nat → Prop} {w : World} {v : Value} {k : Nat} {xss : List (List Int)} (h : BuiltII P w v k xss) {r o : Nat} {x : Value} (hr : ∀ b, P b → b ≠ r) : BuiltII P (w.setCell ⟨r, o, none⟩ x) v k xss := by
  obtain ⟨V, Bk, h1, h2, h3⟩ := h
  exact ⟨V, Bk, ownsRow_set h1 (fun e => hr _ (h2 _ e) rfl), h2, h3.set hr⟩
/-- What the copying loop knows behind k blocks; b: the block of the copy's variable. -/
structure CopyAt (xss : List (List Int)) (b : Nat) (vc : Value) (w1 : World) (k : Nat) (v : Value) (wr : World) : Prop where
  below : Below b w1 wr
  size : b < wr.heap.size
  rows : BuiltII (b + 1 ≤ ·) wr v k xss
  cell0 : wr.cell? ⟨b, 0, none⟩ = some v
  cell1 : wr.cell? ⟨b, 1, none⟩ = some vc
  free : ∀ o, wr.frozen? ⟨b, o, none⟩ = false

theorem CopyAt.step {xss : List (List Int)} {b : Nat} {vc v z : Value} {w1 wr w2 w3 : World} {k g cap : Nat} {V : Nat → Value} {Bk : Nat → Nat} {o : Obj} (h : CopyAt xss b vc w1 k v wr)
    (hi : Inner (b + 1 ≤ ·) wr v.ownBlock k V Bk (fun i => xss.getD i [])) (hr : wr.ownsRow 0 24 1 v k ((List.range k).map V)) (hpr : ∀ r, v.ownBlock = some r → b + 1 ≤ r)
    (hb2 : Below wr.heap.size wr w2) (hz : OwI wr.heap.size w2 z (xss.getD k [])) (hown : w3.ownsRow 0 24 1 (.slice (some ⟨g, 0, none⟩) (k + 1) cap) (k + 1) ((List.range k).map V ++ [z]))
    (hg : (w2.alloc o).grownBy w3 v.ownBlock) (hat : v.ownBlock = some g ∨ g = (w2.alloc o).heap.size) :
    CopyAt xss b vc w1 (k + 1) (.slice (some ⟨g, 0, none⟩) (k + 1) cap) (w3.setCell ⟨b, 0, none⟩ (.slice (some ⟨g, 0, none⟩) (k + 1) cap)) := by
  have hsz := h.size
  have hs2 := hb2.size
  have hs3 := hg.size
  simp only [World.size_alloc] at hs3
  have far : ∀ o', w3.cell? ⟨b, o', none⟩ = wr.cell? ⟨b, o', none⟩ := fun o' => by
    rw [hg.cell_far ⟨b, o', none⟩ (by simp; omega) (fun e => by have := hpr _ e.symm; dsimp only at this; omega)]
    exact ((bcell (below_alloc w2 o)).1 _ _ (by omega)).trans ((bcell hb2).1 _ _ hsz)
  have farf : ∀ o', w3.frozen? ⟨b, o', none⟩ = wr.frozen? ⟨b, o', none⟩ := fun o' => by
    rw [hg.frozen_far ⟨b, o', none⟩ (by simp; omega) (fun e => by have := hpr _ e.symm; dsimp only at this; omega)]
    exact ((bcell (below_alloc w2 o)).2 _ _ (by omega)).trans ((bcell hb2).2 _ _ hsz)
  refine ⟨?_, by simp; omega, ?_, World.cell?_setCell_same _ _ _ ((far 0).trans h.cell0), ?_, fun o' => by rw [World.frozen?_setCell]; exact (farf o').trans (h.free o')⟩
  · exact ((h.below.trans ((below_on hb2 (below_alloc w2 o)).mono (by omega))).grown hg (by simp; omega) (fun r hr' => by have := hpr r hr'; omega)).setCell (Nat.le_refl _) _
  · exact (BuiltII.step (P' := (b + 1 ≤ ·)) hi hr hpr (fun _ h => h) (fun x hx => by omega) hb2 hz (below_alloc w2 o) hown hg hat).set (fun x hx => by omega)
  · rw [World.cell?_setCell_other _ _ _ _ (by simp)]
    exact (far 1).trans h.cell1

end Go.Proofs.Ytbfdnjhdlnfpmaa
