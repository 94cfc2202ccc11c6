/- Chapter 6, the program's side: '(heldLocks).owners', walked: all that the map has, rising. -/
import Derived.Test.YtkpkoapcmnapoabLkOwn
namespace Go.Proofs.Ytkpkoapcmnapoab
open Go.RowKit Go.Maps Go.Shelf

theorem valuesOf (b : Nat) (W : World) : Calls Try.prog 35 #[.map (some b)] W fun e w' => e = .returned (.func (.func 43) #[] #[.pointer (some ⟨W.heap.size, 0, none⟩)]) ∧ w' = W.alloc (.cells #[.map (some b)] 52) := by
  have hmf : ∀ (fn : Fn) (first cap : Array Value) (w : World), (Instr.makeFunc fn first cap).run Try.prog w = .ok (.func fn first cap) w := fun _ _ _ _ => rfl
  go_enter Try.func35, Try.ntmps35
  go_wp2
  go_ret
  exact ⟨rfl, rfl⟩
/-- What was collected so far: the owners of those that are no longer to come. -/
def ColO (f : Int → Int) (K : Int → Prop) (left : Lit → Bool) (acc : List Wn) : Prop := acc.Nodup ∧ ∀ o, o ∈ acc ↔ (K o.2 ∧ f o.1 = o.2 ∧ left (kS o.2) = false)
theorem ColO.step {f : Int → Int} {K : Int → Prop} {left : Lit → Bool} {acc xs : List Wn} {x : Int} (h : ColO f K left acc) (hK : ∀ t, K t → wfI t) (hx : K x) (hl : left (kS x) = true) (hxs : AllW (fun a => f a = x) x xs) : ColO f K (fun z => left z && !z.sameKey (kS x)) (acc ++ xs) := by
  obtain ⟨h1, h2⟩ := h
  obtain ⟨h3, h4⟩ := hxs
  refine ⟨List.nodup_append.2 ⟨h1, h3, fun a ha b hb => ?_⟩, fun o => ?_⟩
  · rintro rfl
    have e1 := ((h2 a).1 ha).2.2
    rw [((h4 a).1 hb).2, hl] at e1
    cases e1
  · rw [List.mem_append, h2 o, h4 o]
    by_cases e : o.2 = x
    · constructor
      · rintro (⟨_, _, c⟩ | ⟨a, b⟩)
        · rw [e, hl] at c; cases c
        · exact ⟨e ▸ hx, (show f o.1 = x from a).trans e.symm, by simp [e, WideAt.sameKey_self (kS_key x)]⟩
      · rintro ⟨_, b, _⟩
        exact Or.inr ⟨b.trans e, e⟩
    · constructor
      · rintro (⟨a, b, c⟩ | ⟨_, b⟩)
        · exact ⟨a, b, by simp [c]⟩
        · exact absurd b e
      · rintro ⟨a, b, c⟩
        refine Or.inl ⟨a, b, ?_⟩
        have hs : (kS o.2).sameKey (kS x) = false := by
          cases hh : (kS o.2).sameKey (kS x) with
          | false => rfl
          | true => exact absurd (kS_inj (hK _ a) (hK x hx) (WideAt.sameKey_eq hh)) e
        simpa [hs] using c

set_option maxHeartbeats 4000000 in
set_option maxRecDepth 4000 in
/-- '(heldLocks).owners'. -/
theorem ownersL {w : World} {base h n : Nat} {f : Int → Int} {K : Int → Prop} {L : List Wn} (H : HeldAt w base h n f K) (hn : n ≤ 100) (hL : L.Pairwise (fun x y => x.1 < y.1)) (hm : ∀ o, o ∈ L ↔ (f o.1 = o.2 ∧ o.2 ≠ 0)) :
    Calls Try.prog 21 #[.map (some h)] w fun e w' => ∃ z, e = .returned z ∧ Below w.heap.size w w' ∧ OwO w.heap.size w' z L := by
  obtain ⟨D, B, hd⟩ := H
  have HD := hide hd
  have HL := hide hL
  have HM := hide hm
  have HW : Hid (∀ t, K t → wfI t) := fun t ht => wfI_of (by have := hd.txn t ht; omega) (by have := hd.txn t ht; omega)
  have hlow := hd.low
  have hhl := hd.own.lt
  have hsl := hd.own.size_le
  clear hd hL hm
  go_enter Try.func21, Try.ntmps21
  go_wp2_with (first
    | (at_range; refine wpList_range_own _ rfl _ 46 rfl 54 52 lawH Try.underlying46 _ h n _ rfl HD.out.own ?_; intro w0 hrg0 hg0 hs0)
    | go_in)
  go_frame
  have HR0 := hide hrg0
  have HB0 := hide ((Below.refl w.heap.size w).grown hg0 (Nat.le_refl _) (fun j hj => by cases hj))
  clear hrg0 hg0
  go_loopw [3, 8] (fun v _ wr => ∃ (left : Lit → Bool) (cnt : Nat) (acc : List Wn), Hid (wr.ranges Try.prog 54 asV h w.heap.size n D left cnt) ∧ acc.length + cnt * 100 ≤ Maps.size D * 100 ∧ Hid (ColO f K left acc) ∧ Hid (wr.ownsRow w.heap.size 40 2 v acc.length (cellsW acc)) ∧ Hid (Below w.heap.size w wr)) (fun _ _ wr => wr.rangeLeft h w.heap.size)
  case atStart => exact ⟨_, _, [], HR0.out, by simp, ⟨List.nodup_nil, fun o => ⟨fun hh => absurd hh (by simp), fun ⟨hh, _, hl⟩ => by rw [(HD.out.has o.2 (HW.out _ hh)).2 hh] at hl; cases hl⟩⟩, ⟨rfl, .inl ⟨rfl, rfl⟩⟩, HB0.out⟩
  case round =>
    obtain ⟨left, cnt, acc, HR, hcs, HC, HRow, HB⟩ := hrel
    go_wp2_with (first
      | (at_next; refine wpList_next_ranges _ rfl _ rfl 54 lawH asV (fun x : Int => .agg #[.int .i64 x]) (fun v : Value => v) (fun key kl hk => by obtain ⟨x, e, _⟩ := keyH_inv hk; exact ⟨x, e⟩) (fun v _ _ => ⟨v, rfl⟩) h w.heap.size n D left cnt rfl HR.out ?_ ?_)
      | go_in)
    · intro _ hl0
      have hperm : acc.Perm L := (List.perm_ext_iff_of_nodup HC.out.1 (HL.out.imp (fun hh e => by rw [e] at hh; omega))).2 (fun o => by
        rw [HC.out.2 o, HM.out o]
        constructor
        · rintro ⟨a, b, _⟩; exact ⟨b, by have := HD.out.txn _ a; omega⟩
        · rintro ⟨a, b⟩; exact ⟨by have := (HD.out.some_ o.1 (by rw [a]; exact b)).1; rw [a] at this; exact this, a, hl0 _⟩)
      have HPm := hide hperm
      rcases HRow.out.2 with ⟨hnil, hss⟩ | ⟨g, cap, cur, hv, hbase, hb, k1, k2, k3, k4⟩
      · subst hnil
        have hs0 : acc = [] := List.length_eq_zero_iff.1 hss
        subst hs0
        have hL0 : L = [] := hperm.symm.eq_nil
        subst hL0
        have hcon := fun fv => AnyF.slices_SortFunc_none Try.sortFA none 0 fv wr
        change ∀ fv, Calls Try.prog 36 _ _ _ at hcon
        have HCn := hide hcon
        clear hcon hperm
        go_wp2_with fail
        refine (HCn.out _).mono ?_
        rintro e w' ⟨rfl, rfl⟩
        go_wp2
        go_ret
        exact ⟨_, rfl, HB.out, OwO_nil _ _⟩
      · subst hv
        have hgl : g < wr.heap.size := (Array.getElem?_eq_some_iff.1 hb).1
        have hcon := Go.Proofs.AnyQ.slices_SortFunc Try.sortFA 2 (fun w => by kernel_rfl) (fun w => by kernel_rfl) encV (fun _ => rfl) (fun x v hv => by simp [encV] at hv; rcases hv with rfl | rfl <;> rfl) (fun x y : Wn => Lib.compareInt x.1 y.1) swoAt 37 #[] g 0 cap acc.toArray wr (enters_of Try.func37 (by kernel_rfl) rfl) (fun _ _ _ _ x y => byAt x y _) (holdsW hb (by simpa using k4)) hgl (by simp; omega)
        change Calls Try.prog 36 _ _ _ at hcon
        have es : acc.toArray.size = acc.length := by simp
        rw [es] at hcon
        have HCn := hide hcon
        have Hb := hide hb
        have K1 := hide k1
        have K2 := hide k2
        have K3 := hide k3
        clear hcon hb k1 k2 k3 k4 hperm es
        obtain ⟨l, hl⟩ : ∃ l, acc.length = l := ⟨_, rfl⟩
        have HLs := hide hl
        rw [hl] at HCn HRow hcs ⊢
        clear hl
        go_wp2_with fail
        refine HCn.out.mono ?_
        rintro e w' ⟨rfl, d', nn, os, hp, hs, hw'⟩
        have HF : Hid (Below w.heap.size w w' ∧ OwO w.heap.size w' (.slice (some ⟨g, 0, none⟩) l cap) L) := by
          have hu := sorted_unique (L := L) (acc := acc) (d' := d') (by simpa [HLs.out] using hp) (by simpa [HLs.out] using hs) HL.out HPm.out
          have hdd : d' = L.toArray := by rw [← hu]
          have hLl : L.length = acc.length := HPm.out.length_eq.symm
          rw [hw', hdd]
          refine ⟨HB.out.grown (grown_sortedW _) HB.out.size (fun j hj => by injection hj with hj; omega), ?_⟩
          have hrow := rowW_sorted (n := nn) (os := os) hLl hbase Hb.out K1.out K2.out K3.out
          rw [HLs.out] at hrow
          exact owO_of_row hrow (by rw [hLl, HLs.out]) (by omega)
        clear hw' hp hs
        go_wp2
        go_ret
        exact ⟨_, rfl, HF.out.1, HF.out.2⟩
    · intro x c kl yd yp w1 cnt1 hkey hlk hv hat hrg1 hlt hg1 hs1 hen
      obtain ⟨x', e, wx, rfl⟩ := keyH_inv hkey
      obtain rfl : x = x' := by
        injection e with e
        injection e with e
        injection e with e
        injection e
      have hy : yd = .held c := by
        simp [asV] at hv
        exact hv.1.symm
      subst hy
      have hKx : K x := (HD.out.has x wx).1 (has_of_at hat)
      have hc : c = .map (some (B x)) := by
        have h1 := hat (.held (.map none))
        rw [HD.out.at_ x hKx] at h1
        injection h1 with h1
        exact h1.symm
      subst hc
      have hrr := row_ne_iter HRow.out HR.out
      have hrow1 := HRow.out.kept hg1 (Or.inr hrr.symm)
      have HB1 := hide (HB.out.grown hg1 HB.out.size (fun j hj => by injection hj with hj; omega))
      obtain ⟨D2, hD2⟩ := ((HD.out.later HB1.out).locks x hKx).2.2
      have HD2 := hide hD2
      have hs2 := hD2.1.size_le
      have HC1 := hide (fun xs hxs => HC.out.step (xs := xs) HW.out hKx hlk hxs)
      have HR1 := hide hrg1
      have HRow1 := hide hrow1
      have HPw : Hid (∀ a, f a = x → wfI a) := fun a ha => by
        have h0 := HD.out.txn x hKx
        have hb := (HD.out.some_ a (by rw [ha]; omega)).2
        exact wfI_of (by omega) (by omega)
      obtain ⟨bx, hbx⟩ : ∃ b, B x = b := ⟨_, rfl⟩
      rw [hbx] at HD2 hen
      rw [hbx]
      have HAp := hide (fun (W : World) (hW : W = w1.alloc (.cells #[.map (some bx)] 52)) => appendSeqW (w := W) (n0 := w.heap.size) (v := u3) (k := acc.length) (xs0 := acc) (g := 43) (lb := #[.pointer (some ⟨w1.heap.size, 0, none⟩)]) (S := AllW (fun a => f a = x) x) (N := Maps.size D2) (by rw [hW]; exact HRow1.out.alloc _) (by rw [hW]; have := HB1.out.size; simp; omega)
        (enters_of Try.func43 (by kernel_rfl) rfl) (fun m => valStops (n := n) (b := bx) (D := D2) ⟨by rw [hW]; exact HD2.out.1.alloc _, HD2.out.2.1, HD2.out.2.2⟩ HPw.out (by rw [hW]; simp [go_sem]) m) (by omega))
      have hzz := HB1.out.size
      clear hkey hlk hv hat hrg1 hg1 hs1 hKx hrr hrow1 wx e hD2
      obtain ⟨l, hl⟩ : ∃ l, acc.length = l := ⟨_, rfl⟩
      have HLs := hide hl
      rw [hl] at hcs HAp
      clear hl
      go_wp2_with fail
      refine (valuesOf bx w1).mono ?_
      rintro e w2 ⟨rfl, hw2⟩
      have HAp2 := hide (HAp.out w2 hw2)
      have HB2 := hide (show Below w.heap.size w w2 by rw [hw2]; exact below_on HB1.out (below_alloc _ _))
      have HR2 := hide (show w2.ranges Try.prog 54 asV h w.heap.size n D _ cnt1 by rw [hw2]; exact HR1.out.kept (World.grownBy_alloc w1 _ none) (by simp) (by simp))
      clear hw2 HAp
      go_wp2_with fail
      refine HAp2.out.mono ?_
      rintro e w3 ⟨u, xs, rfl, hS, hxl, hrow3, hb3, hk3⟩
      obtain ⟨au, cu, rfl⟩ : ∃ au cu, u = .slice au (l + xs.length) cu := by
        rcases hrow3.2 with ⟨rfl, h0⟩ | ⟨g, cap, cur, rfl, _⟩
        · exact ⟨none, 0, by rw [h0]⟩
        · exact ⟨_, _, rfl⟩
      have HRow3 : Hid (w3.ownsRow w.heap.size 40 2 (.slice au (l + xs.length) cu) (acc ++ xs).length (cellsW (acc ++ xs))) := by
        have e : (acc ++ xs).length = l + xs.length := by rw [List.length_append, HLs.out]
        rw [Hid, e]
        exact hrow3
      have HR3 := hide (HR2.out.of_walks hk3)
      have HB3 := hide (HB2.out.trans hb3)
      have HC3 := hide (HC1.out xs hS)
      have hcs3 : (acc ++ xs).length + cnt1 * 100 ≤ Maps.size D * 100 := by rw [List.length_append, HLs.out]; omega
      have HMs : Hid (w3.rangeLeft h w.heap.size < wr.rangeLeft h w.heap.size) := by
        unfold Hid
        rw [HR3.out.left_eq, HR.out.left_eq]
        exact hlt
      clear hrow3 hb3 hk3 hS
      go_wp2
      go_roundw
      case rel => exact ⟨_, _, acc ++ xs, HR3.out, hcs3, HC3.out, HRow3.out, HB3.out⟩
      case measure => exact HMs.out
end Go.Proofs.Ytkpkoapcmnapoab
