/- Chapter 6: '(lockSet).rising', 'HeldBy' of both sides, walked. -/
import Derived.Test.YtkpkoapcmnapoabLkSp
import Derived.Test.YtkpkoapcmnapoabShelf
import Derived.Shelf.SortM.Plain
import Derived.Shelf.SortM.SortNone
import Derived.Sort.OwnSorted
import Derived.Sort.OwnSortedInts
import Derived.Deep.AppendLies
namespace Go.Proofs.Ytkpkoapcmnapoab
open Go.RowKit Go.Maps Go.Sort Go.Shelf

theorem Try.infoI6 : (Try.prog.info? 2).map (fun i => (i.zero, i.size, i.bytes)) = some (some (.int .i64 0), 1, 8) := by kernel_rfl
/-- What was collected so far: each key once, those that are no longer to come. -/
def ColL (p : Int → Prop) (left : Lit → Bool) (ss : List Int) : Prop := ss.Nodup ∧ ∀ x, x ∈ ss ↔ (p x ∧ left (kS x) = false)
theorem ColL.step {p : Int → Prop} {left : Lit → Bool} {ss : List Int} {x : Int} (h : ColL p left ss) (hp : ∀ a, p a → wfI a) (hx : p x) (hl : left (kS x) = true) : ColL p (fun z => left z && !z.sameKey (kS x)) (ss ++ [x]) := by
  obtain ⟨h1, h2⟩ := h
  have hn : x ∉ ss := fun hm => by rw [((h2 x).1 hm).2] at hl; cases hl
  refine ⟨List.nodup_append.2 ⟨h1, by simp, fun a ha b hb => by simp at hb; subst hb; rintro rfl; exact hn ha⟩, fun y => ?_⟩
  rw [List.mem_append, h2 y, List.mem_singleton]
  by_cases e : y = x
  · subst e
    simp [hx, WideAt.sameKey_self (kS_key y)]
  · constructor
    · rintro (⟨a, b⟩ | h)
      · exact ⟨a, by simp [b]⟩
      · exact absurd h e
    · rintro ⟨a, b⟩
      refine Or.inl ⟨a, ?_⟩
      have hs : (kS y).sameKey (kS x) = false := by
        cases hh : (kS y).sameKey (kS x) with
        | false => rfl
        | true => exact absurd (kS_inj (hp y a) (hp x hx) (WideAt.sameKey_eq hh)) e
      simpa [hs] using b
theorem ColL.sorted {p : Int → Prop} {left : Lit → Bool} {ss L : List Int} (h : ColL p left ss) (hl : ∀ kl, left kl = false) (hL : L.Pairwise (· < ·)) (hm : ∀ a, a ∈ L ↔ p a) : ss.mergeSort (fun x y => decide (x ≤ y)) = L := by
  have hp : ss.Perm L := (List.perm_ext_iff_of_nodup h.1 (hL.imp (fun h => by omega))).2 (fun a => by rw [h.2 a, hm a]; simp [hl])
  have := mergeSort_of_perm_i hp
  unfold leI at this
  rw [this]
  exact List.mergeSort_of_pairwise (hL.imp (fun h => by simp; omega))

set_option maxHeartbeats 2000000 in
set_option maxRecDepth 4000 in
/-- '(lockSet).rising': the places of the locks, rising, in new memory. -/
theorem risingL {w : World} {b n : Nat} {t : Int} {p : Int → Prop} {L : List Int} (H : LocksAt w b n t p) (hn : n ≤ 1048576) (hL : L.Pairwise (· < ·)) (hm : ∀ a, a ∈ L ↔ p a) (hp : ∀ a, p a → wfI a) :
    Calls Try.prog 26 #[.map (some b)] w fun e w' => ∃ z, e = .returned z ∧ Below w.heap.size w w' ∧ OwI w.heap.size w' z L := by
  obtain ⟨D, h1, h2, h3⟩ := H
  have HL := hide hL
  have HM := hide hm
  have HP := hide hp
  have HH := hide h2
  have H3 := hide h3
  have hbl := h1.lt
  have hsl := h1.size_le
  have HOw := hide h1
  obtain ⟨i0, hi, hz0, hz1, hz2⟩ := info_parts Try.infoI6
  clear hL hm hp h2 h3 h1
  go_enter Try.func26, Try.ntmps26
  go_wp2_with (first
    | (at_range; refine wpList_range_own _ rfl _ 52 rfl 63 40 lawL Try.underlying52 _ b n _ rfl HOw.out ?_; intro w0 hrg0 hg0 hs0)
    | go_in)
  go_frame
  have HR0 := hide hrg0
  have HB0 := hide ((Below.refl w.heap.size w).grown hg0 (Nat.le_refl _) (fun j hj => by cases hj))
  clear hrg0 hg0
  go_loopw [3, 7] (fun v _ wr => ∃ (left : Lit → Bool) (cnt : Nat) (ss : List Int), Hid (wr.ranges Try.prog 63 asV b w.heap.size n D left cnt) ∧ ss.length + cnt ≤ Maps.size D ∧ Hid (ColL p left ss) ∧ Hid (wr.ownsRow w.heap.size 2 1 v ss.length (ss.map (Value.int .i64))) ∧ Hid (Below w.heap.size w wr)) (fun _ _ wr => wr.rangeLeft b w.heap.size)
  case atStart => exact ⟨_, _, [], HR0.out, by simp, ⟨List.nodup_nil, fun x => ⟨fun h => absurd h (by simp), fun ⟨h, hl⟩ => by rw [(HH.out x (HP.out x h)).2 h] at hl; cases hl⟩⟩, ⟨rfl, .inl ⟨rfl, rfl⟩⟩, HB0.out⟩
  case round =>
    obtain ⟨left, cnt, ss, HR, hcs, HC, HRow, HB⟩ := hrel
    rename Value => v
    go_wp2_with (first
      | (at_next; refine wpList_next_ranges _ rfl _ rfl 63 lawL asV (fun x : Int => .agg #[.int .i64 x]) (fun v : Value => v) (fun key kl hk => by obtain ⟨x, e, _⟩ := keyL_inv hk; exact ⟨x, e⟩) (fun v _ _ => ⟨v, rfl⟩) b w.heap.size n D left cnt rfl HR.out ?_ ?_)
      | go_in)
    · intro _ hl0
      have HSo := hide (HC.out.sorted hl0 HL.out HM.out)
      rcases HRow.out.2 with ⟨hnil, hss⟩ | ⟨g, cap, cur, hv, hbase, hb, k1, k2, k3, k4⟩
      · subst hnil
        have hs0 : ss = [] := List.length_eq_zero_iff.1 hss
        subst hs0
        have hL0 : L = [] := by rw [← HSo.out]; simp
        subst hL0
        have hcon := AnyM.slices_Sort_int_none Try.sortA none 0 wr
        change Calls Try.prog 41 _ _ _ at hcon
        have HCn := hide hcon
        clear hcon
        go_wp2_with fail
        refine HCn.out.mono ?_
        rintro e w' ⟨rfl, rfl⟩
        go_wp2
        go_ret
        exact ⟨_, rfl, HB.out, OwI_nil _ _⟩
      · subst hv
        have hgl : g < wr.heap.size := (Array.getElem?_eq_some_iff.1 hb).1
        have hcon := AnyM.slices_Sort_int Try.sortA g 0 cap ss wr (holds_of_blockI hb (by simpa using k4)) hgl (by omega)
        change Calls Try.prog 41 _ _ _ at hcon
        rw [HSo.out] at hcon
        have hLl : L.length = ss.length := by rw [← HSo.out]; simp
        have HCn := hide hcon
        have HLl := hide hLl
        have Hb := hide hb
        have K1 := hide k1
        have K2 := hide k2
        have K3 := hide k3
        clear hcon hLl hb k1 k2 k3 k4
        obtain ⟨l, hl⟩ : ∃ l, ss.length = l := ⟨_, rfl⟩
        have HLs := hide hl
        rw [hl] at HCn HRow hcs ⊢
        clear hl
        go_wp2_with fail
        refine HCn.out.mono ?_
        rintro e w' ⟨rfl, nn, os, hw'⟩
        have HF : Hid (Below w.heap.size w w' ∧ OwI w.heap.size w' (.slice (some ⟨g, 0, none⟩) l cap) L) := by
          rw [hw']
          refine ⟨HB.out.grown (grownBy_sortedI _) HB.out.size (fun j hj => by injection hj with hj; omega), ?_⟩
          have h := ownsRow_sortedI (n := nn) (os := os) HLl.out hbase Hb.out K1.out K2.out K3.out
          rw [HLs.out] at h
          exact ow_of_owns (by rw [HLl.out, HLs.out]) h (by rw [HLl.out, HLs.out]; omega)
        clear hw'
        go_wp2
        go_ret
        exact ⟨_, rfl, HF.out.1, HF.out.2⟩
    · intro x c kl yd yp w1 cnt1 hkey hlk hv hat hrg1 hlt hg1 hs1 hen
      obtain ⟨x', e, wx, rfl⟩ := keyL_inv hkey
      obtain rfl : x = x' := by
        injection e with e
        injection e with e
        injection e with e
        injection e
      have hy : yd = .held c := by
        simp [asV] at hv
        exact hv.1.symm
      subst hy
      have hpx : p x := (HH.out x wx).1 (has_of_at hat)
      have HC1 := hide (HC.out.step HP.out hpx hlk)
      have hrr := row_ne_iter HRow.out HR.out
      have hrb := row_ne_low HRow.out hbl
      have hrow1 := HRow.out.kept hg1 (Or.inr hrr.symm)
      have HB1 := hide (HB.out.grown hg1 HB.out.size (fun j hj => by injection hj with hj; omega))
      obtain ⟨k, hk⟩ : ∃ k, ss.length = k := ⟨_, rfl⟩
      have HK := hide hk
      rw [hk] at hrow1 hcs
      have HRow1 := hide hrow1
      have HR1 := hide hrg1
      have Hrr := hide hrr
      have Hrb := hide hrb
      have hzz := HB1.out.size
      clear hkey hlk hv hat hrg1 hg1 hs1 hpx hrr hrb hrow1 hk wx e
      go_wp2_with (at_builtin; refine wpList_append_lies _ rfl _ _ _ rfl w.heap.size 2 i0 (.int .i64 0) 1 8 Try.underlying31 hi hz0 hz1 hz2 rfl (by omega) _ k _ (by rfl) ((HRow1.out.alloc (.cells #[.int .i64 x] 63)).alloc (.cells #[.int .i64 x] 2)) ⟨w1.heap.size + 1, 0, none⟩ 1 1 [.int .i64 x] (by rfl) (by rfl) (World.news_of_block (cs := #[.int .i64 x]) (t := 2) (fr := (0, 0)) (by have h := heap_alloc_new (w1.alloc (.cells #[.int .i64 x] 63)) (.cells #[.int .i64 x] 2); simpa using h)) (by simp [Value.oneCell']) (by omega) (by unfold maxLen; omega) (by omega) (by simp; omega) (w1.heap.size + 1 + 1) (by simp) ?_; intro g cap w4 hown3 hgrow hat hlt3)
      have HRow4 : Hid (w4.ownsRow w.heap.size 2 1 (.slice (some ⟨g, 0, none⟩) (k + 1) cap) (ss ++ [x]).length ((ss ++ [x]).map (Value.int .i64))) := by
        have e : (ss ++ [x]).length = k + 1 := by simp [HK.out]
        rw [Hid, e]
        simpa using hown3
      have bA := below_on (below_alloc w1 (.cells #[.int .i64 x] 63)) (below_alloc _ (.cells #[.int .i64 x] 2))
      have HR4 := hide ((HR1.out.kept (grown_belowW (row := none) bA) (by simp) (by simp)).kept hgrow Hrb.out Hrr.out)
      have HB4 := hide ((below_on HB1.out bA).grown hgrow (by simp; omega) (fun j hj => (HRow1.out.lt j hj).1))
      have hcs4 : (ss ++ [x]).length + cnt1 ≤ Maps.size D := by simp [HK.out]; omega
      have HMs : Hid (w4.rangeLeft b w.heap.size < wr.rangeLeft b w.heap.size) := by
        unfold Hid
        rw [HR4.out.left_eq, HR.out.left_eq]
        exact hlt
      clear hown3 hgrow hat hlt3 bA
      go_wp2
      go_roundw
      case rel => exact ⟨_, _, ss ++ [x], HR4.out, hcs4, HC1.out, HRow4.out, HB4.out⟩
      case measure => exact HMs.out

set_option maxHeartbeats 1000000 in
set_option maxRecDepth 4000 in
/-- .. of none. -/
theorem risingL_nil (w : World) : Calls Try.prog 26 #[.map none] w fun e w' => ∃ z, e = .returned z ∧ Below w.heap.size w w' ∧ OwI w.heap.size w' z [] := by
  have hrg := run_range_nilMap (P := Try.prog) w 52 63 40 Try.underlying52
  have hnx : ∀ ty, (Instr.next (.pointer (some ⟨w.heap.size, 0, none⟩)) false ty).run Try.prog (w.alloc (.mapIter none 0 #[] 0)) = _ := fun ty => run_next_nilMap _ ty 0 0 #[]
  have hcon := fun (wr : World) => AnyM.slices_Sort_int_none Try.sortA none 0 wr
  have HCn : Hid (∀ wr, Calls Try.prog 41 #[.slice none 0 0] wr fun e w' => e = .returned (.tuple #[]) ∧ w' = wr) := hcon
  clear hcon
  go_enter Try.func26, Try.ntmps26
  go_wp2
  refine wp_loop_rounds 1 ?_
  rw [rounds_succ]
  go_wp2_with fail
  refine (HCn.out _).mono ?_
  rintro e w' ⟨rfl, rfl⟩
  go_wp2
  go_ret
  exact ⟨_, rfl, below_alloc _ _, OwI_nil _ _⟩

/-- The locks of t, rising. -/
def hbL (os : List Wn) (t : Int) : List Int := (os.filter (fun o => o.2 == t)).map Prod.fst
theorem own_pair {os : List Wn} (h : Own os) : os.Pairwise (fun x y => x.1 < y.1) := by
  rw [List.pairwise_iff_getElem]
  intro i j hi hj hij
  have := own_up h i j hij hj
  simpa [List.getD, hi, hj] using this
theorem hbL_up {os : List Wn} (h : Own os) (t : Int) : (hbL os t).Pairwise (· < ·) := by
  unfold hbL
  rw [List.pairwise_map]
  exact (own_pair h).filter _
theorem own_mem {os : List Wn} (h : Own os) {o : Wn} (ho : o ∈ os) : (0 ≤ o.1 ∧ o.1 < 40) ∧ 0 < o.2 ∧ o.2 ≤ 99 := by
  obtain ⟨i, hi, rfl⟩ := List.mem_iff_getElem.1 ho
  have h1 := h.home i hi
  have h2 := h.txn i hi
  simp [List.getD, hi] at h1 h2
  exact ⟨h1, h2⟩
theorem own_uniq {os : List Wn} (h : Own os) {o o' : Wn} (ho : o ∈ os) (ho' : o' ∈ os) (e : o.1 = o'.1) : o = o' := by
  obtain ⟨i, hi, rfl⟩ := List.mem_iff_getElem.1 ho
  obtain ⟨j, hj, rfl⟩ := List.mem_iff_getElem.1 ho'
  have h1 := List.pairwise_iff_getElem.1 (own_pair h)
  by_cases hij : i < j
  · have := h1 i j hi hj hij; omega
  · by_cases hji : j < i
    · have := h1 j i hj hi hji; omega
    · have : i = j := by omega
      subst this
      rfl
theorem ownr_iff {os : List Wn} (h : Own os) {a t : Int} (ht : t ≠ 0) : ownr os a = t ↔ (a, t) ∈ os := by
  unfold ownr
  constructor
  · intro hf
    cases hx : os.find? (fun o => o.1 == a) with
    | none => rw [hx] at hf; exact absurd hf.symm ht
    | some o =>
      rw [hx] at hf
      have h1 := List.mem_of_find?_eq_some hx
      have h2 := List.find?_some hx
      simp at h2 hf
      have : o = (a, t) := Prod.ext h2 hf
      exact this ▸ h1
  · intro hm
    cases hx : os.find? (fun o => o.1 == a) with
    | none => exact absurd (List.find?_eq_none.1 hx _ hm) (by simp)
    | some o =>
      have h1 := List.mem_of_find?_eq_some hx
      have h2 := List.find?_some hx
      simp at h2
      rw [own_uniq h h1 hm h2]
theorem hbL_mem {os : List Wn} (h : Own os) {t : Int} (ht : t ≠ 0) (a : Int) : a ∈ hbL os t ↔ ownr os a = t := by
  rw [ownr_iff h ht]
  unfold hbL
  simp
theorem hbL_none {os : List Wn} {t : Int} (h : ¬ holds os t) : hbL os t = [] := by
  unfold hbL
  rw [List.map_eq_nil_iff, List.filter_eq_nil_iff]
  intro o ho e
  obtain ⟨i, hi, rfl⟩ := List.mem_iff_getElem.1 ho
  exact h ⟨i, hi, by simpa [List.getD, hi] using e⟩
/-- What 'HeldBy' answers. -/
def hbC (os : List Wn) (t : Int) : Int := if ownF os ≠ 0 then ownF os else if 0 < t ∧ t ≤ 99 then 0 else 3
def hbR (os : List Wn) (t : Int) : List Int := if hbC os t = 0 then hbL os t else []
theorem hbR_len (os : List Wn) (t : Int) : (hbR os t).length ≤ 1048576 := by
  unfold hbR
  by_cases h : hbC os t = 0
  · rw [if_pos h]
    have h0 : ownF os = 0 := by
      unfold hbC at h
      by_cases h1 : ownF os = 0
      · exact h1
      · rw [if_pos h1] at h; exact absurd h h1
    have := (own_of h0).len
    have h2 : (hbL os t).length ≤ os.length := by unfold hbL; rw [List.length_map]; exact List.length_filter_le _ _
    omega
  · rw [if_neg h]; simp
theorem hbC_ok {os : List Wn} {t : Int} (h : hbC os t = 0) : ownF os = 0 ∧ 0 < t ∧ t ≤ 99 := by
  unfold hbC at h
  by_cases h1 : ownF os = 0
  · rw [if_neg (by simp [h1])] at h
    by_cases h2 : 0 < t ∧ t ≤ 99
    · exact ⟨h1, h2⟩
    · rw [if_neg h2] at h; exact absurd h (by decide)
  · rw [if_pos h1] at h; exact absurd h h1
/-- A code with a list in a variable's two cells, behind the stores. -/
theorem ret_code {w w3 : World} {B r : Nat} {z : Value} {xs : List Int} {x : Value} (hb : Below w.heap.size w w3) (hr : w.heap.size ≤ r) (ho : OwI B w3 z xs) (hB : r < B) :
    Below w.heap.size w ((w3.setCell ⟨r, 0, none⟩ x).setCell ⟨r, 1, none⟩ z) ∧ OwI w.heap.size ((w3.setCell ⟨r, 0, none⟩ x).setCell ⟨r, 1, none⟩ z) z xs :=
  ⟨(hb.setCell hr _).setCell hr _, (ho.wr (((Wr.refl (· = r) w3).setCell (p := ⟨r, 0, none⟩) rfl _).setCell (p := ⟨r, 1, none⟩) rfl _) (fun b h1 _ e => by subst e; omega)).mono (by omega)⟩

set_option maxHeartbeats 2000000 in
set_option maxRecDepth 4000 in
theorem implHeldBy {S : Nat → Prop} {w : World} {v : Value} {os : List Wn} (t : Int) (hv : RdO S w v os) :
    Calls Try.prog 9 #[v, .int .i64 t] w (EndsI (hbC os t) (hbR os t) w) := by
  obtain ⟨ao, c, rfl⟩ := hv.shape
  have HV := hide hv
  obtain ⟨m, hm⟩ : ∃ m, os.length = m := ⟨_, rfl⟩
  rw [hm] at HV ⊢
  clear hv hm
  obtain ⟨r, hr⟩ : ∃ r, decide (0 < t ∧ t ≤ 99) = r := ⟨_, rfl⟩
  have HRr := hide hr
  have HZ : Hid ((if ownF os ≠ 0 then ownF os else if r = true then 0 else 3) = hbC os t) := by
    unfold Hid hbC
    rw [← hr]
    simp
  clear hr
  obtain ⟨z, hz⟩ : ∃ z, hbC os t = z := ⟨_, rfl⟩
  have HOk := hide (@hbC_ok os t)
  obtain ⟨R, hR⟩ : ∃ R, hbR os t = R := ⟨_, rfl⟩
  have HR := hide hR
  unfold hbR at HR
  rw [hz] at HZ HOk HR ⊢
  rw [hR]
  clear hz hR
  by_cases hz0 : z = 0
  · subst hz0
    obtain ⟨h0, ht1, ht2⟩ := HOk.out rfl
    have HOw := hide (own_of h0)
    have HRe : Hid (hbL os t = R) := by have := HR.out; rw [if_pos rfl] at this; exact this
    have HT := hide (show 0 < t ∧ t ≤ 99 from ⟨ht1, ht2⟩)
    clear h0 ht1 ht2 HR HOk
    go_enter Try.func9, Try.ntmps9
    go_wp2_with fail
    refine (isTxnB t _).mono ?_
    rintro e w1 ⟨he, rfl⟩
    rw [HRr.out] at he
    subst he
    go_wp2_with fail
    refine (askFaultL r (HV.out.later (below_alloc _ _))).mono ?_
    rintro e w2 ⟨he, hb⟩
    rw [HZ.out] at he
    subst he
    have HB2 := hide (below_on (below_alloc _ _) hb)
    have c0 : w2.cell? ⟨w.heap.size, 0, none⟩ = some (.int .i64 0) := cell_later hb (by simp [go_sem])
    have c1 : w2.cell? ⟨w.heap.size, 1, none⟩ = some (.slice none 0 0) := cell_later hb (by simp [go_sem])
    have f0 : ∀ o, w2.frozen? ⟨w.heap.size, o, none⟩ = false := fun o => ((bcell hb).2 _ _ (by simp)).trans (by simp [go_sem])
    clear hb
    go_wp2_with fail
    refine (heldInL (HV.out.later HB2.out) HOw.out).mono ?_
    rintro e w3 ⟨h, rfl, hb, hd⟩
    have HB3 := hide (below_on HB2.out hb)
    have d0 := cell_later hb c0
    have d1 := cell_later hb c1
    have f1 : ∀ o, w3.frozen? ⟨w.heap.size, o, none⟩ = false := fun o => ((bcell hb).2 _ _ (World.block_lt_of_cell? _ _ c0)).trans (f0 o)
    clear hb c0 c1 f0 HB2
    obtain ⟨D, B, hd⟩ := hd
    have hw3 : w.heap.size < w3.heap.size := World.block_lt_of_cell? _ _ d0
    have tail : Hid (∃ x : Option Nat, (Instr.lookup 46 (.map (some h)) (.agg #[.int .i64 t]) false).run Try.prog w3 = .ok (.map x) w3 ∧ Calls Try.prog 26 #[.map x] w3 fun e w' => ∃ z, e = .returned z ∧ Below w3.heap.size w3 w' ∧ OwI w3.heap.size w' z R) := by
      have hT := HT.out
      by_cases hK : holds os t
      · refine ⟨some (B t), hd.look hK, ?_⟩
        refine risingL (hd.locks t hK).2.2 (by have := HOw.out.len; omega) ?_ ?_ (fun a ha => ?_)
        · rw [← HRe.out]; exact hbL_up HOw.out t
        · intro a
          rw [← HRe.out]
          exact hbL_mem HOw.out (by omega) a
        · have hb := (hd.some_ a (by rw [ha]; omega)).2
          exact wfI_of (by omega) (by omega)
      · refine ⟨none, hd.look_no (wfI_of (by omega) (by omega)) hK, ?_⟩
        rw [← HRe.out, hbL_none hK]
        exact risingL_nil w3
    obtain ⟨x, hlook, hcall⟩ := tail.out
    have HCall := hide hcall
    clear tail hcall hd
    go_wp2_with fail
    refine HCall.out.mono ?_
    rintro e w4 ⟨zz, rfl, hb, ho⟩
    obtain ⟨az, cz, rfl⟩ := ho.shape
    have HB4 := hide (below_on HB3.out hb)
    have c0 := cell_later hb d0
    have c1 := cell_later hb d1
    have F0 := ((bcell hb).2 _ 0 (World.block_lt_of_cell? _ _ d0)).trans (f1 0)
    have F1 := ((bcell hb).2 _ 1 (World.block_lt_of_cell? _ _ d0)).trans (f1 1)
    have HO := hide ho
    clear hb d0 d1 f1 HB3 hlook ho
    have HF := hide (ret_code (x := .int .i64 0) HB4.out (Nat.le_refl _) HO.out hw3)
    go_wp2
    refine bodyPost_ret (v := .agg #[.int .i64 0, .slice az R.length cz]) (by simp [results, Try.results9, go_sem, c0, c1]) rfl ⟨_, rfl, HF.out.1, HF.out.2⟩
  · have HRe : Hid ([] = R) := by have := HR.out; rw [if_neg hz0] at this; exact this
    have hRe := HRe.out
    subst hRe
    clear HR HOk HRe
    go_enter Try.func9, Try.ntmps9
    go_wp2_with fail
    refine (isTxnB t _).mono ?_
    rintro e w1 ⟨he, rfl⟩
    rw [HRr.out] at he
    subst he
    go_wp2_with fail
    refine (askFaultL r (HV.out.later (below_alloc _ _))).mono ?_
    rintro e w2 ⟨he, hb⟩
    rw [HZ.out] at he
    subst he
    have HB2 := hide (below_on (below_alloc _ _) hb)
    have c0 : w2.cell? ⟨w.heap.size, 0, none⟩ = some (.int .i64 0) := cell_later hb (by simp [go_sem])
    have c1 : w2.cell? ⟨w.heap.size, 1, none⟩ = some (.slice none 0 0) := cell_later hb (by simp [go_sem])
    have F0 : w2.frozen? ⟨w.heap.size, 0, none⟩ = false := ((bcell hb).2 _ _ (by simp)).trans (by simp [go_sem])
    have F1 : w2.frozen? ⟨w.heap.size, 1, none⟩ = false := ((bcell hb).2 _ _ (by simp)).trans (by simp [go_sem])
    clear hb
    go_wp2
    refine bodyPost_ret (v := .agg #[.int .i64 z, .slice none 0 0]) (by simp [results, Try.results9, go_sem, c0, c1]) rfl ⟨_, rfl, ?_, OwI_nil _ _⟩
    exact (HB2.out.setCell (Nat.le_refl _) _).setCell (Nat.le_refl _) _
end Go.Proofs.Ytkpkoapcmnapoab
