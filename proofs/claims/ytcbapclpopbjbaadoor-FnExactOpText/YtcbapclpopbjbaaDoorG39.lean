/- Tx3 in one text: what each says stands at its head below. -/
import Derived.Test.YtcbapclpopbjbaaDoorG18
import Derived.Test.YtcbapclpopbjbaaDoorG34
import Derived.Test.YtcbapclpopbjbaaDoorG38
import Derived.Lib.LaidTab
/- Numbers, lists and lines as texts: the program ('impl.joinedText', 'impl.numbersText', 'impl.listText'). -/
namespace Go.Proofs.YtcbapclpopbjbaaDoor
open Go.RowKit

/-- The table of powers of ten stands as the program's text lays it. -/
def TabP (w : World) : Prop := Lib.TabIs Tryd.prog w "internal/strconv.uint64pow10" .u64 Lib.pow10Tab
theorem TabP.later {w w' : World} (h : TabP w) (hb : Below w.heap.size w w') : TabP w' := by
  unfold TabP Lib.TabIs World.var? at h ⊢
  cases hg : Tryd.prog.globalNamed "internal/strconv.uint64pow10" with
  | none => simp [hg] at h
  | some g =>
    simp only [hg, Option.bind_some] at h ⊢
    have hlt : g < w.heap.size := by
      rcases Nat.lt_or_ge g w.heap.size with h' | h'
      · exact h'
      · simp [Array.getElem?_eq_none h'] at h
    rw [hb.block g hlt]
    exact h
theorem belowGrow (w : World) (k : Nat) (os : Array Obj) : Below w.heap.size w (Sort.grow (w.drewN k) os) := by
  refine ⟨rfl, rfl, rfl, ?_, fun i hi => ?_⟩
  · show _ ≤ (w.heap ++ os).size
    simp
  · show (w.heap ++ os)[i]? = _
    exact Array.getElem?_append_left hi
/-- 'strconv.FormatInt' at base ten. -/
theorem fmtC (x : Int) (h0 : 0 ≤ x) (h1 : x ≤ 9223372036854775807) (w : World) (ht : TabP w) :
    Calls Tryd.prog 80 #[.int .i64 x, .int .i64 10] w fun e w' => e = .returned (.string (str (Lib.itoa x))) ∧ Below w.heap.size w w' :=
  (show Calls Tryd.prog 80 #[.int .i64 x, .int .i64 10] w _ from Any.strconv_FormatInt_10 Tryd.fmtL x (by omega) h1 w ht).mono fun e w' ⟨he, k, os, hw⟩ => ⟨he, by rw [hw]; exact belowGrow w k os⟩
/-- 'strings.Join' of a row that was built. -/
theorem joinC {w : World} {B n : Nat} {v : Value} (ls : List (List UInt8)) (sep : List UInt8) (hn : ls.length = n) (h : w.ownsRow B 9 1 v n ((ls.map str).map Value.string)) (hm : n ≤ 1048577) (hl : (Lib.join ls sep).length ≤ 100000000) :
    Calls Tryd.prog 44 #[v, .string (str sep)] w fun e w' => e = .returned (.string (str (Lib.join ls sep))) ∧ Below w.heap.size w w' := by
  have hmap : (ls.map str).map (·.data.toList) = ls := by
    rw [List.map_map]
    conv => rhs; rw [← List.map_id ls]
    exact List.map_congr_left fun x _ => str_data x
  rcases h.2 with ⟨rfl, e⟩ | ⟨g, cap, cur, rfl, hg, hh, hnc, _⟩
  · have hnil : ls = [] := List.eq_nil_of_length_eq_zero (by omega)
    subst hnil
    exact (show Calls Tryd.prog 44 #[.slice none 0 0, .string (str sep)] w _ from Any.strings_Join_none Tryd.joinL Tryd.joinX none 0 (str sep) w).mono fun e w' ⟨he, hw⟩ => ⟨he, hw ▸ Below.refl _ _⟩
  · have k := Any.strings_Join Tryd.joinL Tryd.joinX g 0 cap (ls.map str) (str sep) w (fun j x hx => by
        have hj : j < n := by have := (List.getElem?_eq_some_iff.1 hx).1; rw [List.length_map] at this; omega
        rw [Nat.zero_add, h.cellAt j (by omega), List.getElem?_map, hx]
        rfl) (Array.getElem?_eq_some_iff.1 hh).1 (by rw [List.length_map]; omega) (by rw [List.length_map, hn]; exact hnc) (by rw [hmap, str_data]; omega)
    rw [hmap, str_data, List.length_map, hn] at k
    exact k
theorem join_len {xs : List Int} (hx : NumsOk xs) (c : UInt8) : (Lib.join (xs.map Lib.itoa) [c]).length ≤ 20 * xs.length := by
  cases xs with
  | nil => simp [Lib.join_nil]
  | cons x r =>
    rw [join_tail, List.length_append]
    have h1 := itoa_len (hx x List.mem_cons_self).1 (hx x List.mem_cons_self).2
    have h2 := tailT_len c r fun y hy => hx y (List.mem_cons_of_mem _ hy)
    simp only [List.length_cons]
    omega

set_option maxRecDepth 4000 in
set_option maxHeartbeats 1000000 in
/-- 'impl.joinedText'. -/
theorem joinedC {S : Nat → Prop} {w : World} {v : Value} {xs : List Int} (c : UInt8) (hv : RdI S w v xs) (hm : xs.length ≤ 1048576) (hx : NumsOk xs) (ht : TabP w) :
    Calls Tryd.prog 66 #[v, .string (str [c])] w fun e w' => e = .returned (.string (str (Lib.join (xs.map Lib.itoa) [c]))) ∧ Below w.heap.size w w' := by
  obtain ⟨i0, hi, hz0, hz1, hz2⟩ := info_parts Tryd.infoStr
  obtain ⟨ao, cv, rfl⟩ := hv.shape
  obtain ⟨n, hn⟩ : ∃ n, xs.length = n := ⟨_, rfl⟩
  have HV := hide hv
  have HX := hide hx
  have HN := hide hn
  have HTb := hide ht
  rw [hn] at hm HV ⊢
  clear hv hx hn ht
  go_enter Tryd.func66, Tryd.ntmps66
  go_wp2
  go_loopw [5, 7, 10] (fun v _ i wr => ∃ (k : Nat) (L : List Value), k ≤ n ∧ i = .int .i64 k ∧ Hid (L = (((xs.take k).map Lib.itoa).map str).map Value.string) ∧ Hid (wr.ownsRow w.heap.size 9 1 v k L) ∧ Hid (Below w.heap.size w wr)) (fun _ _ i _ => n - (intOf i).toNat)
  case atStart => exact ⟨0, [], Nat.zero_le _, rfl, rfl, World.ownsRow_nil _ _ _ _, Below.refl _ _⟩
  case round =>
    obtain ⟨k, L, hk, rfl, HL, HO, HB⟩ := hrel
    have hBs := HB.out.size
    by_cases hlt : k < n
    · obtain ⟨b, off, rfl, q1⟩ := HV.out.atT (k := k) (by rw [HN.out]; exact hlt)
      have g1 := cell_later HB.out q1
      obtain ⟨m, hm1, hm2⟩ := numsAt HX.out (k := k) (by rw [HN.out]; exact hlt)
      have HK : Hid (L ++ [Value.string (str (Lib.itoa (m : Int)))] = (((xs.take (k + 1)).map Lib.itoa).map str).map Value.string) := by
        have hlx : k < xs.length := by rw [HN.out]; exact hlt
        have e : xs[k] = xs.getD k 0 := by simp [List.getD, hlx]
        show _ = _
        rw [List.take_succ_eq_append_getElem hlx, e, hm1, HL.out, List.map_append, List.map_append, List.map_append]
        rfl
      rw [hm1] at g1
      clear q1 hm1
      go_wp2_with fail
      refine (fmtC (m : Int) (by omega) (by omega) _ (HTb.out.later HB.out)).mono ?_
      rintro e wc ⟨rfl, hbc⟩
      have hcs := hbc.size
      have HBc := hide hbc
      clear hbc g1
      obtain ⟨x, hx⟩ : ∃ x, str (Lib.itoa (m : Int)) = x := ⟨_, rfl⟩
      rw [hx] at HK ⊢
      clear hx
      go_wp2_with (at_builtin; refine wpList_append_lies _ rfl _ _ _ rfl w.heap.size 9 i0 (.string ByteArray.empty) 1 16 Tryd.underlying22 hi hz0 hz1 hz2 rfl (by omega) _ k _ (by rfl) (ownsRow_later (ownsRow_later HO.out HBc.out) (below_alloc wc (.cells #[.string x] 9))) ⟨wc.heap.size, 0, none⟩ 1 1 [.string x] (by rfl) (by rfl) (World.news_of_block (cs := #[.string x]) (t := 9) (fr := (0, 0)) (heap_alloc_new wc _)) (by simp [Value.oneCell']) (by omega) (by unfold maxLen; omega) (by omega) (by simp; omega) (wc.heap.size + 1) (by simp) ?_)
      intro g cap w3 hown3 hgrow hat hlt3
      have HS := hide hown3
      have HB3 := hide ((below_on (below_on HB.out HBc.out) (below_alloc wc (.cells #[.string x] 9))).grown hgrow (by simp; omega) (fun r hr => (HO.out.lt r hr).1))
      clear hown3 hgrow hat
      go_wp2
      go_roundw
      case rel => exact ⟨k + 1, L ++ [Value.string x], hlt, by go_num, HK, HS, HB3⟩
      case measure => simp [intOf]; omega
    · have hkn : k = n := by omega
      subst hkn
      have hLe := HL.out
      rw [List.take_of_length_le (by rw [HN.out]; exact Nat.le_refl _)] at hLe
      subst hLe
      have hjl := join_len HX.out c
      rw [HN.out] at hjl
      have HJ := hide (joinC (xs.map Lib.itoa) [c] (by rw [List.length_map]; exact HN.out) HO.out (by omega) (by omega))
      obtain ⟨ao2, c2, rfl⟩ := owns_shapeS HO.out
      clear hjl HO HL
      obtain ⟨J, hJ⟩ : ∃ J, Lib.join (xs.map Lib.itoa) [c] = J := ⟨_, rfl⟩
      rw [hJ] at HJ
      have HJe := hide hJ
      clear hJ
      go_wp2_with fail
      refine HJ.out.mono ?_
      rintro e w3 ⟨rfl, hb⟩
      have HB3 := hide (below_on HB.out hb)
      clear hb HJ
      go_wp2
      go_ret
      exact ⟨by rw [HJe.out]; rfl, HB3.out⟩

set_option maxRecDepth 4000 in
/-- 'impl.numbersText'. -/
theorem numbersC {S : Nat → Prop} {w : World} {v : Value} {xs : List Int} (name : List UInt8) (hv : RdI S w v xs) (h1 : xs ≠ []) (hm : xs.length ≤ 1048576) (hx : NumsOk xs) (ht : TabP w) (hw : name.length ≤ 1000000000) :
    Calls Tryd.prog 42 #[.string (str name), v] w fun e w' => e = .returned (.string (str (lineT name xs))) ∧ Below w.heap.size w w' := by
  have hl := lineT_len (word := name) hx
  have cat1 := catR name [32] (name ++ [32]) rfl (by simp; omega)
  have HJ := hide (joinedC 32 hv hm hx ht)
  have e : (name ++ [32]) ++ Lib.join (xs.map Lib.itoa) [32] = lineT name xs := by
    cases xs with
    | nil => exact absurd rfl h1
    | cons x r => exact join_line name x r
  have cat2 := catR (name ++ [32]) (Lib.join (xs.map Lib.itoa) [32]) (lineT name xs) e (by omega)
  obtain ⟨ao, cv, rfl⟩ := hv.shape
  clear e hl hv hx h1 hm
  generalize Lib.join (xs.map Lib.itoa) [32] = J at HJ cat2
  generalize lineT name xs = R at cat2 ⊢
  generalize name ++ [32] = N at cat1 cat2
  generalize xs.length = n at HJ ⊢
  go_enter Tryd.func42, Tryd.ntmps42
  go_wp2_with fail
  refine HJ.out.mono ?_
  rintro e w3 ⟨rfl, hb⟩
  have HB3 := hide hb
  clear hb HJ
  go_wp2
  go_ret
  exact ⟨rfl, HB3.out⟩

set_option maxRecDepth 4000 in
/-- 'impl.listText'. -/
theorem listC {S T : Nat → Prop} {w : World} {u v : Value} {ys xs : List Int} (name : List UInt8) (hu : RdI T w u ys) (hv : RdI S w v xs) (h1 : xs ≠ []) (hm : xs.length ≤ 1048576) (hx : NumsOk xs) (hmy : ys.length ≤ 1048576) (hy : NumsOk ys) (ht : TabP w) (hw : name.length ≤ 1000000) :
    Calls Tryd.prog 43 #[u, .string (str name), v] w fun e w' => e = .returned (.string (str (lineT name xs ++ [32] ++ listT ys))) ∧ Below w.heap.size w w' := by
  have hl := lineT_len (word := name) hx
  have hly := listT_len hy
  have HT := hide ht
  have HJ := hide (joinedC 44 hu hmy hy ht)
  have HN := hide (fun (w' : World) (hb : Below w.heap.size w w') => numbersC name (hv.later hb) h1 hm hx (ht.later hb) (by omega))
  have cat1 := catR (lineT name xs) [32] (lineT name xs ++ [32]) rfl (by simp; omega)
  have cat2 := catR (lineT name xs ++ [32]) (listT ys) (lineT name xs ++ [32] ++ listT ys) rfl (by simp; omega)
  obtain ⟨ao, cv, rfl⟩ := hv.shape
  obtain ⟨ao2, cv2, rfl⟩ := hu.shape
  generalize lineT name xs ++ [32] ++ listT ys = R at cat2 ⊢
  generalize lineT name xs ++ [32] = N at cat1 cat2
  generalize lineT name xs = L at cat1 HN
  cases ys with
  | nil =>
    have cat3 : ∀ W : World, (Op.stringOp .add (str N) { data := #[45] }).run Tryd.prog W = .ok (.string (str R)) W := cat2
    rw [List.map_nil, Lib.join_nil] at HJ
    clear hl hly hu hv hx h1 hm hy hmy cat2
    generalize xs.length = n at HN ⊢
    go_enter Tryd.func43, Tryd.ntmps43
    go_wp2_with fail
    refine HJ.out.mono ?_
    rintro e w3 ⟨rfl, hb⟩
    have HB3 := hide hb
    clear hb HJ
    go_wp2_with fail
    refine (HN.out _ HB3.out).mono ?_
    rintro e w4 ⟨rfl, hb⟩
    have HB4 := hide (below_on HB3.out hb)
    clear hb HN
    go_wp2
    go_ret
    exact ⟨rfl, HB4.out⟩
  | cons y r =>
    have e : Lib.join ((y :: r).map Lib.itoa) [44] = listT (y :: r) := join_tail 44 y r
    rw [e] at HJ
    generalize listT (y :: r) = J at HJ cat2
    obtain ⟨m, hmn⟩ : ∃ m, (y :: r).length = m := ⟨_, rfl⟩
    have hm0 : ¬ ((m : Nat) : Int) = 0 := by rw [← hmn]; simp; omega
    rw [hmn] at HJ ⊢
    clear hl hly hu hv hx h1 hm hy hmy e hmn
    generalize xs.length = n at HN ⊢
    go_enter Tryd.func43, Tryd.ntmps43
    go_wp2_with fail
    refine HJ.out.mono ?_
    rintro e w3 ⟨rfl, hb⟩
    have HB3 := hide hb
    clear hb HJ
    go_wp2_with fail
    refine (HN.out _ HB3.out).mono ?_
    rintro e w4 ⟨rfl, hb⟩
    have HB4 := hide (below_on HB3.out hb)
    clear hb HN
    go_wp2
    go_ret
    exact ⟨rfl, HB4.out⟩
end Go.Proofs.YtcbapclpopbjbaaDoor
