/- Chapter 5: 'spec.l5Merge', walked. -/
import Derived.Test.YtjekggpddpblmaaObj5
import Derived.Test.YtjekggpddpblmaaObj4
namespace Go.Proofs.Ytjekggpddpblmaa
open Go.RowKit

theorem owns_slice {w : World} {B e s : Nat} {v : Value} {n : Nat} {xs : List Value} (h : w.ownsRow B e s v n xs) : ∃ ao c, v = .slice ao n c := by
  rcases h.2 with ⟨rfl, rfl⟩ | ⟨g, cap, cur, rfl, _⟩
  · exact ⟨none, 0, rfl⟩
  · exact ⟨_, _, rfl⟩

/-- The first i of xs laid over L from f on. -/
def ovr (L : List Int) (f : Nat) (xs : List Int) : Nat → List Int
  | 0 => L
  | i + 1 => (ovr L f xs i).set (f + i) (xs.getD i 0)
theorem ovr_len (L : List Int) (f : Nat) (xs : List Int) : ∀ i, (ovr L f xs i).length = L.length
  | 0 => rfl
  | i + 1 => by rw [ovr, List.length_set, ovr_len L f xs i]
theorem ovr_at (L : List Int) (f : Nat) (xs : List Int) (j : Nat) (hj : j < L.length) : ∀ i, (ovr L f xs i).getD j 0 = if f ≤ j ∧ j < f + i then xs.getD (j - f) 0 else L.getD j 0
  | 0 => by rw [if_neg (by omega)]; rfl
  | i + 1 => by
    have ih := ovr_at L f xs j hj i
    rw [ovr]
    by_cases e : f + i = j
    · subst e
      rw [if_pos (by omega), List.getD, List.getElem?_set_self (by rw [ovr_len]; exact hj)]
      simp
    · rw [List.getD, List.getElem?_set_ne e, ← List.getD, ih]
      by_cases h : f ≤ j ∧ j < f + i
      · rw [if_pos h, if_pos (by omega)]
      · rw [if_neg h, if_neg (by omega)]
theorem readL_at (xs : List Int) (f n i : Nat) (h : i < n) : (readL xs f n).getD i 0 = xs.getD (f + i) 0 := by simp [readL, List.getD, h]
theorem list_ext0 {a b : List Int} (hl : a.length = b.length) (h : ∀ i, i < a.length → a.getD i 0 = b.getD i 0) : a = b := by
  apply List.ext_getElem hl
  intro i h1 h2
  have := h i h1
  simpa [List.getD, h1, h2] using this
theorem ovr_mrg (ws : List Int) (f : Nat) (xs : List Int) : ovr (readL ws 0 (max ws.length (f + xs.length))) f xs xs.length = mrgL ws f xs := by
  apply list_ext0
  · rw [ovr_len, readL_len, mrgL_len]
  · intro i hi
    rw [ovr_len, readL_len] at hi
    rw [ovr_at _ _ _ _ (by rw [readL_len]; exact hi), mrgL_at _ _ _ _ hi, readL_at _ _ _ _ hi, Nat.zero_add]
theorem readL_self (ws : List Int) : readL ws 0 ws.length = ws := by
  apply list_ext0 (readL_len _ _ _)
  intro i hi
  rw [readL_len] at hi
  rw [readL_at _ _ _ _ hi, Nat.zero_add]

set_option maxHeartbeats 4000000 in
set_option maxRecDepth 4000 in
theorem l5Merge {S T : Nat → Prop} {w : World} {b o : Nat} {a : Int} {f : Nat} {y z : Value} {xs ws : List Int} (hd : HdAt w b o a (f : Int) y) (hy : RdI S w y xs) (hz : RdI T w z ws) (hf : f + xs.length ≤ 64) (hx : 0 < xs.length) (hw : ws.length ≤ 64) :
    Calls Try.prog 23 #[z, .pointer (some ⟨b, o, none⟩)] w fun e w' => ∃ u, e = .returned u ∧ Below w.heap.size w w' ∧ OwI w.heap.size w' u (mrgL ws f xs) := by
  obtain ⟨i0, hi, hz0, hz1, hz2⟩ := info_parts Try.infoInt
  obtain ⟨ay, cy, rfl⟩ := hy.shape
  obtain ⟨az, cz, rfl⟩ := hz.shape
  have HY := hide hy
  have HI := hide (fun (w' : World) (hb : Below w.heap.size w w') => l1IntsOwn (hz.later hb) (by omega))
  obtain ⟨M, hM⟩ : ∃ M, max ws.length (f + xs.length) = M := ⟨_, rfl⟩
  have HR := hide (ovr_mrg ws f xs)
  have HSelf := hide (readL_self ws)
  have HZero : Hid (∀ k, ws.length ≤ k → ws.getD (0 + k) 0 = 0) := fun k hk => by rw [Nat.zero_add, List.getD, List.getElem?_eq_none hk]; rfl
  rw [hM] at HR
  obtain ⟨R, hR⟩ : ∃ R, mrgL ws f xs = R := ⟨_, rfl⟩
  have HRl := hide (mrgL_len ws f xs)
  rw [hM] at HRl
  rw [hR] at HR HRl ⊢
  clear hR
  obtain ⟨n, hn⟩ : ∃ n, xs.length = n := ⟨_, rfl⟩
  obtain ⟨l, hl⟩ : ∃ l, ws.length = l := ⟨_, rfl⟩
  have HN := hide hn
  rw [hn] at HY HR hf hx hM hd
  rw [hl] at HI HSelf HZero hw hM ⊢
  have c1 := hd.start
  have c2 := hd.addrs
  clear hd hy hz hn hl
  have hM64 : M ≤ 64 := by omega
  go_enter Try.func23, Try.ntmps23
  go_wp2_with fail
  refine (HI.out _ (Below.refl _ _)).mono ?_
  rintro e w1 ⟨u, rfl, hb, ho⟩
  have HO : Hid (∃ ao c, u = .slice ao l c ∧ Below w.heap.size w w1 ∧ w1.ownsRow w.heap.size 2 1 (.slice ao l c) l ((readL ws 0 l).map (Value.int .i64))) := by
    obtain ⟨ao, c, rfl⟩ := owns_slice ho
    exact ⟨ao, c, rfl, hb, by rw [HSelf.out]; exact ho⟩
  clear hb ho
  go_wp2
  go_loopw [5] (fun v wr => ∃ (k : Nat) (ao : Option Addr) (c : Nat), l ≤ k ∧ k ≤ M ∧ v = .slice ao k c ∧ Hid (Below w.heap.size w wr) ∧ Hid (wr.ownsRow w.heap.size 2 1 (.slice ao k c) k ((readL ws 0 k).map (Value.int .i64)))) (fun v _ => M - sliceLen v)
  case atStart =>
    obtain ⟨ao, c, rfl, hb, ho⟩ := HO.out
    exact ⟨l, ao, c, Nat.le_refl _, by omega, rfl, hb, ho⟩
  case round =>
    clear HO
    obtain ⟨k, ao, c, hk1, hk2, rfl, HB, HOw⟩ := hrel
    have d1 := cell_later HB.out c1
    have d2 := cell_later HB.out c2
    go_wp2_with fail
    go_quiet (fail)
    have HBq := hide (below_on HB.out (below_drewN wr nq))
    have HOq : Hid ((wr.drewN nq).ownsRow w.heap.size 2 1 (.slice ao k c) k ((readL ws 0 k).map (Value.int .i64))) := ownsRow_later HOw.out (below_drewN wr nq)
    obtain ⟨wq, hwq⟩ : ∃ wq, wr.drewN nq = wq := ⟨_, rfl⟩
    rw [hwq] at HBq HOq ⊢
    clear hwq d1 d2 HB HOw
    have hz := HBq.out.size
    by_cases hlt : k < f + n
    · have hlt' : (k : Int) < (f : Int) + (n : Int) := by omega
      go_wp2_with (at_builtin; refine wpList_append_lies _ rfl _ _ _ rfl w.heap.size 2 i0 (.int .i64 0) 1 8 Try.underlying41 hi hz0 hz1 hz2 rfl (by omega) _ k _ (by rfl) (HOq.out.alloc _) ⟨wq.heap.size, 0, none⟩ 1 1 [.int .i64 0] (by rfl) (by rfl) (World.news_of_block (cs := #[.int .i64 0]) (t := 2) (fr := (0, 0)) (heap_alloc_new wq _)) (by simp [Value.oneCell']) (by omega) (by unfold maxLen; omega) (by omega) (by simp; omega) (wq.heap.size + 1) (by simp) ?_)
      intro g cap w3 hown hgrow hat hlt3
      have HO3 : Hid (w3.ownsRow w.heap.size 2 1 (.slice (some ⟨g, 0, none⟩) (k + 1) cap) (k + 1) ((readL ws 0 (k + 1)).map (Value.int .i64))) := by
        rw [Hid, readL_succ, HZero.out k hk1, List.map_append]
        exact hown
      have HG3 := hide ((HBq.out.trans ((below_alloc wq (.cells #[.int .i64 0] 2)).mono (by omega))).grown hgrow (by simp; omega) (fun r hr => (HOq.out.lt r hr).1))
      clear hown hgrow hat hlt3 HOq HBq
      go_wp2
      go_roundw
      case rel => exact ⟨k + 1, _, _, by omega, by omega, rfl, HG3.out, HO3.out⟩
      case measure => simp [sliceLen]; omega
    · have hlt' : ¬ ((k : Int) < (f : Int) + (n : Int)) := by omega
      have hkM : k = M := by omega
      subst hkM
      obtain ⟨g, cap, hgc⟩ : ∃ g cap, (Value.slice ao k c) = .slice (some ⟨g, 0, none⟩) k cap := by
        obtain ⟨g, cap, e, _⟩ := HOq.out.form (by omega)
        exact ⟨g, cap, e⟩
      injection hgc with e1 _ e2
      subst e1 e2
      have hgl := (HOq.out.lt g rfl)
      have HOv : Hid (wq.ownsRow w.heap.size 2 1 (.slice (some ⟨g, 0, none⟩) k c) k ((ovr (readL ws 0 k) f xs 0).map (Value.int .i64))) := HOq.out
      clear HOq HSelf HZero hlt hlt'
      go_wp2
      go_loopw [6] (fun i wr => ∃ j : Nat, j ≤ n ∧ i = .int .i64 (j : Int) ∧ Hid (Below w.heap.size w wr) ∧ Hid (wr.ownsRow w.heap.size 2 1 (.slice (some ⟨g, 0, none⟩) k c) k ((ovr (readL ws 0 k) f xs j).map (Value.int .i64)))) (fun i _ => n - (intOf i).toNat)
      case atStart => exact ⟨0, Nat.zero_le _, rfl, HBq.out, HOv.out⟩
      case round =>
        clear HOv
        obtain ⟨j, hj, rfl, HB, HO⟩ := hrel
        have d1 := cell_later HB.out c1
        have d2 := cell_later HB.out c2
        by_cases hjn : j < n
        · obtain ⟨b2, off2, rfl, g1⟩ := HY.out.at (k := j) (by rw [HN.out]; exact hjn)
          have hb2 : b2 < w.heap.size := World.block_lt_of_cell? _ _ g1
          have hb1 : b < w.heap.size := World.block_lt_of_cell? _ _ c1
          have d3 := cell_later HB.out g1
          obtain ⟨x, hx'⟩ : ∃ x, xs.getD j 0 = x := ⟨_, rfl⟩
          have HX := hide hx'
          rw [hx'] at d3
          clear hx' g1
          have hfj : f + j < k := by omega
          have t1 : wr.cell? ⟨g, f + j, none⟩ = some (.int .i64 ((ovr (readL ws 0 k) f xs j).getD (f + j) 0)) := by
            rw [HO.out.cellAt (f + j) (by omega)]
            rw [List.getElem?_map, List.getElem?_eq_getElem (by rw [ovr_len, readL_len]; omega), List.getD, List.getElem?_eq_getElem (by rw [ovr_len, readL_len]; omega)]
            rfl
          generalize (ovr (readL ws 0 k) f xs j).getD (f + j) 0 = old at t1
          have t2 : wr.frozen? ⟨g, f + j, none⟩ = false := HO.out.frozenAt _
          have n1 : ¬ g = b := by omega
          have n2 : ¬ g = b2 := by omega
          have HNx : Hid (((wr.setCell ⟨g, f + j, none⟩ (.int .i64 x)).drewN 1).ownsRow w.heap.size 2 1 (.slice (some ⟨g, 0, none⟩) k c) k ((ovr (readL ws 0 k) f xs (j + 1)).map (Value.int .i64))) := by
            have h := ownsRow_later (HO.out.stored (f + j) (.int .i64 x)).1 (below_drewN _ 1)
            rw [Hid, ovr, HX.out, List.map_set]
            exact h
          have HBx := hide (below_on (HB.out.setCell (p := ⟨g, f + j, none⟩) (by show w.heap.size ≤ g; omega) (.int .i64 x)) (below_drewN _ 1))
          have hq0 : (0 : Int) ≤ (f : Int) + (j : Int) := by omega
          have hq1 : (f : Int) + (j : Int) < (k : Int) := by omega
          have hq2 : IntKind.i64.wrap ((f : Int) + (j : Int)) = (f : Int) + (j : Int) := by simp [IntKind.wrap, IntKind.bits, IntKind.signed]; omega
          have hq3 : ((f : Int) + (j : Int)).toNat = f + j := by omega
          clear HO
          go_wp2_with fail
          go_region_held3 (fun w' => w'.cell? ⟨b, o + 1, none⟩ = some (.int .i64 (f : Int)) ∧ w'.cell? ⟨b, o + 2, none⟩ = some (.slice (some ⟨b2, off2, none⟩) n cy) ∧ w'.cell? ⟨b2, off2 + j, none⟩ = some (.int .i64 x)) (first | exact ⟨d1, d2, d3⟩ | exact ⟨(World.cell?_setCell_far _ _ _ _ n1).trans d1, (World.cell?_setCell_far _ _ _ _ n1).trans d2, (World.cell?_setCell_far _ _ _ _ n2).trans d3⟩) (fail)
          clear t1 t2 d1 d2 d3
          go_wp2
          go_roundw
          case rel => exact ⟨j + 1, hjn, by go_num, HBx.out, HNx.out⟩
          case measure => simp [intOf]; omega
        · have hjn' : j = n := by omega
          subst hjn'
          go_wp2
          go_ret
          refine ⟨_, rfl, HB.out, ?_⟩
          have h := HO.out
          rw [HR.out] at h
          exact ow_of_owns HRl.out h (by rw [HRl.out]; omega)
end Go.Proofs.Ytjekggpddpblmaa
