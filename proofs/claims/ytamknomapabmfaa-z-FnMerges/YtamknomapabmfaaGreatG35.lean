/- Obj4 Obj6 Obj7 Same Same2 in one text: what each says stands at its head below. -/
import Derived.Test.YtamknomapabmfaaGreatG32
import Derived.Test.YtamknomapabmfaaGreatG06
import Derived.Deep.AppendLies
import Derived.Test.YtamknomapabmfaaGreatG33
import Derived.Test.YtamknomapabmfaaGreatG03
import Derived.Test.YtamknomapabmfaaGreatG04
/- Chapter 5: ReadObject of the model, walked: a list in a struct that is appended to. -/
namespace Go.Proofs.YtamknomapabmfaaGreat
open Go.RowKit

/-- A code with a list that is being built, in the block behind the result's variable. -/
structure OutAt (w : World) (L : List Int) (n : Nat) (ao : Option Addr) (c : Nat) (wr : World) : Prop where
  own : wr.ownsRow (w.heap.size + 2) 2 1 (.slice ao n c) n (L.map (Value.int .i64))
  below : Below w.heap.size w wr
  lt : w.heap.size + 1 < wr.heap.size
  h0 : wr.cell? ⟨w.heap.size + 1, 0, none⟩ = some (.int .i64 0)
  h1 : wr.cell? ⟨w.heap.size + 1, 1, none⟩ = some (.slice ao n c)
  hf : ∀ o, wr.frozen? ⟨w.heap.size + 1, o, none⟩ = false
  r0 : wr.cell? ⟨w.heap.size, 0, none⟩ = some (.int .i64 0)
  r1 : wr.cell? ⟨w.heap.size, 1, none⟩ = some (.slice none 0 0)
  rf : ∀ o, wr.frozen? ⟨w.heap.size, o, none⟩ = false
theorem OutAt.step {w wr w3 : World} {n c g cap : Nat} {x : Int} {L : List Int} {ao : Option Addr} {o : Obj} (h : OutAt w L n ao c wr)
    (hown : w3.ownsRow (w.heap.size + 2) 2 1 (.slice (some ⟨g, 0, none⟩) (n + 1) cap) (n + 1) ((L.map (Value.int .i64)) ++ [.int .i64 x])) (hg : (wr.alloc o).grownBy w3 (Value.slice ao n c).ownBlock) :
    OutAt w (L ++ [x]) (n + 1) (some ⟨g, 0, none⟩) cap (w3.setCell ⟨w.heap.size + 1, 1, none⟩ (.slice (some ⟨g, 0, none⟩) (n + 1) cap)) := by
  have hl := h.lt
  have hB : Below (w.heap.size + 2) wr w3 := ((below_alloc wr o).mono (by omega)).grown hg (by simp; omega) (fun r hr => (h.own.lt r hr).1)
  have hs := hB.size
  have hc : ∀ b o, b < w.heap.size + 2 → w3.cell? ⟨b, o, none⟩ = wr.cell? ⟨b, o, none⟩ := fun b o hb => hB.cell (p := ⟨b, o, none⟩) hb
  have hz : ∀ b o, b < w.heap.size + 2 → w3.frozen? ⟨b, o, none⟩ = wr.frozen? ⟨b, o, none⟩ := fun b o hb => hB.frozen (p := ⟨b, o, none⟩) hb
  refine ⟨?_, ?_, by simp; omega, ?_, ?_, fun o => ?_, ?_, ?_, fun o => ?_⟩
  · exact ownsRow_set (by simpa using hown) (fun e => by have := (hown.lt _ e).1; omega)
  · exact (h.below.trans (hB.mono (by omega))).setCell (by simp) _
  · rw [World.cell?_setCell_other _ _ _ _ (by intro e; injection e with _ e; omega), hc _ _ (by omega)]; exact h.h0
  · exact World.cell?_setCell_same _ _ _ ((hc _ _ (by omega)).trans h.h1)
  · rw [World.frozen?_setCell, hz _ _ (by omega)]; exact h.hf o
  · rw [World.cell?_setCell_other _ _ _ _ (by intro e; injection e with e _; omega), hc _ _ (by omega)]; exact h.r0
  · rw [World.cell?_setCell_other _ _ _ _ (by intro e; injection e with e _; omega), hc _ _ (by omega)]; exact h.r1
  · rw [World.frozen?_setCell, hz _ _ (by omega)]; exact h.rf o

theorem readL_succ (xs : List Int) (f k : Nat) : readL xs f (k + 1) = readL xs f k ++ [xs.getD (f + k) 0] := by simp [readL, List.range_succ]

end Go.Proofs.YtamknomapabmfaaGreat
/- Chapter 5: 'spec.l5Merge', walked. -/
namespace Go.Proofs.YtamknomapabmfaaGreat
open Go.RowKit

theorem owns_slice {w : World} {B e s : Nat} {v : Value} {n : Nat} {xs : List Value} (h : w.ownsRow B e s v n xs) : ∃ ao c, v = .slice ao n c := by
  rcases h.2 with ⟨rfl, rfl⟩ | ⟨g, cap, cur, rfl, _⟩
  · exact ⟨none, 0, rfl⟩
  · exact ⟨_, _, rfl⟩

/-- The first i of xs laid over L from f on. -/
def ovr (L : List Int) (f : Nat) (xs : List Int) : Nat → List Int
  | 0 => L
  | i + 1 => (ovr L f xs i).set (f + i) (xs.getD i 0)
theorem ovr_len (L : List Int) (f : Nat) (xs : List Int) : ∀ i, (ovr L f xs i).length = L.length
  | 0 => rfl
  | i + 1 => by rw [ovr, List.length_set, ovr_len L f xs i]
theorem ovr_at (L : List Int) (f : Nat) (xs : List Int) (j : Nat) (hj : j < L.length) : ∀ i, (ovr L f xs i).getD j 0 = if f ≤ j ∧ j < f + i then xs.getD (j - f) 0 else L.getD j 0
  | 0 => by rw [if_neg (by omega)]; rfl
  | i + 1 => by
    have ih := ovr_at L f xs j hj i
    rw [ovr]
    by_cases e : f + i = j
    · subst e
      rw [if_pos (by omega), List.getD, List.getElem?_set_self (by rw [ovr_len]; exact hj)]
      simp
    · rw [List.getD, List.getElem?_set_ne e, ← List.getD, ih]
      by_cases h : f ≤ j ∧ j < f + i
      · rw [if_pos h, if_pos (by omega)]
      · rw [if_neg h, if_neg (by omega)]
theorem readL_at (xs : List Int) (f n i : Nat) (h : i < n) : (readL xs f n).getD i 0 = xs.getD (f + i) 0 := by simp [readL, List.getD, h]
theorem list_ext0 {a b : List Int} (hl : a.length = b.length) (h : ∀ i, i < a.length → a.getD i 0 = b.getD i 0) : a = b := by
  apply List.ext_getElem hl
  intro i h1 h2
  have := h i h1
  simpa [List.getD, h1, h2] using this
theorem ovr_mrg (ws : List Int) (f : Nat) (xs : List Int) : ovr (readL ws 0 (max ws.length (f + xs.length))) f xs xs.length = mrgL ws f xs := by
  apply list_ext0
  · rw [ovr_len, readL_len, mrgL_len]
  · intro i hi
    rw [ovr_len, readL_len] at hi
    rw [ovr_at _ _ _ _ (by rw [readL_len]; exact hi), mrgL_at _ _ _ _ hi, readL_at _ _ _ _ hi, Nat.zero_add]
theorem readL_self (ws : List Int) : readL ws 0 ws.length = ws := by
  apply list_ext0 (readL_len _ _ _)
  intro i hi
  rw [readL_len] at hi
  rw [readL_at _ _ _ _ hi, Nat.zero_add]

set_option maxHeartbeats 4000000 in
set_option maxRecDepth 4000 in
theorem l5Merge {S T : Nat → Prop} {w : World} {b o : Nat} {a : Int} {f : Nat} {y z : Value} {xs ws : List Int} (hd : HdAt w b o a (f : Int) y) (hy : RdI S w y xs) (hz : RdI T w z ws) (hf : f + xs.length ≤ 64) (hx : 0 < xs.length) (hw : ws.length ≤ 64) :
    Calls Tryz.prog 31 #[z, .pointer (some ⟨b, o, none⟩)] w fun e w' => ∃ u, e = .returned u ∧ Below w.heap.size w w' ∧ OwI w.heap.size w' u (mrgL ws f xs) := by
  obtain ⟨i0, hi, hz0, hz1, hz2⟩ := info_parts Tryz.infoInt
  obtain ⟨ay, cy, rfl⟩ := hy.shape
  obtain ⟨az, cz, rfl⟩ := hz.shape
  have HY := hide hy
  have HI := hide (fun (w' : World) (hb : Below w.heap.size w w') => l1IntsOwn (hz.later hb) (by omega))
  obtain ⟨M, hM⟩ : ∃ M, max ws.length (f + xs.length) = M := ⟨_, rfl⟩
  have HR := hide (ovr_mrg ws f xs)
  have HSelf := hide (readL_self ws)
  have HZero : Hid (∀ k, ws.length ≤ k → ws.getD (0 + k) 0 = 0) := fun k hk => by rw [Nat.zero_add, List.getD, List.getElem?_eq_none hk]; rfl
  rw [hM] at HR
  obtain ⟨R, hR⟩ : ∃ R, mrgL ws f xs = R := ⟨_, rfl⟩
  have HRl := hide (mrgL_len ws f xs)
  rw [hM] at HRl
  rw [hR] at HR HRl ⊢
  clear hR
  obtain ⟨n, hn⟩ : ∃ n, xs.length = n := ⟨_, rfl⟩
  obtain ⟨l, hl⟩ : ∃ l, ws.length = l := ⟨_, rfl⟩
  have HN := hide hn
  rw [hn] at HY HR hf hx hM hd
  rw [hl] at HI HSelf HZero hw hM ⊢
  have c1 := hd.start
  have c2 := hd.addrs
  clear hd hy hz hn hl
  have hM64 : M ≤ 64 := by omega
  go_enter Tryz.func31, Tryz.ntmps31
  go_wp2_with fail
  refine (HI.out _ (Below.refl _ _)).mono ?_
  rintro e w1 ⟨u, rfl, hb, ho⟩
  have HO : Hid (∃ ao c, u = .slice ao l c ∧ Below w.heap.size w w1 ∧ w1.ownsRow w.heap.size 2 1 (.slice ao l c) l ((readL ws 0 l).map (Value.int .i64))) := by
    obtain ⟨ao, c, rfl⟩ := owns_slice ho
    exact ⟨ao, c, rfl, hb, by rw [HSelf.out]; exact ho⟩
  clear hb ho
  go_wp2
  go_loopw [5] (fun v wr => ∃ (k : Nat) (ao : Option Addr) (c : Nat), l ≤ k ∧ k ≤ M ∧ v = .slice ao k c ∧ Hid (Below w.heap.size w wr) ∧ Hid (wr.ownsRow w.heap.size 2 1 (.slice ao k c) k ((readL ws 0 k).map (Value.int .i64)))) (fun v _ => M - sliceLen v)
  case atStart =>
    obtain ⟨ao, c, rfl, hb, ho⟩ := HO.out
    exact ⟨l, ao, c, Nat.le_refl _, by omega, rfl, hb, ho⟩
  case round =>
    clear HO
    obtain ⟨k, ao, c, hk1, hk2, rfl, HB, HOw⟩ := hrel
    have d1 := cell_later HB.out c1
    have d2 := cell_later HB.out c2
    go_wp2_with fail
    go_quiet (fail)
    have HBq := hide (below_on HB.out (below_drewN wr nq))
    have HOq : Hid ((wr.drewN nq).ownsRow w.heap.size 2 1 (.slice ao k c) k ((readL ws 0 k).map (Value.int .i64))) := ownsRow_later HOw.out (below_drewN wr nq)
    obtain ⟨wq, hwq⟩ : ∃ wq, wr.drewN nq = wq := ⟨_, rfl⟩
    rw [hwq] at HBq HOq ⊢
    clear hwq d1 d2 HB HOw
    have hz := HBq.out.size
    by_cases hlt : k < f + n
    · have hlt' : (k : Int) < (f : Int) + (n : Int) := by omega
      go_wp2_with (at_builtin; refine wpList_append_lies _ rfl _ _ _ rfl w.heap.size 2 i0 (.int .i64 0) 1 8 Tryz.underlying24 hi hz0 hz1 hz2 rfl (by omega) _ k _ (by rfl) (HOq.out.alloc _) ⟨wq.heap.size, 0, none⟩ 1 1 [.int .i64 0] (by rfl) (by rfl) (World.news_of_block (cs := #[.int .i64 0]) (t := 2) (fr := (0, 0)) (heap_alloc_new wq _)) (by simp [Value.oneCell']) (by omega) (by unfold maxLen; omega) (by omega) (by simp; omega) (wq.heap.size + 1) (by simp) ?_)
      intro g cap w3 hown hgrow hat hlt3
      have HO3 : Hid (w3.ownsRow w.heap.size 2 1 (.slice (some ⟨g, 0, none⟩) (k + 1) cap) (k + 1) ((readL ws 0 (k + 1)).map (Value.int .i64))) := by
        rw [Hid, readL_succ, HZero.out k hk1, List.map_append]
        exact hown
      have HG3 := hide ((HBq.out.trans ((below_alloc wq (.cells #[.int .i64 0] 2)).mono (by omega))).grown hgrow (by simp; omega) (fun r hr => (HOq.out.lt r hr).1))
      clear hown hgrow hat hlt3 HOq HBq
      go_wp2
      go_roundw
      case rel => exact ⟨k + 1, _, _, by omega, by omega, rfl, HG3.out, HO3.out⟩
      case measure => simp [sliceLen]; omega
    · have hlt' : ¬ ((k : Int) < (f : Int) + (n : Int)) := by omega
      have hkM : k = M := by omega
      subst hkM
      obtain ⟨g, cap, hgc⟩ : ∃ g cap, (Value.slice ao k c) = .slice (some ⟨g, 0, none⟩) k cap := by
        obtain ⟨g, cap, e, _⟩ := HOq.out.form (by omega)
        exact ⟨g, cap, e⟩
      injection hgc with e1 _ e2
      subst e1 e2
      have hgl := (HOq.out.lt g rfl)
      have HOv : Hid (wq.ownsRow w.heap.size 2 1 (.slice (some ⟨g, 0, none⟩) k c) k ((ovr (readL ws 0 k) f xs 0).map (Value.int .i64))) := HOq.out
      clear HOq HSelf HZero hlt hlt'
      go_wp2
      go_loopw [6] (fun i wr => ∃ j : Nat, j ≤ n ∧ i = .int .i64 (j : Int) ∧ Hid (Below w.heap.size w wr) ∧ Hid (wr.ownsRow w.heap.size 2 1 (.slice (some ⟨g, 0, none⟩) k c) k ((ovr (readL ws 0 k) f xs j).map (Value.int .i64)))) (fun i _ => n - (intOf i).toNat)
      case atStart => exact ⟨0, Nat.zero_le _, rfl, HBq.out, HOv.out⟩
      case round =>
        clear HOv
        obtain ⟨j, hj, rfl, HB, HO⟩ := hrel
        have d1 := cell_later HB.out c1
        have d2 := cell_later HB.out c2
        by_cases hjn : j < n
        · obtain ⟨b2, off2, rfl, g1⟩ := HY.out.at (k := j) (by rw [HN.out]; exact hjn)
          have hb2 : b2 < w.heap.size := World.block_lt_of_cell? _ _ g1
          have hb1 : b < w.heap.size := World.block_lt_of_cell? _ _ c1
          have d3 := cell_later HB.out g1
          obtain ⟨x, hx'⟩ : ∃ x, xs.getD j 0 = x := ⟨_, rfl⟩
          have HX := hide hx'
          rw [hx'] at d3
          clear hx' g1
          have hfj : f + j < k := by omega
          have t1 : wr.cell? ⟨g, f + j, none⟩ = some (.int .i64 ((ovr (readL ws 0 k) f xs j).getD (f + j) 0)) := by
            rw [HO.out.cellAt (f + j) (by omega)]
            rw [List.getElem?_map, List.getElem?_eq_getElem (by rw [ovr_len, readL_len]; omega), List.getD, List.getElem?_eq_getElem (by rw [ovr_len, readL_len]; omega)]
            rfl
          generalize (ovr (readL ws 0 k) f xs j).getD (f + j) 0 = old at t1
          have t2 : wr.frozen? ⟨g, f + j, none⟩ = false := HO.out.frozenAt _
          have n1 : ¬ g = b := by omega
          have n2 : ¬ g = b2 := by omega
          have HNx : Hid (((wr.setCell ⟨g, f + j, none⟩ (.int .i64 x)).drewN 1).ownsRow w.heap.size 2 1 (.slice (some ⟨g, 0, none⟩) k c) k ((ovr (readL ws 0 k) f xs (j + 1)).map (Value.int .i64))) := by
            have h := ownsRow_later (HO.out.stored (f + j) (.int .i64 x)).1 (below_drewN _ 1)
            rw [Hid, ovr, HX.out, List.map_set]
            exact h
          have HBx := hide (below_on (HB.out.setCell (p := ⟨g, f + j, none⟩) (by show w.heap.size ≤ g; omega) (.int .i64 x)) (below_drewN _ 1))
          have hq0 : (0 : Int) ≤ (f : Int) + (j : Int) := by omega
          have hq1 : (f : Int) + (j : Int) < (k : Int) := by omega
          have hq2 : IntKind.i64.wrap ((f : Int) + (j : Int)) = (f : Int) + (j : Int) := by simp [IntKind.wrap, IntKind.bits, IntKind.signed]; omega
          have hq3 : ((f : Int) + (j : Int)).toNat = f + j := by omega
          clear HO
          go_wp2_with fail
          go_region_held3 (fun w' => w'.cell? ⟨b, o + 1, none⟩ = some (.int .i64 (f : Int)) ∧ w'.cell? ⟨b, o + 2, none⟩ = some (.slice (some ⟨b2, off2, none⟩) n cy) ∧ w'.cell? ⟨b2, off2 + j, none⟩ = some (.int .i64 x)) (first | exact ⟨d1, d2, d3⟩ | exact ⟨(World.cell?_setCell_far _ _ _ _ n1).trans d1, (World.cell?_setCell_far _ _ _ _ n1).trans d2, (World.cell?_setCell_far _ _ _ _ n2).trans d3⟩) (fail)
          clear t1 t2 d1 d2 d3
          go_wp2
          go_roundw
          case rel => exact ⟨j + 1, hjn, by go_num, HBx.out, HNx.out⟩
          case measure => simp [intOf]; omega
        · have hjn' : j = n := by omega
          subst hjn'
          go_wp2
          go_ret
          refine ⟨_, rfl, HB.out, ?_⟩
          have h := HO.out
          rw [HR.out] at h
          exact ow_of_owns HRl.out h (by rw [HRl.out]; omega)
end Go.Proofs.YtamknomapabmfaaGreat
/- Chapter 5: MergeObject of both sides, walked. -/
namespace Go.Proofs.YtamknomapabmfaaGreat
open Go.RowKit

theorem wordsF_le {xs : List Int} (h : wordsF xs = 0) : xs.length ≤ 64 := by
  by_cases h1 : 64 < xs.length
  · unfold wordsF at h
    rw [wF_many h1] at h
    exact absurd h (by decide)
  · omega

/-- The code of MergeObject. -/
def mrgC (ws : List Int) (a f : Int) (xs : List Int) : Int := if wordsF ws = 0 then objF a f xs else wordsF ws
/-- What MergeObject tells. -/
def mrgR (ws : List Int) (a f : Int) (xs : List Int) : List Int := if wordsF ws = 0 then (if objF a f xs = 0 then mrgL ws f.toNat xs else []) else []
theorem mrgR_len (ws : List Int) (a f : Int) (xs : List Int) : (mrgR ws a f xs).length ≤ 64 := by
  unfold mrgR
  split
  · split
    · rename_i h1 h2
      have h3 := objF_zero h2
      have h4 := wordsF_le h1
      rw [mrgL_len]
      omega
    · simp
  · simp

end Go.Proofs.YtamknomapabmfaaGreat
/- Lists of numbers held against each other: 'slices.Equal' and the model's 'l2Same', walked. -/
namespace Go.Proofs.YtamknomapabmfaaGreat
open Go.RowKit

theorem list_ext {α : Type} [Inhabited α] {d : α} {xs ys : List α} (hl : xs.length = ys.length) (h : ∀ j, j < xs.length → xs.getD j d = ys.getD j d) : xs = ys := by
  apply List.ext_getElem hl
  intro i h1 h2
  have := h i h1
  simpa [List.getD, h1, h2] using this

set_option maxHeartbeats 1000000 in
set_option maxRecDepth 4000 in
theorem l2SameR {S T : Nat → Prop} {w : World} {u v : Value} {xs ys : List Int} (hu : RdI S w u xs) (hv : RdI T w v ys) :
    Calls Tryz.prog 113 #[u, v] w fun e w' => e = .returned (.bool (decide (xs = ys))) ∧ ∃ q, w' = w.drewN q := by
  have hm : xs.length ≤ 9223372036854775807 := by obtain ⟨_, _, _, h, _⟩ := hu; exact h
  have hm' : ys.length ≤ 9223372036854775807 := by obtain ⟨_, _, _, h, _⟩ := hv; exact h
  obtain ⟨ao, c, rfl⟩ := hu.shape
  obtain ⟨ao', c', rfl⟩ := hv.shape
  have HU := hide hu
  have HV := hide hv
  obtain ⟨B, hB⟩ : ∃ B, decide (xs = ys) = B := ⟨_, rfl⟩
  have HB := hide hB
  rw [hB]
  clear hu hv hB
  obtain ⟨n, hn⟩ : ∃ n, xs.length = n := ⟨_, rfl⟩
  obtain ⟨n', hn'⟩ : ∃ n', ys.length = n' := ⟨_, rfl⟩
  have HN := hide hn
  have HN' := hide hn'
  rw [hn] at HU hm ⊢
  rw [hn'] at HV hm' ⊢
  clear hn hn'
  by_cases hl : n = n'
  · subst hl
    go_enter Tryz.func113, Tryz.ntmps113
    go_wp2
    go_loopw [5] (fun i wr => ∃ k q : Nat, k ≤ n ∧ i = .int .i64 k ∧ Hid (∀ j, j < k → xs.getD j 0 = ys.getD j 0) ∧ wr = w.drewN q) (fun i _ => n - (intOf i).toNat)
    case atStart => exact ⟨0, 0, Nat.zero_le _, rfl, fun j hj => absurd hj (Nat.not_lt_zero _), rfl⟩
    case round =>
      obtain ⟨k, q, hk, rfl, HA, rfl⟩ := hrel
      by_cases hlt : k < n
      · obtain ⟨b, off, rfl, g1⟩ := HU.out.at (k := k) (by rw [HN.out]; exact hlt)
        obtain ⟨b', off', rfl, g2⟩ := HV.out.at (k := k) (by rw [HN'.out]; exact hlt)
        obtain ⟨x, hx⟩ : ∃ x, xs.getD k 0 = x := ⟨_, rfl⟩
        obtain ⟨y, hy⟩ : ∃ y, ys.getD k 0 = y := ⟨_, rfl⟩
        have HX := hide hx
        have HY := hide hy
        rw [hx] at g1
        rw [hy] at g2
        clear hx hy
        by_cases hxy : x = y
        · subst hxy
          have HA2 : Hid (∀ j, j < k + 1 → xs.getD j 0 = ys.getD j 0) := by
            intro j hj
            by_cases e : j = k
            · subst e; rw [HX.out, HY.out]
            · exact HA.out j (by omega)
          go_wp2
          go_quiet (fail)
          go_wp2
          go_roundw
          case rel => exact ⟨k + 1, _, by omega, by go_num, HA2.out, rfl⟩
          case measure => simp [intOf]; omega
        · have hb : B = false := by
            rw [← HB.out]
            exact decide_eq_false (fun e => hxy (by rw [← HX.out, ← HY.out, e]))
          subst hb
          go_wp2
          go_quiet (fail)
          go_wp2
          go_ret
          exact ⟨rfl, _, World.drewN_drewN ..⟩
      · have hb : B = true := by
          rw [← HB.out]
          exact decide_eq_true (list_ext (by rw [HN.out, HN'.out]) (fun j hj => HA.out j (by rw [HN.out] at hj; omega)))
        subst hb
        go_wp2
        go_ret
        exact ⟨rfl, _, rfl⟩
  · have hb : B = false := by
      rw [← HB.out]
      exact decide_eq_false (fun e => hl (by rw [← HN.out, ← HN'.out, e]))
    subst hb
    have hl' : ¬ (n : Int) = (n' : Int) := by omega
    go_enter Tryz.func113, Tryz.ntmps113
    go_wp2
    go_ret
    exact ⟨rfl, 0, rfl⟩

set_option maxHeartbeats 1000000 in
set_option maxRecDepth 4000 in
theorem slicesEqualR {S T : Nat → Prop} {w : World} {u v : Value} {xs ys : List Int} (hu : RdI S w u xs) (hv : RdI T w v ys) :
    Calls Tryz.prog 37 #[u, v] w fun e w' => e = .returned (.bool (decide (xs = ys))) ∧ ∃ q, w' = w.drewN q := by
  have hm : xs.length ≤ 9223372036854775807 := by obtain ⟨_, _, _, h, _⟩ := hu; exact h
  have hm' : ys.length ≤ 9223372036854775807 := by obtain ⟨_, _, _, h, _⟩ := hv; exact h
  obtain ⟨ao, c, rfl⟩ := hu.shape
  obtain ⟨ao', c', rfl⟩ := hv.shape
  have HU := hide hu
  have HV := hide hv
  obtain ⟨B, hB⟩ : ∃ B, decide (xs = ys) = B := ⟨_, rfl⟩
  have HB := hide hB
  rw [hB]
  clear hu hv hB
  obtain ⟨n, hn⟩ : ∃ n, xs.length = n := ⟨_, rfl⟩
  obtain ⟨n', hn'⟩ : ∃ n', ys.length = n' := ⟨_, rfl⟩
  have HN := hide hn
  have HN' := hide hn'
  rw [hn] at HU hm ⊢
  rw [hn'] at HV hm' ⊢
  clear hn hn'
  by_cases hl : n = n'
  · subst hl
    go_enter Tryz.func37, Tryz.ntmps37
    go_wp2
    go_loopw [13] (fun i wr => ∃ k q : Nat, k ≤ n ∧ i = .int .i64 k ∧ Hid (∀ j, j < k → xs.getD j 0 = ys.getD j 0) ∧ wr = w.drewN q) (fun i _ => n - (intOf i).toNat)
    case atStart => exact ⟨0, 0, Nat.zero_le _, rfl, fun j hj => absurd hj (Nat.not_lt_zero _), rfl⟩
    case round =>
      obtain ⟨k, q, hk, rfl, HA, rfl⟩ := hrel
      by_cases hlt : k < n
      · obtain ⟨b, off, rfl, g1⟩ := HU.out.at (k := k) (by rw [HN.out]; exact hlt)
        obtain ⟨b', off', rfl, g2⟩ := HV.out.at (k := k) (by rw [HN'.out]; exact hlt)
        obtain ⟨x, hx⟩ : ∃ x, xs.getD k 0 = x := ⟨_, rfl⟩
        obtain ⟨y, hy⟩ : ∃ y, ys.getD k 0 = y := ⟨_, rfl⟩
        have HX := hide hx
        have HY := hide hy
        rw [hx] at g1
        rw [hy] at g2
        clear hx hy
        by_cases hxy : x = y
        · subst hxy
          have HA2 : Hid (∀ j, j < k + 1 → xs.getD j 0 = ys.getD j 0) := by
            intro j hj
            by_cases e : j = k
            · subst e; rw [HX.out, HY.out]
            · exact HA.out j (by omega)
          go_wp2
          go_quiet (fail)
          go_wp2
          go_roundw
          case rel => exact ⟨k + 1, _, by omega, by go_num, HA2.out, rfl⟩
          case measure => simp [intOf]; omega
        · have hb : B = false := by
            rw [← HB.out]
            exact decide_eq_false (fun e => hxy (by rw [← HX.out, ← HY.out, e]))
          subst hb
          go_wp2
          go_quiet (fail)
          go_wp2
          go_ret
          exact ⟨rfl, _, World.drewN_drewN ..⟩
      · have hb : B = true := by
          rw [← HB.out]
          exact decide_eq_true (list_ext (by rw [HN.out, HN'.out]) (fun j hj => HA.out j (by rw [HN.out] at hj; omega)))
        subst hb
        go_wp2
        go_ret
        exact ⟨rfl, _, rfl⟩
  · have hb : B = false := by
      rw [← HB.out]
      exact decide_eq_false (fun e => hl (by rw [← HN.out, ← HN'.out, e]))
    subst hb
    have hl' : ¬ (n : Int) = (n' : Int) := by omega
    go_enter Tryz.func37, Tryz.ntmps37
    go_wp2
    go_ret
    exact ⟨rfl, 0, rfl⟩

end Go.Proofs.YtamknomapabmfaaGreat
/- Views held against each other: 'SameViews' of the program and of the model, walked. -/
namespace Go.Proofs.YtamknomapabmfaaGreat
open Go.RowKit

set_option maxHeartbeats 1000000 in
set_option maxRecDepth 4000 in
theorem sameViews1 {S T : Nat → Prop} {w : World} {u v : Value} {xs ys : List Int} (a b : Int) (hu : RdI S w u xs) (hv : RdI T w v ys) :
    Calls Tryz.prog 36 #[.agg #[.int .i64 a, u], .agg #[.int .i64 b, v]] w fun e w' => e = .returned (.bool (decide (a = b ∧ xs = ys))) ∧ Below w.heap.size w w' := by
  obtain ⟨ao, c, rfl⟩ := hu.shape
  obtain ⟨ao', c', rfl⟩ := hv.shape
  obtain ⟨n, hn⟩ : ∃ n, xs.length = n := ⟨_, rfl⟩
  obtain ⟨n', hn'⟩ : ∃ n', ys.length = n' := ⟨_, rfl⟩
  have A0 := hide (below_on (below_alloc w (.cells #[.int .i64 a, .slice ao n c] 38)) (below_alloc _ (.cells #[.int .i64 b, .slice ao' n' c'] 38)))
  have HEq := hide (fun (w' : World) (hb : Below w.heap.size w w') => slicesEqualR (hu.later hb) (hv.later hb))
  rw [hn, hn'] at HEq
  rw [hn, hn']
  clear hu hv hn hn'
  obtain ⟨B, hB⟩ : ∃ B, decide (xs = ys) = B := ⟨_, rfl⟩
  rw [hB] at HEq
  by_cases hab : a = b
  · subst hab
    have hb2 : decide (a = a ∧ xs = ys) = B := by rw [← hB]; simp
    rw [hb2]
    clear hB hb2
    go_enter Tryz.func36, Tryz.ntmps36
    go_wp2_with fail
    refine (HEq.out _ A0.out).mono ?_
    rintro e w1 ⟨rfl, q, rfl⟩
    have HB1 := hide (below_on A0.out (below_drewN _ q))
    go_wp2
    go_ret
    exact ⟨rfl, HB1.out⟩
  · have hb2 : decide (a = b ∧ xs = ys) = false := decide_eq_false (fun h => hab h.1)
    rw [hb2]
    clear hB hb2
    go_enter Tryz.func36, Tryz.ntmps36
    go_wp2
    go_ret
    exact ⟨rfl, A0.out⟩

set_option maxHeartbeats 1000000 in
set_option maxRecDepth 4000 in
theorem equalFuncP {S T : Nat → Prop} {w : World} {u v : Value} {ps qs : List (Int × List Int)} (hu : RdP S w u ps) (hv : RdP T w v qs) :
    Calls Tryz.prog 35 #[u, v, .func (.func 36) #[] #[]] w fun e w' => e = .returned (.bool (decide (ps = qs))) ∧ Below w.heap.size w w' := by
  obtain ⟨ao, c, rfl, hm⟩ := hu.shape
  obtain ⟨ao', c', rfl, hm'⟩ := hv.shape
  have HU := hide hu
  have HV := hide hv
  obtain ⟨B, hB⟩ : ∃ B, decide (ps = qs) = B := ⟨_, rfl⟩
  have HB := hide hB
  rw [hB]
  clear hu hv hB
  obtain ⟨n, hn⟩ : ∃ n, ps.length = n := ⟨_, rfl⟩
  obtain ⟨n', hn'⟩ : ∃ n', qs.length = n' := ⟨_, rfl⟩
  have HN := hide hn
  have HN' := hide hn'
  rw [hn] at HU hm ⊢
  rw [hn'] at HV hm' ⊢
  clear hn hn'
  by_cases hl : n = n'
  · subst hl
    go_enter Tryz.func35, Tryz.ntmps35
    go_wp2
    go_loopw [17] (fun i wr => ∃ k : Nat, k ≤ n ∧ i = .int .i64 k ∧ Hid (∀ j, j < k → ps.getD j (0, []) = qs.getD j (0, [])) ∧ Hid (Below w.heap.size w wr)) (fun i _ => n - (intOf i).toNat)
    case atStart => exact ⟨0, Nat.zero_le _, rfl, fun j hj => absurd hj (Nat.not_lt_zero _), Below.refl _ _⟩
    case round =>
      obtain ⟨k, hk, rfl, HA, HBw⟩ := hrel
      by_cases hlt : k < n
      · obtain ⟨b, off, V, rfl, p1, p2, p3⟩ := HU.out.at (k := k) (by rw [HN.out]; exact hlt)
        obtain ⟨b', off', V', rfl, q1, q2, q3⟩ := HV.out.at (k := k) (by rw [HN'.out]; exact hlt)
        obtain ⟨a1, c1, rfl⟩ := p3.shape
        obtain ⟨a2, c2, rfl⟩ := q3.shape
        have g1 := cell_later HBw.out p1
        have g2 := cell_later HBw.out p2
        have g3 := cell_later HBw.out q1
        have g4 := cell_later HBw.out q2
        have R1 := hide (p3.later HBw.out)
        have R2 := hide (q3.later HBw.out)
        have hbl := World.block_lt_of_cell? _ _ g3
        obtain ⟨x, hx⟩ : ∃ x, ps.getD k (0, []) = x := ⟨_, rfl⟩
        obtain ⟨y, hy⟩ : ∃ y, qs.getD k (0, []) = y := ⟨_, rfl⟩
        have HX := hide hx
        have HY := hide hy
        rw [hx] at g1 g2 R1
        rw [hy] at g3 g4 R2
        clear p1 p2 p3 q1 q2 q3 hx hy
        obtain ⟨x1, xs⟩ := x
        obtain ⟨y1, ys⟩ := y
        dsimp only at g1 g2 g3 g4 R1 R2
        obtain ⟨l1, hl1⟩ : ∃ l1, xs.length = l1 := ⟨_, rfl⟩
        obtain ⟨l2, hl2⟩ : ∃ l2, ys.length = l2 := ⟨_, rfl⟩
        rw [hl1] at g2 R1
        rw [hl2] at g4 R2
        clear hl1 hl2
        have bA := hide (below_on (below_alloc wr (.cells #[.int .i64 x1, .slice a1 l1 c1] 38)) (below_alloc _ (.cells #[.int .i64 y1, .slice a2 l2 c2] 38)))
        have HC := hide (sameViews1 x1 y1 (R1.out.later bA.out) (R2.out.later bA.out))
        by_cases hxy : x1 = y1 ∧ xs = ys
        · rw [decide_eq_true hxy] at HC
          have HA2 : Hid (∀ j, j < k + 1 → ps.getD j (0, []) = qs.getD j (0, [])) := by
            intro j hj
            by_cases e : j = k
            · subst e; rw [HX.out, HY.out, hxy.1, hxy.2]
            · exact HA.out j (by omega)
          clear hxy
          go_wp2_with fail
          refine HC.out.mono ?_
          rintro e w1 ⟨rfl, hb1⟩
          have HB1 := hide (below_on HBw.out (below_on bA.out hb1))
          clear hb1
          go_wp2
          go_roundw
          case rel => exact ⟨k + 1, by omega, by go_num, HA2.out, HB1.out⟩
          case measure => simp [intOf]; omega
        · rw [decide_eq_false hxy] at HC
          have hb : B = false := by
            rw [← HB.out]
            refine decide_eq_false (fun e => hxy ?_)
            have := HX.out.symm.trans ((by rw [e]) : ps.getD k (0, []) = qs.getD k (0, [])) |>.trans HY.out
            injection this with h1 h2
            exact ⟨h1, h2⟩
          subst hb
          clear hxy
          go_wp2_with fail
          refine HC.out.mono ?_
          rintro e w1 ⟨rfl, hb1⟩
          have HB1 := hide (below_on HBw.out (below_on bA.out hb1))
          clear hb1
          go_wp2
          go_ret
          exact ⟨rfl, HB1.out⟩
      · have hb : B = true := by
          rw [← HB.out]
          exact decide_eq_true (list_ext (by rw [HN.out, HN'.out]) (fun j hj => HA.out j (by rw [HN.out] at hj; omega)))
        subst hb
        go_wp2
        go_ret
        exact ⟨rfl, HBw.out⟩
  · have hb : B = false := by
      rw [← HB.out]
      exact decide_eq_false (fun e => hl (by rw [← HN.out, ← HN'.out, e]))
    subst hb
    have hl' : ¬ (n : Int) = (n' : Int) := by omega
    go_enter Tryz.func35, Tryz.ntmps35
    go_wp2
    go_ret
    exact ⟨rfl, Below.refl _ _⟩

set_option maxHeartbeats 1000000 in
theorem implSameViews {S T : Nat → Prop} {w : World} {u v : Value} {ps qs : List (Int × List Int)} (hu : RdP S w u ps) (hv : RdP T w v qs) :
    Calls Tryz.prog 12 #[u, v] w fun e w' => e = .returned (.bool (decide (ps = qs))) ∧ Below w.heap.size w w' := by
  have H := hide (equalFuncP hu hv)
  generalize decide (ps = qs) = B at H ⊢
  clear hu hv
  go_enter Tryz.func12, Tryz.ntmps12
  go_wp2_with fail
  refine H.out.mono ?_
  rintro e w1 ⟨rfl, hb1⟩
  have HB1 := hide hb1
  clear hb1
  go_wp2
  go_ret
  exact ⟨rfl, HB1.out⟩

end Go.Proofs.YtamknomapabmfaaGreat
