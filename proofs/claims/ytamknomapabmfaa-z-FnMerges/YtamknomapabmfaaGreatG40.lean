/- DrawJ Apply in one text: what each says stands at its head below. -/
import Derived.Test.YtamknomapabmfaaGreatG28
import Derived.Test.YtamknomapabmfaaGreatG29
import Derived.Test.YtamknomapabmfaaGreatG39
import Derived.Test.YtamknomapabmfaaGreatG31
import Derived.Test.YtamknomapabmfaaGreatG21
import Derived.Test.YtamknomapabmfaaGreatG38
/- Chapter 5: the model's draw 'DrawPutsOf', walked: what it gives can be read. -/
namespace Go.Proofs.YtamknomapabmfaaGreat
open Go.RowKit

/-- An object as it lies: place, words' value, words. -/
abbrev Jq := Int × Int × Value × List Int
def cellsQ : List Jq → List Value
  | [] => []
  | q :: r => .int .i64 q.1 :: .int .i64 q.2.1 :: q.2.2.1 :: cellsQ r
theorem cellsQ_len : ∀ qs : List Jq, (cellsQ qs).length = qs.length * 3
  | [] => rfl
  | q :: r => by simp [cellsQ, cellsQ_len r]; omega
theorem cellsQ_snoc : ∀ (qs : List Jq) (q : Jq), cellsQ (qs ++ [q]) = cellsQ qs ++ [.int .i64 q.1, .int .i64 q.2.1, q.2.2.1]
  | [], q => rfl
  | p :: r, q => by simp [cellsQ, cellsQ_snoc r q]
theorem cellsQ_at : ∀ (qs : List Jq) (i : Nat) (q : Jq), qs[i]? = some q → (cellsQ qs)[i * 3]? = some (.int .i64 q.1) ∧ (cellsQ qs)[i * 3 + 1]? = some (.int .i64 q.2.1) ∧ (cellsQ qs)[i * 3 + 2]? = some q.2.2.1
  | [], i, q, h => by simp at h
  | p :: r, 0, q, h => by simp at h; subst h; exact ⟨rfl, rfl, rfl⟩
  | p :: r, i + 1, q, h => by
    have h' : r[i]? = some q := by simpa using h
    obtain ⟨a, b, c⟩ := cellsQ_at r i q h'
    rw [show (i + 1) * 3 = i * 3 + 1 + 1 + 1 by omega]
    exact ⟨by simpa [cellsQ] using a, by simpa [cellsQ] using b, by simpa [cellsQ] using c⟩
def ojOf (q : Jq) : Oj := (q.1, q.2.1, q.2.2.2)
/-- Objects that were appended one by one, from block B on. -/
def JRow (B : Nat) (w : World) (v : Value) (n : Nat) (qs : List Jq) : Prop := w.ownsRow B 26 3 v n (cellsQ qs) ∧ qs.length = n ∧ ∀ q, q ∈ qs → RdI (fun b => B ≤ b ∧ some b ≠ v.ownBlock) w q.2.2.1 q.2.2.2
theorem JRow.later {B : Nat} {w w' : World} {v : Value} {n : Nat} {qs : List Jq} (h : JRow B w v n qs) (hb : Below w.heap.size w w') : JRow B w' v n qs := ⟨ownsRow_later h.1 hb, h.2.1, fun q hq => (h.2.2 q hq).later hb⟩
theorem JRow.drawn {B s : Nat} {w w' : World} {v : Value} {n : Nat} {qs : List Jq} (h : JRow B w v n qs) (hw : Wr (· = s) w w') (hs : s < B) : JRow B w' v n qs :=
  ⟨ownsRow_wr h.1 hw (ownBlock_ne h.1 hs), h.2.1, fun q hq => (h.2.2 q hq).wr hw (fun _ b hb e => by omega)⟩
theorem JRow.rd {B : Nat} {w : World} {v : Value} {n : Nat} {qs : List Jq} (h : JRow B w v n qs) (hn : n ≤ 1048576) : RdJ (fun _ => True) w v (qs.map ojOf) := by
  obtain ⟨h1, h2, h3⟩ := h
  have hlen : (qs.map ojOf).length = n := by rw [List.length_map]; exact h2
  rcases h1.2 with ⟨rfl, rfl⟩ | ⟨g, cap, cur, rfl, hB, _⟩
  · exact ⟨none, 0, by rw [hlen], by rw [hlen]; omega, fun hne => absurd (List.length_eq_zero_iff.1 hlen) hne⟩
  · refine ⟨_, cap, by rw [hlen], by rw [hlen]; omega, fun _ => ⟨g, 0, fun i => ((qs[i]?).map (fun q => q.2.2.1)).getD (.slice none 0 0), rfl, trivial, fun i hi => ?_⟩⟩
    rw [List.length_map] at hi
    have hq : qs[i]? = some qs[i] := List.getElem?_eq_getElem hi
    obtain ⟨a, b, c⟩ := cellsQ_at qs i _ hq
    have ce := h1.cells (g := g) (by simp [Value.ownBlock])
    have e : (qs.map ojOf).getD i oj0 = ojOf qs[i] := by simp [List.getD, hi]
    rw [e]
    have c0 := ce _ _ a
    have c1 := ce _ _ b
    have c2 := ce _ _ c
    have ad : ∀ j, (⟨g, 0, none⟩ : Addr).add j = ⟨g, j, none⟩ := fun j => by unfold Addr.add; by_cases e : j = 0 <;> simp [e]
    rw [ad] at c0 c1 c2
    refine ⟨by simpa [ojOf] using c0, by simpa [ojOf, Nat.add_assoc] using c1, by simpa [hq, Nat.add_assoc] using c2, ?_⟩
    simp only [hq, Option.map_some, Option.getD_some]
    exact (h3 _ (List.getElem_mem hi)).narrow fun _ _ _ => trivial
theorem JRow.one {B M : Nat} {w w3 : World} {v z : Value} {n g cap : Nat} {qs : List Jq} {a f : Int} {ws : List Int} {o : Obj} (h : JRow B w v n qs) (hz : RdI (fun b => M ≤ b) w z ws) (hM : ∀ r, v.ownBlock = some r → r < M) (hB : B ≤ M)
    (hown : w3.ownsRow B 26 3 (.slice (some ⟨g, 0, none⟩) (n + 1) cap) (n + 1) (cellsQ qs ++ [.int .i64 a, .int .i64 f, z])) (hg : (w.alloc o).grownBy w3 v.ownBlock) (hat : v.ownBlock = some g ∨ g = w.heap.size + 1) :
    JRow B w3 (.slice (some ⟨g, 0, none⟩) (n + 1) cap) (n + 1) (qs ++ [(a, f, z, ws)]) := by
  have key : ∀ (y : Value) (xs : List Int), RdI (fun b => B ≤ b ∧ some b ≠ v.ownBlock) w y xs → RdI (fun b => B ≤ b ∧ some b ≠ (Value.slice (some ⟨g, 0, none⟩) (n + 1) cap).ownBlock) w3 y xs := fun y xs hy => by
    refine (((rdI_ltR hy).later (below_alloc w o)).grownD (fun _ b hb => hb.1.2) hg).narrow fun _ b hb => ⟨hb.1.1, fun e => ?_⟩
    simp only [Value.ownBlock] at e
    injection e with e
    rcases hat with h1 | h1
    · exact hb.1.2 (by rw [h1, e])
    · omega
  refine ⟨by rw [cellsQ_snoc]; exact hown, by rw [List.length_append, h.2.1]; rfl, fun q hq => ?_⟩
  rcases List.mem_append.1 hq with hq | hq
  · exact key _ _ (h.2.2 q hq)
  · rw [List.mem_singleton] at hq
    subst hq
    exact key z ws (hz.narrow fun _ b hb => ⟨by omega, fun e => by have := hM b e.symm; omega⟩)
theorem Tryz.infoJ : (Tryz.prog.info? 26).map (fun i => (i.zero, i.size, i.bytes)) = some (some (.agg #[.int .i64 0, .int .i64 0, .slice none 0 0]), 3, 40) := by kernel_rfl
theorem Tryz.fldW1 (x y : Value) (w : World) : (Instr.field 35 (.agg #[x, y]) 1).run Tryz.prog w = .ok y w := by
  simp [Instr.field, run_underlying Tryz.underlying35, asAgg, part, isAgg, run_underlying Tryz.underlying30]
theorem run_make13 (w : World) : (Instr.makeSlice 31 (.int .i64 13) (.int .i64 13)).run Tryz.prog w = .ok (.slice (some ⟨w.heap.size, 0, none⟩) 13 13) (w.alloc (.cells (madeCells #[.int .i64 0, .int .i64 0, .slice none 0 0] 39) 26)) := by
  obtain ⟨i0, hi, hz0, hz1, hz2⟩ := info_parts Tryz.infoJ
  have h := run_make (P := Tryz.prog) w 31 26 i0 _ Tryz.underlying31 hi hz0 .i64 .i64 13 13 (by omega) (by omega) (by rw [hz2]; omega) (by omega)
  rw [hz1] at h
  exact h
theorem made_jrow (B : Nat) (w : World) (hB : B ≤ w.heap.size) : JRow B (w.alloc (.cells (madeCells #[.int .i64 0, .int .i64 0, .slice none 0 0] 39) 26)) (.slice (some ⟨w.heap.size, 0, none⟩) 13 13) 13 (List.replicate 13 (0, 0, .slice none 0 0, [])) := by
  refine ⟨⟨by simp [cellsQ_len], Or.inr ⟨w.heap.size, 13, _, rfl, hB, heap_alloc_new w _, Nat.le_refl _, by unfold maxLen; omega, size_madeCells _ _, ?_⟩⟩, rfl, fun q hq => ?_⟩
  · have h : (madeCells #[Value.int .i64 0, Value.int .i64 0, Value.slice none 0 0] 39).toList = (List.range 39).map (fun i => #[Value.int .i64 0, Value.int .i64 0, Value.slice none 0 0][i % 3]!) := by simp [madeCells]
    rw [h]
    rfl
  have := List.eq_of_mem_replicate hq
  subst this
  exact ⟨none, 0, by simp, by simp, fun h => absurd rfl h⟩

set_option linter.unusedSimpArgs false in
set_option maxHeartbeats 8000000 in
set_option maxRecDepth 4000 in
theorem drawPutsOf {w : World} {v : Value} {bs : List Nat} (hv : RdB w.heap.size w v bs) :
    Calls Tryz.prog 8 #[v] w fun e w' => ∃ (z y : Value) (S : Nat → Prop) (vs : List (Int × List Int)) (os : List Oj), e = .returned (.tuple #[z, y]) ∧ Below w.heap.size w w' ∧ RdP S w' z vs ∧ RdJ (fun _ => True) w' y os ∧ os.length ≤ 1048576 := by
  have HV := hide hv
  obtain ⟨i0, hi, hz0, hz1, hz2⟩ := info_parts Tryz.infoJ
  have fV1 := Tryz.fldW1
  obtain ⟨ao, c, rfl, h2, h3⟩ := hv
  clear h2 h3
  go_enter Tryz.func8, Tryz.ntmps8
  go_wp2_with fail
  refine (l1Source HV.out).mono ?_
  rintro e w1 ⟨rfl, hb1, hs1, hS1⟩
  have HB1 := hide hb1
  have HS1 := hide hS1
  clear hb1 hS1
  go_wp2_with fail
  refine (l3Right_some HS1.out (by omega)).mono ?_
  rintro e w2 ⟨a1, n1, c1, a2, n2, c2, xss, ps, rfl, hrd, hrp, hso, t2, hd2⟩
  have HVw := hide (specViewOf hrd hrp hso.small)
  have HS2 := hide hd2.1
  have hs2 := hd2.2.1.size
  have ht2 := hd2.2.2
  have HB2 := hide (HB1.out.trans (hd2.2.1.below (by omega) (fun b hb => by omega)))
  generalize lgF xss ps = cx at HVw
  generalize vwL xss ps = vs at HVw
  clear hrd hrp hso hd2 HB1 HS1
  go_wp2_with fail
  refine HVw.out.mono ?_
  rintro e w3 ⟨z3, rfl, hb3, ho3⟩
  obtain ⟨a3, c3, hz3⟩ := ho3.shape
  have HR3 := hide (ho3.rd.monoR (T := fun b => w.heap.size < b) (fun b hb => by omega))
  have HS3 := hide (HS2.out.later hb3)
  have hs3 := hb3.size
  have HB3 := hide (HB2.out.trans (hb3.mono (by omega)))
  generalize vs.length = l3 at hz3
  subst hz3
  clear hb3 ho3 HVw HB2 HS2
  go_wp2_with fail
  refine (l1Chance 12 HS3.out (by omega) (by omega) (by omega)).mono ?_
  rintro e w4 ⟨ch, rfl, t4, hd4⟩
  have HR4 := hide (HR3.out.wr hd4.2.1 (fun b hb e => by omega))
  have HS4 := hide hd4.1
  have hs4 := hd4.2.1.size
  have ht4 := hd4.2.2
  have HB4 := hide (HB3.out.trans (hd4.2.1.below (by omega) (fun b hb => by omega)))
  clear hd4 HR3 HS3 HB3
  go_upto_if 15 with fail
  go_cut [5] from 16 to 17 (fun x wx => ∃ (az : Option Addr) (nz cz : Nat) (us : List (Int × List Int)) (t5 : Nat), x = .slice az nz cz ∧ Hid (RdP (fun b => w.heap.size < b) wx (.slice az nz cz) us) ∧ Hid (Src w.heap.size (.slice ao bs.length c) bs wx t5) ∧ t5 ≤ 20000 ∧ w.heap.size < wx.heap.size ∧ Hid (Below w.heap.size w wx))
  case first =>
    cases ch with
    | true =>
      go_wp2_with fail
      refine (l4Bent_some HS4.out (by omega)).mono ?_
      rintro e w5 ⟨z5, us, rfl, hl5, hb5, t5, hd5⟩
      obtain ⟨a5, c5, hz5⟩ := BuiltP.shape hb5
      have HR5 := hide ((BuiltP.ow hb5 rfl (by omega)).rd.monoR (T := fun b => w.heap.size < b) (fun b hb => by omega))
      have HB5 := hide (HB4.out.trans (hd5.2.1.below (by omega) (fun b hb => by omega)))
      have HS5 := hide hd5.1
      have hs5 := hd5.2.1.size
      have ht5 := hd5.2.2
      generalize us.length = l5 at hz5
      subst hz5
      clear hd5 hb5 hl5
      go_wp2_with fail
      go_meet
      case rel => exact ⟨a5, l5, c5, us, t5, rfl, HR5.out, HS5.out, by omega, by omega, HB5.out⟩
    | false =>
      go_wp2_with fail
      go_meet
      case rel => exact ⟨a3, l3, c3, vs, t4, rfl, HR4.out, HS4.out, by omega, by omega, HB4.out⟩
  case rest =>
    obtain ⟨az, nz, cz, us, t5, rfl, HRz, HSz, ht5, hwz, HBz⟩ := hcut
    clear HR4 HS4 HB4
    have D0 := hide ((Drawn.refl HSz.out).later (below_alloc wc (.cells #[] 26)))
    have J0 : Hid (JRow wc.heap.size (wc.alloc (.cells #[] 26)) (.slice (some ⟨wc.heap.size, 0, none⟩) 0 0) 0 []) := ⟨World.ownsRow_made (base := wc.heap.size) (e := 26) (size := 3) wc #[] 0 (Nat.le_refl _) (by unfold maxLen; omega) (by simp), rfl, fun q hq => absurd hq (by simp)⟩
    have hwc := hwz
    go_wp2_with fail
    generalize wc.alloc (.cells #[] 26) = W0 at D0 J0 ⊢
    refine (l1Next 6 D0.out.1 (by omega) (by omega) (by omega)).mono ?_
    rintro e w6 ⟨r6, rfl, ra6, rb6, t6, hd6⟩
    have rb6' := rb6 (by omega)
    obtain ⟨K, rfl⟩ : ∃ K : Nat, r6 = (K : Int) := ⟨r6.toNat, (Int.toNat_of_nonneg ra6).symm⟩
    have J6 := hide (J0.out.drawn hd6.2.1 (by omega))
    have D6 := hide (D0.out.on hd6)
    clear hd6 rb6 D0 J0
    go_wp2
    go_loopw [6, 7] (fun y i wr => ∃ (K n : Nat) (ay : Option Addr) (cy : Nat) (qs : List Jq) (t7 : Nat), n + K ≤ 5 ∧ i = .int .i64 (K : Int) ∧ y = .slice ay n cy ∧ Hid (JRow wc.heap.size wr (.slice ay n cy) n qs) ∧ Hid (Drawn (1 + n * 20) w.heap.size (.slice ao bs.length c) bs t5 t7 wc wr)) (fun _ i _ => (RowKit.intOf i).toNat)
    case atStart => exact ⟨K, 0, _, _, [], t6, by omega, rfl, rfl, J6.out, D6.out.mono (by omega)⟩
    case round =>
      obtain ⟨K, n, ay, cy, qs, t7, hnK, rfl, rfl, HJ, HD⟩ := hrel
      have hsz := HD.out.2.1.size
      have ht7 := HD.out.2.2
      by_cases hK0 : 0 < K
      · have hK0i : (0 : Int) < (K : Int) := by omega
        go_wp2_with fail
        refine (l5Draw HD.out.1 (by omega)).mono ?_
        rintro e w8 ⟨oa, ob, a8, n8, c8, ws, rfl, hn8, hl8, hown8, t8, hd8⟩
        have hs8 := hd8.2.1.size
        have HJ8 := hide (HJ.out.drawn hd8.2.1 (by omega))
        have HD8 := hide (HD.out.on hd8)
        have HZ8 := hide ((ow_of_owns hl8 hown8 (by omega)).rd.narrow (T := fun b => wr.heap.size ≤ b) (fun _ b hb => by omega))
        have HMx : Hid (∀ r, (Value.slice ay n cy).ownBlock = some r → r < wr.heap.size) := fun r hr => (HJ.out.1.lt r hr).2
        clear hd8 hown8 HJ HD
        go_wp2_with (at_builtin; refine wpList_append_lies _ rfl _ _ _ rfl wc.heap.size 26 i0 (.agg #[.int .i64 0, .int .i64 0, .slice none 0 0]) 3 40 Tryz.underlying31 hi hz0 hz1 hz2 rfl (by omega) _ n _ (by rfl) (HJ8.out.1.alloc (.cells #[.int .i64 oa, .int .i64 ob, .slice a8 n8 c8] 26)) ⟨w8.heap.size, 0, none⟩ 1 1 [.int .i64 oa, .int .i64 ob, .slice a8 n8 c8] (by rfl) (by rfl) (World.news_of_block (cs := #[.int .i64 oa, .int .i64 ob, .slice a8 n8 c8]) (t := 26) (fr := (0, 0)) (heap_alloc_new w8 _)) (by simp [Value.oneCell']) (by omega) (by unfold maxLen; omega) (by omega) (by simp; omega) (w8.heap.size + 1) (by simp) ?_; intro g cap w9 hown hgrow hat hlt9)
        have HJ9 := hide (HJ8.out.one HZ8.out HMx.out (by omega) hown hgrow hat)
        have HB9 := hide ((Below.mono (below_alloc w8 (.cells #[.int .i64 oa, .int .i64 ob, .slice a8 n8 c8] 26)) (show wc.heap.size ≤ w8.heap.size by omega)).grown hgrow (by simp; omega) (fun r hr => (HJ8.out.1.lt r hr).1))
        have HD9 := hide (HD8.out.onBelow HSz.out HB9.out)
        clear hown hgrow hat hlt9 HB9 HJ8 HD8 HZ8 HMx
        obtain ⟨K', rfl⟩ : ∃ K', K = K' + 1 := ⟨K - 1, by omega⟩
        go_wp2
        go_roundw
        case rel => exact ⟨K', n + 1, _, _, _, t8, by omega, by go_num, rfl, HJ9.out, HD9.out.mono (by omega)⟩
        case measure => simp [RowKit.intOf]
      · have hKz : K = 0 := by omega
        subst hKz
        go_wp2_with fail
        refine (l1Next 14 HD.out.1 (by omega) (by omega) (by omega)).mono ?_
        rintro e w8 ⟨r8, rfl, ra8, rb8, t8, hd8⟩
        have hs8 := hd8.2.1.size
        have HJ8 := hide (HJ.out.drawn hd8.2.1 (by omega))
        have HD8 := hide (HD.out.on hd8)
        clear hd8 rb8 HJ HD
        have ht8 := HD8.out.2.2
        by_cases hr0 : r8 = 0
        · subst hr0
          go_wp2_with fail
          refine (l5Bent HD8.out.1 (by omega)).mono ?_
          rintro e wb ⟨oa, ob, zb, ws, rfl, hlb, hob, tb, hdb⟩
          obtain ⟨ab, cb, hzb⟩ := hob.shape
          have hsb := hdb.2.1.size
          have HJb := hide (HJ8.out.drawn hdb.2.1 (by omega))
          have HDb := hide (HD8.out.on hdb)
          have HZb := hide (hob.rd.narrow (T := fun b => w8.heap.size ≤ b) (fun _ b hb => hb.1))
          have HMx : Hid (∀ r, (Value.slice ay n cy).ownBlock = some r → r < w8.heap.size) := fun r hr => (HJ8.out.1.lt r hr).2
          generalize ws.length = nb at hzb
          subst hzb
          clear hdb hob HJ8 HD8
          go_wp2_with (at_builtin; refine wpList_append_lies _ rfl _ _ _ rfl wc.heap.size 26 i0 (.agg #[.int .i64 0, .int .i64 0, .slice none 0 0]) 3 40 Tryz.underlying31 hi hz0 hz1 hz2 rfl (by omega) _ n _ (by rfl) (HJb.out.1.alloc (.cells #[.int .i64 oa, .int .i64 ob, .slice ab nb cb] 26)) ⟨wb.heap.size, 0, none⟩ 1 1 [.int .i64 oa, .int .i64 ob, .slice ab nb cb] (by rfl) (by rfl) (World.news_of_block (cs := #[.int .i64 oa, .int .i64 ob, .slice ab nb cb]) (t := 26) (fr := (0, 0)) (heap_alloc_new wb _)) (by simp [Value.oneCell']) (by omega) (by unfold maxLen; omega) (by omega) (by simp; omega) (wb.heap.size + 1) (by simp) ?_; intro g cap w9 hown hgrow hat hlt9)
          have HJ9 := hide ((HJb.out.one HZb.out HMx.out (by omega) hown hgrow hat).rd (by omega))
          have HB9 := hide ((Below.mono (below_alloc wb (.cells #[.int .i64 oa, .int .i64 ob, .slice ab nb cb] 26)) (show wc.heap.size ≤ wb.heap.size by omega)).grown hgrow (by simp; omega) (fun r hr => (HJb.out.1.lt r hr).1))
          have HD9 := hide (HDb.out.onBelow HSz.out HB9.out)
          have HLn : Hid (((qs ++ [((oa, ob, .slice ab nb cb, ws) : Jq)]).map ojOf).length ≤ 1048576) := by have := HJb.out.2.1; unfold Hid; rw [List.length_map, List.length_append, this]; simp; omega
          have HRe := hide (HRz.out.wr HD9.out.2.1 (fun b hb e => by omega))
          have HBe := hide (HBz.out.trans (HD9.out.2.1.below (by omega) (fun b hb => by omega)))
          clear hown hgrow hat hlt9
          go_wp2
          refine bodyPost_ret (v := .tuple #[.slice az nz cz, .slice (some ⟨g, 0, none⟩) (n + 1) cap]) (by simp [results, Tryz.results8, go_sem]) rfl ⟨_, _, _, us, _, rfl, HBe.out, HRe.out, HJ9.out, HLn.out⟩
        · have hr0b : (r8 == 0) = false := by simpa using hr0
          by_cases hr1 : r8 = 1
          · subst hr1
            have hmk := run_make13
            have HJ9 := hide ((made_jrow wc.heap.size w8 (by omega)).rd (by omega))
            have bA := below_alloc w8 (.cells (madeCells #[.int .i64 0, .int .i64 0, .slice none 0 0] 39) 26)
            have HRe := hide ((HRz.out.wr HD8.out.2.1 (fun b hb e => by omega)).later bA)
            have HBe := hide ((HBz.out.trans (HD8.out.2.1.below (by omega) (fun b hb => by omega))).trans (bA.mono (by omega)))
            clear bA
            generalize madeCells #[Value.int .i64 0, Value.int .i64 0, Value.slice none 0 0] 39 = MC at hmk HJ9 HRe HBe
            go_wp2
            refine bodyPost_ret (v := .tuple #[.slice az nz cz, .slice (some ⟨w8.heap.size, 0, none⟩) 13 13]) (by simp [results, Tryz.results8, go_sem]) rfl ⟨_, _, _, us, _, rfl, HBe.out, HRe.out, HJ9.out, by simp⟩
          · have hr1b : (r8 == 1) = false := by simpa using hr1
            have HJ9 := hide (HJ8.out.rd (by omega))
            have HLn : Hid ((qs.map ojOf).length ≤ 1048576) := by have := HJ8.out.2.1; unfold Hid; rw [List.length_map, this]; omega
            have HRe := hide (HRz.out.wr HD8.out.2.1 (fun b hb e => by omega))
            have HBe := hide (HBz.out.trans (HD8.out.2.1.below (by omega) (fun b hb => by omega)))
            go_wp2
            refine bodyPost_ret (v := .tuple #[.slice az nz cz, .slice ay n cy]) (by simp [results, Tryz.results8, go_sem]) rfl ⟨_, _, _, us, _, rfl, HBe.out, HRe.out, HJ9.out, HLn.out⟩
end Go.Proofs.YtamknomapabmfaaGreat
/- Chapter 4: what ApplyPuts asks and does, the program's side, walked. -/
namespace Go.Proofs.YtamknomapabmfaaGreat
open Go.RowKit Go.Maps

/-- Puts that are a view: each has words, At rises. -/
def isVw (ps : List (Int × List Int)) : Prop := ∀ i, i < ps.length → (ps.getD i (0, [])).2 ≠ [] ∧ (0 < i → (ps.getD (i - 1) (0, [])).1 < (ps.getD i (0, [])).1)

theorem twoPutsFault {S T : Nat → Prop} {w : World} {u v : Value} {ps qs : List (Int × List Int)} (hu : RdP S w u ps) (hv : RdP T w v qs) :
    Calls Tryz.prog 38 #[u, v] w fun e w' => e = .returned (.int .i64 (if hpF 60 ps = 0 then hpF 60 qs else hpF 60 ps)) ∧ Below w.heap.size w w' := by
  obtain ⟨au, cu, rfl, _⟩ := hu.shape
  obtain ⟨av, cv, rfl, _⟩ := hv.shape
  have HU := hide (homePutsFault 60 hu)
  have HV := hide (fun (w' : World) (hb : Below w.heap.size w w') => homePutsFault 60 (hv.later hb))
  clear hu hv
  generalize hpF 60 ps = p at HU ⊢
  generalize hpF 60 qs = q at HV ⊢
  by_cases h0 : p = 0
  · subst h0
    rw [if_pos rfl]
    go_enter Tryz.func38, Tryz.ntmps38
    go_wp2_with fail
    refine HU.out.mono ?_
    rintro e w1 ⟨rfl, hb1⟩
    have HB1 := hide hb1
    clear hb1
    go_wp2_with fail
    refine (HV.out _ HB1.out).mono ?_
    rintro e w2 ⟨rfl, hb2⟩
    have HB2 := hide (below_on HB1.out hb2)
    clear hb2
    go_wp2
    go_ret
    exact ⟨rfl, HB2.out⟩
  · rw [if_neg h0]
    go_enter Tryz.func38, Tryz.ntmps38
    go_wp2_with fail
    refine HU.out.mono ?_
    rintro e w1 ⟨rfl, hb1⟩
    have HB1 := hide hb1
    clear hb1
    go_wp2
    go_ret
    exact ⟨rfl, HB1.out⟩

set_option maxHeartbeats 2000000 in
set_option maxRecDepth 4000 in
theorem isViewP {S : Nat → Prop} {w : World} {u : Value} {ps : List (Int × List Int)} (hu : RdP S w u ps) :
    Calls Tryz.prog 39 #[u] w fun e w' => (∃ r : Bool, e = .returned (.bool r) ∧ (r = true ↔ isVw ps)) ∧ Below w.heap.size w w' := by
  obtain ⟨au, cu, rfl, hml⟩ := hu.shape
  have HU := hide hu
  obtain ⟨n, hn⟩ : ∃ n, ps.length = n := ⟨_, rfl⟩
  have HN := hide hn
  rw [hn] at HU hml ⊢
  clear hu hn
  go_enter Tryz.func39, Tryz.ntmps39
  go_wp2
  go_loopw [7] (fun i wr => ∃ k : Nat, k ≤ n ∧ i = .int .i64 (k : Int) ∧ Hid (∀ i, i < k → (ps.getD i (0, [])).2 ≠ [] ∧ (0 < i → (ps.getD (i - 1) (0, [])).1 < (ps.getD i (0, [])).1)) ∧ Hid (Below w.heap.size w wr)) (fun i _ => n - (RowKit.intOf i).toNat)
  case atStart => exact ⟨0, Nat.zero_le _, rfl, fun i hi => absurd hi (Nat.not_lt_zero _), Below.refl _ _⟩
  case round =>
    obtain ⟨k, hk, rfl, HA, HB⟩ := hrel
    by_cases hlt : k < n
    · obtain ⟨b, off, V, rfl, q1, q2, q3⟩ := HU.out.at (k := k) (by rw [HN.out]; exact hlt)
      obtain ⟨a3, c3, rfl⟩ := q3.shape
      have g1 := cell_later HB.out q1
      have g2 := cell_later HB.out q2
      obtain ⟨x, hx⟩ : ∃ x, (ps.getD k (0, [])).1 = x := ⟨_, rfl⟩
      obtain ⟨l, hl⟩ : ∃ l, (ps.getD k (0, [])).2.length = l := ⟨_, rfl⟩
      rw [hx] at g1
      rw [hl] at g2
      have HX := hide hx
      have HL := hide hl
      clear q1 q2 q3 hx hl
      have hnw : w.heap.size ≤ wr.heap.size := HB.out.size
      have bA := hide (below_alloc wr (.cells #[.int .i64 x, .slice a3 l c3] 38))
      by_cases hl0 : l = 0
      · subst hl0
        have HNo : Hid (¬ isVw ps) := fun h => (h k (by rw [HN.out]; exact hlt)).1 (List.eq_nil_of_length_eq_zero HL.out)
        go_wp2_with fail
        go_quiet (fail)
        have HBq := hide (below_on (below_on HB.out bA.out) (below_drewN _ nq))
        go_wp2
        go_ret
        exact ⟨⟨false, rfl, ⟨fun h => (by cases h), fun h => absurd h HNo.out⟩⟩, HBq.out⟩
      · have hl0' : ¬ ((l : Int) = 0) := by omega
        have hl0b : ((l : Int) == 0) = false := by simpa using hl0
        have HNe : Hid ((ps.getD k (0, [])).2 ≠ []) := fun h => hl0 (by rw [← HL.out, h]; rfl)
        by_cases hk0 : k = 0
        · subst hk0
          have g1' : wr.cell? ⟨b, off, none⟩ = some (.int .i64 x) := by simpa using g1
          have g2' : wr.cell? ⟨b, off + 1, none⟩ = some (.slice a3 l c3) := by simpa using g2
          clear g1 g2
          have HA' : Hid (∀ i, i < 0 + 1 → (ps.getD i (0, [])).2 ≠ [] ∧ (0 < i → (ps.getD (i - 1) (0, [])).1 < (ps.getD i (0, [])).1)) := fun i hi => by
            have : i = 0 := by omega
            subst this
            exact ⟨HNe.out, fun h => absurd h (Nat.lt_irrefl _)⟩
          go_wp2_with fail
          go_quiet (fail)
          have HBq := hide (below_on (below_on HB.out bA.out) (below_drewN _ nq))
          go_wp2
          go_roundw
          case rel => exact ⟨0 + 1, by omega, by go_num, HA'.out, HBq.out⟩
          case measure => simp [RowKit.intOf]; omega
        · have hkp : 0 < k := by omega
          obtain ⟨j, hjk⟩ : ∃ j, k = j + 1 := ⟨k - 1, by omega⟩
          obtain ⟨b', off', V', e', q1', _, _⟩ := HU.out.at (k := j) (by rw [HN.out]; omega)
          injection e' with e'
          injection e' with e1 e2
          subst e1 e2
          have g0 := cell_later (below_on HB.out bA.out) q1'
          obtain ⟨y, hy⟩ : ∃ y, (ps.getD j (0, [])).1 = y := ⟨_, rfl⟩
          rw [hy] at g0
          have HY := hide hy
          clear hy q1'
          have hw1 : IntKind.i64.wrap ((k : Int) - 1) = (j : Int) := by simp [IntKind.wrap, IntKind.bits, IntKind.signed]; omega
          have hj0 : (0 : Int) < (k : Int) := by omega
          have hjp : (0 : Int) ≤ (j : Int) := by omega
          have hjn : (j : Int) < (n : Int) := by omega
          have HJK := hide hjk
          clear hk0 hjk
          by_cases hxy : x ≤ y
          · have HNo : Hid (¬ isVw ps) := fun h => by
              have := (h k (by rw [HN.out]; exact hlt)).2 (by have := HJK.out; omega)
              rw [HX.out, show k - 1 = j by have := HJK.out; omega, HY.out] at this
              omega
            go_wp2_with fail
            go_quiet (fail)
            have HBq := hide (below_on (below_on HB.out bA.out) (below_drewN _ nq))
            go_wp2
            go_ret
            exact ⟨⟨false, rfl, ⟨fun h => (by cases h), fun h => absurd h HNo.out⟩⟩, HBq.out⟩
          · have hxy' : y < x := by omega
            have HA' : Hid (∀ i, i < k + 1 → (ps.getD i (0, [])).2 ≠ [] ∧ (0 < i → (ps.getD (i - 1) (0, [])).1 < (ps.getD i (0, [])).1)) := fun i hi => by
              by_cases e : i = k
              · subst e
                exact ⟨HNe.out, fun _ => by rw [HX.out, show i - 1 = j by have := HJK.out; omega, HY.out]; exact hxy'⟩
              · exact HA.out i (by omega)
            go_wp2_with fail
            go_quiet (fail)
            have HBq := hide (below_on (below_on HB.out bA.out) (below_drewN _ nq))
            go_wp2
            go_roundw
            case rel => exact ⟨k + 1, by omega, by go_num, HA'.out, HBq.out⟩
            case measure => simp [RowKit.intOf]; omega
    · have hkn : k = n := by omega
      subst hkn
      have HYes : Hid (isVw ps) := fun i hi => HA.out i (by rw [HN.out] at hi; exact hi)
      go_wp2
      go_ret
      exact ⟨⟨true, rfl, ⟨fun _ => HYes.out, fun _ => rfl⟩⟩, HB.out⟩
end Go.Proofs.YtamknomapabmfaaGreat
