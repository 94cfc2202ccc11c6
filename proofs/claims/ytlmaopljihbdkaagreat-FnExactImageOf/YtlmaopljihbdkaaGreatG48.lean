/- Im5a Fi5b in one text: what each says stands at its head below. -/
import Derived.Test.YtlmaopljihbdkaaGreatG40
import Derived.Test.YtlmaopljihbdkaaGreatG42
import Derived.Test.YtlmaopljihbdkaaGreatG47
import Derived.Test.YtlmaopljihbdkaaGreatG46
import Derived.Test.YtlmaopljihbdkaaGreatG38
import Derived.Deep.AppendLies
/- Chapter 11: puts that are appended several at once; parts of the model's image. -/
namespace Go.Proofs.YtlmaopljihbdkaaGreat
open Go.RowKit

theorem cellsP_like {ps qs : List (Int × List Int)} {k : Nat} (V : Nat → Value) (h : ∀ i, i < k → qs.getD i (0, []) = ps.getD i (0, [])) : cellsP qs k V = cellsP ps k V := by
  unfold cellsP
  refine List.map_congr_left fun t ht => ?_
  have := List.mem_range.1 ht
  rw [h (t / 2) (by omega)]
theorem BuiltP.to {P : Nat → Prop} {w : World} {v : Value} {k : Nat} {ps qs : List (Int × List Int)} (h : BuiltP P w v k ps) (he : ∀ i, i < k → qs.getD i (0, []) = ps.getD i (0, [])) : BuiltP P w v k qs := by
  obtain ⟨V, Bk, h1, h2, h3, h4⟩ := h
  refine ⟨V, Bk, by rw [cellsP_like V he]; exact h1, h2, fun i hi => ?_, fun i hi hne => ?_⟩
  · try dsimp only
    rw [he i hi]; exact h3 i hi
  · try dsimp only at hne
    rw [he i hi] at hne
    obtain ⟨a, b, c, d, e⟩ := h4 i hi hne
    refine ⟨a, b, c, d, fun j hj hnj => e j hj ?_⟩
    try dsimp only at hnj
    rw [he j hj] at hnj
    exact hnj
/-- Several puts are appended. -/
theorem BuiltP.joinK {Q : Nat → Prop} {w1 w2 w3 : World} {z1 : Value} {r2 : Option Nat} {k m g cap : Nat} {ps qs : List (Int × List Int)} {V1 V2 : Nat → Value} {B1 B2 : Nat → Nat} (hk : k ≤ ps.length) (hm : qs.length = m) (hq : ∀ i, i < m → ps.getD (k + i) (0, []) = qs.getD i (0, []))
    (h1 : w1.ownsRow 0 74 2 z1 k (cellsP ps k V1)) (p1 : ∀ r, z1.ownBlock = some r → Q r) (i1 : Inner Q w1 z1.ownBlock k V1 B1 (fun i => (ps.getD i (0, [])).2)) (hb : Below w1.heap.size w1 w2)
    (i2 : Inner (w1.heap.size ≤ ·) w2 r2 m V2 B2 (fun i => (qs.getD i (0, [])).2)) (hQ : ∀ b, w1.heap.size ≤ b → Q b)
    (hown : w3.ownsRow 0 74 2 (.slice (some ⟨g, 0, none⟩) (k + m) cap) (k + m) (cellsP ps k V1 ++ cellsP qs qs.length V2)) (hg : w2.grownBy w3 z1.ownBlock) (hat : z1.ownBlock = some g ∨ g = w2.heap.size) :
    BuiltP Q w3 (.slice (some ⟨g, 0, none⟩) (k + m) cap) (k + m) ps := by
  have hl : (ps.take k).length = k := by rw [List.length_take]; omega
  have et : ∀ i, i < k → (ps.take k).getD i (0, []) = ps.getD i (0, []) := fun i hi => by simp [List.getD, hi]
  have hc := cellsP_like (k := k) V1 et
  refine (BuiltP.join (vs := ps.take k) (ps := qs) (B1 := B1) hl hm (by rw [hc]; exact h1) p1 ?_ hb i2 hQ (by rw [hc]; exact hown) hg hat).to fun i hi => ?_
  · refine ⟨fun i hi => by (try dsimp only); rw [et i hi]; exact i1.rd i hi, fun i hi hne => ?_⟩
    try dsimp only at hne
    rw [et i hi] at hne
    obtain ⟨a, b, c, d, e⟩ := i1.own i hi hne
    refine ⟨a, b, c, d, fun j hj hnj => e j hj ?_⟩
    try dsimp only at hnj
    rw [et j hj] at hnj
    exact hnj
  · by_cases h : i < k
    · rw [← et i h]; simp only [List.getD]; rw [List.getElem?_append_left (by omega)]
    · have := hq (i - k) (by omega)
      rw [show k + (i - k) = i by omega] at this
      rw [this]; simp only [List.getD]; rw [List.getElem?_append_right (by omega), hl]
theorem inner_two {w w1 w2 w3 : World} {z1 z2 : Value} {a b : Int} {x1 x2 : List Int} (h1 : OwI w.heap.size w1 z1 x1) (hb1 : Below w1.heap.size w1 w2) (h2 : OwI w1.heap.size w2 z2 x2) (hb2 : Below w2.heap.size w2 w3) (hs : w.heap.size ≤ w1.heap.size) :
    ∃ B2, Inner (w.heap.size ≤ ·) w3 (some w2.heap.size) 2 (fun i => if i = 0 then z1 else z2) B2 (fun i => ([(a, x1), (b, x2)].getD i (0, [])).2) := by
  obtain ⟨g1, r1, o1⟩ := h1
  obtain ⟨g2, r2, o2⟩ := h2
  have s1 := hb1.size
  have s2 := hb2.size
  have r1' := (r1.later hb1).later hb2
  have r2' := r2.later hb2
  refine ⟨fun i => if i = 0 then g1 else g2, fun i hi => ?_, fun i hi hne => ?_⟩
  · rcases (by omega : i = 0 ∨ i = 1) with rfl | rfl
    · simpa using r1'
    · simpa using r2'
  · rcases (by omega : i = 0 ∨ i = 1) with rfl | rfl
    · obtain ⟨k1, k2, k3⟩ := o1 (by simpa using hne)
      refine ⟨by simpa using k1, by simp; omega, fun o => ?_, by simp; omega, fun j hj hnj e => ?_⟩
      · have := ((bcell hb2).2 g1 o (by omega)).trans (((bcell hb1).2 g1 o k2).trans (k3 o))
        simpa using this
      · rcases (by omega : j = 0 ∨ j = 1) with rfl | rfl
        · rfl
        · obtain ⟨q1, q2, q3⟩ := o2 (by simpa using hnj)
          simp at e
          omega
    · obtain ⟨k1, k2, k3⟩ := o2 (by simpa using hne)
      refine ⟨by simp; omega, by simp; omega, fun o => ?_, by simp; omega, fun j hj hnj e => ?_⟩
      · have := ((bcell hb2).2 g2 o k2).trans (k3 o)
        simpa using this
      · rcases (by omega : j = 0 ∨ j = 1) with rfl | rfl
        · obtain ⟨q1, q2, q3⟩ := o1 (by simpa using hnj)
          simp at e
          omega
        · rfl
theorem cells_two (a b : Int) (x1 x2 : List Int) (z1 z2 : Value) : cellsP [(a, x1), (b, x2)] 2 (fun i => if i = 0 then z1 else z2) = [.int .i64 a, z1, .int .i64 b, z2] := by
  rfl
/-- What an answer of puts is made of. -/
theorem OwP.parts {B : Nat} {w : World} {v : Value} {ps : List (Int × List Int)} (h : OwP (fun b => B ≤ b ∧ b < w.heap.size) w v ps) (hne : ps ≠ []) :
    ∃ (b off c : Nat) (V : Nat → Value) (Bk : Nat → Nat), v = .slice (some ⟨b, off, none⟩) ps.length c ∧ Inner (B ≤ ·) w (some b) ps.length V Bk (fun i => (ps.getD i (0, [])).2) ∧
      (∀ j x, (cellsP ps ps.length V)[j]? = some x → w.cell? ((⟨b, off, none⟩ : Addr).add j) = some x) ∧ ∀ x ∈ cellsP ps ps.length V, x.oneCell' = true := by
  obtain ⟨ao, c, b, off, V, Bk, rfl, _, h3, h4⟩ := h
  obtain ⟨rfl, _, _⟩ := h3 hne
  refine ⟨b, off, c, V, Bk, rfl, ⟨fun i hi => (h4 i hi).2.2.1, fun i hi hn => ?_⟩, cellsP_at fun i hi => ⟨(h4 i hi).1, (h4 i hi).2.1⟩, cellsP_one (S := fun _ => True) (w := w) fun i hi => ((h4 i hi).2.2.1).narrow fun _ _ _ => trivial⟩
  obtain ⟨k1, k2, k3, k4⟩ := (h4 i hi).2.2.2 hn
  exact ⟨k1.1, k1.2, k3, fun e => by injection e with e; exact k2 e.symm, k4⟩

theorem st_at1 (r : Rf) (i : Nat) (h : i < (flP r).length) : (stP r).getD i (0, []) = (flP r).getD i (0, []) := by
  unfold stP
  simp only [List.append_assoc, List.getD]
  rw [List.getElem?_append_left h]
theorem st_at2 (r : Rf) : (stP r).getD (flP r).length (0, []) = (2, [r.tm, r.vt, r.si, r.st, (r.lg.length : Int)]) := by
  unfold stP
  simp only [List.append_assoc, List.getD]
  rw [List.getElem?_append_right (by omega)]
  simp [meP]
theorem st_at3 (r : Rf) (i : Nat) (h : i < (snP r).length) : (stP r).getD ((flP r).length + 1 + i) (0, []) = (snP r).getD i (0, []) := by
  unfold stP
  simp only [List.append_assoc, List.getD]
  rw [List.getElem?_append_right (by omega), List.getElem?_append_right (by simp [meP]; omega), List.getElem?_append_left (by simp [meP]; omega)]
  simp [meP]
  congr 2
  omega
theorem st_at4 (r : Rf) (i : Nat) (h : i < r.lg.length) : (stP r).getD ((flP r).length + 1 + (snP r).length + i) (0, []) = (sfV (r.lg.getD i oj0).1, peR (r.lg.getD i oj0)) := by
  unfold stP
  simp only [List.getD]
  rw [List.getElem?_append_right (by simp [meP]; omega)]
  simp [meP, enP]
  rw [show (flP r).length + 1 + (snP r).length + i - ((flP r).length + ((snP r).length + 1)) = i by omega]
  simp [h]
theorem st_length (r : Rf) : (stP r).length = (flP r).length + 1 + (snP r).length + r.lg.length := by
  simp [stP, meP, enP]; omega
theorem st_words {r : Rf} (h : rfF r = 0) (i : Nat) : ((stP r).getD i (0, [])).2.length ≤ 64 := by
  have hr := rfF_iff.1 h
  have key : ∀ x, x ∈ stP r → x.2.length ≤ 64 := fun x hx => by
    unfold stP at hx
    rcases List.mem_append.1 hx with hx | hx
    · rcases List.mem_append.1 hx with hx | hx
      · rcases List.mem_append.1 hx with hx | hx
        · unfold flP at hx
          split at hx
          · simp at hx
          · simp only [List.mem_cons, List.not_mem_nil, or_false] at hx
            rcases hx with rfl | rfl
            · unfold pmR; split <;> simp [pkL]
            · unfold pdR
              split
              · rename_i h1; have := pkF_small h1; dsimp only; omega
              · simp
        · obtain rfl : x = _ := by simpa [meP] using hx
          simp
      · unfold snP at hx
        obtain ⟨k, _, rfl⟩ := List.mem_map.1 hx
        simp only [List.length_take]
        omega
    · unfold enP at hx
      obtain ⟨p, _, rfl⟩ := List.mem_map.1 hx
      unfold peR
      split
      · rename_i h1
        have := (entF_zero h1).2.1
        simp [pkE]
        omega
      · simp
  by_cases hi : i < (stP r).length
  · exact key _ (by simp [List.getD, hi])
  · simp [List.getD, List.getElem?_eq_none (show (stP r).length ≤ i by omega)]
theorem st_forty {r : Rf} (h : rfF r = 0) : (stP r).length ≤ 40 := by
  have hr := rfF_iff.1 h
  have h1 := (sbL_some (daF_len hr.da)).1
  have h2 := (logF_iff.1 hr.lo).1
  have h3 : (flP r).length ≤ 2 := by unfold flP; split <;> simp
  rw [st_length, snP_len]
  omega
theorem st_apply {r : Rf} (h : rfF r = 0) : (stP r).length ≤ 60 ∧ ∀ i, i < (stP r).length → 0 ≤ ((stP r).getD i (0, [])).1 ∧ ((stP r).getD i (0, [])).1 < 40 ∧ ((stP r).getD i (0, [])).2.length ≤ 64 := by
  have h40 := st_forty h
  refine ⟨by omega, fun i hi => ?_⟩
  have hm : (stP r).getD i (0, []) ∈ stP r := by simp [List.getD, hi]
  obtain ⟨a, b⟩ := (st_laid h).room _ hm
  exact ⟨a, b, st_words h i⟩
theorem fl_two {r : Rf} (h : rfF r = 0) (h0 : r.si ≠ 0) : sfL r = [(2, (r.sn.length : Int), sbL r)] ∧ flP r = [(0, pkL (sbL r)), (1, pkF (sfL r))] := by
  have hl := daF_len (rfF_iff.1 h).da
  have e : sfL r = [(2, (r.sn.length : Int), sbL r)] := by unfold sfL sbL; rw [if_neg h0, if_neg h0]
  refine ⟨e, ?_⟩
  unfold flP
  rw [if_neg (by rw [e]; simp)]
  unfold pmR pdR
  rw [if_pos (sb_map r hl), if_pos (sf_fil r hl)]
theorem fl_none {r : Rf} (h0 : r.si = 0) : sfL r = [] ∧ flP r = [] ∧ sbL r = [] := by
  have e : sfL r = [] := by unfold sfL; rw [if_pos h0]
  exact ⟨e, by unfold flP; rw [if_pos e], by unfold sbL; rw [if_pos h0]⟩
end Go.Proofs.YtlmaopljihbdkaaGreat
/- Chapter 8: 'PackDir' of the model, walked. -/
namespace Go.Proofs.YtlmaopljihbdkaaGreat
open Go.RowKit

set_option maxHeartbeats 4000000 in
set_option maxRecDepth 4000 in
theorem l8Pack {S : Nat → Prop} {w : World} {v : Value} {fs : List Oj} (hv : RdJ S w v fs) (hsm : (pkF fs).length ≤ 1048576) :
    Calls Tryz.prog 68 #[v] w fun e w' => ∃ z, e = .returned z ∧ Below w.heap.size w w' ∧ w'.ownsRow w.heap.size 2 1 z (pkF fs).length ((pkF fs).map (Value.int .i64)) := by
  obtain ⟨av, cv, rfl, hm⟩ := hv.shape
  have HV := hide hv
  obtain ⟨n, hn⟩ : ∃ n, fs.length = n := ⟨_, rfl⟩
  have HN := hide hn
  rw [hn] at HV hm ⊢
  clear hv hn
  obtain ⟨i0, hi, hz0, hz1, hz2⟩ := info_parts Tryz.infoInt
  have HAll := hide (pkTo_all HN.out)
  have HLs := hide (fun k hk => pkTo_len n fs k hk)
  obtain ⟨R, hR⟩ : ∃ R, pkF fs = R := ⟨_, rfl⟩
  rw [hR] at HAll HLs hsm ⊢
  clear hR
  have HRow0 : Hid ((w.alloc (.cells #[.int .i64 (n : Int)] 2)).ownsRow w.heap.size 2 1 (.slice (some ⟨w.heap.size, 0, none⟩) 1 1) 1 ((pkTo n fs 0).map (Value.int .i64))) :=
    ownsRow_fullF w [.int .i64 (n : Int)] 2 (by simp)
  have HB0 := hide (below_alloc w (.cells #[.int .i64 (n : Int)] 2))
  go_enter Tryz.func68, Tryz.ntmps68
  go_wp2
  go_loopw [3, 4] (fun v i wr => ∃ (k j : Nat), k ≤ n ∧ i = .int .i64 k ∧ Hid ((pkTo n fs k).length = j) ∧ Hid (wr.ownsRow w.heap.size 2 1 v j ((pkTo n fs k).map (Value.int .i64))) ∧ Hid (Below w.heap.size w wr)) (fun _ i _ => n - (RowKit.intOf i).toNat)
  case atStart => exact ⟨0, 1, Nat.zero_le _, rfl, rfl, HRow0.out, HB0.out⟩
  case round =>
    clear HRow0 HB0
    obtain ⟨k, j, hk, rfl, HJ, HRow, HB⟩ := hrel
    by_cases hlt : k < n
    · obtain ⟨b, off, rfl, y, q0, q1, q2, q3⟩ := HV.out.file (k := k) (by rw [HN.out]; exact hlt)
      have HSn := hide (pkTo_succ n fs k (by rw [HN.out]; exact hlt))
      have hjl : j + 2 + (fs.getD k oj0).2.2.length ≤ 1048576 := by
        have h1 := HLs.out (k + 1) (by rw [HN.out]; exact hlt)
        rw [HSn.out] at h1
        simp only [List.length_append, HJ.out, List.length_cons, List.length_nil] at h1
        omega
      obtain ⟨p, hp⟩ : ∃ p, fs.getD k oj0 = p := ⟨_, rfl⟩
      rw [hp] at q0 q1 q3 HSn hjl
      obtain ⟨a, s, xs⟩ := p
      dsimp only at q0 q1 q3 HSn hjl
      have g0 := cell_later HB.out q0
      have g1 := cell_later HB.out q1
      have g2 := cell_later HB.out q2
      obtain ⟨a3, c3, rfl⟩ := q3.shape
      obtain ⟨l, hl⟩ : ∃ l, xs.length = l := ⟨_, rfl⟩
      rw [hl] at g2 q2 q3 hjl
      have HQ2 := hide q2
      have HQ3 := hide q3
      have HL := hide hl
      have hzz := HB.out.size
      have hbl : b < wr.heap.size := World.block_lt_of_cell? _ _ g0
      have hbw : b < w.heap.size := World.block_lt_of_cell? _ _ q0
      clear hp q0 q1 q2 q3 hl
      have hk0 : (0 : Int) ≤ (k : Int) := by omega
      have hk1 : (k : Int) < (n : Int) := by omega
      obtain ⟨P, hP⟩ : ∃ P, pkTo n fs k = P := ⟨_, rfl⟩
      rw [hP] at HJ HRow HSn
      clear hP
      have HRowd : Hid (wr.drew.ownsRow w.heap.size 2 1 u3 j (P.map (Value.int .i64))) := HRow.out
      have HPk : Hid (∀ (cap g : Nat) (w4 : World), w4.ownsRow w.heap.size 2 1 (.slice (some ⟨g, 0, none⟩) (j + 2) cap) (j + 2) (P.map (Value.int .i64) ++ [.int .i64 a, .int .i64 s]) → (wr.drew.alloc (.cells #[.int .i64 a, .int .i64 s] 2)).grownBy w4 u3.ownBlock →
          w4.cell? ⟨b, off + k * 3 + 2, none⟩ = some (.slice a3 l c3) ∧ Below w.heap.size w w4 ∧ w.heap.size ≤ w4.heap.size ∧ (l ≠ 0 → ∃ ad, a3 = some ad ∧ ∀ j u, (xs.map (Value.int .i64))[j]? = some u → w4.cell? (ad.add j) = some u)) := by
        intro cap g w4 hown3 hgrow
        have bB := below_on (below_drewN wr 1) (below_alloc (wr.drewN 1) (.cells #[.int .i64 a, .int .i64 s] 2))
        have HB4 := (below_on HB.out bB).grown hgrow (by simp; omega) (fun r hr => (HRow.out.lt r hr).1)
        obtain ⟨a4, c4, e4, hsrc⟩ := (HQ3.out.later HB4).src
        injection e4 with e5 _ e6
        subst e5
        rw [HL.out] at hsrc
        exact ⟨cell_later HB4 HQ2.out, HB4, HB4.size, hsrc⟩
      go_wp2_with fail
      go_region_law (first
        | (refine step_append_fi _ (by rfl) _ _ _ (by rfl) w.heap.size 2 i0 (.int .i64 0) 1 8 Tryz.underlying22 hi hz0 hz1 hz2 rfl (by decide) (.slice (some ⟨g, 0, none⟩) (j + 2) cap) (j + 2) _ (by rfl) HRow4.out a3 l c3 (xs.map (Value.int .i64)) (by rfl) (by simp [HL.out]) HS.out (ints_oneCell _ _) (by unfold maxLen; omega) (by omega) (by omega) ?_; intro v' w5 hown hgrow)
        | (refine step_append_lies _ (by rfl) _ _ _ (by rfl) w.heap.size 2 i0 (.int .i64 0) 1 8 Tryz.underlying22 hi hz0 hz1 hz2 rfl (by omega) u3 j _ (by rfl) (HRowd.out.alloc (.cells #[.int .i64 a, .int .i64 s] 2)) ⟨wr.heap.size, 0, none⟩ 2 2 [.int .i64 a, .int .i64 s] (by rfl) (by rfl) (World.news_of_block (cs := #[.int .i64 a, .int .i64 s]) (t := 2) (fr := (0, 0)) (heap_alloc_new wr.drew _)) (by simp [Value.oneCell']) (by omega) (by unfold maxLen; omega) (by omega) (by simp; omega) (wr.heap.size + 1) (by simp) ?_; intro g cap w4 hown3 hgrow3 hat hlt3; obtain ⟨d2, hb4, hz4, hsrc⟩ := HPk.out cap g w4 hown3 hgrow3; have HB4 := hide hb4; have HS := hide hsrc; have HRow4 := hide hown3; clear hown3 hgrow3 hat hlt3 hb4 hsrc HPk))
      all_goals
        have HRow5 : Hid (w5.ownsRow w.heap.size 2 1 v' (j + 2 + l) ((pkTo n fs (k + 1)).map (Value.int .i64))) := by
          rw [Hid, HSn.out, List.map_append, List.map_append]
          exact hown
        have HB5 := hide (HB4.out.grown hgrow (by omega) (fun r hr => (HRow4.out.lt r hr).1))
        have HJ5 : Hid ((pkTo n fs (k + 1)).length = j + 2 + l) := by rw [Hid, HSn.out, List.length_append, List.length_append, HJ.out, HL.out]; rfl
        clear hown hgrow
        go_wp2
        go_roundw
        case rel => exact ⟨k + 1, j + 2 + l, by omega, by go_num, HJ5.out, HRow5.out, HB5.out⟩
        case measure => simp [RowKit.intOf]; omega
    · have hkn : k = n := by omega
      subst hkn
      rw [HAll.out] at HJ HRow
      go_wp2
      go_ret
      exact ⟨_, rfl, HB.out, by rw [HJ.out]; exact HRow.out⟩
end Go.Proofs.YtlmaopljihbdkaaGreat
