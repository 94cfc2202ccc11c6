/- Chapter 8: 'PackDir' of the model, walked. -/
import Derived.Test.YtefcfhccbeaieaaFi5
import Derived.Deep.AppendLies
namespace Go.Proofs.Ytefcfhccbeaieaa
open Go.RowKit

/-- An append at a step of a region that draws, of a slice of whatever address where it holds nothing. -/
theorem step_append_fi {P : Program} (w : World) {ops : Array Oper} {o : Oper} {a : Act} {K : Act → World → Prop} {Q : Exit → Act → World → Prop} {E : Prop} (hgd : o.guard = none) (s x : Operand) (t : TypeId)
    (ho : o.op = .call { callee := .builtin .append, args := #[s, x], argTypes := #[t, t] })
    (base : Nat) (e : TypeId) (i : TypeInfo) (z : Value) (size bytes : Nat) (ht : P.underlying t = some (.slice e)) (hi : P.info? e = some i) (hz : i.zero = some z)
    (hsize : i.size = size) (hby : i.bytes = bytes) (hzs : z.cells.size = size) (hsz : 0 < size)
    (v : Value) (n : Nat) (xs : List Value) (hs : a.eval s = v) (hown : w.ownsRow base e size v n xs)
    (ao : Option Addr) (m c : Nat) (news : List Value) (hx : a.eval x = .slice ao m c) (hl : news.length = m * size)
    (hnews : m ≠ 0 → ∃ ad, ao = some ad ∧ ∀ j u, news[j]? = some u → w.cell? (ad.add j) = some u) (h1 : ∀ u ∈ news, u.oneCell' = true)
    (h63 : n + m ≤ maxLen) (hbytes : (n + m) * bytes ≤ 140737488355328) (hbase : base ≤ w.heap.size)
    (h : ∀ v' w', w'.ownsRow base e size v' (n + m) (xs ++ news) → w.grownBy w' v.ownBlock → K (a.put o.dst v') w') :
    if Region.wanted o (yielded ops a.tmps) = true then Oper.wp P o a w K Q else E := by
  by_cases hm : m = 0
  · subst hm
    have hn : news = [] := List.eq_nil_of_length_eq_zero (by simpa using hl)
    subst hn
    have hw : Region.wanted o (yielded ops a.tmps) = true := by simp [Region.wanted, hgd]
    rw [if_pos hw]
    have hv : ∃ ad k, v = .slice ad n k ∧ n ≤ k := by
      rcases hown.2 with ⟨rfl, rfl⟩ | ⟨g, cap, cur, rfl, _, _, hnc, _⟩
      · exact ⟨_, _, rfl, Nat.le_refl _⟩
      · exact ⟨_, _, rfl, hnc⟩
    obtain ⟨ad, k, rfl, hk⟩ := hv
    have hrun := run_append_zero (P := P) w t o.type e i ht hi ad n k hk ao c
    have hh := h _ w (by simpa using hown) (World.grownBy.refl _ _)
    unfold Oper.wp execOp
    simp only [ho, resolve, invoke, builtin, Sem.run_bind, Sem.run_pure, Result.andThen_ok, List.map_toArray, List.map_cons, List.map_nil, hs, hx, hrun]
    exact hh
  · obtain ⟨ad, rfl, hc⟩ := hnews hm
    exact step_append_lies w hgd s x t ho base e i z size bytes ht hi hz hsize hby hzs hsz v n xs hs hown ad m c news hx hl hc h1 (by omega) h63 hbytes hbase _ rfl (fun g cap w' h2 h3 _ _ => h _ w' h2 h3)

set_option maxHeartbeats 4000000 in
set_option maxRecDepth 4000 in
theorem l8Pack {S : Nat → Prop} {w : World} {v : Value} {fs : List Oj} (hv : RdJ S w v fs) (hsm : (pkF fs).length ≤ 1048576) :
    Calls Try.prog 41 #[v] w fun e w' => ∃ z, e = .returned z ∧ Below w.heap.size w w' ∧ w'.ownsRow w.heap.size 2 1 z (pkF fs).length ((pkF fs).map (Value.int .i64)) := by
  obtain ⟨av, cv, rfl, hm⟩ := hv.shape
  have HV := hide hv
  obtain ⟨n, hn⟩ : ∃ n, fs.length = n := ⟨_, rfl⟩
  have HN := hide hn
  rw [hn] at HV hm ⊢
  clear hv hn
  obtain ⟨i0, hi, hz0, hz1, hz2⟩ := info_parts Try.infoInt
  have HAll := hide (pkTo_all HN.out)
  have HLs := hide (fun k hk => pkTo_len n fs k hk)
  obtain ⟨R, hR⟩ : ∃ R, pkF fs = R := ⟨_, rfl⟩
  rw [hR] at HAll HLs hsm ⊢
  clear hR
  have HRow0 : Hid ((w.alloc (.cells #[.int .i64 (n : Int)] 2)).ownsRow w.heap.size 2 1 (.slice (some ⟨w.heap.size, 0, none⟩) 1 1) 1 ((pkTo n fs 0).map (Value.int .i64))) :=
    ownsRow_fullF w [.int .i64 (n : Int)] 2 (by simp)
  have HB0 := hide (below_alloc w (.cells #[.int .i64 (n : Int)] 2))
  go_enter Try.func41, Try.ntmps41
  go_wp2
  go_loopw [3, 4] (fun v i wr => ∃ (k j : Nat), k ≤ n ∧ i = .int .i64 k ∧ Hid ((pkTo n fs k).length = j) ∧ Hid (wr.ownsRow w.heap.size 2 1 v j ((pkTo n fs k).map (Value.int .i64))) ∧ Hid (Below w.heap.size w wr)) (fun _ i _ => n - (RowKit.intOf i).toNat)
  case atStart => exact ⟨0, 1, Nat.zero_le _, rfl, rfl, HRow0.out, HB0.out⟩
  case round =>
    clear HRow0 HB0
    obtain ⟨k, j, hk, rfl, HJ, HRow, HB⟩ := hrel
    by_cases hlt : k < n
    · obtain ⟨b, off, rfl, y, q0, q1, q2, q3⟩ := HV.out.file (k := k) (by rw [HN.out]; exact hlt)
      have HSn := hide (pkTo_succ n fs k (by rw [HN.out]; exact hlt))
      have hjl : j + 2 + (fs.getD k oj0).2.2.length ≤ 1048576 := by
        have h1 := HLs.out (k + 1) (by rw [HN.out]; exact hlt)
        rw [HSn.out] at h1
        simp only [List.length_append, HJ.out, List.length_cons, List.length_nil] at h1
        omega
      obtain ⟨p, hp⟩ : ∃ p, fs.getD k oj0 = p := ⟨_, rfl⟩
      rw [hp] at q0 q1 q3 HSn hjl
      obtain ⟨a, s, xs⟩ := p
      dsimp only at q0 q1 q3 HSn hjl
      have g0 := cell_later HB.out q0
      have g1 := cell_later HB.out q1
      have g2 := cell_later HB.out q2
      obtain ⟨a3, c3, rfl⟩ := q3.shape
      obtain ⟨l, hl⟩ : ∃ l, xs.length = l := ⟨_, rfl⟩
      rw [hl] at g2 q2 q3 hjl
      have HQ2 := hide q2
      have HQ3 := hide q3
      have HL := hide hl
      have hzz := HB.out.size
      have hbl : b < wr.heap.size := World.block_lt_of_cell? _ _ g0
      have hbw : b < w.heap.size := World.block_lt_of_cell? _ _ q0
      clear hp q0 q1 q2 q3 hl
      have hk0 : (0 : Int) ≤ (k : Int) := by omega
      have hk1 : (k : Int) < (n : Int) := by omega
      obtain ⟨P, hP⟩ : ∃ P, pkTo n fs k = P := ⟨_, rfl⟩
      rw [hP] at HJ HRow HSn
      clear hP
      have HRowd : Hid (wr.drew.ownsRow w.heap.size 2 1 u3 j (P.map (Value.int .i64))) := HRow.out
      have HPk : Hid (∀ (cap g : Nat) (w4 : World), w4.ownsRow w.heap.size 2 1 (.slice (some ⟨g, 0, none⟩) (j + 2) cap) (j + 2) (P.map (Value.int .i64) ++ [.int .i64 a, .int .i64 s]) → (wr.drew.alloc (.cells #[.int .i64 a, .int .i64 s] 2)).grownBy w4 u3.ownBlock →
          w4.cell? ⟨b, off + k * 3 + 2, none⟩ = some (.slice a3 l c3) ∧ Below w.heap.size w w4 ∧ w.heap.size ≤ w4.heap.size ∧ (l ≠ 0 → ∃ ad, a3 = some ad ∧ ∀ j u, (xs.map (Value.int .i64))[j]? = some u → w4.cell? (ad.add j) = some u)) := by
        intro cap g w4 hown3 hgrow
        have bB := below_on (below_drewN wr 1) (below_alloc (wr.drewN 1) (.cells #[.int .i64 a, .int .i64 s] 2))
        have HB4 := (below_on HB.out bB).grown hgrow (by simp; omega) (fun r hr => (HRow.out.lt r hr).1)
        obtain ⟨a4, c4, e4, hsrc⟩ := (HQ3.out.later HB4).src
        injection e4 with e5 _ e6
        subst e5
        rw [HL.out] at hsrc
        exact ⟨cell_later HB4 HQ2.out, HB4, HB4.size, hsrc⟩
      go_wp2_with fail
      go_region_law (first
        | (refine step_append_fi _ (by rfl) _ _ _ (by rfl) w.heap.size 2 i0 (.int .i64 0) 1 8 Try.underlying29 hi hz0 hz1 hz2 rfl (by decide) (.slice (some ⟨g, 0, none⟩) (j + 2) cap) (j + 2) _ (by rfl) HRow4.out a3 l c3 (xs.map (Value.int .i64)) (by rfl) (by simp [HL.out]) HS.out (ints_oneCell _ _) (by unfold maxLen; omega) (by omega) (by omega) ?_; intro v' w5 hown hgrow)
        | (refine step_append_lies _ (by rfl) _ _ _ (by rfl) w.heap.size 2 i0 (.int .i64 0) 1 8 Try.underlying29 hi hz0 hz1 hz2 rfl (by omega) u3 j _ (by rfl) (HRowd.out.alloc (.cells #[.int .i64 a, .int .i64 s] 2)) ⟨wr.heap.size, 0, none⟩ 2 2 [.int .i64 a, .int .i64 s] (by rfl) (by rfl) (World.news_of_block (cs := #[.int .i64 a, .int .i64 s]) (t := 2) (fr := (0, 0)) (heap_alloc_new wr.drew _)) (by simp [Value.oneCell']) (by omega) (by unfold maxLen; omega) (by omega) (by simp; omega) (wr.heap.size + 1) (by simp) ?_; intro g cap w4 hown3 hgrow3 hat hlt3; obtain ⟨d2, hb4, hz4, hsrc⟩ := HPk.out cap g w4 hown3 hgrow3; have HB4 := hide hb4; have HS := hide hsrc; have HRow4 := hide hown3; clear hown3 hgrow3 hat hlt3 hb4 hsrc HPk))
      all_goals
        have HRow5 : Hid (w5.ownsRow w.heap.size 2 1 v' (j + 2 + l) ((pkTo n fs (k + 1)).map (Value.int .i64))) := by
          rw [Hid, HSn.out, List.map_append, List.map_append]
          exact hown
        have HB5 := hide (HB4.out.grown hgrow (by omega) (fun r hr => (HRow4.out.lt r hr).1))
        have HJ5 : Hid ((pkTo n fs (k + 1)).length = j + 2 + l) := by rw [Hid, HSn.out, List.length_append, List.length_append, HJ.out, HL.out]; rfl
        clear hown hgrow
        go_wp2
        go_roundw
        case rel => exact ⟨k + 1, j + 2 + l, by omega, by go_num, HJ5.out, HRow5.out, HB5.out⟩
        case measure => simp [RowKit.intOf]; omega
    · have hkn : k = n := by omega
      subst hkn
      rw [HAll.out] at HJ HRow
      go_wp2
      go_ret
      exact ⟨_, rfl, HB.out, by rw [HJ.out]; exact HRow.out⟩
set_option maxHeartbeats 1000000 in
theorem specPackDir {S : Nat → Prop} {w : World} {v : Value} {fs : List Oj} (hv : RdJ S w v fs) :
    Calls Try.prog 14 #[v] w (EndsI (pdC fs) (pdR fs) w) := by
  obtain ⟨av, cv, rfl, hm⟩ := hv.shape
  have HV := hide hv
  clear hv
  unfold pdC pdR
  obtain ⟨z, hz⟩ : ∃ z, filF fs = z := ⟨_, rfl⟩
  have HZ := hide hz
  rw [hz]
  clear hz
  have HC := hide (specL8Fault (HV.out.later (below_alloc w (.cells #[.int .i64 0, .slice none 0 0] 31))))
  rw [HZ.out] at HC
  obtain ⟨n, hn⟩ : ∃ n, fs.length = n := ⟨_, rfl⟩
  rw [hn] at HV HC ⊢
  clear hn
  by_cases h0 : z = 0
  · subst h0
    rw [if_pos rfl]
    have hsm := pkF_small HZ.out
    go_enter Try.func14, Try.ntmps14
    go_wp2_with fail
    refine HC.out.mono ?_
    rintro e w1 ⟨rfl, hb⟩
    have HRs := hide ((ResF.start w 31).later hb)
    have hw1 := HRs.out.lt
    have HC2 := hide (l8Pack (HV.out.later HRs.out.below) (by omega))
    clear hb HC
    go_wp2_with fail
    refine HC2.out.mono ?_
    rintro e w2 ⟨z2, rfl, hb, ho⟩
    obtain ⟨az, cz, rfl⟩ := owns_shapeM ho
    have hO := ow_of_owns rfl ho (by omega)
    have HRs2 := hide (HRs.out.later hb)
    have HFn := hide (ret_ints (x := .int .i64 0) HRs2.out.below (Nat.le_refl _) hO hw1)
    have c0 := HRs2.out.c0
    have c1 := HRs2.out.c1
    have F0 := HRs2.out.fr 0
    have F1 := HRs2.out.fr 1
    clear hO hb ho HC2
    obtain ⟨l, hl⟩ : ∃ l, (pkF fs).length = l := ⟨_, rfl⟩
    rw [hl] at HFn ⊢
    clear hl
    go_wp2
    refine bodyPost_ret (v := .agg #[.int .i64 0, .slice az l cz]) (by simp [results, Try.results14, go_sem, c0, c1]) rfl ⟨_, rfl, HFn.out.1, HFn.out.2⟩
  · rw [if_neg h0]
    have h0b : (z == 0) = false := by simpa using h0
    go_enter Try.func14, Try.ntmps14
    go_wp2_with fail
    refine HC.out.mono ?_
    rintro e w1 ⟨rfl, hb⟩
    have HRs := hide ((ResF.start w 31).later hb)
    have c0 := HRs.out.c0
    have c1 := HRs.out.c1
    have F0 := HRs.out.fr 0
    have F1 := HRs.out.fr 1
    clear hb
    go_wp2
    refine bodyPost_ret (v := .agg #[.int .i64 z, .slice none 0 0]) (by simp [results, Try.results14, go_sem, c0, c1]) rfl ⟨_, rfl, HRs.out.shut _ _, OwI_nil _ _⟩
end Go.Proofs.Ytefcfhccbeaieaa
