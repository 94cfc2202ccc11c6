/- DrawF2 in one text: what each says stands at its head below. -/
import Derived.Test.YtbfdnjhdlnfpmaaG37
/- Chapter 8, draws: 'l8Put' and 'PutFile' of the model, their answer in rows that may be appended to. Made by program (gendrawf2.py). -/
namespace Go.Proofs.Ytbfdnjhdlnfpmaa
open Go.RowKit

set_option maxHeartbeats 4000000 in
set_option maxRecDepth 4000 in
/-- 'spec.l8Put' of files that rise by name. -/
theorem l8PutOwn {S T : Nat → Prop} {w : World} {v y : Value} {fs : List Oj} {p : Oj} (hv : RdJ S w v fs) (hup : fs.Pairwise (fun p q => p.1 < q.1)) (hm : fs.length ≤ 1000) (hl : ∀ i, i < fs.length → (fs.getD i oj0).2.2.length ≤ 1048576) (hy : RdI T w y p.2.2) (hpl : p.2.2.length ≤ 1048576) :
    Calls Try.prog 38 #[v, .agg #[.int .i64 p.1, .int .i64 p.2.1, y]] w fun e w' => ∃ z, e = .returned z ∧ Below w.heap.size w w' ∧ FoRow (w.heap.size ≤ ·) w' z (putF fs p).length (putF fs p) := by
  obtain ⟨av, cv, rfl, _⟩ := hv.shape
  have HV := hide hv
  obtain ⟨n, hn⟩ : ∃ n, fs.length = n := ⟨_, rfl⟩
  have HN := hide hn
  have HPl := hide (put_lens (p := p) hl hpl)
  obtain ⟨c, e, hc, f1, f2⟩ := cut_has p.1 hup
  have HAt := hide (put_at hc f1 f2)
  have HC := hide hc
  have hce := hc.le
  have he1 := hc.e1
  rw [hn] at HV hm hce ⊢
  clear hv hn hl hpl f1 f2 hc hup
  obtain ⟨R, hR⟩ : ∃ R, putF fs p = R := ⟨_, rfl⟩
  rw [hR] at HPl HAt ⊢
  have hRl : R.length + e = n + 1 := by rw [← HN.out]; exact HAt.out.1
  obtain ⟨lR, hlR⟩ : ∃ l, R.length = l := ⟨_, rfl⟩
  have HlR := hide hlR
  rw [hlR] at hRl ⊢
  clear hlR
  obtain ⟨ay, cy, rfl⟩ := hy.shape
  have HY := hide hy
  obtain ⟨ly, hly⟩ : ∃ l, p.2.2.length = l := ⟨_, rfl⟩
  rw [hly] at HY ⊢
  obtain ⟨a, ha⟩ : ∃ a, p.1 = a := ⟨_, rfl⟩
  obtain ⟨s, hs⟩ : ∃ s, p.2.1 = s := ⟨_, rfl⟩
  rw [ha] at HC
  rw [ha, hs]
  have HPa := hide ha
  have HPs := hide hs
  clear hR hy hly ha hs
  obtain ⟨i0, hi, hz0, hz1, hz2⟩ := info_parts Try.infoFl
  obtain ⟨w1, hw1⟩ : ∃ w1, w.alloc (.cells #[.int .i64 a, .int .i64 s, .slice ay ly cy] 35) = w1 := ⟨_, rfl⟩
  have HB1 : Hid (Below w.heap.size w w1) := by rw [← hw1]; exact below_alloc _ _
  have hs1 : w1.heap.size = w.heap.size + 1 := by rw [← hw1]; simp
  have HF0 : Hid (w1.cell? ⟨w.heap.size, 0, none⟩ = some (.int .i64 a)) := by rw [← hw1]; simp [Hid, go_sem]
  have HF1 : Hid (w1.cell? ⟨w.heap.size, 1, none⟩ = some (.int .i64 s)) := by rw [← hw1]; simp [Hid, go_sem]
  have HF2 : Hid (w1.cell? ⟨w.heap.size, 2, none⟩ = some (.slice ay ly cy)) := by rw [← hw1]; simp [Hid, go_sem]
  have HY1 := hide ((HY.out.later HB1.out).narrow (T := fun _ => True) (fun _ _ _ => trivial))
  have HV1 := hide (HV.out.later HB1.out)
  have HS0 : Hid (ShFi w1 (w1.alloc (.cells #[] 35)) (.slice (some ⟨w.heap.size + 1, 0, none⟩) 0 0) 0 R) := by have h := ShFi.empty w1 R; rw [hs1] at h; exact h
  go_enter Try.func38, Try.ntmps38
  go_wp2
  go_loopw [5, 6, 7] (fun v b i wr => ∃ (k j : Nat) (d : Bool), k ≤ n ∧ b = .bool d ∧ i = .int .i64 k ∧ (d = false → k ≤ c ∧ j = k) ∧ (d = true → c < k ∧ j + e = k + 1) ∧ Hid (ShFi w1 wr v j R)) (fun _ _ i _ => n - (RowKit.intOf i).toNat)
  case atStart => exact ⟨0, 0, false, Nat.zero_le _, rfl, rfl, fun _ => ⟨Nat.zero_le _, rfl⟩, (fun h => by cases h), HS0.out⟩
  case round =>
    clear hw1 HS0
    obtain ⟨k, j, d, hk, rfl, rfl, hA, hB, HSh⟩ := hrel
    obtain ⟨V, hrow, hV, hBw⟩ := HSh.out
    have HRow := hide hrow
    have HVV := hide hV
    have HB := hide hBw
    have hzz := hBw.size
    have b0 := cell_later hBw HF0.out
    have b1 := cell_later hBw HF1.out
    have b2 := cell_later hBw HF2.out
    clear hrow hV hBw
    by_cases hlt : k < n
    · obtain ⟨b, off, rfl, y3, q0, q1, q2, q3⟩ := HV1.out.file (k := k) (by rw [HN.out]; exact hlt)
      obtain ⟨q, hq⟩ : ∃ q, fs.getD k oj0 = q := ⟨_, rfl⟩
      have HQ := hide hq
      rw [hq] at q0 q1 q3
      obtain ⟨x, t, xs⟩ := q
      dsimp only at q0 q1 q3
      have HQ0 := hide q0
      have HQ1 := hide q1
      have HQ2 := hide q2
      have g0 := cell_later HB.out q0
      have g1 := cell_later HB.out q1
      have g2 := cell_later HB.out q2
      obtain ⟨a3, c3, hy3⟩ := q3.shape
      subst hy3
      obtain ⟨lx, hlx⟩ : ∃ lx, xs.length = lx := ⟨_, rfl⟩
      rw [hlx] at g2 q3 HQ2
      have HQ3 := hide (q3.narrow (T := fun _ => True) (fun _ _ _ => trivial))
      have hk0 : (0 : Int) ≤ (k : Int) := by omega
      have hk1 : (k : Int) < (n : Int) := by omega
      clear q0 q1 q2 q3 hq hlx
      by_cases hkc : k < c
      · have hd : d = false := by cases d with | false => rfl | true => have := (hB rfl).1; omega
        subst hd
        have hj := (hA rfl).2.symm
        subst hj
        have hx : x < a := by have := HC.out.lo k hkc; rw [HQ.out] at this; exact this
        have hxa : ¬ a ≤ x := by omega
        have hxe : ¬ x = a := by omega
        have hxb : (x == a) = false := by simpa using hxe
        have HG : Hid (R.getD k oj0 = (x, t, xs)) := by rw [Hid, HAt.out.2.1 k hkc]; exact HQ.out
        clear hA hB
        go_wp2_with fail
        go_quiet (fail)
        obtain ⟨nq1, hnq1⟩ : ∃ m, m = nq := ⟨_, rfl⟩
        subst hnq1
        go_wp2_with fail
        go_quiet (fail)
        have HRd : Hid ((wr.drewN (nq1 + nq)).ownsRow w1.heap.size 35 3 _ k _) := HRow.out
        go_wp2_with (at_builtin; refine wpList_append_lies _ rfl _ _ _ rfl w1.heap.size 35 i0 (.agg #[.int .i64 0, .int .i64 0, .slice none 0 0]) 3 40 Try.underlying26 hi hz0 hz1 hz2 rfl (by omega) _ k _ (by rfl) (ownsRow_later HRd.out (below_alloc (wr.drewN (nq1 + nq)) (.cells #[.int .i64 x, .int .i64 t, .slice a3 lx c3] 35))) ⟨wr.heap.size, 0, none⟩ 1 1 [.int .i64 x, .int .i64 t, .slice a3 lx c3] (by rfl) (by rfl) (by have h := World.news_of_block (cs := #[.int .i64 x, .int .i64 t, .slice a3 lx c3]) (t := 35) (fr := (0, 0)) (heap_alloc_new (wr.drewN (nq1 + nq)) (.cells #[.int .i64 x, .int .i64 t, .slice a3 lx c3] 35)); simpa using h) cellsFi_one (by omega) (by unfold maxLen; omega) (by omega) (by simp; omega) (wr.heap.size + 1) (by simp) ?_; intro g cap w4 hown4 hgrow hat hlt4)
        have HS := hide (ShFi.step (wr := wr.drewN (nq1 + nq)) HRd.out HVV.out (below_on HB.out (below_drewN _ _)) (by rw [HG.out]; exact HQ3.out) (by rw [HG.out]) (by rw [HG.out]) hown4 hgrow)
        clear hown4 hgrow hat hlt4 HRd
        go_wp2
        go_roundw
        case rel => exact ⟨k + 1, k + 1, false, hlt, rfl, by go_num, fun _ => ⟨hkc, rfl⟩, (fun h => by cases h), HS.out⟩
        case measure => simp [RowKit.intOf]; omega
      · by_cases hkc2 : k = c
        · have hd : d = false := by cases d with | false => rfl | true => have := (hB rfl).1; omega
          subst hd
          have hj := (hA rfl).2.symm
          subst hj
          have HGp : Hid (R.getD k oj0 = p) := by rw [Hid, hkc2]; exact HAt.out.2.2.1
          have HKC := hide hkc2
          by_cases he : e = 1
          · have hx : x = a := by have := HC.out.eq he; rw [← hkc2, HQ.out] at this; exact this
            have HEe := hide he
            clear hkc hkc2 he
            subst hx
            have hxa : x ≤ x := Int.le_refl _
            have hxg : x ≥ x := Int.le_refl _
            clear hA hB
            go_wp2_with fail
            go_quiet (fail)
            have HRd : Hid ((wr.drewN nq).ownsRow w1.heap.size 35 3 _ k _) := HRow.out
            go_wp2_with (at_builtin; refine wpList_append_lies _ rfl _ _ _ rfl w1.heap.size 35 i0 (.agg #[.int .i64 0, .int .i64 0, .slice none 0 0]) 3 40 Try.underlying26 hi hz0 hz1 hz2 rfl (by omega) _ k _ (by rfl) (ownsRow_later HRd.out (below_alloc (wr.drewN nq) (.cells #[.int .i64 x, .int .i64 s, .slice ay ly cy] 35))) ⟨wr.heap.size, 0, none⟩ 1 1 [.int .i64 x, .int .i64 s, .slice ay ly cy] (by rfl) (by rfl) (by have h := World.news_of_block (cs := #[.int .i64 x, .int .i64 s, .slice ay ly cy]) (t := 35) (fr := (0, 0)) (heap_alloc_new (wr.drewN nq) (.cells #[.int .i64 x, .int .i64 s, .slice ay ly cy] 35)); simpa using h) cellsFi_one (by omega) (by unfold maxLen; omega) (by omega) (by simp; omega) (wr.heap.size + 1) (by simp) ?_; intro g cap w4 hown4 hgrow hat hlt4)
            have HS := hide (ShFi.step (wr := wr.drewN nq) HRd.out HVV.out (below_on HB.out (below_drewN _ nq)) (by rw [HGp.out]; exact HY1.out) (by rw [HGp.out]; exact HPa.out) (by rw [HGp.out]; exact HPs.out) hown4 hgrow)
            clear hown4 hgrow hat hlt4 HRd
            obtain ⟨V5, hrow5, hV5, hB5⟩ := HS.out
            have b0 := cell_later hB5 HF0.out
            have g0 := cell_later hB5 HQ0.out
            clear hrow5 hV5 hB5
            go_wp2_with fail
            go_quiet (fail)
            have HS2 := hide (HS.out.drew nq)
            go_wp2
            go_roundw
            case rel => exact ⟨k + 1, k + 1, true, hlt, rfl, by go_num, (fun h => by cases h), fun _ => ⟨by have := HKC.out; omega, by have := HKC.out; have := HEe.out; omega⟩, HS2.out⟩
            case measure => simp [RowKit.intOf]; omega
          · have he0 : e = 0 := by omega
            have hx : a < x := by have := HC.out.gt k (by omega) (by rw [HN.out]; exact hlt); rw [HQ.out] at this; exact this
            have hxa : a ≤ x := by omega
            have hxe : ¬ x = a := by omega
            have hxb : (x == a) = false := by simpa using hxe
            have HG : Hid (R.getD (k + 1) oj0 = (x, t, xs)) := by have h := HAt.out.2.2.2 k (by omega) (by rw [HN.out]; exact hlt); rw [he0] at h; rw [Hid, ← HQ.out]; exact h
            have HEe := hide he0
            clear hA hB hkc hkc2 he he0
            go_wp2_with fail
            go_quiet (fail)
            have HRd : Hid ((wr.drewN nq).ownsRow w1.heap.size 35 3 _ k _) := HRow.out
            go_wp2_with (at_builtin; refine wpList_append_lies _ rfl _ _ _ rfl w1.heap.size 35 i0 (.agg #[.int .i64 0, .int .i64 0, .slice none 0 0]) 3 40 Try.underlying26 hi hz0 hz1 hz2 rfl (by omega) _ k _ (by rfl) (ownsRow_later HRd.out (below_alloc (wr.drewN nq) (.cells #[.int .i64 a, .int .i64 s, .slice ay ly cy] 35))) ⟨wr.heap.size, 0, none⟩ 1 1 [.int .i64 a, .int .i64 s, .slice ay ly cy] (by rfl) (by rfl) (by have h := World.news_of_block (cs := #[.int .i64 a, .int .i64 s, .slice ay ly cy]) (t := 35) (fr := (0, 0)) (heap_alloc_new (wr.drewN nq) (.cells #[.int .i64 a, .int .i64 s, .slice ay ly cy] 35)); simpa using h) cellsFi_one (by omega) (by unfold maxLen; omega) (by omega) (by simp; omega) (wr.heap.size + 1) (by simp) ?_; intro g cap w4 hown4 hgrow hat hlt4)
            have HS := hide (ShFi.step (wr := wr.drewN nq) HRd.out HVV.out (below_on HB.out (below_drewN _ nq)) (by rw [HGp.out]; exact HY1.out) (by rw [HGp.out]; exact HPa.out) (by rw [HGp.out]; exact HPs.out) hown4 hgrow)
            clear hown4 hgrow hat hlt4 HRd
            obtain ⟨V5, hrow5, hV5, hB5⟩ := HS.out
            have b0 := cell_later hB5 HF0.out
            have g0 := cell_later hB5 HQ0.out
            have g1 := cell_later hB5 HQ1.out
            have g2 := cell_later hB5 HQ2.out
            have HRow5 := hide hrow5
            have HVV5 := hide hV5
            have HB5 := hide hB5
            have hzz5 := hB5.size
            clear hrow5 hV5 hB5
            go_wp2_with fail
            go_quiet (fail)
            have HRd : Hid ((w4.drewN nq).ownsRow w1.heap.size 35 3 _ (k + 1) _) := HRow5.out
            go_wp2_with (at_builtin; refine wpList_append_lies _ rfl _ _ _ rfl w1.heap.size 35 i0 (.agg #[.int .i64 0, .int .i64 0, .slice none 0 0]) 3 40 Try.underlying26 hi hz0 hz1 hz2 rfl (by omega) _ (k + 1) _ (by rfl) (ownsRow_later HRd.out (below_alloc (w4.drewN nq) (.cells #[.int .i64 x, .int .i64 t, .slice a3 lx c3] 35))) ⟨w4.heap.size, 0, none⟩ 1 1 [.int .i64 x, .int .i64 t, .slice a3 lx c3] (by rfl) (by rfl) (by have h := World.news_of_block (cs := #[.int .i64 x, .int .i64 t, .slice a3 lx c3]) (t := 35) (fr := (0, 0)) (heap_alloc_new (w4.drewN nq) (.cells #[.int .i64 x, .int .i64 t, .slice a3 lx c3] 35)); simpa using h) cellsFi_one (by omega) (by unfold maxLen; omega) (by omega) (by simp; omega) (w4.heap.size + 1) (by simp) ?_; intro g2 cap2 w5 hown4 hgrow hat hlt4)
            have HS3 := hide (ShFi.step (wr := w4.drewN nq) HRd.out HVV5.out (below_on HB5.out (below_drewN _ nq)) (by rw [HG.out]; exact HQ3.out) (by rw [HG.out]) (by rw [HG.out]) hown4 hgrow)
            clear hown4 hgrow hat hlt4 HRd
            go_wp2
            go_roundw
            case rel => exact ⟨k + 1, k + 1 + 1, true, hlt, rfl, by go_num, (fun h => by cases h), fun _ => ⟨by have := HKC.out; omega, by have := HEe.out; omega⟩, HS3.out⟩
            case measure => simp [RowKit.intOf]; omega
        · have hd : d = true := by cases d with | true => rfl | false => have := (hA rfl).1; omega
          subst hd
          have hj := (hB rfl).2
          have hx : a < x := by have := HC.out.gt k (by omega) (by rw [HN.out]; exact hlt); rw [HQ.out] at this; exact this
          have hxe : ¬ x = a := by omega
          have hxb : (x == a) = false := by simpa using hxe
          have HG : Hid (R.getD j oj0 = (x, t, xs)) := by have h := HAt.out.2.2.2 k (by omega) (by rw [HN.out]; exact hlt); rw [show k + 1 - e = j by omega] at h; rw [Hid, ← HQ.out]; exact h
          clear hA hB
          go_wp2_with fail
          go_quiet (fail)
          obtain ⟨nq1, hnq1⟩ : ∃ m, m = nq := ⟨_, rfl⟩
          subst hnq1
          have HJe := hide hj
          have hjb : j ≤ 1001 := by omega
          clear hj
          go_wp2_with fail
          go_quiet (fail)
          have HRd : Hid ((wr.drewN (nq1 + nq)).ownsRow w1.heap.size 35 3 _ j _) := HRow.out
          go_wp2_with (at_builtin; refine wpList_append_lies _ rfl _ _ _ rfl w1.heap.size 35 i0 (.agg #[.int .i64 0, .int .i64 0, .slice none 0 0]) 3 40 Try.underlying26 hi hz0 hz1 hz2 rfl (by omega) _ j _ (by rfl) (ownsRow_later HRd.out (below_alloc (wr.drewN (nq1 + nq)) (.cells #[.int .i64 x, .int .i64 t, .slice a3 lx c3] 35))) ⟨wr.heap.size, 0, none⟩ 1 1 [.int .i64 x, .int .i64 t, .slice a3 lx c3] (by rfl) (by rfl) (by have h := World.news_of_block (cs := #[.int .i64 x, .int .i64 t, .slice a3 lx c3]) (t := 35) (fr := (0, 0)) (heap_alloc_new (wr.drewN (nq1 + nq)) (.cells #[.int .i64 x, .int .i64 t, .slice a3 lx c3] 35)); simpa using h) cellsFi_one (by omega) (by unfold maxLen; omega) (by omega) (by simp; omega) (wr.heap.size + 1) (by simp) ?_; intro g cap w4 hown4 hgrow hat hlt4)
          have HS := hide (ShFi.step (wr := wr.drewN (nq1 + nq)) HRd.out HVV.out (below_on HB.out (below_drewN _ _)) (by rw [HG.out]; exact HQ3.out) (by rw [HG.out]) (by rw [HG.out]) hown4 hgrow)
          clear hown4 hgrow hat hlt4 HRd
          go_wp2
          go_roundw
          case rel => exact ⟨k + 1, j + 1, true, hlt, rfl, by go_num, (fun h => by cases h), fun _ => ⟨by omega, by have := HJe.out; omega⟩, HS.out⟩
          case measure => simp [RowKit.intOf]; omega
    · have hkn : k = n := by omega
      subst hkn
      have stage : ∀ (wx : World) (vx : Value), ShFi w1 wx vx lR R → ∃ ax cx, vx = .slice ax lR cx ∧ Calls Try.prog 61 #[.slice ax lR cx] wx fun e w' => ∃ z, e = .returned z ∧ Below w.heap.size w w' ∧ FoRow (w.heap.size ≤ ·) w' z lR R := by
        intro wx vx hsh
        have hrd := hsh.rd HlR.out (by omega)
        obtain ⟨ax, cx, hvx, _⟩ := hrd.shape
        rw [HlR.out] at hvx
        subst hvx
        refine ⟨ax, cx, rfl, ?_⟩
        have hcp := l8CopyOwn hrd (by rw [HlR.out]; omega) HPl.out
        rw [HlR.out] at hcp
        refine hcp.mono ?_
        rintro e w' ⟨z, he, hb, hbu⟩
        have hBx : Below w.heap.size w wx := below_on HB1.out (by obtain ⟨_, _, _, h⟩ := hsh; exact h)
        have := hBx.size
        exact ⟨z, he, below_on hBx hb, hbu.mono (fun b h => by omega)⟩
      have HSt := hide stage
      clear stage
      cases d with
      | true =>
        have hj := (hB rfl).2
        have hjR : lR = j := by omega
        subst hjR
        obtain ⟨ax, cx, rfl, hcl⟩ := HSt.out _ _ HSh.out
        have HCl := hide hcl
        clear hcl hA hB
        go_wp2_with fail
        refine HCl.out.mono ?_
        rintro e w2 ⟨z2, rfl, hb, ho⟩
        have HFn := hide (And.intro hb ho)
        clear hb ho
        go_wp2
        go_ret
        exact ⟨_, rfl, HFn.out⟩
      | false =>
        obtain ⟨hkc, hj⟩ := hA rfl
        subst hj
        have hck : c = j := by omega
        have HGp : Hid (R.getD j oj0 = p) := by rw [Hid, ← hck]; exact HAt.out.2.2.1
        clear hck
        have hjR : lR = j + 1 := by omega
        subst hjR
        clear hA hB
        have HRd : Hid ((wr).ownsRow w1.heap.size 35 3 _ j _) := HRow.out
        go_wp2_with (at_builtin; refine wpList_append_lies _ rfl _ _ _ rfl w1.heap.size 35 i0 (.agg #[.int .i64 0, .int .i64 0, .slice none 0 0]) 3 40 Try.underlying26 hi hz0 hz1 hz2 rfl (by omega) _ j _ (by rfl) (ownsRow_later HRd.out (below_alloc (wr) (.cells #[.int .i64 a, .int .i64 s, .slice ay ly cy] 35))) ⟨wr.heap.size, 0, none⟩ 1 1 [.int .i64 a, .int .i64 s, .slice ay ly cy] (by rfl) (by rfl) (by have h := World.news_of_block (cs := #[.int .i64 a, .int .i64 s, .slice ay ly cy]) (t := 35) (fr := (0, 0)) (heap_alloc_new (wr) (.cells #[.int .i64 a, .int .i64 s, .slice ay ly cy] 35)); simpa using h) cellsFi_one (by omega) (by unfold maxLen; omega) (by omega) (by simp; omega) (wr.heap.size + 1) (by simp) ?_; intro g cap w4 hown4 hgrow hat hlt4)
        have HS := hide (ShFi.step (wr := wr) HRd.out HVV.out (HB.out) (by rw [HGp.out]; exact HY1.out) (by rw [HGp.out]; exact HPa.out) (by rw [HGp.out]; exact HPs.out) hown4 hgrow)
        clear hown4 hgrow hat hlt4 HRd
        obtain ⟨ax, cx, hvx, hcl⟩ := HSt.out _ _ HS.out
        have HCl := hide hcl
        injection hvx with e1 e2 e3
        subst e1 e3
        clear hcl
        go_wp2_with fail
        refine HCl.out.mono ?_
        rintro e w2 ⟨z2, rfl, hb, ho⟩
        have HFn := hide (And.intro hb ho)
        clear hb ho
        go_wp2
        go_ret
        exact ⟨_, rfl, HFn.out⟩
set_option maxHeartbeats 2000000 in
set_option maxRecDepth 4000 in
theorem specPutOwn {S T : Nat → Prop} {w : World} {v y : Value} {fs : List Oj} {xs : List Int} (a s : Int) (hv : RdJ S w v fs) (hy : RdI T w y xs) (hl : xs.length ≤ 1048576) :
    Calls Try.prog 13 #[v, .agg #[.int .i64 a, .int .i64 s, y]] w fun e w' => ∃ ao n c, e = .returned (.agg #[.int .i64 (ptC fs (a, s, xs)), .slice ao n c]) ∧ Below w.heap.size w w' ∧ (ptC fs (a, s, xs) = 0 → n = (putF fs (a, s, xs)).length ∧ FoRow (w.heap.size ≤ ·) w' (.slice ao n c) n (putF fs (a, s, xs))) := by
  obtain ⟨av, cv, rfl, hm⟩ := hv.shape
  obtain ⟨ay, cy, rfl⟩ := hy.shape
  have HV := hide hv
  have HY := hide hy
  obtain ⟨n, hn⟩ : ∃ n, fs.length = n := ⟨_, rfl⟩
  have HN := hide hn
  rw [hn] at HV hm ⊢
  obtain ⟨ly, hly⟩ : ∃ l, xs.length = l := ⟨_, rfl⟩
  have HLy := hide hly
  rw [hly] at HY hl ⊢
  clear hv hy hn hly
  obtain ⟨w0, hw0⟩ : ∃ w0, w.alloc (.cells #[.int .i64 a, .int .i64 s, .slice ay ly cy] 35) = w0 := ⟨_, rfl⟩
  have HB0 : Hid (Below w.heap.size w w0) := by rw [← hw0]; exact below_alloc _ _
  have hs0 : w0.heap.size = w.heap.size + 1 := by rw [← hw0]; simp
  have f0 : w0.cell? ⟨w.heap.size, 0, none⟩ = some (.int .i64 a) := by rw [← hw0]; simp [go_sem]
  have f1 : w0.cell? ⟨w.heap.size, 1, none⟩ = some (.int .i64 s) := by rw [← hw0]; simp [go_sem]
  have f2 : w0.cell? ⟨w.heap.size, 2, none⟩ = some (.slice ay ly cy) := by rw [← hw0]; simp [go_sem]
  have HFp : Hid (RdFp T w0 w.heap.size 0 (a, s, xs)) := ⟨_, f0, f1, f2, HY.out.later HB0.out⟩
  have HC := hide (specL8Fault (HV.out.later (below_on HB0.out (below_alloc w0 (.cells #[.int .i64 0, .slice none 0 0] 28)))))
  have HSt := hide (ResF.start w0 28)
  obtain ⟨z, hz⟩ : ∃ z, filF fs = z := ⟨_, rfl⟩
  have HZ := hide hz
  rw [hz] at HC
  clear hz f0 f1 f2
  by_cases h0 : z = 0
  · subst h0
    have HCe : Hid (ptC fs (a, s, xs) = filF (putF fs (a, s, xs))) := by unfold ptC; rw [Hid, if_pos HZ.out]
    have HLe := hide (lens_of HZ.out)
    have h4 := (filF_iff.1 HZ.out).len
    have HUp := hide (filF_iff.1 HZ.out).up
    have hpl : (putF fs (a, s, xs)).length ≤ 1000 := by have := put_len (a, s, xs) HUp.out; omega
    obtain ⟨R, hR⟩ : ∃ R, putF fs (a, s, xs) = R := ⟨_, rfl⟩
    have HRR := hide hR
    rw [hR] at HCe hpl
    clear hR
    go_enter Try.func13, Try.ntmps13
    go_wp2_with fail
    refine HC.out.mono ?_
    rintro e w1 ⟨rfl, hb⟩
    have HRs := hide (HSt.out.later hb)
    have hw1 := HRs.out.lt
    have HBw1 := hide (below_on HB0.out HRs.out.below)
    have HC2 := hide (l8PutOwn (p := (a, s, xs)) (HV.out.later HBw1.out) HUp.out (by omega) HLe.out.2 (HY.out.later HBw1.out) (by show xs.length ≤ _; rw [HLy.out]; exact hl))
    rw [HRR.out] at HC2
    have k0 := cell_later HRs.out.below (by obtain ⟨_, h, _⟩ := HFp.out; exact h)
    have k1 := cell_later HRs.out.below (by obtain ⟨_, _, h, _⟩ := HFp.out; exact h)
    have k2 : w1.cell? ⟨w.heap.size, 2, none⟩ = some (.slice ay ly cy) := cell_later HRs.out.below (by rw [← hw0]; simp [go_sem])
    clear hb HC
    go_wp2_with fail
    refine HC2.out.mono ?_
    rintro e w2 ⟨z2, rfl, hb2, ho2⟩
    have HRd := hide (ho2.rd rfl (by omega) (by rw [← HRR.out]; exact put_lens HLe.out.2 (by show xs.length ≤ _; rw [HLy.out]; exact hl)))
    have HO := hide ho2
    obtain ⟨a2, c2, hz2⟩ := ho2.shape
    subst hz2
    clear HC2 k0 k1 k2
    have HRs2 := hide (HRs.out.later hb2)
    have HBw2 := hide (below_on HBw1.out hb2)
    have hs12 := hb2.size
    have HC3 := hide (specL8Fault HRd.out)
    obtain ⟨x, hx⟩ : ∃ x, filF R = x := ⟨_, rfl⟩
    have HX := hide hx
    rw [hx] at HC3
    clear hb2 ho2 hx
    obtain ⟨l, hll⟩ : ∃ l, R.length = l := ⟨_, rfl⟩
    have HLl := hide hll
    rw [hll] at HO HC3
    (try rw [hll])
    clear hll HRd
    by_cases hx0 : x = 0
    · subst hx0
      go_wp2_with fail
      refine HC3.out.mono ?_
      rintro e w3 ⟨rfl, hb3⟩
      have HRs3 := hide (HRs2.out.later hb3)
      have hwr : Wr (fun y => y = w.heap.size + 1) w3 ((w3.setCell ⟨w.heap.size + 1, 0, none⟩ (.int .i64 0)).setCell ⟨w.heap.size + 1, 1, none⟩ (.slice a2 l c2)) := ((Wr.refl (fun y => y = w.heap.size + 1) _).setCell (p := ⟨w.heap.size + 1, 0, none⟩) rfl _).setCell (p := ⟨w.heap.size + 1, 1, none⟩) rfl _
      have HFn := hide (And.intro (((below_on HBw2.out hb3).setCell (p := ⟨w.heap.size + 1, 0, none⟩) (by simp) (.int .i64 0)).setCell (p := ⟨w.heap.size + 1, 1, none⟩) (by simp) (.slice a2 l c2)) (((HO.out.later hb3).drawn hwr (by omega)).mono (P' := (w.heap.size ≤ ·)) (fun b hb => by omega)))
      clear hwr
      have c0 := HRs3.out.c0
      have c1 := HRs3.out.c1
      have F0 := HRs3.out.fr 0
      have F1 := HRs3.out.fr 1
      rw [hs0] at c0 c1 F0 F1
      clear hb3 HC3
      go_wp2
      refine bodyPost_ret (v := .agg #[.int .i64 0, .slice a2 l c2]) (by simp [results, Try.results13, go_sem, c0, c1]) rfl ⟨a2, l, c2, by rw [HCe.out, HX.out], HFn.out.1, fun _ => by rw [HRR.out]; exact ⟨HLl.out.symm, HFn.out.2⟩⟩
    · have hxb : (x == 0) = false := by simpa using hx0
      go_wp2_with fail
      refine HC3.out.mono ?_
      rintro e w3 ⟨rfl, hb3⟩
      have HRs3 := hide (HRs2.out.later hb3)
      have HFn := hide (shut_files (r := w.heap.size + 1) (.int .i64 x) (below_on HBw2.out hb3) (by omega))
      have c0 := HRs3.out.c0
      have c1 := HRs3.out.c1
      have F0 := HRs3.out.fr 0
      have F1 := HRs3.out.fr 1
      rw [hs0] at c0 c1 F0 F1
      clear hb3 HC3
      go_wp2
      refine bodyPost_ret (v := .agg #[.int .i64 x, .slice none 0 0]) (by simp [results, Try.results13, go_sem, c0, c1]) rfl ⟨none, 0, 0, by rw [HCe.out, HX.out], HFn.out.1, fun h => absurd ((HCe.out.trans HX.out).symm.trans h) hx0⟩
  · have h0b : (z == 0) = false := by simpa using h0
    have HCe : Hid (ptC fs (a, s, xs) = z) := by unfold ptC; rw [Hid, if_neg (by rw [HZ.out]; exact h0)]; exact HZ.out
    rw [HCe.out]
    go_enter Try.func13, Try.ntmps13
    go_wp2_with fail
    refine HC.out.mono ?_
    rintro e w1 ⟨rfl, hb⟩
    have HRs := hide (HSt.out.later hb)
    have HFn := hide (shut_files (r := w.heap.size + 1) (.int .i64 z) (below_on HB0.out HRs.out.below) (by omega))
    have c0 := HRs.out.c0
    have c1 := HRs.out.c1
    have F0 := HRs.out.fr 0
    have F1 := HRs.out.fr 1
    rw [hs0] at c0 c1 F0 F1
    clear hb HC
    go_wp2
    refine bodyPost_ret (v := .agg #[.int .i64 z, .slice none 0 0]) (by simp [results, Try.results13, go_sem, c0, c1]) rfl ⟨none, 0, 0, rfl, HFn.out.1, fun h => absurd h h0⟩
end Go.Proofs.Ytbfdnjhdlnfpmaa
