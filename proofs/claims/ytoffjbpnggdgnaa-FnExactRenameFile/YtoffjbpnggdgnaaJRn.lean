/- Fs3 Fs4 Fr1 Fr2 in one text: what each says stands at its head below. -/
import Derived.Test.YtoffjbpnggdgnaaFs2
import Derived.Test.YtoffjbpnggdgnaaFiV
import Derived.Deep.CutRange
/- Chapter 8: a file put among others; the model's side, walked. Made by program (genfs3.py). -/
namespace Go.Proofs.Ytoffjbpnggdgnaa
open Go.RowKit

/-- Where a file of the name a goes: c files ahead of it, e (0 or 1) whose place it takes. -/
structure CutF (fs : List Oj) (a : Int) (c e : Nat) : Prop where
  le : c + e ≤ fs.length
  e1 : e ≤ 1
  lo : ∀ i, i < c → (fs.getD i oj0).1 < a
  eq : e = 1 → (fs.getD c oj0).1 = a
  gt : ∀ i, c + e ≤ i → i < fs.length → a < (fs.getD i oj0).1
theorem cut_has : ∀ {fs : List Oj} (a : Int), fs.Pairwise (fun p q => p.1 < q.1) → ∃ c e, CutF fs a c e ∧ fs.filter (fun q => decide (q.1 < a)) = fs.take c ∧ fs.filter (fun q => decide (a < q.1)) = fs.drop (c + e)
  | [], a, _ => ⟨0, 0, ⟨by simp, by omega, fun i hi => by omega, fun h => by omega, fun i _ hi => by simp at hi⟩, rfl, rfl⟩
  | p :: r, a, h => by
    obtain ⟨h1, h2⟩ := List.pairwise_cons.1 h
    by_cases hlt : p.1 < a
    · obtain ⟨c, e, hc, f1, f2⟩ := cut_has a h2
      refine ⟨c + 1, e, ⟨by have := hc.le; simp; omega, hc.e1, fun i hi => ?_, fun he => by simpa using hc.eq he, fun i hi hl => ?_⟩, ?_, ?_⟩
      · cases i with
        | zero => simpa using hlt
        | succ i => simpa using hc.lo i (by omega)
      · cases i with
        | zero => omega
        | succ i => simpa using hc.gt i (by omega) (by simpa using hl)
      · rw [List.filter_cons_of_pos (by simpa using hlt), f1]; rfl
      · rw [List.filter_cons_of_neg (by simp; omega), f2, show c + 1 + e = c + e + 1 by omega]; rfl
    · have hno : r.filter (fun q => decide (q.1 < a)) = [] := by
        rw [List.filter_eq_nil_iff]
        intro q hq
        have := h1 q hq
        simp; omega
      have hall : r.filter (fun q => decide (a < q.1)) = r := by
        rw [List.filter_eq_self]
        intro q hq
        have := h1 q hq
        simp; omega
      have hr : ∀ i, i < r.length → a < (r.getD i oj0).1 := fun i hi => by
        have := h1 r[i] (List.getElem_mem hi)
        simp only [List.getD, List.getElem?_eq_getElem hi, Option.getD_some]
        omega
      by_cases he : p.1 = a
      · refine ⟨0, 1, ⟨by simp, by omega, fun i hi => by omega, fun _ => by simpa using he, fun i hi hl => ?_⟩, ?_, ?_⟩
        · cases i with
          | zero => omega
          | succ i => simpa using hr i (by simpa using hl)
        · rw [List.filter_cons_of_neg (by simp; omega), hno]; rfl
        · rw [List.filter_cons_of_neg (by simp; omega), hall]; rfl
      · refine ⟨0, 0, ⟨by simp, by omega, fun i hi => by omega, fun h => by omega, fun i hi hl => ?_⟩, ?_, ?_⟩
        · cases i with
          | zero => simp; omega
          | succ i => simpa using hr i (by simpa using hl)
        · rw [List.filter_cons_of_neg (by simp; omega), hno]; rfl
        · rw [List.filter_cons_of_pos (by simp; omega), hall]; rfl
theorem put_at {fs : List Oj} {p : Oj} {c e : Nat} (hc : CutF fs p.1 c e) (f1 : fs.filter (fun q => decide (q.1 < p.1)) = fs.take c) (f2 : fs.filter (fun q => decide (p.1 < q.1)) = fs.drop (c + e)) :
    (putF fs p).length + e = fs.length + 1 ∧ (∀ i, i < c → (putF fs p).getD i oj0 = fs.getD i oj0) ∧ (putF fs p).getD c oj0 = p ∧ ∀ i, c + e ≤ i → i < fs.length → (putF fs p).getD (i + 1 - e) oj0 = fs.getD i oj0 := by
  have hle := hc.le
  have hl : (fs.take c).length = c := by simp; omega
  unfold putF
  rw [f1, f2]
  refine ⟨by simp; omega, fun i hi => ?_, ?_, fun i h1 h2 => ?_⟩
  · simp only [List.getD]
    rw [List.getElem?_append_left (by omega), List.getElem?_take_of_lt hi]
  · simp only [List.getD]
    rw [List.getElem?_append_right (by omega), hl]; simp
  · simp only [List.getD]
    have he := hc.e1
    rw [List.getElem?_append_right (by omega), hl, show i + 1 - e - c = (i - e - c) + 1 by omega, List.getElem?_cons_succ, List.getElem?_drop]
    congr 2; omega
theorem ShFi.drew {w wr : World} {v : Value} {j : Nat} {gs : List Oj} (h : ShFi w wr v j gs) (q : Nat) : ShFi w (wr.drewN q) v j gs := by
  obtain ⟨V, h1, h2, h3⟩ := h
  exact ⟨V, h1, h2, below_on h3 (below_drewN _ q)⟩
theorem put_lens {fs : List Oj} {p : Oj} {m : Nat} (h : ∀ i, i < fs.length → (fs.getD i oj0).2.2.length ≤ m) (hp : p.2.2.length ≤ m) : ∀ i, i < (putF fs p).length → ((putF fs p).getD i oj0).2.2.length ≤ m := by
  intro i hi
  simp only [List.getD, List.getElem?_eq_getElem hi, Option.getD_some]
  have hm : (putF fs p)[i] ∈ putF fs p := List.getElem_mem hi
  generalize (putF fs p)[i] = q at hm
  unfold putF at hm
  have key : ∀ q, q ∈ fs → q.2.2.length ≤ m := fun q hq => by
    obtain ⟨j, hj, rfl⟩ := List.mem_iff_getElem.1 hq
    have := h j hj
    simpa only [List.getD, List.getElem?_eq_getElem hj, Option.getD_some] using this
  rcases List.mem_append.1 hm with hq | hq
  · exact key q (List.mem_filter.1 hq).1
  · rcases List.mem_cons.1 hq with rfl | hq
    · exact hp
    · exact key q (List.mem_filter.1 hq).1

set_option maxHeartbeats 4000000 in
set_option maxRecDepth 4000 in
/-- 'spec.l8Put' of files that rise by name. -/
theorem l8Put {S T : Nat → Prop} {w : World} {v y : Value} {fs : List Oj} {p : Oj} (hv : RdJ S w v fs) (hup : fs.Pairwise (fun p q => p.1 < q.1)) (hm : fs.length ≤ 1000) (hl : ∀ i, i < fs.length → (fs.getD i oj0).2.2.length ≤ 1048576) (hy : RdI T w y p.2.2) (hpl : p.2.2.length ≤ 1048576) :
    Calls Try.prog 22 #[v, .agg #[.int .i64 p.1, .int .i64 p.2.1, y]] w fun e w' => ∃ z, e = .returned z ∧ Below w.heap.size w w' ∧ BuiltFi (w.heap.size ≤ ·) w' z (putF fs p).length (putF fs p) := by
  obtain ⟨av, cv, rfl, _⟩ := hv.shape
  have HV := hide hv
  obtain ⟨n, hn⟩ : ∃ n, fs.length = n := ⟨_, rfl⟩
  have HN := hide hn
  have HPl := hide (put_lens (p := p) hl hpl)
  obtain ⟨c, e, hc, f1, f2⟩ := cut_has p.1 hup
  have HAt := hide (put_at hc f1 f2)
  have HC := hide hc
  have hce := hc.le
  have he1 := hc.e1
  rw [hn] at HV hm hce ⊢
  clear hv hn hl hpl f1 f2 hc hup
  obtain ⟨R, hR⟩ : ∃ R, putF fs p = R := ⟨_, rfl⟩
  rw [hR] at HPl HAt ⊢
  have hRl : R.length + e = n + 1 := by rw [← HN.out]; exact HAt.out.1
  obtain ⟨lR, hlR⟩ : ∃ l, R.length = l := ⟨_, rfl⟩
  have HlR := hide hlR
  rw [hlR] at hRl ⊢
  clear hlR
  obtain ⟨ay, cy, rfl⟩ := hy.shape
  have HY := hide hy
  obtain ⟨ly, hly⟩ : ∃ l, p.2.2.length = l := ⟨_, rfl⟩
  rw [hly] at HY ⊢
  obtain ⟨a, ha⟩ : ∃ a, p.1 = a := ⟨_, rfl⟩
  obtain ⟨s, hs⟩ : ∃ s, p.2.1 = s := ⟨_, rfl⟩
  rw [ha] at HC
  rw [ha, hs]
  have HPa := hide ha
  have HPs := hide hs
  clear hR hy hly ha hs
  obtain ⟨i0, hi, hz0, hz1, hz2⟩ := info_parts Try.infoFl
  obtain ⟨w1, hw1⟩ : ∃ w1, w.alloc (.cells #[.int .i64 a, .int .i64 s, .slice ay ly cy] 33) = w1 := ⟨_, rfl⟩
  have HB1 : Hid (Below w.heap.size w w1) := by rw [← hw1]; exact below_alloc _ _
  have hs1 : w1.heap.size = w.heap.size + 1 := by rw [← hw1]; simp
  have HF0 : Hid (w1.cell? ⟨w.heap.size, 0, none⟩ = some (.int .i64 a)) := by rw [← hw1]; simp [Hid, go_sem]
  have HF1 : Hid (w1.cell? ⟨w.heap.size, 1, none⟩ = some (.int .i64 s)) := by rw [← hw1]; simp [Hid, go_sem]
  have HF2 : Hid (w1.cell? ⟨w.heap.size, 2, none⟩ = some (.slice ay ly cy)) := by rw [← hw1]; simp [Hid, go_sem]
  have HY1 := hide ((HY.out.later HB1.out).narrow (T := fun _ => True) (fun _ _ _ => trivial))
  have HV1 := hide (HV.out.later HB1.out)
  have HS0 : Hid (ShFi w1 (w1.alloc (.cells #[] 33)) (.slice (some ⟨w.heap.size + 1, 0, none⟩) 0 0) 0 R) := by have h := ShFi.empty w1 R; rw [hs1] at h; exact h
  go_enter Try.func22, Try.ntmps22
  go_wp2
  go_loopw [5, 6, 7] (fun v b i wr => ∃ (k j : Nat) (d : Bool), k ≤ n ∧ b = .bool d ∧ i = .int .i64 k ∧ (d = false → k ≤ c ∧ j = k) ∧ (d = true → c < k ∧ j + e = k + 1) ∧ Hid (ShFi w1 wr v j R)) (fun _ _ i _ => n - (RowKit.intOf i).toNat)
  case atStart => exact ⟨0, 0, false, Nat.zero_le _, rfl, rfl, fun _ => ⟨Nat.zero_le _, rfl⟩, (fun h => by cases h), HS0.out⟩
  case round =>
    clear hw1 HS0
    obtain ⟨k, j, d, hk, rfl, rfl, hA, hB, HSh⟩ := hrel
    obtain ⟨V, hrow, hV, hBw⟩ := HSh.out
    have HRow := hide hrow
    have HVV := hide hV
    have HB := hide hBw
    have hzz := hBw.size
    have b0 := cell_later hBw HF0.out
    have b1 := cell_later hBw HF1.out
    have b2 := cell_later hBw HF2.out
    clear hrow hV hBw
    by_cases hlt : k < n
    · obtain ⟨b, off, rfl, y3, q0, q1, q2, q3⟩ := HV1.out.file (k := k) (by rw [HN.out]; exact hlt)
      obtain ⟨q, hq⟩ : ∃ q, fs.getD k oj0 = q := ⟨_, rfl⟩
      have HQ := hide hq
      rw [hq] at q0 q1 q3
      obtain ⟨x, t, xs⟩ := q
      dsimp only at q0 q1 q3
      have HQ0 := hide q0
      have HQ1 := hide q1
      have HQ2 := hide q2
      have g0 := cell_later HB.out q0
      have g1 := cell_later HB.out q1
      have g2 := cell_later HB.out q2
      obtain ⟨a3, c3, hy3⟩ := q3.shape
      subst hy3
      obtain ⟨lx, hlx⟩ : ∃ lx, xs.length = lx := ⟨_, rfl⟩
      rw [hlx] at g2 q3 HQ2
      have HQ3 := hide (q3.narrow (T := fun _ => True) (fun _ _ _ => trivial))
      have hk0 : (0 : Int) ≤ (k : Int) := by omega
      have hk1 : (k : Int) < (n : Int) := by omega
      clear q0 q1 q2 q3 hq hlx
      by_cases hkc : k < c
      · have hd : d = false := by cases d with | false => rfl | true => have := (hB rfl).1; omega
        subst hd
        have hj := (hA rfl).2.symm
        subst hj
        have hx : x < a := by have := HC.out.lo k hkc; rw [HQ.out] at this; exact this
        have hxa : ¬ a ≤ x := by omega
        have hxe : ¬ x = a := by omega
        have hxb : (x == a) = false := by simpa using hxe
        have HG : Hid (R.getD k oj0 = (x, t, xs)) := by rw [Hid, HAt.out.2.1 k hkc]; exact HQ.out
        clear hA hB
        go_wp2_with fail
        go_quiet (fail)
        obtain ⟨nq1, hnq1⟩ : ∃ m, m = nq := ⟨_, rfl⟩
        subst hnq1
        go_wp2_with fail
        go_quiet (fail)
        have HRd : Hid ((wr.drewN (nq1 + nq)).ownsRow w1.heap.size 33 3 _ k _) := HRow.out
        go_wp2_with (at_builtin; refine wpList_append_lies _ rfl _ _ _ rfl w1.heap.size 33 i0 (.agg #[.int .i64 0, .int .i64 0, .slice none 0 0]) 3 40 Try.underlying28 hi hz0 hz1 hz2 rfl (by omega) _ k _ (by rfl) (ownsRow_later HRd.out (below_alloc (wr.drewN (nq1 + nq)) (.cells #[.int .i64 x, .int .i64 t, .slice a3 lx c3] 33))) ⟨wr.heap.size, 0, none⟩ 1 1 [.int .i64 x, .int .i64 t, .slice a3 lx c3] (by rfl) (by rfl) (by have h := World.news_of_block (cs := #[.int .i64 x, .int .i64 t, .slice a3 lx c3]) (t := 33) (fr := (0, 0)) (heap_alloc_new (wr.drewN (nq1 + nq)) (.cells #[.int .i64 x, .int .i64 t, .slice a3 lx c3] 33)); simpa using h) cellsFi_one (by omega) (by unfold maxLen; omega) (by omega) (by simp; omega) (wr.heap.size + 1) (by simp) ?_; intro g cap w4 hown4 hgrow hat hlt4)
        have HS := hide (ShFi.step (wr := wr.drewN (nq1 + nq)) HRd.out HVV.out (below_on HB.out (below_drewN _ _)) (by rw [HG.out]; exact HQ3.out) (by rw [HG.out]) (by rw [HG.out]) hown4 hgrow)
        clear hown4 hgrow hat hlt4 HRd
        go_wp2
        go_roundw
        case rel => exact ⟨k + 1, k + 1, false, hlt, rfl, by go_num, fun _ => ⟨hkc, rfl⟩, (fun h => by cases h), HS.out⟩
        case measure => simp [RowKit.intOf]; omega
      · by_cases hkc2 : k = c
        · have hd : d = false := by cases d with | false => rfl | true => have := (hB rfl).1; omega
          subst hd
          have hj := (hA rfl).2.symm
          subst hj
          have HGp : Hid (R.getD k oj0 = p) := by rw [Hid, hkc2]; exact HAt.out.2.2.1
          have HKC := hide hkc2
          by_cases he : e = 1
          · have hx : x = a := by have := HC.out.eq he; rw [← hkc2, HQ.out] at this; exact this
            have HEe := hide he
            clear hkc hkc2 he
            subst hx
            have hxa : x ≤ x := Int.le_refl _
            have hxg : x ≥ x := Int.le_refl _
            clear hA hB
            go_wp2_with fail
            go_quiet (fail)
            have HRd : Hid ((wr.drewN nq).ownsRow w1.heap.size 33 3 _ k _) := HRow.out
            go_wp2_with (at_builtin; refine wpList_append_lies _ rfl _ _ _ rfl w1.heap.size 33 i0 (.agg #[.int .i64 0, .int .i64 0, .slice none 0 0]) 3 40 Try.underlying28 hi hz0 hz1 hz2 rfl (by omega) _ k _ (by rfl) (ownsRow_later HRd.out (below_alloc (wr.drewN nq) (.cells #[.int .i64 x, .int .i64 s, .slice ay ly cy] 33))) ⟨wr.heap.size, 0, none⟩ 1 1 [.int .i64 x, .int .i64 s, .slice ay ly cy] (by rfl) (by rfl) (by have h := World.news_of_block (cs := #[.int .i64 x, .int .i64 s, .slice ay ly cy]) (t := 33) (fr := (0, 0)) (heap_alloc_new (wr.drewN nq) (.cells #[.int .i64 x, .int .i64 s, .slice ay ly cy] 33)); simpa using h) cellsFi_one (by omega) (by unfold maxLen; omega) (by omega) (by simp; omega) (wr.heap.size + 1) (by simp) ?_; intro g cap w4 hown4 hgrow hat hlt4)
            have HS := hide (ShFi.step (wr := wr.drewN nq) HRd.out HVV.out (below_on HB.out (below_drewN _ nq)) (by rw [HGp.out]; exact HY1.out) (by rw [HGp.out]; exact HPa.out) (by rw [HGp.out]; exact HPs.out) hown4 hgrow)
            clear hown4 hgrow hat hlt4 HRd
            obtain ⟨V5, hrow5, hV5, hB5⟩ := HS.out
            have b0 := cell_later hB5 HF0.out
            have g0 := cell_later hB5 HQ0.out
            clear hrow5 hV5 hB5
            go_wp2_with fail
            go_quiet (fail)
            have HS2 := hide (HS.out.drew nq)
            go_wp2
            go_roundw
            case rel => exact ⟨k + 1, k + 1, true, hlt, rfl, by go_num, (fun h => by cases h), fun _ => ⟨by have := HKC.out; omega, by have := HKC.out; have := HEe.out; omega⟩, HS2.out⟩
            case measure => simp [RowKit.intOf]; omega
          · have he0 : e = 0 := by omega
            have hx : a < x := by have := HC.out.gt k (by omega) (by rw [HN.out]; exact hlt); rw [HQ.out] at this; exact this
            have hxa : a ≤ x := by omega
            have hxe : ¬ x = a := by omega
            have hxb : (x == a) = false := by simpa using hxe
            have HG : Hid (R.getD (k + 1) oj0 = (x, t, xs)) := by have h := HAt.out.2.2.2 k (by omega) (by rw [HN.out]; exact hlt); rw [he0] at h; rw [Hid, ← HQ.out]; exact h
            have HEe := hide he0
            clear hA hB hkc hkc2 he he0
            go_wp2_with fail
            go_quiet (fail)
            have HRd : Hid ((wr.drewN nq).ownsRow w1.heap.size 33 3 _ k _) := HRow.out
            go_wp2_with (at_builtin; refine wpList_append_lies _ rfl _ _ _ rfl w1.heap.size 33 i0 (.agg #[.int .i64 0, .int .i64 0, .slice none 0 0]) 3 40 Try.underlying28 hi hz0 hz1 hz2 rfl (by omega) _ k _ (by rfl) (ownsRow_later HRd.out (below_alloc (wr.drewN nq) (.cells #[.int .i64 a, .int .i64 s, .slice ay ly cy] 33))) ⟨wr.heap.size, 0, none⟩ 1 1 [.int .i64 a, .int .i64 s, .slice ay ly cy] (by rfl) (by rfl) (by have h := World.news_of_block (cs := #[.int .i64 a, .int .i64 s, .slice ay ly cy]) (t := 33) (fr := (0, 0)) (heap_alloc_new (wr.drewN nq) (.cells #[.int .i64 a, .int .i64 s, .slice ay ly cy] 33)); simpa using h) cellsFi_one (by omega) (by unfold maxLen; omega) (by omega) (by simp; omega) (wr.heap.size + 1) (by simp) ?_; intro g cap w4 hown4 hgrow hat hlt4)
            have HS := hide (ShFi.step (wr := wr.drewN nq) HRd.out HVV.out (below_on HB.out (below_drewN _ nq)) (by rw [HGp.out]; exact HY1.out) (by rw [HGp.out]; exact HPa.out) (by rw [HGp.out]; exact HPs.out) hown4 hgrow)
            clear hown4 hgrow hat hlt4 HRd
            obtain ⟨V5, hrow5, hV5, hB5⟩ := HS.out
            have b0 := cell_later hB5 HF0.out
            have g0 := cell_later hB5 HQ0.out
            have g1 := cell_later hB5 HQ1.out
            have g2 := cell_later hB5 HQ2.out
            have HRow5 := hide hrow5
            have HVV5 := hide hV5
            have HB5 := hide hB5
            have hzz5 := hB5.size
            clear hrow5 hV5 hB5
            go_wp2_with fail
            go_quiet (fail)
            have HRd : Hid ((w4.drewN nq).ownsRow w1.heap.size 33 3 _ (k + 1) _) := HRow5.out
            go_wp2_with (at_builtin; refine wpList_append_lies _ rfl _ _ _ rfl w1.heap.size 33 i0 (.agg #[.int .i64 0, .int .i64 0, .slice none 0 0]) 3 40 Try.underlying28 hi hz0 hz1 hz2 rfl (by omega) _ (k + 1) _ (by rfl) (ownsRow_later HRd.out (below_alloc (w4.drewN nq) (.cells #[.int .i64 x, .int .i64 t, .slice a3 lx c3] 33))) ⟨w4.heap.size, 0, none⟩ 1 1 [.int .i64 x, .int .i64 t, .slice a3 lx c3] (by rfl) (by rfl) (by have h := World.news_of_block (cs := #[.int .i64 x, .int .i64 t, .slice a3 lx c3]) (t := 33) (fr := (0, 0)) (heap_alloc_new (w4.drewN nq) (.cells #[.int .i64 x, .int .i64 t, .slice a3 lx c3] 33)); simpa using h) cellsFi_one (by omega) (by unfold maxLen; omega) (by omega) (by simp; omega) (w4.heap.size + 1) (by simp) ?_; intro g2 cap2 w5 hown4 hgrow hat hlt4)
            have HS3 := hide (ShFi.step (wr := w4.drewN nq) HRd.out HVV5.out (below_on HB5.out (below_drewN _ nq)) (by rw [HG.out]; exact HQ3.out) (by rw [HG.out]) (by rw [HG.out]) hown4 hgrow)
            clear hown4 hgrow hat hlt4 HRd
            go_wp2
            go_roundw
            case rel => exact ⟨k + 1, k + 1 + 1, true, hlt, rfl, by go_num, (fun h => by cases h), fun _ => ⟨by have := HKC.out; omega, by have := HEe.out; omega⟩, HS3.out⟩
            case measure => simp [RowKit.intOf]; omega
        · have hd : d = true := by cases d with | true => rfl | false => have := (hA rfl).1; omega
          subst hd
          have hj := (hB rfl).2
          have hx : a < x := by have := HC.out.gt k (by omega) (by rw [HN.out]; exact hlt); rw [HQ.out] at this; exact this
          have hxe : ¬ x = a := by omega
          have hxb : (x == a) = false := by simpa using hxe
          have HG : Hid (R.getD j oj0 = (x, t, xs)) := by have h := HAt.out.2.2.2 k (by omega) (by rw [HN.out]; exact hlt); rw [show k + 1 - e = j by omega] at h; rw [Hid, ← HQ.out]; exact h
          clear hA hB
          go_wp2_with fail
          go_quiet (fail)
          obtain ⟨nq1, hnq1⟩ : ∃ m, m = nq := ⟨_, rfl⟩
          subst hnq1
          have HJe := hide hj
          have hjb : j ≤ 1001 := by omega
          clear hj
          go_wp2_with fail
          go_quiet (fail)
          have HRd : Hid ((wr.drewN (nq1 + nq)).ownsRow w1.heap.size 33 3 _ j _) := HRow.out
          go_wp2_with (at_builtin; refine wpList_append_lies _ rfl _ _ _ rfl w1.heap.size 33 i0 (.agg #[.int .i64 0, .int .i64 0, .slice none 0 0]) 3 40 Try.underlying28 hi hz0 hz1 hz2 rfl (by omega) _ j _ (by rfl) (ownsRow_later HRd.out (below_alloc (wr.drewN (nq1 + nq)) (.cells #[.int .i64 x, .int .i64 t, .slice a3 lx c3] 33))) ⟨wr.heap.size, 0, none⟩ 1 1 [.int .i64 x, .int .i64 t, .slice a3 lx c3] (by rfl) (by rfl) (by have h := World.news_of_block (cs := #[.int .i64 x, .int .i64 t, .slice a3 lx c3]) (t := 33) (fr := (0, 0)) (heap_alloc_new (wr.drewN (nq1 + nq)) (.cells #[.int .i64 x, .int .i64 t, .slice a3 lx c3] 33)); simpa using h) cellsFi_one (by omega) (by unfold maxLen; omega) (by omega) (by simp; omega) (wr.heap.size + 1) (by simp) ?_; intro g cap w4 hown4 hgrow hat hlt4)
          have HS := hide (ShFi.step (wr := wr.drewN (nq1 + nq)) HRd.out HVV.out (below_on HB.out (below_drewN _ _)) (by rw [HG.out]; exact HQ3.out) (by rw [HG.out]) (by rw [HG.out]) hown4 hgrow)
          clear hown4 hgrow hat hlt4 HRd
          go_wp2
          go_roundw
          case rel => exact ⟨k + 1, j + 1, true, hlt, rfl, by go_num, (fun h => by cases h), fun _ => ⟨by omega, by have := HJe.out; omega⟩, HS.out⟩
          case measure => simp [RowKit.intOf]; omega
    · have hkn : k = n := by omega
      subst hkn
      have stage : ∀ (wx : World) (vx : Value), ShFi w1 wx vx lR R → ∃ ax cx, vx = .slice ax lR cx ∧ Calls Try.prog 38 #[.slice ax lR cx] wx fun e w' => ∃ z, e = .returned z ∧ Below w.heap.size w w' ∧ BuiltFi (w.heap.size ≤ ·) w' z lR R := by
        intro wx vx hsh
        have hrd := hsh.rd HlR.out (by omega)
        obtain ⟨ax, cx, hvx, _⟩ := hrd.shape
        rw [HlR.out] at hvx
        subst hvx
        refine ⟨ax, cx, rfl, ?_⟩
        have hcp := l8Copy hrd (by rw [HlR.out]; omega) HPl.out
        rw [HlR.out] at hcp
        refine hcp.mono ?_
        rintro e w' ⟨z, he, hb, hbu⟩
        have hBx : Below w.heap.size w wx := below_on HB1.out (by obtain ⟨_, _, _, h⟩ := hsh; exact h)
        have := hBx.size
        exact ⟨z, he, below_on hBx hb, hbu.mono (fun b h _ => by omega)⟩
      have HSt := hide stage
      clear stage
      cases d with
      | true =>
        have hj := (hB rfl).2
        have hjR : lR = j := by omega
        subst hjR
        obtain ⟨ax, cx, rfl, hcl⟩ := HSt.out _ _ HSh.out
        have HCl := hide hcl
        clear hcl hA hB
        go_wp2_with fail
        refine HCl.out.mono ?_
        rintro e w2 ⟨z2, rfl, hb, ho⟩
        have HFn := hide (And.intro hb ho)
        clear hb ho
        go_wp2
        go_ret
        exact ⟨_, rfl, HFn.out⟩
      | false =>
        obtain ⟨hkc, hj⟩ := hA rfl
        subst hj
        have hck : c = j := by omega
        have HGp : Hid (R.getD j oj0 = p) := by rw [Hid, ← hck]; exact HAt.out.2.2.1
        clear hck
        have hjR : lR = j + 1 := by omega
        subst hjR
        clear hA hB
        have HRd : Hid ((wr).ownsRow w1.heap.size 33 3 _ j _) := HRow.out
        go_wp2_with (at_builtin; refine wpList_append_lies _ rfl _ _ _ rfl w1.heap.size 33 i0 (.agg #[.int .i64 0, .int .i64 0, .slice none 0 0]) 3 40 Try.underlying28 hi hz0 hz1 hz2 rfl (by omega) _ j _ (by rfl) (ownsRow_later HRd.out (below_alloc (wr) (.cells #[.int .i64 a, .int .i64 s, .slice ay ly cy] 33))) ⟨wr.heap.size, 0, none⟩ 1 1 [.int .i64 a, .int .i64 s, .slice ay ly cy] (by rfl) (by rfl) (by have h := World.news_of_block (cs := #[.int .i64 a, .int .i64 s, .slice ay ly cy]) (t := 33) (fr := (0, 0)) (heap_alloc_new (wr) (.cells #[.int .i64 a, .int .i64 s, .slice ay ly cy] 33)); simpa using h) cellsFi_one (by omega) (by unfold maxLen; omega) (by omega) (by simp; omega) (wr.heap.size + 1) (by simp) ?_; intro g cap w4 hown4 hgrow hat hlt4)
        have HS := hide (ShFi.step (wr := wr) HRd.out HVV.out (HB.out) (by rw [HGp.out]; exact HY1.out) (by rw [HGp.out]; exact HPa.out) (by rw [HGp.out]; exact HPs.out) hown4 hgrow)
        clear hown4 hgrow hat hlt4 HRd
        obtain ⟨ax, cx, hvx, hcl⟩ := HSt.out _ _ HS.out
        have HCl := hide hcl
        injection hvx with e1 e2 e3
        subst e1 e3
        clear hcl
        go_wp2_with fail
        refine HCl.out.mono ?_
        rintro e w2 ⟨z2, rfl, hb, ho⟩
        have HFn := hide (And.intro hb ho)
        clear hb ho
        go_wp2
        go_ret
        exact ⟨_, rfl, HFn.out⟩
end Go.Proofs.Ytoffjbpnggdgnaa
/- Chapter 8: 'PutFile' of both sides, walked. -/
namespace Go.Proofs.Ytoffjbpnggdgnaa
open Go.RowKit

def ptC (fs : List Oj) (p : Oj) : Int := if filF fs = 0 then filF (putF fs p) else filF fs
def ptR (fs : List Oj) (p : Oj) : List Oj := if ptC fs p = 0 then putF fs p else []
theorem ptC_fil {fs : List Oj} {p : Oj} (h : ptC fs p = 0) : filF fs = 0 ∧ filF (putF fs p) = 0 := by
  unfold ptC at h
  by_cases h0 : filF fs = 0
  · rw [if_pos h0] at h; exact ⟨h0, h⟩
  · rw [if_neg h0] at h; exact absurd h h0
theorem ptR_tot (fs : List Oj) (p : Oj) : totJ (ptR fs p) (ptR fs p).length ≤ 1048576 := by
  unfold ptR
  by_cases h : ptC fs p = 0
  · rw [if_pos h]
    have h2 := (ptC_fil h).2
    exact tot_sub h2 (fun p hp => hp) (by have := (filF_iff.1 h2).len; omega)
  · rw [if_neg h]; simp [totJ]
theorem IvJ.up {lo hi lo' : Nat} {w : World} {v : Value} {ps : List Oj} (h : IvJ lo hi w v ps) (h1 : lo' ≤ lo) (h2 : hi ≤ w.heap.size) : IvJ lo' w.heap.size w v ps := by
  obtain ⟨S, k0, k1, k2⟩ := h
  exact ⟨S, Nat.le_refl _, fun b hb => ⟨Nat.le_trans h1 (k1 b hb).1, Nat.lt_of_lt_of_le (k1 b hb).2 h2⟩, k2⟩
theorem shut_files {w w3 : World} {r : Nat} (x : Value) (hb : Below w.heap.size w w3) (hr : w.heap.size ≤ r) :
    Below w.heap.size w ((w3.setCell ⟨r, 0, none⟩ x).setCell ⟨r, 1, none⟩ (.slice none 0 0)) ∧ OwJ (fun b => w.heap.size ≤ b ∧ b < ((w3.setCell ⟨r, 0, none⟩ x).setCell ⟨r, 1, none⟩ (.slice none 0 0)).heap.size) ((w3.setCell ⟨r, 0, none⟩ x).setCell ⟨r, 1, none⟩ (.slice none 0 0)) (.slice none 0 0) [] :=
  ret_files (P := fun _ => False) hb hr (OwJ_nil _ _) (fun _ h => h.elim)

set_option maxHeartbeats 2000000 in
set_option maxRecDepth 4000 in
theorem implPutFile {S T : Nat → Prop} {w : World} {v y : Value} {fs : List Oj} {xs : List Int} (a s : Int) (hv : RdJ S w v fs) (hy : RdI T w y xs) (hl : xs.length ≤ 1048576) :
    Calls Try.prog 10 #[v, .agg #[.int .i64 a, .int .i64 s, y]] w (EndsFi (ptC fs (a, s, xs)) (ptR fs (a, s, xs)) w) := by
  obtain ⟨av, cv, rfl, hm⟩ := hv.shape
  obtain ⟨ay, cy, rfl⟩ := hy.shape
  have HV := hide hv
  have HY := hide hy
  obtain ⟨n, hn⟩ : ∃ n, fs.length = n := ⟨_, rfl⟩
  have HN := hide hn
  rw [hn] at HV hm ⊢
  obtain ⟨ly, hly⟩ : ∃ l, xs.length = l := ⟨_, rfl⟩
  have HLy := hide hly
  rw [hly] at HY hl ⊢
  clear hv hy hn hly
  obtain ⟨w0, hw0⟩ : ∃ w0, w.alloc (.cells #[.int .i64 a, .int .i64 s, .slice ay ly cy] 33) = w0 := ⟨_, rfl⟩
  have HB0 : Hid (Below w.heap.size w w0) := by rw [← hw0]; exact below_alloc _ _
  have hs0 : w0.heap.size = w.heap.size + 1 := by rw [← hw0]; simp
  have f0 : w0.cell? ⟨w.heap.size, 0, none⟩ = some (.int .i64 a) := by rw [← hw0]; simp [go_sem]
  have f1 : w0.cell? ⟨w.heap.size, 1, none⟩ = some (.int .i64 s) := by rw [← hw0]; simp [go_sem]
  have f2 : w0.cell? ⟨w.heap.size, 2, none⟩ = some (.slice ay ly cy) := by rw [← hw0]; simp [go_sem]
  have HFp : Hid (RdFp T w0 w.heap.size 0 (a, s, xs)) := ⟨_, f0, f1, f2, HY.out.later HB0.out⟩
  have HC := hide (implFilesFault (HV.out.later (below_on HB0.out (below_alloc w0 (.cells #[.int .i64 0, .slice none 0 0] 30)))))
  have HSt := hide (ResF.start w0 30)
  obtain ⟨z, hz⟩ : ∃ z, filF fs = z := ⟨_, rfl⟩
  have HZ := hide hz
  rw [hz] at HC
  clear hz f0 f1 f2
  by_cases h0 : z = 0
  · subst h0
    have HCe : Hid (ptC fs (a, s, xs) = filF (putF fs (a, s, xs))) := by unfold ptC; rw [Hid, if_pos HZ.out]
    have HLe := hide (lens_of HZ.out)
    have h4 := (filF_iff.1 HZ.out).len
    have HUp := hide (filF_iff.1 HZ.out).up
    have hpl : (putF fs (a, s, xs)).length ≤ 1000 := by have := put_len (a, s, xs) HUp.out; omega
    have HRe : Hid (∀ x, filF (putF fs (a, s, xs)) = x → ptR fs (a, s, xs) = if x = 0 then putF fs (a, s, xs) else []) := fun x hx => by unfold ptR; rw [HCe.out, hx]
    obtain ⟨R, hR⟩ : ∃ R, putF fs (a, s, xs) = R := ⟨_, rfl⟩
    have HRR := hide hR
    rw [hR] at HCe HRe hpl
    clear hR
    go_enter Try.func10, Try.ntmps10
    go_wp2_with fail
    refine HC.out.mono ?_
    rintro e w1 ⟨rfl, hb⟩
    have HRs := hide (HSt.out.later hb)
    have hw1 := HRs.out.lt
    have HBw1 := hide (below_on HB0.out HRs.out.below)
    have HC2 := hide (withFile (HV.out.later HBw1.out) HN.out HZ.out (HFp.out.later HRs.out.below) (by show xs.length ≤ _; rw [HLy.out]; exact hl))
    rw [HRR.out] at HC2
    clear hb HC
    go_wp2_with fail
    refine HC2.out.mono ?_
    rintro e w2 ⟨z2, rfl, hb2, ho2⟩
    have HO := hide ho2
    obtain ⟨a2, c2, hz2⟩ := ho2.shape
    subst hz2
    clear HC2
    have HRs2 := hide (HRs.out.later hb2)
    have HBw2 := hide (below_on HBw1.out hb2)
    have hs12 := hb2.size
    have HC3 := hide (implFilesFault HO.out.rd)
    obtain ⟨x, hx⟩ : ∃ x, filF R = x := ⟨_, rfl⟩
    have HX := hide hx
    rw [hx] at HC3
    clear hb2 ho2 hx
    obtain ⟨l, hll⟩ : ∃ l, R.length = l := ⟨_, rfl⟩
    rw [hll] at HO HC3
    (try rw [hll])
    clear hll
    have HRx := hide (HRe.out x HX.out)
    by_cases hx0 : x = 0
    · subst hx0
      rw [if_pos rfl] at HRx
      go_wp2_with fail
      refine HC3.out.mono ?_
      rintro e w3 ⟨rfl, hb3⟩
      have HRs3 := hide (HRs2.out.later hb3)
      have HO3 := hide (HO.out.wr (Wr.of_below hb3 fun _ => False) fun _ _ => id)
      have hs23 := hb3.size
      have HFn := hide (ret_files (x := .int .i64 0) (r := w.heap.size + 1) (below_on HBw2.out hb3) (by omega) HO3.out (fun b hb => ⟨by have := hb.1; omega, by have := hb.2; omega⟩))
      have c0 := HRs3.out.c0
      have c1 := HRs3.out.c1
      have F0 := HRs3.out.fr 0
      have F1 := HRs3.out.fr 1
      rw [hs0] at c0 c1 F0 F1
      clear hb3 HC3
      go_wp2
      refine bodyPost_ret (v := .agg #[.int .i64 0, .slice a2 l c2]) (by simp [results, Try.results10, go_sem, c0, c1]) rfl ⟨_, by rw [HCe.out, HX.out], HFn.out.1, by rw [HRx.out]; exact HFn.out.2⟩
    · have hxb : (x == 0) = false := by simpa using hx0
      rw [if_neg hx0] at HRx
      go_wp2_with fail
      refine HC3.out.mono ?_
      rintro e w3 ⟨rfl, hb3⟩
      have HRs3 := hide (HRs2.out.later hb3)
      have HFn := hide (shut_files (r := w.heap.size + 1) (.int .i64 x) (below_on HBw2.out hb3) (by omega))
      have c0 := HRs3.out.c0
      have c1 := HRs3.out.c1
      have F0 := HRs3.out.fr 0
      have F1 := HRs3.out.fr 1
      rw [hs0] at c0 c1 F0 F1
      clear hb3 HC3
      go_wp2
      refine bodyPost_ret (v := .agg #[.int .i64 x, .slice none 0 0]) (by simp [results, Try.results10, go_sem, c0, c1]) rfl ⟨_, by rw [HCe.out, HX.out], HFn.out.1, by rw [HRx.out]; exact HFn.out.2⟩
  · have h0b : (z == 0) = false := by simpa using h0
    have HCe : Hid (ptC fs (a, s, xs) = z) := by unfold ptC; rw [Hid, if_neg (by rw [HZ.out]; exact h0)]; exact HZ.out
    have HRe : Hid (ptR fs (a, s, xs) = []) := by unfold ptR; rw [Hid, HCe.out, if_neg h0]
    rw [HCe.out, HRe.out]
    go_enter Try.func10, Try.ntmps10
    go_wp2_with fail
    refine HC.out.mono ?_
    rintro e w1 ⟨rfl, hb⟩
    have HRs := hide (HSt.out.later hb)
    have HFn := hide (shut_files (r := w.heap.size + 1) (.int .i64 z) (below_on HB0.out HRs.out.below) (by omega))
    have c0 := HRs.out.c0
    have c1 := HRs.out.c1
    have F0 := HRs.out.fr 0
    have F1 := HRs.out.fr 1
    rw [hs0] at c0 c1 F0 F1
    clear hb HC
    go_wp2
    refine bodyPost_ret (v := .agg #[.int .i64 z, .slice none 0 0]) (by simp [results, Try.results10, go_sem, c0, c1]) rfl ⟨_, rfl, HFn.out.1, HFn.out.2⟩

set_option maxHeartbeats 2000000 in
set_option maxRecDepth 4000 in
theorem specPutFile {S T : Nat → Prop} {w : World} {v y : Value} {fs : List Oj} {xs : List Int} (a s : Int) (hv : RdJ S w v fs) (hy : RdI T w y xs) (hl : xs.length ≤ 1048576) :
    Calls Try.prog 7 #[v, .agg #[.int .i64 a, .int .i64 s, y]] w (EndsFi (ptC fs (a, s, xs)) (ptR fs (a, s, xs)) w) := by
  obtain ⟨av, cv, rfl, hm⟩ := hv.shape
  obtain ⟨ay, cy, rfl⟩ := hy.shape
  have HV := hide hv
  have HY := hide hy
  obtain ⟨n, hn⟩ : ∃ n, fs.length = n := ⟨_, rfl⟩
  have HN := hide hn
  rw [hn] at HV hm ⊢
  obtain ⟨ly, hly⟩ : ∃ l, xs.length = l := ⟨_, rfl⟩
  have HLy := hide hly
  rw [hly] at HY hl ⊢
  clear hv hy hn hly
  obtain ⟨w0, hw0⟩ : ∃ w0, w.alloc (.cells #[.int .i64 a, .int .i64 s, .slice ay ly cy] 33) = w0 := ⟨_, rfl⟩
  have HB0 : Hid (Below w.heap.size w w0) := by rw [← hw0]; exact below_alloc _ _
  have hs0 : w0.heap.size = w.heap.size + 1 := by rw [← hw0]; simp
  have f0 : w0.cell? ⟨w.heap.size, 0, none⟩ = some (.int .i64 a) := by rw [← hw0]; simp [go_sem]
  have f1 : w0.cell? ⟨w.heap.size, 1, none⟩ = some (.int .i64 s) := by rw [← hw0]; simp [go_sem]
  have f2 : w0.cell? ⟨w.heap.size, 2, none⟩ = some (.slice ay ly cy) := by rw [← hw0]; simp [go_sem]
  have HFp : Hid (RdFp T w0 w.heap.size 0 (a, s, xs)) := ⟨_, f0, f1, f2, HY.out.later HB0.out⟩
  have HC := hide (specL8Fault (HV.out.later (below_on HB0.out (below_alloc w0 (.cells #[.int .i64 0, .slice none 0 0] 30)))))
  have HSt := hide (ResF.start w0 30)
  obtain ⟨z, hz⟩ : ∃ z, filF fs = z := ⟨_, rfl⟩
  have HZ := hide hz
  rw [hz] at HC
  clear hz f0 f1 f2
  by_cases h0 : z = 0
  · subst h0
    have HCe : Hid (ptC fs (a, s, xs) = filF (putF fs (a, s, xs))) := by unfold ptC; rw [Hid, if_pos HZ.out]
    have HLe := hide (lens_of HZ.out)
    have h4 := (filF_iff.1 HZ.out).len
    have HUp := hide (filF_iff.1 HZ.out).up
    have hpl : (putF fs (a, s, xs)).length ≤ 1000 := by have := put_len (a, s, xs) HUp.out; omega
    have HRe : Hid (∀ x, filF (putF fs (a, s, xs)) = x → ptR fs (a, s, xs) = if x = 0 then putF fs (a, s, xs) else []) := fun x hx => by unfold ptR; rw [HCe.out, hx]
    obtain ⟨R, hR⟩ : ∃ R, putF fs (a, s, xs) = R := ⟨_, rfl⟩
    have HRR := hide hR
    rw [hR] at HCe HRe hpl
    clear hR
    go_enter Try.func7, Try.ntmps7
    go_wp2_with fail
    refine HC.out.mono ?_
    rintro e w1 ⟨rfl, hb⟩
    have HRs := hide (HSt.out.later hb)
    have hw1 := HRs.out.lt
    have HBw1 := hide (below_on HB0.out HRs.out.below)
    have HC2 := hide (l8Put (p := (a, s, xs)) (HV.out.later HBw1.out) HUp.out (by omega) HLe.out.2 (HY.out.later HBw1.out) (by show xs.length ≤ _; rw [HLy.out]; exact hl))
    rw [HRR.out] at HC2
    have k0 := cell_later HRs.out.below (by obtain ⟨_, h, _⟩ := HFp.out; exact h)
    have k1 := cell_later HRs.out.below (by obtain ⟨_, _, h, _⟩ := HFp.out; exact h)
    have k2 : w1.cell? ⟨w.heap.size, 2, none⟩ = some (.slice ay ly cy) := cell_later HRs.out.below (by rw [← hw0]; simp [go_sem])
    clear hb HC
    go_wp2_with fail
    refine HC2.out.mono ?_
    rintro e w2 ⟨z2, rfl, hb2, ho2⟩
    have HO := hide (ho2.ow rfl (by omega))
    obtain ⟨a2, c2, hz2⟩ := ho2.shape
    subst hz2
    clear HC2 k0 k1 k2
    have HRs2 := hide (HRs.out.later hb2)
    have HBw2 := hide (below_on HBw1.out hb2)
    have hs12 := hb2.size
    have HC3 := hide (specL8Fault HO.out.rd)
    obtain ⟨x, hx⟩ : ∃ x, filF R = x := ⟨_, rfl⟩
    have HX := hide hx
    rw [hx] at HC3
    clear hb2 ho2 hx
    obtain ⟨l, hll⟩ : ∃ l, R.length = l := ⟨_, rfl⟩
    rw [hll] at HO HC3
    (try rw [hll])
    clear hll
    have HRx := hide (HRe.out x HX.out)
    by_cases hx0 : x = 0
    · subst hx0
      rw [if_pos rfl] at HRx
      go_wp2_with fail
      refine HC3.out.mono ?_
      rintro e w3 ⟨rfl, hb3⟩
      have HRs3 := hide (HRs2.out.later hb3)
      have HO3 := hide (HO.out.wr (Wr.of_below hb3 fun _ => False) fun _ _ => id)
      have hs23 := hb3.size
      have HFn := hide (ret_files (x := .int .i64 0) (r := w.heap.size + 1) (below_on HBw2.out hb3) (by omega) HO3.out (fun b hb => ⟨by have := hb.1; omega, by have := hb.2; omega⟩))
      have c0 := HRs3.out.c0
      have c1 := HRs3.out.c1
      have F0 := HRs3.out.fr 0
      have F1 := HRs3.out.fr 1
      rw [hs0] at c0 c1 F0 F1
      clear hb3 HC3
      go_wp2
      refine bodyPost_ret (v := .agg #[.int .i64 0, .slice a2 l c2]) (by simp [results, Try.results7, go_sem, c0, c1]) rfl ⟨_, by rw [HCe.out, HX.out], HFn.out.1, by rw [HRx.out]; exact HFn.out.2⟩
    · have hxb : (x == 0) = false := by simpa using hx0
      rw [if_neg hx0] at HRx
      go_wp2_with fail
      refine HC3.out.mono ?_
      rintro e w3 ⟨rfl, hb3⟩
      have HRs3 := hide (HRs2.out.later hb3)
      have HFn := hide (shut_files (r := w.heap.size + 1) (.int .i64 x) (below_on HBw2.out hb3) (by omega))
      have c0 := HRs3.out.c0
      have c1 := HRs3.out.c1
      have F0 := HRs3.out.fr 0
      have F1 := HRs3.out.fr 1
      rw [hs0] at c0 c1 F0 F1
      clear hb3 HC3
      go_wp2
      refine bodyPost_ret (v := .agg #[.int .i64 x, .slice none 0 0]) (by simp [results, Try.results7, go_sem, c0, c1]) rfl ⟨_, by rw [HCe.out, HX.out], HFn.out.1, by rw [HRx.out]; exact HFn.out.2⟩
  · have h0b : (z == 0) = false := by simpa using h0
    have HCe : Hid (ptC fs (a, s, xs) = z) := by unfold ptC; rw [Hid, if_neg (by rw [HZ.out]; exact h0)]; exact HZ.out
    have HRe : Hid (ptR fs (a, s, xs) = []) := by unfold ptR; rw [Hid, HCe.out, if_neg h0]
    rw [HCe.out, HRe.out]
    go_enter Try.func7, Try.ntmps7
    go_wp2_with fail
    refine HC.out.mono ?_
    rintro e w1 ⟨rfl, hb⟩
    have HRs := hide (HSt.out.later hb)
    have HFn := hide (shut_files (r := w.heap.size + 1) (.int .i64 z) (below_on HB0.out HRs.out.below) (by omega))
    have c0 := HRs.out.c0
    have c1 := HRs.out.c1
    have F0 := HRs.out.fr 0
    have F1 := HRs.out.fr 1
    rw [hs0] at c0 c1 F0 F1
    clear hb HC
    go_wp2
    refine bodyPost_ret (v := .agg #[.int .i64 z, .slice none 0 0]) (by simp [results, Try.results7, go_sem, c0, c1]) rfl ⟨_, rfl, HFn.out.1, HFn.out.2⟩
end Go.Proofs.Ytoffjbpnggdgnaa
/- Chapter 8: 'RenameFile' of the program, walked. -/
namespace Go.Proofs.Ytoffjbpnggdgnaa
open Go.RowKit

theorem blksF_sub (q : Oj → Bool) : ∀ (fs : List Oj), (blksF (fs.filter q)).Sublist (blksF fs)
  | [] => List.Sublist.refl _
  | p :: r => by
    have ih := blksF_sub q r
    by_cases h : q p = true
    · rw [List.filter_cons_of_pos h]
      exact List.Sublist.append (List.Sublist.refl _) ih
    · rw [List.filter_cons_of_neg h]
      exact ih.trans (List.sublist_append_right _ _)
theorem filF_sub {fs : List Oj} (q : Oj → Bool) (h : filF fs = 0) : filF (fs.filter q) = 0 := by
  have hi := filF_iff.1 h
  refine filF_iff.2 ⟨Nat.le_trans (List.length_filter_le _ _) hi.len, fun p hp => hi.one p (List.mem_filter.1 hp).1, hi.up.filter _, (blksF_sub q fs).nodup hi.nd⟩
/-- The file of a name. -/
def flF (fs : List Oj) (a : Int) : Oj := (fs.filter (fun p => p.1 == a)).getD 0 oj0
theorem flF_at {fs : List Oj} {a : Int} {k : Nat} (h0 : filF fs = 0) (h : AtF fs a k) : flF fs a = fs.getD k oj0 := by unfold flF; rw [filter_at (filF_iff.1 h0).up h]; rfl
def rnC (fs : List Oj) (a t : Int) : Int := if faC fs a = 0 then (if 1 ≤ t ∧ t ≤ 99 then 0 else 3) else faC fs a
def rnR (fs : List Oj) (a t : Int) : List Oj := if rnC fs a t = 0 then putF (fs.filter (notN a)) (t, (flF fs a).2.1, (flF fs a).2.2) else []
theorem rnC_fa {fs : List Oj} {a t : Int} (h : rnC fs a t = 0) : faC fs a = 0 := by
  unfold rnC at h
  by_cases h0 : faC fs a = 0
  · exact h0
  · rw [if_neg h0] at h; exact h
theorem rnR_tot (fs : List Oj) (a t : Int) : totJ (rnR fs a t) (rnR fs a t).length ≤ 1048576 := by
  unfold rnR
  by_cases h : rnC fs a t = 0
  · rw [if_pos h]
    have h1 := rnC_fa h
    have h0 := faC_fil h1
    obtain ⟨k, hk⟩ := faC_has h1
    have hf := flF_at h0 hk
    have hl := one_len h0 hk.1
    have hs := filF_sub (notN a) h0
    have hpl := put_len (t, (flF fs a).2.1, (flF fs a).2.2) (filF_iff.1 hs).up
    have h4 := (filF_iff.1 hs).len
    have := tot_small (gs := putF (fs.filter (notN a)) (t, (flF fs a).2.1, (flF fs a).2.2)) (fun p hp => by
      unfold putF at hp
      rcases List.mem_append.1 hp with hq | hq
      · exact oneF_len ((filF_iff.1 hs).one p (List.mem_filter.1 hq).1)
      · rcases List.mem_cons.1 hq with rfl | hq
        · show (flF fs a).2.2.length ≤ 5; rw [hf]; exact hl
        · exact oneF_len ((filF_iff.1 hs).one p (List.mem_filter.1 hq).1))
    omega
  · rw [if_neg h]; simp [totJ]

set_option maxHeartbeats 2000000 in
set_option maxRecDepth 4000 in
theorem implRenameFile {S : Nat → Prop} {w : World} {v : Value} {fs : List Oj} (a t : Int) (hv : RdJ S w v fs) :
    Calls Try.prog 19 #[v, .int .i64 a, .int .i64 t] w (EndsFi (rnC fs a t) (rnR fs a t) w) := by
  obtain ⟨av, cv, rfl, hm⟩ := hv.shape
  have HV := hide hv
  obtain ⟨n, hn⟩ : ∃ n, fs.length = n := ⟨_, rfl⟩
  have HN := hide hn
  rw [hn] at HV hm ⊢
  clear hv hn
  have HC := hide (pointAt a (HV.out.later (below_alloc w (.cells #[.int .i64 0, .slice none 0 0] 30))) HN.out)
  unfold rnR
  obtain ⟨z, hz⟩ : ∃ z, faC fs a = z := ⟨_, rfl⟩
  have HZ := hide hz
  rw [hz] at HC
  clear hz
  by_cases h0 : z = 0
  · subst h0
    have HF0 := hide (faC_fil HZ.out)
    have HLe := hide (lens_of HF0.out)
    by_cases ht : 1 ≤ t ∧ t ≤ 99
    · have HRc : Hid (rnC fs a t = 0) := by unfold rnC; rw [Hid, if_pos HZ.out, if_pos ht]
      rw [HRc.out, if_pos rfl]
      have HT := hide (fun W => isName_yes t ht.1 ht.2 W)
      clear ht
      go_enter Try.func19, Try.ntmps19
      go_wp2_with fail
      refine HC.out.mono ?_
      rintro e w1 ⟨pt, rfl, hb, hp⟩
      have HRs := hide ((ResF.start w 30).later hb)
      have hw1 := HRs.out.lt
      rcases hp HF0.out with ⟨k, b, off, hat, rfl, rfl⟩ | hno
      · obtain ⟨b', off', e', hfp⟩ := HV.out.file hat.1
        injection e' with e'
        injection e' with e1 e2
        subst e1 e2
        have HFl := hide (flF_at HF0.out hat)
        have hlk := one_len HF0.out hat.1
        have HEq := hide (notL_notN HF0.out hat)
        have hfp1 := hfp.later HRs.out.below
        obtain ⟨y, g0, g1, g2, g3⟩ := id hfp1
        obtain ⟨ay, cy, hy⟩ := g3.shape
        subst hy
        have HLab : Hid (∀ w9, Below w1.heap.size w1 w9 → Calls Try.prog 48 #[.pointer (some ⟨b, off + k * 3, none⟩)] w9 fun e w' => e = .returned (.agg #[.int .i64 a, .int .i64 (fs.getD k oj0).2.1]) ∧ Below w9.heap.size w9 w') := fun w9 hb9 => by
          have h := labelOf (hfp1.later hb9)
          rw [hat.2.1] at h
          exact h
        obtain ⟨q, hq⟩ : ∃ q, fs.getD k oj0 = q := ⟨_, rfl⟩
        rw [hq] at g0 g1 g2 g3 HFl hlk HEq HLab
        obtain ⟨x, s, xs⟩ := q
        dsimp only at g0 g1 g2 g3 hlk HEq HLab
        have HG3 := hide g3
        clear hb hp HC hfp hfp1 hat hq g3
        obtain ⟨lx, hlx⟩ : ∃ lx, xs.length = lx := ⟨_, rfl⟩
        have HLx := hide hlx
        rw [hlx] at g2 HG3
        obtain ⟨w2, hw2⟩ : ∃ w2, w1.alloc (.cells #[.int .i64 t, .int .i64 s, .slice ay lx cy] 33) = w2 := ⟨_, rfl⟩
        have HB2 : Hid (Below w1.heap.size w1 w2) := by rw [← hw2]; exact below_alloc _ _
        have hs2 : w2.heap.size = w1.heap.size + 1 := by rw [← hw2]; simp
        have HFp2 : Hid (RdFp S w2 w1.heap.size 0 (t, s, xs)) := by
          refine ⟨.slice ay lx cy, ?_, ?_, ?_, ?_⟩
          · rw [← hw2]; simp [go_sem]
          · rw [← hw2]; simp [go_sem]
          · rw [← hw2]; simp [go_sem]
          · exact HG3.out.later HB2.out
        have HC2 := hide (withoutFile (pt := some ⟨b, off + k * 3, none⟩) (a := a) (s := s) (HV.out.later (below_on HRs.out.below HB2.out)) HLe.out.1 HLe.out.2 (fun w9 hb9 => HLab.out w9 (below_on HB2.out hb9)))
        rw [HEq.out] at HC2
        have HSub := hide (filF_sub (notN a) HF0.out)
        obtain ⟨G, hG⟩ : ∃ G, fs.filter (notN a) = G := ⟨_, rfl⟩
        rw [hG] at HC2 HSub
        have HGG := hide hG
        have HRs2 := hide (HRs.out.later HB2.out)
        have hset : (w1.alloc (.cells #[.int .i64 x, .int .i64 s, .slice ay lx cy] 33)).setCell ⟨w1.heap.size, 0, none⟩ (.int .i64 t) = w2 := by
          rw [← hw2]; simp [go_sem]
        clear hlx hG
        go_wp2_with fail
        refine (HT.out _).mono ?_
        rintro e w9 ⟨rfl, hw9⟩
        have hw9 := hw9.symm
        subst hw9
        go_wp2_with fail
        refine HC2.out.mono ?_
        rintro e w3 ⟨z3, rfl, hb3, ho3⟩
        have HO3 := hide (ho3.ow rfl (by have := (filF_iff.1 HSub.out).len; omega))
        obtain ⟨a3, c3, hz3⟩ := ho3.shape
        subst hz3
        have HRs3 := hide (HRs2.out.later hb3)
        have HC3 := hide (withFile HO3.out.rd rfl HSub.out (HFp2.out.later hb3) (by show xs.length ≤ _; omega))
        have hs3 := hb3.size
        clear hb3 ho3 HC2
        obtain ⟨lg, hlg⟩ : ∃ lg, G.length = lg := ⟨_, rfl⟩
        rw [hlg] at HC3
        (try rw [hlg])
        clear hlg
        go_wp2_with fail
        refine HC3.out.mono ?_
        rintro e w4 ⟨z4, rfl, hb4, ho4⟩
        obtain ⟨a4, c4, hz4⟩ := ho4.shape
        subst hz4
        have HRs4 := hide (HRs3.out.later hb4)
        have HFn := hide (ret_files (x := .int .i64 0) HRs4.out.below (Nat.le_refl _) ho4 (fun b hb => ⟨by have := hb.1; omega, hb.2⟩))
        obtain ⟨l, hl⟩ : ∃ l, (putF G (t, s, xs)).length = l := ⟨_, rfl⟩
        rw [hl] at HFn
        (try rw [hl])
        have c0 := HRs4.out.c0
        have c1 := HRs4.out.c1
        have F0 := HRs4.out.fr 0
        have F1 := HRs4.out.fr 1
        clear hb4 ho4 HC3 hl
        go_wp2
        refine bodyPost_ret (v := .agg #[.int .i64 0, .slice a4 l c4]) (by simp [results, Try.results19, go_sem, c0, c1]) rfl ⟨_, rfl, HFn.out.1, by rw [HGG.out, HFl.out]; exact HFn.out.2⟩
      · exact absurd HZ.out (by rw [faC_no hno HF0.out]; decide)
    · have HRc : Hid (rnC fs a t = 3) := by unfold rnC; rw [Hid, if_pos HZ.out, if_neg ht]
      rw [HRc.out, if_neg (by decide)]
      have HT := hide (fun W => isName_no t ht W)
      clear ht
      go_enter Try.func19, Try.ntmps19
      go_wp2_with fail
      refine HC.out.mono ?_
      rintro e w1 ⟨pt, rfl, hb, hp⟩
      have HRs := hide ((ResF.start w 30).later hb)
      clear hb hp HC
      go_wp2_with fail
      refine (HT.out _).mono ?_
      rintro e w9 ⟨rfl, hw9⟩
      have hw9 := hw9.symm
      subst hw9
      have c0 := HRs.out.c0
      have c1 := HRs.out.c1
      have F0 := HRs.out.fr 0
      have F1 := HRs.out.fr 1
      go_wp2
      refine bodyPost_ret (v := .agg #[.int .i64 3, .slice none 0 0]) (by simp [results, Try.results19, go_sem, c0, c1]) rfl ⟨_, rfl, HRs.out.shut _ _, OwJ_nil _ _⟩
  · have h0b : (z == 0) = false := by simpa using h0
    have HRc : Hid (rnC fs a t = z) := by unfold rnC; rw [Hid, if_neg (by rw [HZ.out]; exact h0)]; exact HZ.out
    rw [HRc.out, if_neg h0]
    go_enter Try.func19, Try.ntmps19
    go_wp2_with fail
    refine HC.out.mono ?_
    rintro e w1 ⟨pt, rfl, hb, hp⟩
    have HRs := hide ((ResF.start w 30).later hb)
    have c0 := HRs.out.c0
    have c1 := HRs.out.c1
    have F0 := HRs.out.fr 0
    have F1 := HRs.out.fr 1
    clear hb hp HC
    go_wp2
    refine bodyPost_ret (v := .agg #[.int .i64 z, .slice none 0 0]) (by simp [results, Try.results19, go_sem, c0, c1]) rfl ⟨_, rfl, HRs.out.shut _ _, OwJ_nil _ _⟩
end Go.Proofs.Ytoffjbpnggdgnaa
/- Chapter 8: 'RenameFile' of the model, walked. -/
namespace Go.Proofs.Ytoffjbpnggdgnaa
open Go.RowKit

theorem set2_fi {w : World} {b h o : Nat} {x y : Value} (hb : b ≠ h) : ((w.setCell ⟨h, 0, none⟩ x).setCell ⟨h, 1, none⟩ y).cell? ⟨b, o, none⟩ = w.cell? ⟨b, o, none⟩ := by
  rw [World.cell?_setCell_other _ _ _ _ (by intro e; injection e with e1 _; exact hb e1.symm), World.cell?_setCell_other _ _ _ _ (by intro e; injection e with e1 _; exact hb e1.symm)]
/-- A file that was laid at the block hf. -/
def LaidF (w1 : World) (t s : Int) (xs : List Int) (hf : Nat) (az : Option Addr) (lx cz : Nat) (wx : World) : Prop :=
  wx.cell? ⟨hf, 0, none⟩ = some (.int .i64 t) ∧ wx.cell? ⟨hf, 1, none⟩ = some (.int .i64 s) ∧ wx.cell? ⟨hf, 2, none⟩ = some (.slice az lx cz) ∧ RdI (fun _ => True) wx (.slice az lx cz) xs ∧ Below w1.heap.size w1 wx ∧ w1.heap.size ≤ hf

set_option maxHeartbeats 4000000 in
set_option maxRecDepth 4000 in
theorem specRenameFile {S : Nat → Prop} {w : World} {v : Value} {fs : List Oj} (a t : Int) (hv : RdJ S w v fs) :
    Calls Try.prog 18 #[v, .int .i64 a, .int .i64 t] w (EndsFi (rnC fs a t) (rnR fs a t) w) := by
  obtain ⟨av, cv, rfl, hm⟩ := hv.shape
  have HV := hide hv
  obtain ⟨n, hn⟩ : ∃ n, fs.length = n := ⟨_, rfl⟩
  have HN := hide hn
  rw [hn] at HV hm ⊢
  clear hv hn
  have HC := hide (specL8Fault (HV.out.later (below_alloc w (.cells #[.int .i64 0, .slice none 0 0] 30))))
  obtain ⟨z, hz⟩ : ∃ z, filF fs = z := ⟨_, rfl⟩
  have HZ := hide hz
  rw [hz] at HC
  clear hz
  by_cases h0 : z = 0
  · subst h0
    have HLe := hide (lens_of HZ.out)
    go_enter Try.func18, Try.ntmps18
    go_wp2_with fail
    refine HC.out.mono ?_
    rintro e w1 ⟨rfl, hb⟩
    have HRs := hide ((ResF.start w 30).later hb)
    have hw1 := HRs.out.lt
    have HC2 := hide (l8At a (HV.out.later HRs.out.below))
    clear hb HC
    go_wp2_with fail
    refine HC2.out.mono ?_
    rintro e w2 ⟨hw, h⟩
    have hw := hw.symm
    subst hw
    rcases h with ⟨k, hat, rfl⟩ | ⟨hno, rfl⟩
    · have HEc := hide (faC_at hat HZ.out)
      have hk0 : ¬ (k : Int) < 0 := by omega
      by_cases ht : 1 ≤ t ∧ t ≤ 99
      · have HRc : Hid (rnC fs a t = 0) := by unfold rnC; rw [Hid, if_pos HEc.out, if_pos ht]
        have HRr : Hid (rnR fs a t = putF (fs.filter (notN a)) (t, (fs.getD k oj0).2.1, (fs.getD k oj0).2.2)) := by unfold rnR; rw [Hid, if_pos HRc.out, flF_at HZ.out hat]
        have HT := hide (fun W => l1In_yes t 1 99 ht.1 ht.2 W)
        obtain ⟨b, off, rfl, hfp⟩ := HV.out.file hat.1
        have hkn : k < n := by have := hat.1; rw [HN.out] at this; exact this
        have hlk := one_len HZ.out hat.1
        obtain ⟨y, _, g1, g2, g3⟩ := hfp.later HRs.out.below
        obtain ⟨ay, cy, hy⟩ := g3.shape
        subst hy
        obtain ⟨q, hq⟩ : ∃ q, fs.getD k oj0 = q := ⟨_, rfl⟩
        rw [hq] at g1 g2 g3 HRr hlk
        obtain ⟨x, s, xs⟩ := q
        dsimp only at g1 g2 g3 HRr hlk
        obtain ⟨lx, hlx⟩ : ∃ lx, xs.length = lx := ⟨_, rfl⟩
        have HLx := hide hlx
        rw [hlx] at g2 g3 hlk
        have HG3 := hide g3
        have hk1 : (0 : Int) ≤ (k : Int) := by omega
        have hk2 : (k : Int) < (n : Int) := by omega
        have hbl : b < w1.heap.size := World.block_lt_of_cell? _ _ g1
        have hbv : b ≠ w1.heap.size := Nat.ne_of_lt hbl
        clear ht hat hfp hq hlx g3 HC2
        go_wp2_with fail
        refine (HT.out _).mono ?_
        rintro e w9 ⟨rfl, hw9⟩
        have hw9 := hw9.symm
        subst hw9
        obtain ⟨W1, hW1⟩ : ∃ W1, w1.drew = W1 := ⟨_, rfl⟩
        obtain ⟨W2, hW2⟩ : ∃ W2, (w1.alloc (.cells #[.int .i64 0, .int .i64 0, .slice none 0 0] 33)).drew = W2 := ⟨_, rfl⟩
        have HW1 := hide hW1
        have HW2 := hide hW2
        have HBW1 : Hid (Below w1.heap.size w1 W1) := by rw [Hid, ← hW1]; exact below_drewN _ 1
        have HBW2 : Hid (Below w1.heap.size w1 W2) := by rw [Hid, ← hW2]; exact below_on (below_alloc _ _) (below_drewN _ 1)
        have HZ2 : Hid (W2.cell? ⟨w1.heap.size, 0, none⟩ = some (.int .i64 0) ∧ W2.cell? ⟨w1.heap.size, 1, none⟩ = some (.int .i64 0) ∧ W2.cell? ⟨w1.heap.size, 2, none⟩ = some (.slice none 0 0) ∧ (∀ o, W2.frozen? ⟨w1.heap.size, o, none⟩ = false) ∧ W2.heap.size = w1.heap.size + 1) := by
          rw [Hid, ← hW2]
          exact ⟨by simp [go_sem], by simp [go_sem], by simp [go_sem], fun o => by simp [go_sem], by simp⟩
        clear hW1 hW2
        go_upto_region 9 with fail
        go_cut [9] from 26 to 38 (fun v wx => ∃ (hf cz : Nat) (az : Option Addr), v = .pointer (some ⟨hf, 0, none⟩) ∧ Hid (LaidF w1 t s xs hf az lx cz wx))
        case first =>
          go_region_held3 (fun w' => w'.cell? ⟨b, off + k * 3 + 1, none⟩ = some (.int .i64 s) ∧ w'.cell? ⟨b, off + k * 3 + 2, none⟩ = some (.slice ay lx cy)) (first | exact ⟨g1, g2⟩ | exact ⟨e1, e2⟩ | exact ⟨cell_later (below_alloc _ _) e1, cell_later (below_alloc _ _) e2⟩ | exact ⟨(set3_fi hbv).trans e1, (set3_fi hbv).trans e2⟩ | (simp [go_sem, *]))
            (first
              | (go_at_call 31; rw [HW1.out]; refine (l1Ints (HG3.out.later HBW1.out) (by rw [HLx.out]; omega)).mono ?_; rintro e w3 ⟨z3, rfl, hb3, ho3⟩; obtain ⟨az, cz, hz3⟩ := ho3.shape; rw [HLx.out] at hz3; subst hz3; have e1 := cell_later (below_on HBW1.out hb3) g1; have e2 := cell_later (below_on HBW1.out hb3) g2; have HB3 := hide (below_on HBW1.out hb3); have HO3 := hide ho3; have hs3 := HB3.out.size; clear hb3 ho3 HZ2)
              | (go_at_call 31; rw [HW2.out]; refine (l1Ints (HG3.out.later HBW2.out) (by rw [HLx.out]; omega)).mono ?_; rintro e w3 ⟨z3, rfl, hb3, ho3⟩; obtain ⟨az, cz, hz3⟩ := ho3.shape; rw [HLx.out] at hz3; subst hz3; have e1 := cell_later (below_on HBW2.out hb3) g1; have e2 := cell_later (below_on HBW2.out hb3) g2; have HB3 := hide (below_on HBW2.out hb3); have HO3 := hide ho3; have hs3 := HB3.out.size; have y0 := cell_later hb3 HZ2.out.1; have y1 := cell_later hb3 HZ2.out.2.1; have y2 := cell_later hb3 HZ2.out.2.2.1; have yf0 := ((bcell hb3).2 _ _ (show w1.heap.size < W2.heap.size by have := HZ2.out.2.2.2.2; omega)).trans (HZ2.out.2.2.2.1 0); have yf1 := ((bcell hb3).2 _ _ (show w1.heap.size < W2.heap.size by have := HZ2.out.2.2.2.2; omega)).trans (HZ2.out.2.2.2.1 1); have yf2 := ((bcell hb3).2 _ _ (show w1.heap.size < W2.heap.size by have := HZ2.out.2.2.2.2; omega)).trans (HZ2.out.2.2.2.1 2); have hW2s := HZ2.out.2.2.2.2; clear hb3 ho3 HZ2))
          · have HLd : Hid (LaidF w1 t s xs w3.heap.size az lx cz (w3.alloc (.cells #[.int .i64 t, .int .i64 s, .slice az lx cz] 33))) := ⟨by simp [go_sem], by simp [go_sem], by simp [go_sem], (HO3.out.rd.narrow (fun _ _ _ => trivial)).later (below_alloc _ _), below_on HB3.out (below_alloc _ _), hs3⟩
            go_wp2_with fail
            go_meet
            case rel => exact ⟨_, cz, az, rfl, HLd.out⟩
          · have hwr : Wr (fun y => y = w1.heap.size) w3 (((w3.setCell ⟨w1.heap.size, 0, none⟩ (.int .i64 t)).setCell ⟨w1.heap.size, 1, none⟩ (.int .i64 s)).setCell ⟨w1.heap.size, 2, none⟩ (.slice az lx cz)) := (((Wr.refl (fun y => y = w1.heap.size) _).setCell (p := ⟨w1.heap.size, 0, none⟩) rfl _).setCell (p := ⟨w1.heap.size, 1, none⟩) rfl _).setCell (p := ⟨w1.heap.size, 2, none⟩) rfl _
            have HLd : Hid (LaidF w1 t s xs w1.heap.size az lx cz (((w3.setCell ⟨w1.heap.size, 0, none⟩ (.int .i64 t)).setCell ⟨w1.heap.size, 1, none⟩ (.int .i64 s)).setCell ⟨w1.heap.size, 2, none⟩ (.slice az lx cz))) := ⟨by simp [go_sem, y0], by simp [go_sem, y1], by simp [go_sem, y2], (HO3.out.wr hwr (fun b h1 _ e => by omega)).rd.narrow (fun _ _ _ => trivial), ((HB3.out.setCell (p := ⟨w1.heap.size, 0, none⟩) (Nat.le_refl _) _).setCell (p := ⟨w1.heap.size, 1, none⟩) (Nat.le_refl _) _).setCell (p := ⟨w1.heap.size, 2, none⟩) (Nat.le_refl _) _, Nat.le_refl _⟩
            clear hwr
            go_wp2_with fail
            go_meet
            case rel => exact ⟨_, cz, az, rfl, HLd.out⟩
        case rest =>
          obtain ⟨hf, cz, az, rfl, HLd⟩ := hcut
          obtain ⟨l0, l1, l2, l3, l4, l5⟩ := HLd.out
          have HRs2 := hide (HRs.out.later l4)
          have HL3 := hide l3
          have hzc := l4.size
          have HSub := hide (filF_sub (notN a) HZ.out)
          have HI := hide (filF_iff.1 HSub.out)
          have HLe2 := hide (lens_of HSub.out)
          have HC5 := hide (l8Without a (HV.out.later (below_on HRs2.out.below (below_drewN wc 1))) HLe.out.1 HLe.out.2)
          obtain ⟨G, hG⟩ : ∃ G, fs.filter (notN a) = G := ⟨_, rfl⟩
          rw [hG] at HC5 HSub HI HLe2 HRr
          have hfn : hf ≠ w.heap.size := by omega
          have r0 := HRs2.out.c0
          have r1 := HRs2.out.c1
          have HFr := hide HRs2.out.fr
          have hG4 := HI.out.len
          clear hG l3 l4 HLd
          go_wp2_with fail
          go_region_held3 (fun w' => w'.cell? ⟨hf, 0, none⟩ = some (.int .i64 t) ∧ w'.cell? ⟨hf, 1, none⟩ = some (.int .i64 s) ∧ w'.cell? ⟨hf, 2, none⟩ = some (.slice az lx cz)) (first | exact ⟨l0, l1, l2⟩ | exact ⟨u0, u1, u2⟩ | exact ⟨e0, e1, e2⟩ | exact ⟨(set2_fi hfn).trans u0, (set2_fi hfn).trans u1, (set2_fi hfn).trans u2⟩)
            (first
              | (go_at_call 22; refine (l8Put (p := (t, s, xs)) HO5.out HI.out.up (by omega) HLe2.out.2 (HL3.out.later HB5.out) (by show xs.length ≤ _; rw [HLx.out]; omega)).mono ?_; rintro e w6 ⟨z6, rfl, hb6, ho6⟩; obtain ⟨a6, c6, hz6⟩ := ho6.shape; subst hz6; have u0 := cell_later hb6 e0; have u1 := cell_later hb6 e1; have u2 := cell_later hb6 e2; have x0 := cell_later hb6 v0; have x1 := cell_later hb6 v1; have xf : ∀ o, w6.frozen? ⟨w.heap.size, o, none⟩ = false := fun o => ((bcell hb6).2 _ _ (by omega)).trans (vf o); have xf0 := xf 0; have xf1 := xf 1; have HB6 := hide (below_on HB5.out hb6); have HO6 := hide (ho6.ow rfl (by have := put_len (t, s, xs) HI.out.up; omega)); have hs6 := hb6.size; clear hb6 ho6)
              | (go_at_call 32; refine HC5.out.mono ?_; rintro e w5 ⟨z5, rfl, hb5, ho5⟩; obtain ⟨a5, c5, hz5⟩ := ho5.shape; subst hz5; have e0 := cell_later hb5 l0; have e1 := cell_later hb5 l1; have e2 := cell_later hb5 l2; have v0 := cell_later hb5 r0; have v1 := cell_later hb5 r1; have vf : ∀ o, w5.frozen? ⟨w.heap.size, o, none⟩ = false := fun o => ((bcell hb5).2 _ _ (show w.heap.size < (wc.drewN 1).heap.size by simp; omega)).trans (HFr.out o); have HB5 := hide (below_on (below_drewN wc 1) hb5); have HO5 := hide (ho5.ow rfl (by omega)).rd; have hs5 : wc.heap.size ≤ w5.heap.size := HB5.out.size; clear hb5 ho5))
          obtain ⟨l, hl⟩ : ∃ l, (putF G (t, s, xs)).length = l := ⟨_, rfl⟩
          have HFn := hide (ret_files (x := .int .i64 0) (r := w.heap.size) (below_on HRs2.out.below HB6.out) (Nat.le_refl _) HO6.out (fun b hb => ⟨by have := hb.1; omega, hb.2⟩))
          rw [hl] at HFn
          (try rw [hl])
          clear hl
          go_wp2
          refine bodyPost_ret (v := .agg #[.int .i64 0, .slice a6 l c6]) (by simp [results, Try.results18, go_sem, x0, x1]) rfl ⟨_, by rw [HRc.out], HFn.out.1, by rw [HRr.out]; exact HFn.out.2⟩
      · have HRc : Hid (rnC fs a t = 3) := by unfold rnC; rw [Hid, if_pos HEc.out, if_neg ht]
        have HRr : Hid (rnR fs a t = []) := by unfold rnR; rw [Hid, HRc.out, if_neg (by decide)]
        have HT := hide (fun W => l1In_no t 1 99 (by omega) W)
        clear ht hat HC2
        go_wp2_with fail
        refine (HT.out _).mono ?_
        rintro e w9 ⟨rfl, hw9⟩
        have hw9 := hw9.symm
        subst hw9
        have c0 := HRs.out.c0
        have c1 := HRs.out.c1
        have F0 := HRs.out.fr 0
        have F1 := HRs.out.fr 1
        go_wp2
        refine bodyPost_ret (v := .agg #[.int .i64 3, .slice none 0 0]) (by simp [results, Try.results18, go_sem, c0, c1]) rfl ⟨_, by rw [HRc.out], HRs.out.shut _ _, by rw [HRr.out]; exact OwJ_nil _ _⟩
    · have HEc := hide (faC_no hno HZ.out)
      have HRc : Hid (rnC fs a t = 4) := by unfold rnC; rw [Hid, HEc.out, if_neg (by decide)]
      have HRr : Hid (rnR fs a t = []) := by unfold rnR; rw [Hid, HRc.out, if_neg (by decide)]
      have c0 := HRs.out.c0
      have c1 := HRs.out.c1
      have F0 := HRs.out.fr 0
      have F1 := HRs.out.fr 1
      clear hno HC2
      go_wp2
      refine bodyPost_ret (v := .agg #[.int .i64 4, .slice none 0 0]) (by simp [results, Try.results18, go_sem, c0, c1]) rfl ⟨_, by rw [HRc.out], HRs.out.shut _ _, by rw [HRr.out]; exact OwJ_nil _ _⟩
  · have h0b : (z == 0) = false := by simpa using h0
    have HEc : Hid (faC fs a = z) := (faC_bad (by rw [HZ.out]; exact h0)).trans HZ.out
    have HRc : Hid (rnC fs a t = z) := by unfold rnC; rw [Hid, HEc.out, if_neg h0]
    have HRr : Hid (rnR fs a t = []) := by unfold rnR; rw [Hid, HRc.out, if_neg h0]
    rw [HRc.out, HRr.out]
    go_enter Try.func18, Try.ntmps18
    go_wp2_with fail
    refine HC.out.mono ?_
    rintro e w1 ⟨rfl, hb⟩
    have HRs := hide ((ResF.start w 30).later hb)
    have c0 := HRs.out.c0
    have c1 := HRs.out.c1
    have F0 := HRs.out.fr 0
    have F1 := HRs.out.fr 1
    clear hb HC
    go_wp2
    refine bodyPost_ret (v := .agg #[.int .i64 z, .slice none 0 0]) (by simp [results, Try.results18, go_sem, c0, c1]) rfl ⟨_, rfl, HRs.out.shut _ _, OwJ_nil _ _⟩
end Go.Proofs.Ytoffjbpnggdgnaa
