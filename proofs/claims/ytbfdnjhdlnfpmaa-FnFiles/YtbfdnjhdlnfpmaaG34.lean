/- Fs4 in one text: what each says stands at its head below. -/
import Derived.Test.YtbfdnjhdlnfpmaaG33
import Derived.Test.YtbfdnjhdlnfpmaaG11
/- Chapter 8: 'PutFile' of both sides, walked. -/
namespace Go.Proofs.Ytbfdnjhdlnfpmaa
open Go.RowKit

def ptC (fs : List Oj) (p : Oj) : Int := if filF fs = 0 then filF (putF fs p) else filF fs
def ptR (fs : List Oj) (p : Oj) : List Oj := if ptC fs p = 0 then putF fs p else []
theorem ptC_fil {fs : List Oj} {p : Oj} (h : ptC fs p = 0) : filF fs = 0 ∧ filF (putF fs p) = 0 := by
  unfold ptC at h
  by_cases h0 : filF fs = 0
  · rw [if_pos h0] at h; exact ⟨h0, h⟩
  · rw [if_neg h0] at h; exact absurd h h0
theorem ptR_tot (fs : List Oj) (p : Oj) : totJ (ptR fs p) (ptR fs p).length ≤ 1048576 := by
  unfold ptR
  by_cases h : ptC fs p = 0
  · rw [if_pos h]
    have h2 := (ptC_fil h).2
    exact tot_sub h2 (fun p hp => hp) (by have := (filF_iff.1 h2).len; omega)
  · rw [if_neg h]; simp [totJ]
theorem IvJ.up {lo hi lo' : Nat} {w : World} {v : Value} {ps : List Oj} (h : IvJ lo hi w v ps) (h1 : lo' ≤ lo) (h2 : hi ≤ w.heap.size) : IvJ lo' w.heap.size w v ps := by
  obtain ⟨S, k0, k1, k2⟩ := h
  exact ⟨S, Nat.le_refl _, fun b hb => ⟨Nat.le_trans h1 (k1 b hb).1, Nat.lt_of_lt_of_le (k1 b hb).2 h2⟩, k2⟩
theorem shut_files {w w3 : World} {r : Nat} (x : Value) (hb : Below w.heap.size w w3) (hr : w.heap.size ≤ r) :
    Below w.heap.size w ((w3.setCell ⟨r, 0, none⟩ x).setCell ⟨r, 1, none⟩ (.slice none 0 0)) ∧ OwJ (fun b => w.heap.size ≤ b ∧ b < ((w3.setCell ⟨r, 0, none⟩ x).setCell ⟨r, 1, none⟩ (.slice none 0 0)).heap.size) ((w3.setCell ⟨r, 0, none⟩ x).setCell ⟨r, 1, none⟩ (.slice none 0 0)) (.slice none 0 0) [] :=
  ret_files (P := fun _ => False) hb hr (OwJ_nil _ _) (fun _ h => h.elim)

set_option maxHeartbeats 2000000 in
set_option maxRecDepth 4000 in
theorem implPutFile {S T : Nat → Prop} {w : World} {v y : Value} {fs : List Oj} {xs : List Int} (a s : Int) (hv : RdJ S w v fs) (hy : RdI T w y xs) (hl : xs.length ≤ 1048576) :
    Calls Try.prog 12 #[v, .agg #[.int .i64 a, .int .i64 s, y]] w (EndsFi (ptC fs (a, s, xs)) (ptR fs (a, s, xs)) w) := by
  obtain ⟨av, cv, rfl, hm⟩ := hv.shape
  obtain ⟨ay, cy, rfl⟩ := hy.shape
  have HV := hide hv
  have HY := hide hy
  obtain ⟨n, hn⟩ : ∃ n, fs.length = n := ⟨_, rfl⟩
  have HN := hide hn
  rw [hn] at HV hm ⊢
  obtain ⟨ly, hly⟩ : ∃ l, xs.length = l := ⟨_, rfl⟩
  have HLy := hide hly
  rw [hly] at HY hl ⊢
  clear hv hy hn hly
  obtain ⟨w0, hw0⟩ : ∃ w0, w.alloc (.cells #[.int .i64 a, .int .i64 s, .slice ay ly cy] 35) = w0 := ⟨_, rfl⟩
  have HB0 : Hid (Below w.heap.size w w0) := by rw [← hw0]; exact below_alloc _ _
  have hs0 : w0.heap.size = w.heap.size + 1 := by rw [← hw0]; simp
  have f0 : w0.cell? ⟨w.heap.size, 0, none⟩ = some (.int .i64 a) := by rw [← hw0]; simp [go_sem]
  have f1 : w0.cell? ⟨w.heap.size, 1, none⟩ = some (.int .i64 s) := by rw [← hw0]; simp [go_sem]
  have f2 : w0.cell? ⟨w.heap.size, 2, none⟩ = some (.slice ay ly cy) := by rw [← hw0]; simp [go_sem]
  have HFp : Hid (RdFp T w0 w.heap.size 0 (a, s, xs)) := ⟨_, f0, f1, f2, HY.out.later HB0.out⟩
  have HC := hide (implFilesFault (HV.out.later (below_on HB0.out (below_alloc w0 (.cells #[.int .i64 0, .slice none 0 0] 28)))))
  have HSt := hide (ResF.start w0 28)
  obtain ⟨z, hz⟩ : ∃ z, filF fs = z := ⟨_, rfl⟩
  have HZ := hide hz
  rw [hz] at HC
  clear hz f0 f1 f2
  by_cases h0 : z = 0
  · subst h0
    have HCe : Hid (ptC fs (a, s, xs) = filF (putF fs (a, s, xs))) := by unfold ptC; rw [Hid, if_pos HZ.out]
    have HLe := hide (lens_of HZ.out)
    have h4 := (filF_iff.1 HZ.out).len
    have HUp := hide (filF_iff.1 HZ.out).up
    have hpl : (putF fs (a, s, xs)).length ≤ 1000 := by have := put_len (a, s, xs) HUp.out; omega
    have HRe : Hid (∀ x, filF (putF fs (a, s, xs)) = x → ptR fs (a, s, xs) = if x = 0 then putF fs (a, s, xs) else []) := fun x hx => by unfold ptR; rw [HCe.out, hx]
    obtain ⟨R, hR⟩ : ∃ R, putF fs (a, s, xs) = R := ⟨_, rfl⟩
    have HRR := hide hR
    rw [hR] at HCe HRe hpl
    clear hR
    go_enter Try.func12, Try.ntmps12
    go_wp2_with fail
    refine HC.out.mono ?_
    rintro e w1 ⟨rfl, hb⟩
    have HRs := hide (HSt.out.later hb)
    have hw1 := HRs.out.lt
    have HBw1 := hide (below_on HB0.out HRs.out.below)
    have HC2 := hide (withFile (HV.out.later HBw1.out) HN.out HZ.out (HFp.out.later HRs.out.below) (by show xs.length ≤ _; rw [HLy.out]; exact hl))
    rw [HRR.out] at HC2
    clear hb HC
    go_wp2_with fail
    refine HC2.out.mono ?_
    rintro e w2 ⟨z2, rfl, hb2, ho2⟩
    have HO := hide ho2
    obtain ⟨a2, c2, hz2⟩ := ho2.shape
    subst hz2
    clear HC2
    have HRs2 := hide (HRs.out.later hb2)
    have HBw2 := hide (below_on HBw1.out hb2)
    have hs12 := hb2.size
    have HC3 := hide (implFilesFault HO.out.rd)
    obtain ⟨x, hx⟩ : ∃ x, filF R = x := ⟨_, rfl⟩
    have HX := hide hx
    rw [hx] at HC3
    clear hb2 ho2 hx
    obtain ⟨l, hll⟩ : ∃ l, R.length = l := ⟨_, rfl⟩
    rw [hll] at HO HC3
    (try rw [hll])
    clear hll
    have HRx := hide (HRe.out x HX.out)
    by_cases hx0 : x = 0
    · subst hx0
      rw [if_pos rfl] at HRx
      go_wp2_with fail
      refine HC3.out.mono ?_
      rintro e w3 ⟨rfl, hb3⟩
      have HRs3 := hide (HRs2.out.later hb3)
      have HO3 := hide (HO.out.wr (Wr.of_below hb3 fun _ => False) fun _ _ => id)
      have hs23 := hb3.size
      have HFn := hide (ret_files (x := .int .i64 0) (r := w.heap.size + 1) (below_on HBw2.out hb3) (by omega) HO3.out (fun b hb => ⟨by have := hb.1; omega, by have := hb.2; omega⟩))
      have c0 := HRs3.out.c0
      have c1 := HRs3.out.c1
      have F0 := HRs3.out.fr 0
      have F1 := HRs3.out.fr 1
      rw [hs0] at c0 c1 F0 F1
      clear hb3 HC3
      go_wp2
      refine bodyPost_ret (v := .agg #[.int .i64 0, .slice a2 l c2]) (by simp [results, Try.results12, go_sem, c0, c1]) rfl ⟨_, by rw [HCe.out, HX.out], HFn.out.1, by rw [HRx.out]; exact HFn.out.2⟩
    · have hxb : (x == 0) = false := by simpa using hx0
      rw [if_neg hx0] at HRx
      go_wp2_with fail
      refine HC3.out.mono ?_
      rintro e w3 ⟨rfl, hb3⟩
      have HRs3 := hide (HRs2.out.later hb3)
      have HFn := hide (shut_files (r := w.heap.size + 1) (.int .i64 x) (below_on HBw2.out hb3) (by omega))
      have c0 := HRs3.out.c0
      have c1 := HRs3.out.c1
      have F0 := HRs3.out.fr 0
      have F1 := HRs3.out.fr 1
      rw [hs0] at c0 c1 F0 F1
      clear hb3 HC3
      go_wp2
      refine bodyPost_ret (v := .agg #[.int .i64 x, .slice none 0 0]) (by simp [results, Try.results12, go_sem, c0, c1]) rfl ⟨_, by rw [HCe.out, HX.out], HFn.out.1, by rw [HRx.out]; exact HFn.out.2⟩
  · have h0b : (z == 0) = false := by simpa using h0
    have HCe : Hid (ptC fs (a, s, xs) = z) := by unfold ptC; rw [Hid, if_neg (by rw [HZ.out]; exact h0)]; exact HZ.out
    have HRe : Hid (ptR fs (a, s, xs) = []) := by unfold ptR; rw [Hid, HCe.out, if_neg h0]
    rw [HCe.out, HRe.out]
    go_enter Try.func12, Try.ntmps12
    go_wp2_with fail
    refine HC.out.mono ?_
    rintro e w1 ⟨rfl, hb⟩
    have HRs := hide (HSt.out.later hb)
    have HFn := hide (shut_files (r := w.heap.size + 1) (.int .i64 z) (below_on HB0.out HRs.out.below) (by omega))
    have c0 := HRs.out.c0
    have c1 := HRs.out.c1
    have F0 := HRs.out.fr 0
    have F1 := HRs.out.fr 1
    rw [hs0] at c0 c1 F0 F1
    clear hb HC
    go_wp2
    refine bodyPost_ret (v := .agg #[.int .i64 z, .slice none 0 0]) (by simp [results, Try.results12, go_sem, c0, c1]) rfl ⟨_, rfl, HFn.out.1, HFn.out.2⟩

set_option maxHeartbeats 2000000 in
set_option maxRecDepth 4000 in
theorem specPutFile {S T : Nat → Prop} {w : World} {v y : Value} {fs : List Oj} {xs : List Int} (a s : Int) (hv : RdJ S w v fs) (hy : RdI T w y xs) (hl : xs.length ≤ 1048576) :
    Calls Try.prog 13 #[v, .agg #[.int .i64 a, .int .i64 s, y]] w (EndsFi (ptC fs (a, s, xs)) (ptR fs (a, s, xs)) w) := by
  obtain ⟨av, cv, rfl, hm⟩ := hv.shape
  obtain ⟨ay, cy, rfl⟩ := hy.shape
  have HV := hide hv
  have HY := hide hy
  obtain ⟨n, hn⟩ : ∃ n, fs.length = n := ⟨_, rfl⟩
  have HN := hide hn
  rw [hn] at HV hm ⊢
  obtain ⟨ly, hly⟩ : ∃ l, xs.length = l := ⟨_, rfl⟩
  have HLy := hide hly
  rw [hly] at HY hl ⊢
  clear hv hy hn hly
  obtain ⟨w0, hw0⟩ : ∃ w0, w.alloc (.cells #[.int .i64 a, .int .i64 s, .slice ay ly cy] 35) = w0 := ⟨_, rfl⟩
  have HB0 : Hid (Below w.heap.size w w0) := by rw [← hw0]; exact below_alloc _ _
  have hs0 : w0.heap.size = w.heap.size + 1 := by rw [← hw0]; simp
  have f0 : w0.cell? ⟨w.heap.size, 0, none⟩ = some (.int .i64 a) := by rw [← hw0]; simp [go_sem]
  have f1 : w0.cell? ⟨w.heap.size, 1, none⟩ = some (.int .i64 s) := by rw [← hw0]; simp [go_sem]
  have f2 : w0.cell? ⟨w.heap.size, 2, none⟩ = some (.slice ay ly cy) := by rw [← hw0]; simp [go_sem]
  have HFp : Hid (RdFp T w0 w.heap.size 0 (a, s, xs)) := ⟨_, f0, f1, f2, HY.out.later HB0.out⟩
  have HC := hide (specL8Fault (HV.out.later (below_on HB0.out (below_alloc w0 (.cells #[.int .i64 0, .slice none 0 0] 28)))))
  have HSt := hide (ResF.start w0 28)
  obtain ⟨z, hz⟩ : ∃ z, filF fs = z := ⟨_, rfl⟩
  have HZ := hide hz
  rw [hz] at HC
  clear hz f0 f1 f2
  by_cases h0 : z = 0
  · subst h0
    have HCe : Hid (ptC fs (a, s, xs) = filF (putF fs (a, s, xs))) := by unfold ptC; rw [Hid, if_pos HZ.out]
    have HLe := hide (lens_of HZ.out)
    have h4 := (filF_iff.1 HZ.out).len
    have HUp := hide (filF_iff.1 HZ.out).up
    have hpl : (putF fs (a, s, xs)).length ≤ 1000 := by have := put_len (a, s, xs) HUp.out; omega
    have HRe : Hid (∀ x, filF (putF fs (a, s, xs)) = x → ptR fs (a, s, xs) = if x = 0 then putF fs (a, s, xs) else []) := fun x hx => by unfold ptR; rw [HCe.out, hx]
    obtain ⟨R, hR⟩ : ∃ R, putF fs (a, s, xs) = R := ⟨_, rfl⟩
    have HRR := hide hR
    rw [hR] at HCe HRe hpl
    clear hR
    go_enter Try.func13, Try.ntmps13
    go_wp2_with fail
    refine HC.out.mono ?_
    rintro e w1 ⟨rfl, hb⟩
    have HRs := hide (HSt.out.later hb)
    have hw1 := HRs.out.lt
    have HBw1 := hide (below_on HB0.out HRs.out.below)
    have HC2 := hide (l8Put (p := (a, s, xs)) (HV.out.later HBw1.out) HUp.out (by omega) HLe.out.2 (HY.out.later HBw1.out) (by show xs.length ≤ _; rw [HLy.out]; exact hl))
    rw [HRR.out] at HC2
    have k0 := cell_later HRs.out.below (by obtain ⟨_, h, _⟩ := HFp.out; exact h)
    have k1 := cell_later HRs.out.below (by obtain ⟨_, _, h, _⟩ := HFp.out; exact h)
    have k2 : w1.cell? ⟨w.heap.size, 2, none⟩ = some (.slice ay ly cy) := cell_later HRs.out.below (by rw [← hw0]; simp [go_sem])
    clear hb HC
    go_wp2_with fail
    refine HC2.out.mono ?_
    rintro e w2 ⟨z2, rfl, hb2, ho2⟩
    have HO := hide (ho2.ow rfl (by omega))
    obtain ⟨a2, c2, hz2⟩ := ho2.shape
    subst hz2
    clear HC2 k0 k1 k2
    have HRs2 := hide (HRs.out.later hb2)
    have HBw2 := hide (below_on HBw1.out hb2)
    have hs12 := hb2.size
    have HC3 := hide (specL8Fault HO.out.rd)
    obtain ⟨x, hx⟩ : ∃ x, filF R = x := ⟨_, rfl⟩
    have HX := hide hx
    rw [hx] at HC3
    clear hb2 ho2 hx
    obtain ⟨l, hll⟩ : ∃ l, R.length = l := ⟨_, rfl⟩
    rw [hll] at HO HC3
    (try rw [hll])
    clear hll
    have HRx := hide (HRe.out x HX.out)
    by_cases hx0 : x = 0
    · subst hx0
      rw [if_pos rfl] at HRx
      go_wp2_with fail
      refine HC3.out.mono ?_
      rintro e w3 ⟨rfl, hb3⟩
      have HRs3 := hide (HRs2.out.later hb3)
      have HO3 := hide (HO.out.wr (Wr.of_below hb3 fun _ => False) fun _ _ => id)
      have hs23 := hb3.size
      have HFn := hide (ret_files (x := .int .i64 0) (r := w.heap.size + 1) (below_on HBw2.out hb3) (by omega) HO3.out (fun b hb => ⟨by have := hb.1; omega, by have := hb.2; omega⟩))
      have c0 := HRs3.out.c0
      have c1 := HRs3.out.c1
      have F0 := HRs3.out.fr 0
      have F1 := HRs3.out.fr 1
      rw [hs0] at c0 c1 F0 F1
      clear hb3 HC3
      go_wp2
      refine bodyPost_ret (v := .agg #[.int .i64 0, .slice a2 l c2]) (by simp [results, Try.results13, go_sem, c0, c1]) rfl ⟨_, by rw [HCe.out, HX.out], HFn.out.1, by rw [HRx.out]; exact HFn.out.2⟩
    · have hxb : (x == 0) = false := by simpa using hx0
      rw [if_neg hx0] at HRx
      go_wp2_with fail
      refine HC3.out.mono ?_
      rintro e w3 ⟨rfl, hb3⟩
      have HRs3 := hide (HRs2.out.later hb3)
      have HFn := hide (shut_files (r := w.heap.size + 1) (.int .i64 x) (below_on HBw2.out hb3) (by omega))
      have c0 := HRs3.out.c0
      have c1 := HRs3.out.c1
      have F0 := HRs3.out.fr 0
      have F1 := HRs3.out.fr 1
      rw [hs0] at c0 c1 F0 F1
      clear hb3 HC3
      go_wp2
      refine bodyPost_ret (v := .agg #[.int .i64 x, .slice none 0 0]) (by simp [results, Try.results13, go_sem, c0, c1]) rfl ⟨_, by rw [HCe.out, HX.out], HFn.out.1, by rw [HRx.out]; exact HFn.out.2⟩
  · have h0b : (z == 0) = false := by simpa using h0
    have HCe : Hid (ptC fs (a, s, xs) = z) := by unfold ptC; rw [Hid, if_neg (by rw [HZ.out]; exact h0)]; exact HZ.out
    have HRe : Hid (ptR fs (a, s, xs) = []) := by unfold ptR; rw [Hid, HCe.out, if_neg h0]
    rw [HCe.out, HRe.out]
    go_enter Try.func13, Try.ntmps13
    go_wp2_with fail
    refine HC.out.mono ?_
    rintro e w1 ⟨rfl, hb⟩
    have HRs := hide (HSt.out.later hb)
    have HFn := hide (shut_files (r := w.heap.size + 1) (.int .i64 z) (below_on HB0.out HRs.out.below) (by omega))
    have c0 := HRs.out.c0
    have c1 := HRs.out.c1
    have F0 := HRs.out.fr 0
    have F1 := HRs.out.fr 1
    rw [hs0] at c0 c1 F0 F1
    clear hb HC
    go_wp2
    refine bodyPost_ret (v := .agg #[.int .i64 z, .slice none 0 0]) (by simp [results, Try.results13, go_sem, c0, c1]) rfl ⟨_, rfl, HFn.out.1, HFn.out.2⟩
end Go.Proofs.Ytbfdnjhdlnfpmaa
