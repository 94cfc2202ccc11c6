/- Fr1 in one text: what each says stands at its head below. -/
import Derived.Test.YtbfdnjhdlnfpmaaG34
/- Chapter 8: 'RenameFile' of the program, walked. -/
namespace Go.Proofs.Ytbfdnjhdlnfpmaa
open Go.RowKit

theorem blksF_sub (q : Oj → Bool) : ∀ (fs : List Oj), (blksF (fs.filter q)).Sublist (blksF fs)
  | [] => List.Sublist.refl _
  | p :: r => by
    have ih := blksF_sub q r
    by_cases h : q p = true
    · rw [List.filter_cons_of_pos h]
      exact List.Sublist.append (List.Sublist.refl _) ih
    · rw [List.filter_cons_of_neg h]
      exact ih.trans (List.sublist_append_right _ _)
theorem filF_sub {fs : List Oj} (q : Oj → Bool) (h : filF fs = 0) : filF (fs.filter q) = 0 := by
  have hi := filF_iff.1 h
  refine filF_iff.2 ⟨Nat.le_trans (List.length_filter_le _ _) hi.len, fun p hp => hi.one p (List.mem_filter.1 hp).1, hi.up.filter _, (blksF_sub q fs).nodup hi.nd⟩
/-- The file of a name. -/
def flF (fs : List Oj) (a : Int) : Oj := (fs.filter (fun p => p.1 == a)).getD 0 oj0
theorem flF_at {fs : List Oj} {a : Int} {k : Nat} (h0 : filF fs = 0) (h : AtF fs a k) : flF fs a = fs.getD k oj0 := by unfold flF; rw [filter_at (filF_iff.1 h0).up h]; rfl
def rnC (fs : List Oj) (a t : Int) : Int := if faC fs a = 0 then (if 1 ≤ t ∧ t ≤ 99 then 0 else 3) else faC fs a
def rnR (fs : List Oj) (a t : Int) : List Oj := if rnC fs a t = 0 then putF (fs.filter (notN a)) (t, (flF fs a).2.1, (flF fs a).2.2) else []
theorem rnC_fa {fs : List Oj} {a t : Int} (h : rnC fs a t = 0) : faC fs a = 0 := by
  unfold rnC at h
  by_cases h0 : faC fs a = 0
  · exact h0
  · rw [if_neg h0] at h; exact h
theorem rnR_tot (fs : List Oj) (a t : Int) : totJ (rnR fs a t) (rnR fs a t).length ≤ 1048576 := by
  unfold rnR
  by_cases h : rnC fs a t = 0
  · rw [if_pos h]
    have h1 := rnC_fa h
    have h0 := faC_fil h1
    obtain ⟨k, hk⟩ := faC_has h1
    have hf := flF_at h0 hk
    have hl := one_len h0 hk.1
    have hs := filF_sub (notN a) h0
    have hpl := put_len (t, (flF fs a).2.1, (flF fs a).2.2) (filF_iff.1 hs).up
    have h4 := (filF_iff.1 hs).len
    have := tot_small (gs := putF (fs.filter (notN a)) (t, (flF fs a).2.1, (flF fs a).2.2)) (fun p hp => by
      unfold putF at hp
      rcases List.mem_append.1 hp with hq | hq
      · exact oneF_len ((filF_iff.1 hs).one p (List.mem_filter.1 hq).1)
      · rcases List.mem_cons.1 hq with rfl | hq
        · show (flF fs a).2.2.length ≤ 5; rw [hf]; exact hl
        · exact oneF_len ((filF_iff.1 hs).one p (List.mem_filter.1 hq).1))
    omega
  · rw [if_neg h]; simp [totJ]

set_option maxHeartbeats 2000000 in
set_option maxRecDepth 4000 in
theorem implRenameFile {S : Nat → Prop} {w : World} {v : Value} {fs : List Oj} (a t : Int) (hv : RdJ S w v fs) :
    Calls Try.prog 19 #[v, .int .i64 a, .int .i64 t] w (EndsFi (rnC fs a t) (rnR fs a t) w) := by
  obtain ⟨av, cv, rfl, hm⟩ := hv.shape
  have HV := hide hv
  obtain ⟨n, hn⟩ : ∃ n, fs.length = n := ⟨_, rfl⟩
  have HN := hide hn
  rw [hn] at HV hm ⊢
  clear hv hn
  have HC := hide (pointAt a (HV.out.later (below_alloc w (.cells #[.int .i64 0, .slice none 0 0] 28))) HN.out)
  unfold rnR
  obtain ⟨z, hz⟩ : ∃ z, faC fs a = z := ⟨_, rfl⟩
  have HZ := hide hz
  rw [hz] at HC
  clear hz
  by_cases h0 : z = 0
  · subst h0
    have HF0 := hide (faC_fil HZ.out)
    have HLe := hide (lens_of HF0.out)
    by_cases ht : 1 ≤ t ∧ t ≤ 99
    · have HRc : Hid (rnC fs a t = 0) := by unfold rnC; rw [Hid, if_pos HZ.out, if_pos ht]
      rw [HRc.out, if_pos rfl]
      have HT := hide (fun W => isName_yes t ht.1 ht.2 W)
      clear ht
      go_enter Try.func19, Try.ntmps19
      go_wp2_with fail
      refine HC.out.mono ?_
      rintro e w1 ⟨pt, rfl, hb, hp⟩
      have HRs := hide ((ResF.start w 28).later hb)
      have hw1 := HRs.out.lt
      rcases hp HF0.out with ⟨k, b, off, hat, rfl, rfl⟩ | hno
      · obtain ⟨b', off', e', hfp⟩ := HV.out.file hat.1
        injection e' with e'
        injection e' with e1 e2
        subst e1 e2
        have HFl := hide (flF_at HF0.out hat)
        have hlk := one_len HF0.out hat.1
        have HEq := hide (notL_notN HF0.out hat)
        have hfp1 := hfp.later HRs.out.below
        obtain ⟨y, g0, g1, g2, g3⟩ := id hfp1
        obtain ⟨ay, cy, hy⟩ := g3.shape
        subst hy
        have HLab : Hid (∀ w9, Below w1.heap.size w1 w9 → Calls Try.prog 62 #[.pointer (some ⟨b, off + k * 3, none⟩)] w9 fun e w' => e = .returned (.agg #[.int .i64 a, .int .i64 (fs.getD k oj0).2.1]) ∧ Below w9.heap.size w9 w') := fun w9 hb9 => by
          have h := labelOf (hfp1.later hb9)
          rw [hat.2.1] at h
          exact h
        obtain ⟨q, hq⟩ : ∃ q, fs.getD k oj0 = q := ⟨_, rfl⟩
        rw [hq] at g0 g1 g2 g3 HFl hlk HEq HLab
        obtain ⟨x, s, xs⟩ := q
        dsimp only at g0 g1 g2 g3 hlk HEq HLab
        have HG3 := hide g3
        clear hb hp HC hfp hfp1 hat hq g3
        obtain ⟨lx, hlx⟩ : ∃ lx, xs.length = lx := ⟨_, rfl⟩
        have HLx := hide hlx
        rw [hlx] at g2 HG3
        obtain ⟨w2, hw2⟩ : ∃ w2, w1.alloc (.cells #[.int .i64 t, .int .i64 s, .slice ay lx cy] 35) = w2 := ⟨_, rfl⟩
        have HB2 : Hid (Below w1.heap.size w1 w2) := by rw [← hw2]; exact below_alloc _ _
        have hs2 : w2.heap.size = w1.heap.size + 1 := by rw [← hw2]; simp
        have HFp2 : Hid (RdFp S w2 w1.heap.size 0 (t, s, xs)) := by
          refine ⟨.slice ay lx cy, ?_, ?_, ?_, ?_⟩
          · rw [← hw2]; simp [go_sem]
          · rw [← hw2]; simp [go_sem]
          · rw [← hw2]; simp [go_sem]
          · exact HG3.out.later HB2.out
        have HC2 := hide (withoutFile (pt := some ⟨b, off + k * 3, none⟩) (a := a) (s := s) (HV.out.later (below_on HRs.out.below HB2.out)) HLe.out.1 HLe.out.2 (fun w9 hb9 => HLab.out w9 (below_on HB2.out hb9)))
        rw [HEq.out] at HC2
        have HSub := hide (filF_sub (notN a) HF0.out)
        obtain ⟨G, hG⟩ : ∃ G, fs.filter (notN a) = G := ⟨_, rfl⟩
        rw [hG] at HC2 HSub
        have HGG := hide hG
        have HRs2 := hide (HRs.out.later HB2.out)
        have hset : (w1.alloc (.cells #[.int .i64 x, .int .i64 s, .slice ay lx cy] 35)).setCell ⟨w1.heap.size, 0, none⟩ (.int .i64 t) = w2 := by
          rw [← hw2]; simp [go_sem]
        clear hlx hG
        go_wp2_with fail
        refine (HT.out _).mono ?_
        rintro e w9 ⟨rfl, hw9⟩
        have hw9 := hw9.symm
        subst hw9
        go_wp2_with fail
        refine HC2.out.mono ?_
        rintro e w3 ⟨z3, rfl, hb3, ho3⟩
        have HO3 := hide (ho3.ow rfl (by have := (filF_iff.1 HSub.out).len; omega))
        obtain ⟨a3, c3, hz3⟩ := ho3.shape
        subst hz3
        have HRs3 := hide (HRs2.out.later hb3)
        have HC3 := hide (withFile HO3.out.rd rfl HSub.out (HFp2.out.later hb3) (by show xs.length ≤ _; omega))
        have hs3 := hb3.size
        clear hb3 ho3 HC2
        obtain ⟨lg, hlg⟩ : ∃ lg, G.length = lg := ⟨_, rfl⟩
        rw [hlg] at HC3
        (try rw [hlg])
        clear hlg
        go_wp2_with fail
        refine HC3.out.mono ?_
        rintro e w4 ⟨z4, rfl, hb4, ho4⟩
        obtain ⟨a4, c4, hz4⟩ := ho4.shape
        subst hz4
        have HRs4 := hide (HRs3.out.later hb4)
        have HFn := hide (ret_files (x := .int .i64 0) HRs4.out.below (Nat.le_refl _) ho4 (fun b hb => ⟨by have := hb.1; omega, hb.2⟩))
        obtain ⟨l, hl⟩ : ∃ l, (putF G (t, s, xs)).length = l := ⟨_, rfl⟩
        rw [hl] at HFn
        (try rw [hl])
        have c0 := HRs4.out.c0
        have c1 := HRs4.out.c1
        have F0 := HRs4.out.fr 0
        have F1 := HRs4.out.fr 1
        clear hb4 ho4 HC3 hl
        go_wp2
        refine bodyPost_ret (v := .agg #[.int .i64 0, .slice a4 l c4]) (by simp [results, Try.results19, go_sem, c0, c1]) rfl ⟨_, rfl, HFn.out.1, by rw [HGG.out, HFl.out]; exact HFn.out.2⟩
      · exact absurd HZ.out (by rw [faC_no hno HF0.out]; decide)
    · have HRc : Hid (rnC fs a t = 3) := by unfold rnC; rw [Hid, if_pos HZ.out, if_neg ht]
      rw [HRc.out, if_neg (by decide)]
      have HT := hide (fun W => isName_no t ht W)
      clear ht
      go_enter Try.func19, Try.ntmps19
      go_wp2_with fail
      refine HC.out.mono ?_
      rintro e w1 ⟨pt, rfl, hb, hp⟩
      have HRs := hide ((ResF.start w 28).later hb)
      clear hb hp HC
      go_wp2_with fail
      refine (HT.out _).mono ?_
      rintro e w9 ⟨rfl, hw9⟩
      have hw9 := hw9.symm
      subst hw9
      have c0 := HRs.out.c0
      have c1 := HRs.out.c1
      have F0 := HRs.out.fr 0
      have F1 := HRs.out.fr 1
      go_wp2
      refine bodyPost_ret (v := .agg #[.int .i64 3, .slice none 0 0]) (by simp [results, Try.results19, go_sem, c0, c1]) rfl ⟨_, rfl, HRs.out.shut _ _, OwJ_nil _ _⟩
  · have h0b : (z == 0) = false := by simpa using h0
    have HRc : Hid (rnC fs a t = z) := by unfold rnC; rw [Hid, if_neg (by rw [HZ.out]; exact h0)]; exact HZ.out
    rw [HRc.out, if_neg h0]
    go_enter Try.func19, Try.ntmps19
    go_wp2_with fail
    refine HC.out.mono ?_
    rintro e w1 ⟨pt, rfl, hb, hp⟩
    have HRs := hide ((ResF.start w 28).later hb)
    have c0 := HRs.out.c0
    have c1 := HRs.out.c1
    have F0 := HRs.out.fr 0
    have F1 := HRs.out.fr 1
    clear hb hp HC
    go_wp2
    refine bodyPost_ret (v := .agg #[.int .i64 z, .slice none 0 0]) (by simp [results, Try.results19, go_sem, c0, c1]) rfl ⟨_, rfl, HRs.out.shut _ _, OwJ_nil _ _⟩
end Go.Proofs.Ytbfdnjhdlnfpmaa
