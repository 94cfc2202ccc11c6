/- Fu2b in one text: what each says stands at its head below. -/
import Derived.Test.YtbfdnjhdlnfpmaaG27
import Derived.Test.YtbfdnjhdlnfpmaaG21
/- Chapter 8: 'UnpackDir' of the program, walked. -/
namespace Go.Proofs.Ytbfdnjhdlnfpmaa
open Go.RowKit

theorem wordsF_in {xs : List Int} (h : wordsF xs = 0) : xs.length ≤ 64 ∧ ∀ x, x ∈ xs → 0 ≤ x ∧ x ≤ 65535 := by
  obtain ⟨h1, h2⟩ := wordsF_zero h
  refine ⟨h1, fun x hx => ?_⟩
  obtain ⟨i, hi, rfl⟩ := List.mem_iff_getElem.1 hx
  have := h2 i hi
  simpa [List.getD, hi] using this
theorem udC_bad {ws : List Int} (h : wordsF ws ≠ 0) : udC ws = wordsF ws ∧ udR ws = [] := by unfold udC udR; rw [if_neg h, if_neg h]; exact ⟨rfl, rfl⟩
theorem udC_nil : udC [] = 0 ∧ udR [] = [] := by
  unfold udC udR
  by_cases h : wordsF [] = 0
  · rw [if_pos h, if_pos h, if_pos rfl, if_pos rfl]; exact ⟨rfl, rfl⟩
  · exact absurd (by unfold wordsF wF; simp) h
theorem udC_yes {ws : List Int} (h : wordsF ws = 0) (hne : ws ≠ []) (hd : dirB ws = true) : udC ws = 0 ∧ udR ws = prI ws.tail := by unfold udC udR; rw [if_pos h, if_pos h, if_neg hne, if_neg hne, if_pos hd, if_pos hd]; exact ⟨rfl, rfl⟩
theorem udC_no {ws : List Int} (h : wordsF ws = 0) (hne : ws ≠ []) (hd : dirB ws = false) : udC ws = 5 ∧ udR ws = [] := by unfold udC udR; rw [if_pos h, if_pos h, if_neg hne, if_neg hne, if_neg (by rw [hd]; decide), if_neg (by rw [hd]; decide)]; exact ⟨rfl, rfl⟩

theorem Try.fldL (x : Int) (a : Option Addr) (n c : Nat) (w : World) : (Instr.field 32 (.agg #[.int .i64 x, .slice a n c]) 1).run Try.prog w = .ok (.slice a n c) w := by kernel_rfl
set_option maxHeartbeats 1000000 in
set_option maxRecDepth 4000 in
theorem implUnpackDir {S : Nat → Prop} {w : World} {v : Value} {ws : List Int} (hv : RdI S w v ws) :
    Calls Try.prog 7 #[v] w (EndsFi (udC ws) (udR ws) w) := by
  obtain ⟨ao, c, rfl⟩ := hv.shape
  have hml := hv.max
  have HV := hide hv
  clear hv
  obtain ⟨z, hz⟩ : ∃ z, wordsF ws = z := ⟨_, rfl⟩
  have HZ := hide hz
  clear hz
  have HC := hide (wordsFault (HV.out.later (below_alloc w (.cells #[.int .i64 0, .slice none 0 0] 28))))
  rw [HZ.out] at HC
  by_cases h0 : z = 0
  · subst h0
    obtain ⟨n, hn⟩ : ∃ n, ws.length = n := ⟨_, rfl⟩
    have HN := hide hn
    rw [hn] at HV HC hml ⊢
    clear hn
    have HIn := hide (wordsF_in HZ.out)
    by_cases hn0 : n = 0
    · have hnil : ws = [] := List.eq_nil_of_length_eq_zero (by rw [HN.out]; exact hn0)
      subst hn0 hnil
      rw [udC_nil.1, udC_nil.2]
      go_enter Try.func7, Try.ntmps7
      go_wp2_with fail
      refine HC.out.mono ?_
      rintro e w1 ⟨rfl, q, hq⟩
      have HRs : Hid (ResF w w1) := hq ▸ (ResF.start w 28).later (below_drewN _ q)
      have c0 := HRs.out.c0
      have c1 := HRs.out.c1
      have F0 := HRs.out.fr 0
      have F1 := HRs.out.fr 1
      clear hq
      go_wp2
      refine bodyPost_ret (v := .agg #[.int .i64 0, .slice none 0 0]) (by simp [results, Try.results7, go_sem, c0, c1]) rfl ⟨_, rfl, HRs.out.shut _ _, OwJ_nil _ _⟩
    · have hne : ws ≠ [] := by rintro rfl; exact hn0 HN.out.symm
      have hcap : n ≤ c := by obtain ⟨_, c', e, _⟩ := HV.out; injection e with _ e2 e3; omega
      obtain ⟨b, off, rfl, _⟩ := HV.out.at (k := 0) (by rw [HN.out]; omega)
      have HT := hide (HV.out.from 1 (by omega))
      have htl : ws.drop 1 = ws.tail := List.drop_one
      rw [htl] at HT
      obtain ⟨A, hA⟩ : ∃ A : Option Addr, (if c = 1 then some (⟨b, off, none⟩ : Addr) else some ⟨b, off + 1, none⟩) = A := ⟨_, rfl⟩
      have eA : slA (some ⟨b, off, none⟩) c 1 = A := by rw [← hA]; unfold slA; simp [Addr.add_lit]
      rw [eA] at HT
      have HPd := hide (dirB_pd hne)
      have HY := hide (fun h => udC_yes HZ.out hne h)
      have HNo := hide (fun h => udC_no HZ.out hne h)
      have HTm : Hid (ws.tail.length ≤ 64 ∧ ∀ x, x ∈ ws.tail → 0 ≤ x ∧ x ≤ 65535) := ⟨by have := HIn.out.1; simp; omega, fun x hx => HIn.out.2 x (List.mem_of_mem_tail hx)⟩
      have hn0b : ((n : Int) == 0) = false := by simp; omega
      have hnp : (1 : Int) ≤ (n : Int) := by omega
      have HPl := hide (Nat.le_trans (prs_len gI ws.tail.length ws.tail) HTm.out.1)
      clear htl eA
      go_enter Try.func7, Try.ntmps7
      go_wp2_with fail
      refine HC.out.mono ?_
      rintro e w1 ⟨rfl, q, hq⟩
      have HRs : Hid (ResF w w1) := hq ▸ (ResF.start w 28).later (below_drewN _ q)
      have hw1 := HRs.out.lt
      have HC2 := hide (filesIn (HT.out.later HRs.out.below) HTm.out.1 HTm.out.2)
      clear hq HC
      go_wp2_with fail
      refine HC2.out.mono ?_
      rintro e w2 ⟨z2, rfl, hb, ho⟩
      have HRs2 := hide (HRs.out.later hb)
      have HO := hide (ho.ow rfl (by have : (prI ws.tail).length ≤ 64 := HPl.out; omega))
      have HC3 := hide (implPackDir HO.out.rd)
      obtain ⟨a2, c2, hz2⟩ := ho.shape
      obtain ⟨l, hl⟩ : ∃ l, (prI ws.tail).length = l := ⟨_, rfl⟩
      rw [hl] at hz2
      subst hz2
      have hz2' := hb.size
      clear hb ho HC2 hl
      go_wp2_with fail
      refine HC3.out.mono ?_
      rintro e w3 ⟨z3, rfl, hb, ho⟩
      have HRs3 := hide (HRs2.out.later hb)
      have HO3 := hide (HO.out.wr (Wr.of_below hb fun _ => False) fun _ _ => id)
      have HC4 := hide (slicesEqualR ho.rd (HV.out.later HRs3.out.below))
      rw [HPd.out] at HC4
      obtain ⟨a3, c3, hz3⟩ := ho.rd.shape
      have hz3' := hb.size
      subst hz3
      have hfl := Try.fldL (pdC (prI ws.tail)) a3 (pdR (prI ws.tail)).length c3 w3
      clear hb ho HC3
      by_cases hd : dirB ws = true
      · rw [hd] at HC4
        have HY2 := hide (HY.out hd)
        go_wp2_with fail
        refine HC4.out.mono ?_
        rintro e w4 ⟨rfl, q, hq⟩
        have HRs4 : Hid (ResF w w4) := hq ▸ HRs3.out.later (below_drewN _ q)
        have HO4 : Hid (OwJ _ w4 (.slice a2 l c2) (prI ws.tail)) := hq ▸ HO3.out.wr (Wr.of_below (below_drewN _ q) fun _ => False) fun _ _ => id
        have hs4 : w4.heap.size = w3.heap.size := by rw [hq]; simp
        have HFn := hide (ret_files (x := .int .i64 0) HRs4.out.below (Nat.le_refl _) HO4.out (fun b hb => ⟨by have := hb.1; omega, by have := hb.2; omega⟩))
        have c0 := HRs4.out.c0
        have c1 := HRs4.out.c1
        have F0 := HRs4.out.fr 0
        have F1 := HRs4.out.fr 1
        clear hq HC4
        go_wp2
        refine bodyPost_ret (v := .agg #[.int .i64 0, .slice a2 l c2]) (by simp [results, Try.results7, go_sem, c0, c1]) rfl ⟨_, by rw [HY2.out.1], HFn.out.1, by rw [HY2.out.2]; exact HFn.out.2⟩
      · have hd' : dirB ws = false := by simpa using hd
        rw [hd'] at HC4
        have HN2 := hide (HNo.out hd')
        go_wp2_with fail
        refine HC4.out.mono ?_
        rintro e w4 ⟨rfl, q, hq⟩
        have HRs4 : Hid (ResF w w4) := hq ▸ HRs3.out.later (below_drewN _ q)
        have c0 := HRs4.out.c0
        have c1 := HRs4.out.c1
        have F0 := HRs4.out.fr 0
        have F1 := HRs4.out.fr 1
        clear hq HC4
        go_wp2
        refine bodyPost_ret (v := .agg #[.int .i64 5, .slice none 0 0]) (by simp [results, Try.results7, go_sem, c0, c1]) rfl ⟨_, by rw [HN2.out.1], HRs4.out.shut _ _, by rw [HN2.out.2]; exact OwJ_nil _ _⟩
  · have h0b : (z == 0) = false := by simpa using h0
    have HE := hide (udC_bad (ws := ws) (by rw [HZ.out]; exact h0))
    rw [HE.out.1, HE.out.2, HZ.out]
    obtain ⟨n, hn⟩ : ∃ n, ws.length = n := ⟨_, rfl⟩
    rw [hn] at HC ⊢
    clear hn
    go_enter Try.func7, Try.ntmps7
    go_wp2_with fail
    refine HC.out.mono ?_
    rintro e w1 ⟨rfl, q, hq⟩
    have HRs : Hid (ResF w w1) := hq ▸ (ResF.start w 28).later (below_drewN _ q)
    have c0 := HRs.out.c0
    have c1 := HRs.out.c1
    have F0 := HRs.out.fr 0
    have F1 := HRs.out.fr 1
    clear hq
    go_wp2
    refine bodyPost_ret (v := .agg #[.int .i64 z, .slice none 0 0]) (by simp [results, Try.results7, go_sem, c0, c1]) rfl ⟨_, rfl, HRs.out.shut _ _, OwJ_nil _ _⟩
end Go.Proofs.Ytbfdnjhdlnfpmaa
