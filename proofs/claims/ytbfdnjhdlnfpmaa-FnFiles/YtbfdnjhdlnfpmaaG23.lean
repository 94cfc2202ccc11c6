/- Fi8 in one text: what each says stands at its head below. -/
import Derived.Test.YtbfdnjhdlnfpmaaG22
import Derived.Test.YtbfdnjhdlnfpmaaG11
/- Chapter 8: 'FileAt' of both sides, walked. -/
namespace Go.Proofs.Ytbfdnjhdlnfpmaa
open Go.RowKit

def hasF (fs : List Oj) (a : Int) : Bool := fs.any (fun p => p.1 == a)
theorem hasF_at {fs : List Oj} {a : Int} {k : Nat} (h : AtF fs a k) : hasF fs a = true := by
  unfold hasF
  rw [List.any_eq_true]
  refine ⟨fs[k]'h.1, List.getElem_mem _, ?_⟩
  have := h.2.1
  simp only [List.getD, List.getElem?_eq_getElem h.1, Option.getD_some] at this
  simpa using this
theorem hasF_no {fs : List Oj} {a : Int} (h : NoF fs a) : hasF fs a = false := by
  unfold hasF
  rw [List.any_eq_false]
  intro p hp
  obtain ⟨i, hi, rfl⟩ := List.mem_iff_getElem.1 hp
  have := h i hi
  simp only [List.getD, List.getElem?_eq_getElem hi, Option.getD_some] at this
  simpa using this
/-- The code of what asks for a file of a name. -/
def faC (fs : List Oj) (a : Int) : Int := if filF fs = 0 then (if hasF fs a = true then 0 else 4) else filF fs
def faR (fs : List Oj) (a : Int) : List Oj := if filF fs = 0 then fs.filter (fun p => p.1 == a) else []
theorem faC_at {fs : List Oj} {a : Int} {k : Nat} (h : AtF fs a k) (h0 : filF fs = 0) : faC fs a = 0 := by unfold faC; rw [if_pos h0, if_pos (hasF_at h)]
theorem faC_no {fs : List Oj} {a : Int} (h : NoF fs a) (h0 : filF fs = 0) : faC fs a = 4 := by unfold faC; rw [if_pos h0, if_neg (by rw [hasF_no h]; decide)]
theorem faC_bad {fs : List Oj} {a : Int} (h0 : filF fs ≠ 0) : faC fs a = filF fs := by unfold faC; rw [if_neg h0]
theorem filter_no {fs : List Oj} {a : Int} (h : NoF fs a) : fs.filter (fun p => p.1 == a) = [] := by
  rw [List.filter_eq_nil_iff]
  intro p hp hpa
  have := hasF_no h
  unfold hasF at this
  rw [List.any_eq_false] at this
  exact this p hp hpa
theorem filter_at : ∀ {fs : List Oj} {a : Int} {k : Nat}, fs.Pairwise (fun p q => p.1 < q.1) → AtF fs a k → fs.filter (fun p => p.1 == a) = [fs.getD k oj0]
  | [], a, k, _, h => absurd h.1 (Nat.not_lt_zero _)
  | p :: r, a, 0, hu, h => by
    have e : p.1 = a := h.2.1
    have hr : r.filter (fun p => p.1 == a) = [] := by
      rw [List.filter_eq_nil_iff]
      intro q hq hqa
      have h1 := (List.pairwise_cons.1 hu).1 q hq
      have h2 : q.1 = a := by simpa using hqa
      omega
    simp [e, hr]
  | p :: r, a, k + 1, hu, h => by
    have e : p.1 ≠ a := h.2.2 0 (by omega)
    have h' : AtF r a k := ⟨by have := h.1; simp at this; omega, by simpa using h.2.1, fun j hj => by simpa using h.2.2 (j + 1) (by omega)⟩
    have := filter_at (List.pairwise_cons.1 hu).2 h'
    rw [List.filter_cons_of_neg (by simpa using e), this]
    simp
theorem faR_at {fs : List Oj} {a : Int} {k : Nat} (h : AtF fs a k) (h0 : filF fs = 0) : faR fs a = [fs.getD k oj0] := by unfold faR; rw [if_pos h0, filter_at (filF_iff.1 h0).up h]
theorem faR_no {fs : List Oj} {a : Int} (h : NoF fs a) (h0 : filF fs = 0) : faR fs a = [] := by unfold faR; rw [if_pos h0, filter_no h]
theorem faR_bad {fs : List Oj} {a : Int} (h0 : filF fs ≠ 0) : faR fs a = [] := by unfold faR; rw [if_neg h0]
theorem tot_small : ∀ {gs : List Oj}, (∀ p, p ∈ gs → p.2.2.length ≤ 5) → totJ gs gs.length ≤ gs.length * 7 := by
  intro gs h
  unfold totJ
  rw [List.take_length]
  induction gs with
  | nil => simp
  | cons p r ih =>
    have h1 := h p (by simp)
    have h2 := ih (fun q hq => h q (by simp [hq]))
    simp only [List.map_cons, List.sum_cons, List.length_cons]
    omega
theorem tot_sub {fs gs : List Oj} (h0 : filF fs = 0) (hs : ∀ p, p ∈ gs → p ∈ fs) (hl : gs.length ≤ 5) : totJ gs gs.length ≤ 1048576 := by
  have hi := filF_iff.1 h0
  have := tot_small (gs := gs) (fun p hp => oneF_len (hi.one p (hs p hp)))
  omega
theorem faR_tot (fs : List Oj) (a : Int) : totJ (faR fs a) (faR fs a).length ≤ 1048576 := by
  by_cases h0 : filF fs = 0
  · unfold faR
    rw [if_pos h0]
    refine tot_sub h0 (fun p hp => (List.mem_filter.1 hp).1) ?_
    have := List.length_filter_le (fun p : Oj => p.1 == a) fs
    have := (filF_iff.1 h0).len
    omega
  · rw [faR_bad h0]; simp [totJ]
theorem one_len {fs : List Oj} (h0 : filF fs = 0) {k : Nat} (hk : k < fs.length) : (fs.getD k oj0).2.2.length ≤ 5 := by
  refine oneF_len ((filF_iff.1 h0).one _ ?_)
  simp only [List.getD, List.getElem?_eq_getElem hk, Option.getD_some]
  exact List.getElem_mem _
/-- One file alone, in a block of its own. -/
theorem ow_one {w : World} {B : Nat} {a s : Int} {z : Value} {xs : List Int} {t : TypeId} (ho : OwI B w z xs) (hB : B ≤ w.heap.size) :
    OwJ (fun b => B ≤ b ∧ b < w.heap.size + 1) (w.alloc (.cells #[.int .i64 a, .int .i64 s, z] t)) (.slice (some ⟨w.heap.size, 0, none⟩) 1 1) [(a, s, xs)] := by
  have bA := below_alloc w (.cells #[.int .i64 a, .int .i64 s, z] t)
  obtain ⟨b, h1, h2⟩ := ho
  refine ⟨_, 1, w.heap.size, 0, fun _ => z, fun _ => b, rfl, by simp, fun _ => ⟨rfl, ⟨hB, by omega⟩, fun o => by simp [go_sem]⟩, fun i hi => ?_⟩
  have : i = 0 := by simp at hi; omega
  subst this
  refine ⟨by simp [go_sem], by simp [go_sem], by simp [go_sem], h1.later bA, fun hn => ?_⟩
  obtain ⟨k1, k2, k3⟩ := h2 (by simpa using hn)
  dsimp only
  exact ⟨⟨k1, by omega⟩, by omega, fun o => ((bcell bA).2 _ _ k2).trans (k3 o), fun j hj _ _ => by simp at hj; omega⟩

set_option maxHeartbeats 1000000 in
theorem pointAt {S : Nat → Prop} {w : World} {ao : Option Addr} {n c : Nat} {fs : List Oj} (a : Int) (hv : RdJ S w (.slice ao n c) fs) (hn : fs.length = n) :
    Calls Try.prog 39 #[.slice ao n c, .int .i64 a] w fun e w' => ∃ pt, e = .returned (.tuple #[.pointer pt, .int .i64 (faC fs a)]) ∧ Below w.heap.size w w' ∧
      (filF fs = 0 → (∃ k b off, AtF fs a k ∧ ao = some ⟨b, off, none⟩ ∧ pt = some ⟨b, off + k * 3, none⟩) ∨ NoF fs a) := by
  have HV := hide hv
  have HN := hide hn
  have HC := hide (implFilesFault hv)
  have hs : fs.length = n := hn
  rw [show (Value.slice ao n c) = .slice ao n c from rfl] at HC
  obtain ⟨z, hz⟩ : ∃ z, filF fs = z := ⟨_, rfl⟩
  have HZ := hide hz
  rw [hz] at HC
  clear hv hn hz hs
  by_cases h0 : z = 0
  · subst h0
    go_enter Try.func39, Try.ntmps39
    go_wp2_with fail
    refine HC.out.mono ?_
    rintro e w1 ⟨rfl, hb⟩
    have HB := hide hb
    have HC2 := hide (fileOf a (HV.out.later hb) HN.out)
    clear hb HC
    go_wp2_with fail
    refine HC2.out.mono ?_
    rintro e w2 ⟨hw, h⟩
    have hw := hw.symm
    subst hw
    rcases h with ⟨k, b, off, hat, hao, rfl⟩ | ⟨hno, rfl⟩
    · have HAt := hide hat
      have HAo := hide hao
      have HE := hide (faC_at hat HZ.out)
      clear hat hao HC2
      go_wp2
      refine bodyPost_ret (v := .tuple #[.pointer (some ⟨b, off + k * 3, none⟩), .int .i64 0]) (by simp [results, Try.results39, go_sem]) rfl ?_
      exact ⟨_, by rw [HE.out], HB.out, fun _ => Or.inl ⟨k, b, off, HAt.out, HAo.out, rfl⟩⟩
    · have HNo := hide hno
      have HE := hide (faC_no hno HZ.out)
      clear hno HC2
      go_wp2
      refine bodyPost_ret (v := .tuple #[.pointer none, .int .i64 4]) (by simp [results, Try.results39, go_sem]) rfl ?_
      exact ⟨_, by rw [HE.out], HB.out, fun _ => Or.inr HNo.out⟩
  · have h0b : (z == 0) = false := by simpa using h0
    have HE : Hid (faC fs a = z) := (faC_bad (by rw [HZ.out]; exact h0)).trans HZ.out
    go_enter Try.func39, Try.ntmps39
    go_wp2_with fail
    refine HC.out.mono ?_
    rintro e w1 ⟨rfl, hb⟩
    have HB := hide hb
    clear hb HC
    go_wp2
    refine bodyPost_ret (v := .tuple #[.pointer none, .int .i64 z]) (by simp [results, Try.results39, go_sem]) rfl ?_
    exact ⟨_, by rw [HE.out], HB.out, fun h => absurd (HZ.out.symm.trans h) h0⟩

set_option maxHeartbeats 1000000 in
theorem implFileAt {S : Nat → Prop} {w : World} {v : Value} {fs : List Oj} (a : Int) (hv : RdJ S w v fs) :
    Calls Try.prog 14 #[v, .int .i64 a] w (EndsFi (faC fs a) (faR fs a) w) := by
  obtain ⟨av, cv, rfl, hm⟩ := hv.shape
  have HV := hide hv
  obtain ⟨n, hn⟩ : ∃ n, fs.length = n := ⟨_, rfl⟩
  have HN := hide hn
  rw [hn] at HV hm ⊢
  clear hv hn
  have HC := hide (pointAt a (HV.out.later (below_alloc w (.cells #[.int .i64 0, .slice none 0 0] 28))) HN.out)
  obtain ⟨z, hz⟩ : ∃ z, faC fs a = z := ⟨_, rfl⟩
  have HZ := hide hz
  rw [hz] at HC ⊢
  clear hz
  by_cases h0 : z = 0
  · subst h0
    have hf0 : filF fs = 0 := by
      by_cases h : filF fs = 0
      · exact h
      · have := HZ.out; rw [faC_bad h] at this; exact this
    have HF0 := hide hf0
    clear hf0
    go_enter Try.func14, Try.ntmps14
    go_wp2_with fail
    refine HC.out.mono ?_
    rintro e w1 ⟨pt, rfl, hb, hp⟩
    have HRs := hide ((ResF.start w 28).later hb)
    have hw1 := HRs.out.lt
    rcases hp HF0.out with ⟨k, b, off, hat, rfl, rfl⟩ | hno
    · obtain ⟨b', off', e', hfp⟩ := HV.out.file hat.1
      injection e' with e'
      injection e' with e1 e2
      subst e1 e2
      have HC2 := hide (copyFile (hfp.later HRs.out.below) (by have := one_len HF0.out hat.1; omega))
      have HE := hide (faR_at hat HF0.out)
      clear hb hp HC hfp hat
      obtain ⟨p, hp⟩ : ∃ p, fs.getD k oj0 = p := ⟨_, rfl⟩
      rw [hp] at HC2 HE
      clear hp
      obtain ⟨x, s, xs⟩ := p
      dsimp only at HC2
      go_wp2_with fail
      refine HC2.out.mono ?_
      rintro e w2 ⟨z2, rfl, hb, ho⟩
      have HRs2 := hide (HRs.out.later (below_on hb (below_alloc w2 (.cells #[.int .i64 x, .int .i64 s, z2] 35))))
      have HO := hide (ow_one (a := x) (s := s) (t := 35) ho hb.size)
      obtain ⟨az, cz, hz2⟩ := ho.shape
      subst hz2
      have HFn := hide (ret_files (x := .int .i64 0) HRs2.out.below (Nat.le_refl _) HO.out (fun b hb => ⟨by omega, by simp; omega⟩))
      obtain ⟨lx, hlx⟩ : ∃ lx, xs.length = lx := ⟨_, rfl⟩
      rw [hlx] at HFn HRs2
      (try rw [hlx])
      have c0 := HRs2.out.c0
      have c1 := HRs2.out.c1
      have F0 := HRs2.out.fr 0
      have F1 := HRs2.out.fr 1
      clear hb ho HC2 hlx
      go_wp2
      refine bodyPost_ret (v := .agg #[.int .i64 0, .slice (some ⟨w2.heap.size, 0, none⟩) 1 1]) (by simp [results, Try.results14, go_sem, c0, c1]) rfl ⟨_, rfl, HFn.out.1, by rw [HE.out]; exact HFn.out.2⟩
    · exact absurd HZ.out (by rw [faC_no hno HF0.out]; decide)
  · have h0b : (z == 0) = false := by simpa using h0
    have HE : Hid (faR fs a = []) := by
      by_cases hf0 : filF fs = 0
      · rcases at_or_no fs a with ⟨k, hk⟩ | hno
        · exact absurd (HZ.out.symm.trans (faC_at hk hf0)) h0
        · exact faR_no hno hf0
      · exact faR_bad hf0
    rw [HE.out]
    go_enter Try.func14, Try.ntmps14
    go_wp2_with fail
    refine HC.out.mono ?_
    rintro e w1 ⟨pt, rfl, hb, hp⟩
    have HRs := hide ((ResF.start w 28).later hb)
    have c0 := HRs.out.c0
    have c1 := HRs.out.c1
    have F0 := HRs.out.fr 0
    have F1 := HRs.out.fr 1
    clear hb hp HC
    go_wp2
    refine bodyPost_ret (v := .agg #[.int .i64 z, .slice none 0 0]) (by simp [results, Try.results14, go_sem, c0, c1]) rfl ⟨_, rfl, HRs.out.shut _ _, OwJ_nil _ _⟩

theorem RdJ.part1 {S : Nat → Prop} {w : World} {b off n c d : Nat} {fs : List Oj} (h : RdJ S w (.slice (some ⟨b, off, none⟩) n c) fs) {k : Nat} (hk : k < fs.length) : RdJ S w (.slice (some ⟨b, off + k * 3, none⟩) 1 d) [fs.getD k oj0] := by
  obtain ⟨ao', c', e, hm, h⟩ := h
  injection e with e1 e2 e3
  obtain ⟨b2, off2, V, e4, hs, hc⟩ := h (by rintro rfl; exact absurd hk (Nat.not_lt_zero _))
  rw [← e1] at e4
  injection e4 with e4
  injection e4 with e5 e6
  subst e5 e6
  refine ⟨_, d, rfl, by simp, fun _ => ⟨b, off + k * 3, fun _ => V k, rfl, hs, fun i hi => ?_⟩⟩
  have : i = 0 := by simp at hi; omega
  subst this
  simpa using hc k hk

end Go.Proofs.Ytbfdnjhdlnfpmaa
