/- Fs2 in one text: what each says stands at its head below. -/
import Derived.Test.YtbfdnjhdlnfpmaaG31
/- Chapter 8: a file put among others; the program's side, walked. -/
namespace Go.Proofs.Ytbfdnjhdlnfpmaa
open Go.RowKit Go.Maps Go.Shelf Go.Sort

/-- The files with p in the place of that of its name, or there. -/
def putF (fs : List Oj) (p : Oj) : List Oj := fs.filter (fun q => decide (q.1 < p.1)) ++ p :: fs.filter (fun q => decide (p.1 < q.1))
theorem notN_split (a : Int) : ∀ {fs : List Oj}, fs.Pairwise (fun p q => p.1 < q.1) → fs.filter (notN a) = fs.filter (fun q => decide (q.1 < a)) ++ fs.filter (fun q => decide (a < q.1))
  | [], _ => rfl
  | p :: r, h => by
    obtain ⟨h1, h2⟩ := List.pairwise_cons.1 h
    have ih := notN_split a h2
    by_cases hlt : p.1 < a
    · have e1 : notN a p = true := by unfold notN; simp; omega
      rw [List.filter_cons_of_pos e1, List.filter_cons_of_pos (by simpa using hlt), List.filter_cons_of_neg (by simp; omega), ih, List.cons_append]
    · have hno : r.filter (fun q => decide (q.1 < a)) = [] := by
        rw [List.filter_eq_nil_iff]
        intro q hq
        have := h1 q hq
        simp; omega
      rw [hno, List.nil_append] at ih
      by_cases he : p.1 = a
      · rw [List.filter_cons_of_neg (by unfold notN; simp [he]), List.filter_cons_of_neg (by simp; omega), List.filter_cons_of_neg (by simp; omega), hno, ih]; rfl
      · rw [List.filter_cons_of_pos (by unfold notN; simp [he]), List.filter_cons_of_neg (by simp; omega), List.filter_cons_of_pos (by simp; omega), hno, ih]; rfl
theorem put_perm {fs : List Oj} (p : Oj) (h : fs.Pairwise (fun p q => p.1 < q.1)) : (fs.filter (notN p.1) ++ [p]).Perm (putF fs p) := by
  rw [notN_split p.1 h]
  unfold putF
  rw [List.append_assoc]
  exact List.Perm.append_left _ (List.perm_append_comm.trans (by simp))
theorem put_up {fs : List Oj} (p : Oj) (h : fs.Pairwise (fun p q => p.1 < q.1)) : (putF fs p).Pairwise (fun p q => p.1 < q.1) := by
  unfold putF
  rw [List.pairwise_append]
  refine ⟨h.filter _, List.pairwise_cons.2 ⟨fun q hq => ?_, h.filter _⟩, fun q hq r hr => ?_⟩
  · have := (List.mem_filter.1 hq).2; simpa using this
  · have h1 := (List.mem_filter.1 hq).2
    simp at h1
    rcases List.mem_cons.1 hr with rfl | hr
    · exact h1
    · have h2 := (List.mem_filter.1 hr).2
      simp at h2; omega
theorem put_len {fs : List Oj} (p : Oj) (h : fs.Pairwise (fun p q => p.1 < q.1)) : (putF fs p).length ≤ fs.length + 1 := by
  rw [← (put_perm p h).length_eq, List.length_append]
  have := List.length_filter_le (notN p.1) fs
  simp; omega
theorem BuiltFi.snoc {P : Nat → Prop} {w : World} {v : Value} {ps : List Oj} (h : BuiltFi P w v ps.length ps) (p : Oj) : BuiltFi P w v ps.length (ps ++ [p]) := by
  obtain ⟨V, Bk, h1, hpr, h2, h3⟩ := h
  have e : ∀ i, i < ps.length → (ps ++ [p]).getD i oj0 = ps.getD i oj0 := fun i hi => by simp [List.getD, List.getElem?_append_left hi]
  refine ⟨V, Bk, ?_, hpr, fun i hi => by rw [e i hi]; exact h2 i hi, fun i hi hn => ?_⟩
  · rw [cellsFi_ext (ps ++ [p]) ps ps.length V e]; exact h1
  · rw [e i hi] at hn
    obtain ⟨k1, k2, k3, k4, k5⟩ := h3 i hi hn
    exact ⟨k1, k2, k3, k4, fun j hj hj' ej => k5 j hj (by rw [e j hj] at hj'; exact hj') ej⟩
theorem enters_fi {f : FuncId} {fn : Func} (hf : Try.prog.funcs[f]? = some fn) (hn : (fn.name == "runtime.NumGoroutine") = false) (hb : fn.body.isNone = false) (args : Array Value) (w : World) : Sem.run Try.prog (callFunc f args) w = .ok (.enter f args) w := by
  have h1 : fn.name ≠ "runtime.NumGoroutine" := by simpa using hn
  have h2 : fn.body ≠ none := by intro h; rw [h] at hb; cases hb
  simp [callFunc, hf, h1, h2]
theorem map_ojq_up {qs : List Fq} {gs : List Oj} (h : qs.map ojq = gs) : qs.length = gs.length := by rw [← h]; simp

theorem sorted_files {R : List Oj} {qs : List Fq} {d' : Array Fq} (hp : PermIn 0 qs.toArray.size qs.toArray d') (hs : SortedIn (ltOf fun x y : Fq => Lib.compareInt x.1 y.1) 0 qs.toArray.size d') (hR : R.Pairwise (fun x y => x.1 < y.1)) (hm : (qs.map ojq).Perm R) : d'.toList.map ojq = R ∧ d'.toList.Perm qs := by
  obtain ⟨h1, _, h3⟩ := hp
  have hd : d'.toList.Perm qs := by
    have e1 : d'.extract 0 qs.toArray.size = d' := by rw [← h1]; simp
    have e2 : qs.toArray.extract 0 qs.toArray.size = qs.toArray := by simp
    rw [e1, e2] at h3
    exact h3
  refine ⟨?_, hd⟩
  have hdL : (d'.toList.map ojq).Perm R := (hd.map ojq).trans hm
  refine List.Perm.eq_of_pairwise (le := fun x y : Oj => x.1 ≤ y.1) (fun a b ha hb h1 h2 => ?_) ?_ (hR.imp (fun h => by omega)) hdL
  · have ha' := hdL.mem_iff.1 ha
    obtain ⟨i, hi, rfl⟩ := List.mem_iff_getElem.1 ha'
    obtain ⟨j, hj, rfl⟩ := List.mem_iff_getElem.1 hb
    have hp := List.pairwise_iff_getElem.1 hR
    by_cases hij : i < j
    · have := hp i j hi hj hij; omega
    · by_cases hji : j < i
      · have := hp j i hj hi hji; omega
      · have : i = j := by omega
        subst this; rfl
  · rw [List.pairwise_map, List.pairwise_iff_getElem]
    intro i j hi hj hij
    have hsz : d'.size = qs.toArray.size := h1
    have := hs i j (Nat.zero_le _) hij (by rw [← hsz]; simpa using hj)
    rw [ltFq] at this
    rw [getElem!_pos _ j (by simpa using hj), getElem!_pos _ i (by simpa using hi)] at this
    simp at this
    simpa [ojq] using this

set_option maxHeartbeats 4000000 in
set_option maxRecDepth 4000 in
/-- 'impl.withFile'. -/
theorem withFile {S T : Nat → Prop} {w : World} {ao : Option Addr} {n c bf off : Nat} {fs : List Oj} {p : Oj} (hv : RdJ S w (.slice ao n c) fs) (hn : fs.length = n) (h0 : filF fs = 0) (hp : RdFp T w bf off p) (hl : p.2.2.length ≤ 1048576) :
    Calls Try.prog 36 #[.slice ao n c, .pointer (some ⟨bf, off, none⟩)] w fun e w' => ∃ z, e = .returned z ∧ Below w.heap.size w w' ∧ OwJ (fun b => w.heap.size ≤ b ∧ b < w'.heap.size) w' z (putF fs p) := by
  have HV := hide hv
  have HN := hide hn
  have HP := hide hp
  have HIs := hide (filF_iff.1 h0)
  have HLe := hide (lens_of h0)
  have h4 := HIs.out.len
  have H0 := hide h0
  obtain ⟨y, g0, _⟩ := hp
  have HC1 := hide (fileOf p.1 hv hn)
  have HUp := hide (put_up p HIs.out.up)
  have HPm := hide (put_perm p HIs.out.up)
  obtain ⟨R, hR⟩ : ∃ R, putF fs p = R := ⟨_, rfl⟩
  rw [hR] at HUp HPm ⊢
  obtain ⟨i0, hi, hz0, hz1, hz2⟩ := info_parts Try.infoFl
  clear hv h0 hR
  obtain ⟨a, ha⟩ : ∃ a, p.1 = a := ⟨_, rfl⟩
  rw [ha] at g0 HC1 HPm
  have hgl := List.length_filter_le (notN a) fs
  rw [hn] at hgl h4
  have stage : ∀ (pt : Option Addr) (s1 : Int × Int), fs.filter (notL s1.1 s1.2) = fs.filter (notN a) → (∀ w1, Below w.heap.size w w1 → Calls Try.prog 62 #[.pointer pt] w1 fun e w' => e = .returned (.agg #[.int .i64 s1.1, .int .i64 s1.2]) ∧ Below w1.heap.size w1 w') → Calls Try.prog 41 #[.slice ao n c, .pointer pt] w fun e w' => ∃ z, e = .returned z ∧ Below w.heap.size w w' ∧ BuiltFi (w.heap.size ≤ ·) w' z (fs.filter (notN a)).length (fs.filter (notN a)) := by
    intro pt s1 he hlb
    have h := withoutFile (pt := pt) (a := s1.1) (s := s1.2) HV.out HLe.out.1 HLe.out.2 hlb
    rw [he] at h
    exact h
  have HWo : Hid (∀ pt, ((∃ k b off, AtF fs a k ∧ ao = some ⟨b, off, none⟩ ∧ pt = some ⟨b, off + k * 3, none⟩) ∨ (NoF fs a ∧ pt = none)) → Calls Try.prog 41 #[.slice ao n c, .pointer pt] w fun e w' => ∃ z, e = .returned z ∧ Below w.heap.size w w' ∧ BuiltFi (w.heap.size ≤ ·) w' z (fs.filter (notN a)).length (fs.filter (notN a))) := by
    rintro pt (⟨k, b, off, hat, rfl, rfl⟩ | ⟨hno, rfl⟩)
    · obtain ⟨b', off', e', hfp⟩ := HV.out.file hat.1
      injection e' with e'
      injection e' with e1 e2
      subst e1 e2
      refine stage _ (a, (fs.getD k oj0).2.1) (notL_notN H0.out hat) (fun w1 hb => ?_)
      have h := labelOf (hfp.later hb)
      rw [hat.2.1] at h
      exact h
    · exact stage _ (0, 0) ((notL_none H0.out).trans (notN_none hno).symm) (fun w1 _ => labelNone w1)
  clear stage hn
  obtain ⟨G, hG⟩ : ∃ G, fs.filter (notN a) = G := ⟨_, rfl⟩
  rw [hG] at HWo HPm hgl
  clear hG
  go_enter Try.func36, Try.ntmps36
  go_wp2_with fail
  refine HC1.out.mono ?_
  rintro e w1 ⟨hw, h⟩
  have hw := hw.symm
  subst hw
  have hpt : ∃ pt, e = .returned (.pointer pt) ∧ ((∃ k b off, AtF fs a k ∧ ao = some ⟨b, off, none⟩ ∧ pt = some ⟨b, off + k * 3, none⟩) ∨ (NoF fs a ∧ pt = none)) := by
    rcases h with ⟨k, b, off, h1, h2, rfl⟩ | ⟨h1, rfl⟩
    · exact ⟨_, rfl, Or.inl ⟨k, b, off, h1, h2, rfl⟩⟩
    · exact ⟨_, rfl, Or.inr ⟨h1, rfl⟩⟩
  obtain ⟨pt, rfl, hpt⟩ := hpt
  have HC2 := hide (HWo.out pt hpt)
  clear h hpt HC1
  go_wp2_with fail
  refine HC2.out.mono ?_
  rintro e w2 ⟨z2, rfl, hb2, ho2⟩
  have HB2 := hide hb2
  have HBu := hide (ho2.snoc p)
  have HC3 := hide (copyFile (HP.out.later hb2) hl)
  obtain ⟨a2, c2, hz2⟩ := ho2.shape
  subst hz2
  have hzz := hb2.size
  clear hb2 ho2 HC2
  rw [ha] at HC3
  obtain ⟨s, hs⟩ : ∃ s, p.2.1 = s := ⟨_, rfl⟩
  rw [hs] at HC3
  go_wp2_with fail
  refine HC3.out.mono ?_
  rintro e w3 ⟨z3, rfl, hb3, ho3⟩
  have HB3 := hide hb3
  have HO3 := hide ho3
  obtain ⟨a3, c3, hz3⟩ := ho3.shape
  subst hz3
  have hz3' := hb3.size
  obtain ⟨V2, Bk2, hown, hpr, hin⟩ := HBu.out
  have HOw0 := hide hown
  have HPr := hide hpr
  have HIn := hide hin
  have HG : Hid ((G ++ [p]).getD G.length oj0 = p) := by simp [Hid, List.getD]
  obtain ⟨lx, hlx⟩ : ∃ lx, p.2.2.length = lx := ⟨_, rfl⟩
  obtain ⟨l, hll⟩ : ∃ l, G.length = l := ⟨_, rfl⟩
  have HLl := hide hll
  rw [hlx] at HO3
  rw [hll] at HOw0 HIn HPr hgl HG
  have hl5 : l ≤ 4 := by omega
  clear hb3 ho3 hown hpr hin HC3 HBu
  (try rw [hlx])
  (try rw [hll])
  clear hlx hll
  go_wp2_with (at_builtin; refine wpList_append_lies _ rfl _ _ _ rfl 0 35 i0 (.agg #[.int .i64 0, .int .i64 0, .slice none 0 0]) 3 40 Try.underlying26 hi hz0 hz1 hz2 rfl (by omega) _ l _ (by rfl) (ownsRow_later (ownsRow_later HOw0.out HB3.out) (below_alloc w3 (.cells #[.int .i64 a, .int .i64 s, .slice a3 lx c3] 35))) ⟨w3.heap.size, 0, none⟩ 1 1 [.int .i64 a, .int .i64 s, .slice a3 lx c3] (by rfl) (by rfl) (World.news_of_block (cs := #[.int .i64 a, .int .i64 s, .slice a3 lx c3]) (t := 35) (fr := (0, 0)) (heap_alloc_new w3 _)) cellsFi_one (by omega) (by unfold maxLen; omega) (by omega) (Nat.zero_le _) (w3.heap.size + 1) (by simp) ?_; intro g cap w4 hown4 hgrow hat hlt4)
  have hS := BuiltFi.step (P' := (w.heap.size ≤ ·)) HIn.out HOw0.out HPr.out (fun _ h => h) (fun b hb => by omega) HB3.out (by rw [HG.out]; exact HO3.out) (below_alloc w3 (.cells #[.int .i64 a, .int .i64 s, .slice a3 lx c3] 35)) (by rw [HG.out, ha, hs]; exact hown4) hgrow (by simpa using hat)
  have HB4 := hide ((below_on (below_on HB2.out HB3.out) (below_alloc w3 (.cells #[.int .i64 a, .int .i64 s, .slice a3 lx c3] 35))).grown hgrow (by simp; omega) (fun r hr => HPr.out r hr))
  clear hown4 hgrow hat hlt4
  have hlen : (G ++ [p]).length = l + 1 := by simp [HLl.out]
  rw [← hlen] at hS
  obtain ⟨qs, hrow, hmap, hok⟩ := fq_of_built hS
  have hql : qs.length = l + 1 := by rw [map_ojq_up hmap, hlen]
  have hPg : w.heap.size ≤ g := by obtain ⟨_, _, _, h, _⟩ := hS; exact h g rfl
  rw [hlen] at hrow
  rcases hrow.2 with ⟨e, _⟩ | ⟨g', cap', cur, e, hbase, hb, k1, k2, k3, k4⟩
  · cases e
  injection e with e1 e2 e3
  injection e1 with e1
  injection e1 with e1 _ _
  subst e1 e3
  have hgl4 : g < w4.heap.size := (Array.getElem?_eq_some_iff.1 hb).1
  have hcon := Go.Proofs.AnyQ.slices_SortFunc Try.sortFB 3 (fun w => by kernel_rfl) (fun w => by kernel_rfl) encF (fun _ => rfl) (fun x v hv => by simp [encF, slV] at hv; rcases hv with rfl | rfl | rfl <;> rfl) (fun x y : Fq => Lib.compareInt x.1 y.1) swoFq 58 #[] g 0 cap qs.toArray w4 (enters_fi Try.func58 (by kernel_rfl) rfl) (fun _ _ _ _ x y => byName x y _) (holdsF hb (by rw [hql]; simpa using k4)) hgl4 (by simp; omega)
  change Calls Try.prog 57 _ _ _ at hcon
  have es : qs.toArray.size = l + 1 := by simp [hql]
  rw [es] at hcon
  have HCn := hide hcon
  have Hb := hide hb
  have K1 := hide k1
  have K2 := hide k2
  have K3 := hide k3
  have HQl := hide hql
  have HOk := hide hok
  have HMp := hide hmap
  clear hcon hb k1 k2 k3 k4 hS hrow hmap hok es hql hlen HOw0 HIn
  go_wp2_with fail
  refine HCn.out.mono ?_
  rintro e w' ⟨rfl, d', nn, os, hp, hs', hw'⟩
  have HF : Hid (Below w.heap.size w w' ∧ OwJ (fun b => w.heap.size ≤ b ∧ b < w'.heap.size) w' (.slice (some ⟨g, 0, none⟩) (l + 1) cap) R) := by
    obtain ⟨hm1, hm2⟩ := sorted_files (R := R) (qs := qs) (d' := d') (by simpa [HQl.out] using hp) (by simpa [HQl.out] using hs') HUp.out (by rw [HMp.out]; exact HPm.out)
    have hg : w4.grownBy w' (some g) := by rw [hw']; exact grown_sortedF _
    have hdl : d'.toList.length = qs.length := hm2.length_eq
    have hr := rowF_sorted (n := nn) (os := os) (ys := d'.toList) (xs := qs) (base := 0) (cap := cap) hdl (Nat.zero_le _) Hb.out (by rw [HQl.out]; exact K1.out) K2.out K3.out
    rw [Array.toArray_toList, ← hw', HQl.out] at hr
    refine ⟨HB4.out.grown hg HB4.out.size (fun j hj => by injection hj with hj; omega), ?_⟩
    rw [← hm1]
    exact ow_of_fq hr (by rw [hdl, HQl.out]) hPg (by omega) ((FqOk.grown HOk.out hg).perm hm2)
  clear hw' hp hs'
  go_wp2
  go_ret
  exact ⟨_, rfl, HF.out.1, HF.out.2⟩
end Go.Proofs.Ytbfdnjhdlnfpmaa
