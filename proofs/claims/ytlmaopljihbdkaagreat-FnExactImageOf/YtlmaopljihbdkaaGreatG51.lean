/- Ps2 Im4 Im6 in one text: what each says stands at its head below. -/
import Derived.Test.YtlmaopljihbdkaaGreatG41
import Derived.Test.YtlmaopljihbdkaaGreatG50
import Derived.Test.YtlmaopljihbdkaaGreatG44
import Derived.Shelf.SlSortCmp.WholeK
import Derived.Test.YtlmaopljihbdkaaGreatG45
import Derived.Test.YtlmaopljihbdkaaGreatG49
/- Chapter 11: 'slices.SortedFunc' of an iterator over puts; 'impl.ImageOf', walked. -/
namespace Go.Proofs.YtlmaopljihbdkaaGreat
open Go.RowKit Go.Maps Go.Shelf Go.Sort

set_option maxHeartbeats 4000000 in
set_option maxRecDepth 4000 in
theorem sortedFuncP {w : World} {g : Nat} {lb : Array Value} {R : Nat → Prop} {qs : List (Int × List Int)} (eg : ∀ args w, (callFunc g args).run Tryz.prog w = .ok (.enter g args) w) (hseq : ∀ m, SeqG m Tryz.prog g lb R qs w) (hR : ∀ b, R b → b < w.heap.size) (hN : qs.length ≤ 1048576) (hL : Laid qs) (hne : qs ≠ []) :
    Calls Tryz.prog 38 #[.func (.func g) #[] lb, .func (.func 36) #[] #[]] w fun e w' => ∃ u, e = .returned u ∧ BuiltP (fun b => w.heap.size ≤ b) w' u qs.length (viewTo (lkP qs) 40) ∧ Below w.heap.size w w' := by
  have HA := hide (collectP eg hseq hR hN)
  have HLd := hide hL
  have HNe := hide hne
  clear hseq hR eg hL hne
  go_enter Tryz.func38, Tryz.ntmps38
  go_wp2_with fail
  refine HA.out.mono ?_
  rintro e w4 ⟨u, rfl, hS, hbl⟩
  obtain ⟨ao, c, hu⟩ := hS.shape
  subst hu
  have HB4 := hide hbl
  have HPr : Hid (∀ r, (Value.slice ao qs.length c).ownBlock = some r → w.heap.size ≤ r) := by obtain ⟨_, _, _, h, _⟩ := hS; exact h
  obtain ⟨ps, hrow, hmap, hok⟩ := pq_of_built hS
  have hql : ps.length = qs.length := by rw [← hmap]; simp
  obtain ⟨l, hl⟩ : ∃ l, qs.length = l := ⟨_, rfl⟩
  have hl0 : l ≠ 0 := fun h => HNe.out (List.length_eq_zero_iff.1 (hl.trans h))
  rw [hl] at hrow HPr hql hN ⊢
  rcases hrow.2 with ⟨e, _⟩ | ⟨g', cap', cur, e, hbase, hb, k1, k2, k3, k4⟩
  · injection e with e1 e2 e3
    exact absurd e2 hl0
  injection e with e1 e2 e3
  subst e1 e3
  have hPg : w.heap.size ≤ g' := HPr.out g' rfl
  have hgl4 : g' < w4.heap.size := (Array.getElem?_eq_some_iff.1 hb).1
  have hcon := Go.Proofs.AnyQ.slices_SortFunc Tryz.sortFC 2 (fun w => by kernel_rfl) (fun w => by kernel_rfl) encQ (fun _ => rfl) (fun x v hv => by simp [encQ, slQ] at hv; rcases hv with rfl | rfl <;> rfl) (fun x y : Pq => Lib.compareInt x.1 y.1) swoPq 36 #[] g' 0 c ps.toArray w4 (enters_of Tryz.func36 (by kernel_rfl) rfl) (fun _ _ _ _ x y => byBlock x y _) (holdsQ hb (by rw [hql]; simpa using k4)) hgl4 (by simp; omega)
  change Calls Tryz.prog 82 _ _ _ at hcon
  have es : ps.toArray.size = l := by simp [hql]
  rw [es] at hcon
  have HCn := hide hcon
  have Hb := hide hb
  have K1 := hide k1
  have K2 := hide k2
  have K3 := hide k3
  have HQl := hide hql
  have HOk := hide hok
  have HMp := hide hmap
  clear hcon hb k1 k2 k3 k4 hS hrow hmap hok es hql hbl HA HPr
  (try rw [hl])
  go_wp2_with fail
  refine HCn.out.mono ?_
  rintro e w' ⟨rfl, d', nn, os, hp, hs', hw'⟩
  have HF : Hid (BuiltP (fun b => w.heap.size ≤ b) w' (.slice (some ⟨g', 0, none⟩) l c) l (viewTo (lkP qs) 40) ∧ Below w.heap.size w w') := by
    obtain ⟨hm1, hm2⟩ := sorted_puts (R := viewTo (lkP qs) 40) (qs := ps) (d' := d') (by simpa [HQl.out] using hp) (by simpa [HQl.out] using hs') (view_lt _ _) (by rw [HMp.out]; exact HLd.out.perm.symm)
    have hg : w4.grownBy w' (some g') := by rw [hw']; exact grown_sortedQ _
    have hdl : d'.toList.length = ps.length := hm2.length_eq
    have hr := rowQ_sorted (n := nn) (os := os) (ys := d'.toList) (xs := ps) (base := 0) (cap := c) hdl (Nat.zero_le _) Hb.out (by rw [HQl.out]; exact K1.out) K2.out K3.out
    rw [Array.toArray_toList, ← hw', HQl.out] at hr
    refine ⟨?_, HB4.out.grown hg HB4.out.size (fun j hj => by injection hj with hj; omega)⟩
    rw [← hm1]
    exact built_of_pq hr (by rw [hdl, HQl.out]) hPg ((PqOk.grown HOk.out hg).perm hm2)
  clear hw' hp hs'
  go_wp2
  go_ret
  refine ⟨_, rfl, ?_, HF.out.2⟩
  rw [hl]
  exact HF.out.1
end Go.Proofs.YtlmaopljihbdkaaGreat
/- Chapter 11: 'impl.ImageOf', walked. Made by program (genim4.py, out of Sn2). -/
namespace Go.Proofs.YtlmaopljihbdkaaGreat
open Go.RowKit Go.Shelf

/-- The image of a store. -/
def imP (r : Rf) : List (Int × List Int) := viewTo (lkP (stP r)) 40
def imR (r : Rf) : List (Int × List Int) := if rfF r = 0 then imP r else []
theorem imR_bad {r : Rf} (h : rfF r ≠ 0) : imR r = [] := by unfold imR; rw [if_neg h]
theorem imR_ok {r : Rf} (h : rfF r = 0) : imR r = imP r := by unfold imR; rw [if_pos h]
theorem im_len {r : Rf} (h : rfF r = 0) : (imP r).length = (stP r).length := (st_laid h).perm.length_eq
theorem st_len {r : Rf} (h : rfF r = 0) : (stP r).length ≤ 40 ∧ stP r ≠ [] := by
  have hr := rfF_iff.1 h
  have h1 := (sbL_some (daF_len hr.da)).1
  have h2 := (logF_iff.1 hr.lo).1
  have h3 : (flP r).length ≤ 2 := by unfold flP; split <;> simp
  refine ⟨?_, by simp [stP, meP]⟩
  simp only [stP, List.length_append, snP_len]
  simp only [meP, enP, List.length_map, List.length_cons, List.length_nil]
  omega
theorem RdJ.inw {S : Nat → Prop} {w : World} {v : Value} {ts : List Oj} (h : RdJ S w v ts) : RdJ (fun b => S b ∧ b < w.heap.size) w v ts := by
  obtain ⟨ao, c, e1, e2, e3⟩ := h
  refine ⟨ao, c, e1, e2, fun hne => ?_⟩
  obtain ⟨b, off, V, f1, f2, f3⟩ := e3 hne
  have h0 : 0 < ts.length := by cases ts; exact absurd rfl hne; simp
  exact ⟨b, off, V, f1, ⟨f2, World.block_lt_of_cell? _ _ (f3 0 h0).1⟩, fun i hi => ⟨(f3 i hi).1, (f3 i hi).2.1, (f3 i hi).2.2.1, (f3 i hi).2.2.2.inw⟩⟩

set_option maxHeartbeats 2000000 in
set_option maxRecDepth 4000 in
theorem storeBlocksM (a b c d : Int) (ay : Option Addr) (l cy : Nat) (az : Option Addr) (m cz : Nat) (w : World) :
    Calls Tryz.prog 39 #[.agg #[.int .i64 a, .int .i64 b, .int .i64 c, .int .i64 d, .slice ay l cy, .slice az m cz]] w fun e w' => e = .returned (.func (.func 83) #[] #[.pointer (some ⟨w.heap.size, 0, none⟩)]) ∧ w' = w.alloc (.cells #[.int .i64 a, .int .i64 b, .int .i64 c, .int .i64 d, .slice ay l cy, .slice az m cz] 33) := by
  go_enter Tryz.func39, Tryz.ntmps39
  go_wp2
  go_ret
  exact ⟨rfl, rfl⟩
theorem imageSorted {S T : Nat → Prop} {w : World} {ay az : Option Addr} {cy cz : Nat} (r : Rf) (hy : RdI S w (.slice ay r.sn.length cy) r.sn) (hz : RdJ T w (.slice az r.lg.length cz) r.lg) (h : rfF r = 0) :
    Calls Tryz.prog 38 #[.func (.func 83) #[] #[.pointer (some ⟨w.heap.size, 0, none⟩)], .func (.func 36) #[] #[]] (w.alloc (.cells #[.int .i64 r.tm, .int .i64 r.vt, .int .i64 r.si, .int .i64 r.st, .slice ay r.sn.length cy, .slice az r.lg.length cz] 33)) fun e w' =>
      ∃ u, e = .returned u ∧ Below (w.alloc (.cells #[.int .i64 r.tm, .int .i64 r.vt, .int .i64 r.si, .int .i64 r.st, .slice ay r.sn.length cy, .slice az r.lg.length cz] 33)).heap.size (w.alloc (.cells #[.int .i64 r.tm, .int .i64 r.vt, .int .i64 r.si, .int .i64 r.st, .slice ay r.sn.length cy, .slice az r.lg.length cz] 33)) w' ∧ OwP (fun b => w.heap.size + 1 ≤ b ∧ b < w'.heap.size) w' u (imP r) := by
  have hbA := below_alloc w (.cells #[.int .i64 r.tm, .int .i64 r.vt, .int .i64 r.si, .int .i64 r.st, .slice ay r.sn.length cy, .slice az r.lg.length cz] 33)
  have hl := rf_words h
  have hlg := (logF_iff.1 (rfF_iff.1 h).lo).1
  obtain ⟨h40, hne⟩ := st_len h
  refine (sortedFuncP (qs := stP r) (enters_of Tryz.func83 (by kernel_rfl) rfl) (fun m => storeSeq r (by simp [go_sem]) (by simp [go_sem]) (by simp [go_sem]) (by simp [go_sem]) (by simp [go_sem]) (by simp [go_sem]) (hy.inw.later hbA) (hz.inw.later hbA) hl (by omega) (fun b hb => by simp; omega) (fun b hb => by simp; omega) m) (fun b hb => by simp; omega) (by omega) (st_laid h) hne).mono ?_
  rintro e w' ⟨u, rfl, hb, hbl⟩
  exact ⟨u, rfl, hbl, (hb.ow (im_len h) (by omega)).mono fun b h => ⟨by have := h.1; simp at this; omega, h.2⟩⟩

set_option maxHeartbeats 2000000 in
set_option maxRecDepth 4000 in
theorem implImageOf {S T : Nat → Prop} {w : World} {y z : Value} (r : Rf) (hy : RdI S w y r.sn) (hz : RdJ T w z r.lg) :
    Calls Tryz.prog 9 #[.agg #[.int .i64 r.tm, .int .i64 r.vt, .int .i64 r.si, .int .i64 r.st, y, z]] w (EndsP (rfF r) (imR r) w) := by
  obtain ⟨ay, cy, rfl⟩ := hy.shape
  obtain ⟨az, cz, rfl, _⟩ := hz.shape
  have BA0 := below_on (below_alloc w (.cells #[.int .i64 r.tm, .int .i64 r.vt, .int .i64 r.si, .int .i64 r.st, .slice ay r.sn.length cy, .slice az r.lg.length cz] 33)) (below_alloc _ (.cells #[.int .i64 0, .slice none 0 0] 29))
  have VA0 := (Var6_new w (.int .i64 r.tm) (.int .i64 r.vt) (.int .i64 r.si) (.int .i64 r.st) (.slice ay r.sn.length cy) (.slice az r.lg.length cz) 33).later (below_alloc _ (.cells #[.int .i64 0, .slice none 0 0] 29))
  have HF := hide (implRaftFault r (hy.later BA0) (hz.later BA0))
  have HT := hide (fun (h : rfF r = 0) (w' : World) (hb : Below w.heap.size w w') => imageSorted r (hy.later hb) (hz.later hb) h)
  have BA := hide BA0
  have VA := hide VA0
  clear BA0 VA0
  have HOk := hide (@imR_ok r)
  have HBad := hide (@imR_bad r)
  obtain ⟨Z, hZ⟩ : ∃ Z, rfF r = Z := ⟨_, rfl⟩
  obtain ⟨R, hR⟩ : ∃ R, imR r = R := ⟨_, rfl⟩
  obtain ⟨L, hL⟩ : ∃ L, imP r = L := ⟨_, rfl⟩
  rw [hZ] at HF HT HOk HBad ⊢
  rw [hR] at HOk HBad ⊢
  rw [hL] at HOk HT
  clear hZ hR hL hy hz
  generalize r.sn.length = l at *
  generalize r.lg.length = m at *
  generalize r.tm = a at *
  generalize r.vt = b at *
  generalize r.si = c at *
  generalize r.st = d at *
  have RA : Hid (((w.alloc (.cells #[.int .i64 a, .int .i64 b, .int .i64 c, .int .i64 d, .slice ay l cy, .slice az m cz] 33)).alloc (.cells #[.int .i64 0, .slice none 0 0] 29)).cell? ⟨w.heap.size + 1, 0, none⟩ = some (.int .i64 0) ∧ ((w.alloc (.cells #[.int .i64 a, .int .i64 b, .int .i64 c, .int .i64 d, .slice ay l cy, .slice az m cz] 33)).alloc (.cells #[.int .i64 0, .slice none 0 0] 29)).cell? ⟨w.heap.size + 1, 1, none⟩ = some (.slice none 0 0) ∧ (∀ o, ((w.alloc (.cells #[.int .i64 a, .int .i64 b, .int .i64 c, .int .i64 d, .slice ay l cy, .slice az m cz] 33)).alloc (.cells #[.int .i64 0, .slice none 0 0] 29)).frozen? ⟨w.heap.size + 1, o, none⟩ = false) ∧ w.heap.size + 1 < ((w.alloc (.cells #[.int .i64 a, .int .i64 b, .int .i64 c, .int .i64 d, .slice ay l cy, .slice az m cz] 33)).alloc (.cells #[.int .i64 0, .slice none 0 0] 29)).heap.size) := by
    refine ⟨?_, ?_, ?_, ?_⟩
    · simp [go_sem]
    · simp [go_sem]
    · intro o; simp [go_sem]
    · simp
  obtain ⟨W, hW⟩ : ∃ W, ((w.alloc (.cells #[.int .i64 a, .int .i64 b, .int .i64 c, .int .i64 d, .slice ay l cy, .slice az m cz] 33)).alloc (.cells #[.int .i64 0, .slice none 0 0] 29)) = W := ⟨_, rfl⟩
  rw [hW] at BA VA RA HF
  obtain ⟨v0, v1, v2, v3, v4, v5⟩ := VA.out
  go_enter Tryz.func9, Tryz.ntmps9
  go_wp2_with fail
  clear hW
  refine HF.out.mono ?_
  rintro e w1 ⟨rfl, hb⟩
  have BB := hide (below_on BA.out hb)
  have VB := hide (VA.out.later hb)
  have RB : Hid (w1.cell? ⟨w.heap.size + 1, 0, none⟩ = some (.int .i64 0) ∧ w1.cell? ⟨w.heap.size + 1, 1, none⟩ = some (.slice none 0 0) ∧ (∀ o, w1.frozen? ⟨w.heap.size + 1, o, none⟩ = false) ∧ w.heap.size + 1 < w1.heap.size) := ⟨cell_later hb RA.out.1, cell_later hb RA.out.2.1, fun o => ((bcell hb).2 _ _ RA.out.2.2.2).trans (RA.out.2.2.1 o), Nat.lt_of_lt_of_le RA.out.2.2.2 hb.size⟩
  clear hb v0 v1 v2 v3 v4 v5 VA RA BA
  by_cases h0 : Z = 0
  · subst h0
    have hRe := HOk.out (by first | trivial | rfl)
    subst hRe
    have HTt := hide (HT.out (by first | trivial | rfl) _ BB.out)
    obtain ⟨v0, v1, v2, v3, v4, v5⟩ := VB.out
    go_wp2_with fail
    refine (storeBlocksM a b c d ay l cy az m cz _).mono ?_
    rintro e wq ⟨rfl, hwq⟩
    have hbq : Below w1.heap.size w1 wq := by rw [hwq]; exact below_alloc _ _
    rw [← hwq] at HTt
    clear v0 v1 v2 v3 v4 v5 hwq
    go_wp2_with fail
    refine HTt.out.mono ?_
    rintro e w2 ⟨u, rfl, hb, ho⟩
    replace hb := below_on hbq hb
    clear hbq
    have RC : Hid (w2.cell? ⟨w.heap.size + 1, 0, none⟩ = some (.int .i64 0) ∧ w2.cell? ⟨w.heap.size + 1, 1, none⟩ = some (.slice none 0 0) ∧ (∀ o, w2.frozen? ⟨w.heap.size + 1, o, none⟩ = false) ∧ w.heap.size + 1 < w2.heap.size) := ⟨cell_later hb RB.out.1, cell_later hb RB.out.2.1, fun o => ((bcell hb).2 _ _ RB.out.2.2.2).trans (RB.out.2.2.1 o), Nat.lt_of_lt_of_le RB.out.2.2.2 hb.size⟩
    have BC := hide (below_on BB.out hb)
    have hz1 := RB.out.2.2.2
    have hzb := hb.size
    have HFn := hide (ret_putsS (r := w.heap.size + 1) (x := .int .i64 0) BC.out (by omega) ho (fun b hb => ⟨by omega, hb.2⟩))
    obtain ⟨au, nu, cu, hu⟩ : ∃ au nu cu, u = .slice au nu cu := by obtain ⟨x1, x2, x3, _⟩ := ho.rd; exact ⟨_, _, _, x3⟩
    subst hu
    clear hb ho HTt HT VB RB BB hzb hz1
    obtain ⟨c0, c1, F0, F1⟩ := RC.out
    have f0 := F0 0
    have f1 := F0 1
    clear F0 F1
    go_wp2
    refine bodyPost_ret (v := .agg #[.int .i64 0, .slice au nu cu]) (by simp [results, Tryz.results9, go_sem, c0, c1]) rfl ⟨_, rfl, HFn.out.1, HFn.out.2⟩
  · have hRe := HBad.out h0
    subst hRe
    have h0b : (Z == 0) = false := by simpa using h0
    have h0c : (Z != 0) = true := by simp [h0]
    have HFn := hide (ret_putsS (r := w.heap.size + 1) (x := .int .i64 Z) BB.out (by omega) (OwP_nil (fun _ => False) w1) (fun b hb => hb.elim))
    clear h0
    obtain ⟨v0, v1, v2, v3, v4, v5⟩ := VB.out
    obtain ⟨c0, c1, F0, F1⟩ := RB.out
    have f0 := F0 0
    have f1 := F0 1
    clear F0 F1
    go_wp2
    refine bodyPost_ret (v := .agg #[.int .i64 Z, .slice none 0 0]) (by simp [results, Tryz.results9, go_sem, c0, c1]) rfl ⟨_, rfl, HFn.out.1, HFn.out.2⟩
end Go.Proofs.YtlmaopljihbdkaaGreat
/- Chapter 11: 'spec.ImageOf', walked. Made by program (genim6.py, out of Sn4). -/
namespace Go.Proofs.YtlmaopljihbdkaaGreat
open Go.RowKit

theorem l11ImageQ {S T : Nat → Prop} {w : World} {bk : Nat} {y z : Value} (r : Rf) (hv : Var6 w bk (.int .i64 r.tm) (.int .i64 r.vt) (.int .i64 r.si) (.int .i64 r.st) y z) (hy : RdI S w y r.sn) (hz : RdJ T w z r.lg) (h : rfF r = 0) :
    Calls Tryz.prog 32 #[.pointer (some ⟨bk, 0, none⟩)] w fun e w' => ∃ v, e = .returned v ∧ Below w.heap.size w w' ∧ OwP (fun b => w.heap.size ≤ b ∧ b < w'.heap.size) w' v (imP r) := l11ImageP r hv hy hz h
theorem imP_words {r : Rf} (h : rfF r = 0) (i : Nat) : ((imP r).getD i (0, [])).2.length ≤ 64 := by
  by_cases hi : i < (imP r).length
  · have hm : (imP r).getD i (0, []) ∈ imP r := by simp [List.getD, hi]
    have h2 := ((st_laid h).mem _).1 hm
    obtain ⟨j, hj, e⟩ := List.getElem_of_mem h2
    have h3 := st_words h j
    rw [show (stP r).getD j (0, []) = (stP r)[j] by simp [List.getD, hj], e] at h3
    exact h3
  · simp [List.getD, List.getElem?_eq_none (show (imP r).length ≤ i by omega)]
theorem imR_tot (r : Rf) : totP (imR r) (imR r).length ≤ 1048576 := by
  unfold imR
  split
  · rename_i h
    have h1 := totP_le11 (imP_words h) _ (Nat.le_refl _)
    have h2 := (st_len h).1
    have h3 := im_len h
    rw [h3] at h1 ⊢
    omega
  · simp [totP]

set_option maxHeartbeats 2000000 in
set_option maxRecDepth 4000 in
theorem specImageOf {S T : Nat → Prop} {w : World} {y z : Value} (r : Rf) (hy : RdI S w y r.sn) (hz : RdJ T w z r.lg) :
    Calls Tryz.prog 7 #[.agg #[.int .i64 r.tm, .int .i64 r.vt, .int .i64 r.si, .int .i64 r.st, y, z]] w (EndsP (rfF r) (imR r) w) := by
  obtain ⟨ay, cy, rfl⟩ := hy.shape
  obtain ⟨az, cz, rfl, _⟩ := hz.shape
  have BA0 := below_on (below_alloc w (.cells #[.int .i64 r.tm, .int .i64 r.vt, .int .i64 r.si, .int .i64 r.st, .slice ay r.sn.length cy, .slice az r.lg.length cz] 33)) (below_alloc _ (.cells #[.int .i64 0, .slice none 0 0] 29))
  have VA0 := (Var6_new w (.int .i64 r.tm) (.int .i64 r.vt) (.int .i64 r.si) (.int .i64 r.st) (.slice ay r.sn.length cy) (.slice az r.lg.length cz) 33).later (below_alloc _ (.cells #[.int .i64 0, .slice none 0 0] 29))
  have HF := hide (l10Fault r VA0 (hy.later BA0) (hz.later BA0))
  have HT := hide (fun (h : rfF r = 0) (w' : World) (hb : Below w.heap.size w w') (hv : Var6 w' w.heap.size (.int .i64 r.tm) (.int .i64 r.vt) (.int .i64 r.si) (.int .i64 r.st) (.slice ay r.sn.length cy) (.slice az r.lg.length cz)) => l11ImageQ r hv (hy.later hb) (hz.later hb) h)
  have BA := hide BA0
  have VA := hide VA0
  clear BA0 VA0
  have HOk := hide (@imR_ok r)
  have HBad := hide (@imR_bad r)
  obtain ⟨Z, hZ⟩ : ∃ Z, rfF r = Z := ⟨_, rfl⟩
  obtain ⟨R, hR⟩ : ∃ R, imR r = R := ⟨_, rfl⟩
  obtain ⟨L, hL⟩ : ∃ L, imP r = L := ⟨_, rfl⟩
  rw [hZ] at HF HT HOk HBad ⊢
  rw [hR] at HOk HBad ⊢
  rw [hL] at HOk HT
  clear hZ hR hL hy hz
  generalize r.sn.length = l at *
  generalize r.lg.length = m at *
  generalize r.tm = a at *
  generalize r.vt = b at *
  generalize r.si = c at *
  generalize r.st = d at *
  have RA : Hid (((w.alloc (.cells #[.int .i64 a, .int .i64 b, .int .i64 c, .int .i64 d, .slice ay l cy, .slice az m cz] 33)).alloc (.cells #[.int .i64 0, .slice none 0 0] 29)).cell? ⟨w.heap.size + 1, 0, none⟩ = some (.int .i64 0) ∧ ((w.alloc (.cells #[.int .i64 a, .int .i64 b, .int .i64 c, .int .i64 d, .slice ay l cy, .slice az m cz] 33)).alloc (.cells #[.int .i64 0, .slice none 0 0] 29)).cell? ⟨w.heap.size + 1, 1, none⟩ = some (.slice none 0 0) ∧ (∀ o, ((w.alloc (.cells #[.int .i64 a, .int .i64 b, .int .i64 c, .int .i64 d, .slice ay l cy, .slice az m cz] 33)).alloc (.cells #[.int .i64 0, .slice none 0 0] 29)).frozen? ⟨w.heap.size + 1, o, none⟩ = false) ∧ w.heap.size + 1 < ((w.alloc (.cells #[.int .i64 a, .int .i64 b, .int .i64 c, .int .i64 d, .slice ay l cy, .slice az m cz] 33)).alloc (.cells #[.int .i64 0, .slice none 0 0] 29)).heap.size) := by
    refine ⟨?_, ?_, ?_, ?_⟩
    · simp [go_sem]
    · simp [go_sem]
    · intro o; simp [go_sem]
    · simp
  obtain ⟨W, hW⟩ : ∃ W, ((w.alloc (.cells #[.int .i64 a, .int .i64 b, .int .i64 c, .int .i64 d, .slice ay l cy, .slice az m cz] 33)).alloc (.cells #[.int .i64 0, .slice none 0 0] 29)) = W := ⟨_, rfl⟩
  rw [hW] at BA VA RA HF
  obtain ⟨v0, v1, v2, v3, v4, v5⟩ := VA.out
  go_enter Tryz.func7, Tryz.ntmps7
  go_wp2_with fail
  clear hW
  refine HF.out.mono ?_
  rintro e w1 ⟨rfl, hb⟩
  have BB := hide (below_on BA.out hb)
  have VB := hide (VA.out.later hb)
  have RB : Hid (w1.cell? ⟨w.heap.size + 1, 0, none⟩ = some (.int .i64 0) ∧ w1.cell? ⟨w.heap.size + 1, 1, none⟩ = some (.slice none 0 0) ∧ (∀ o, w1.frozen? ⟨w.heap.size + 1, o, none⟩ = false) ∧ w.heap.size + 1 < w1.heap.size) := ⟨cell_later hb RA.out.1, cell_later hb RA.out.2.1, fun o => ((bcell hb).2 _ _ RA.out.2.2.2).trans (RA.out.2.2.1 o), Nat.lt_of_lt_of_le RA.out.2.2.2 hb.size⟩
  clear hb v0 v1 v2 v3 v4 v5 VA RA BA
  by_cases h0 : Z = 0
  · subst h0
    have hRe := HOk.out (by first | trivial | rfl)
    subst hRe
    have HTt := hide (HT.out (by first | trivial | rfl) _ BB.out VB.out)
    obtain ⟨v0, v1, v2, v3, v4, v5⟩ := VB.out
    go_wp2_with fail
    refine HTt.out.mono ?_
    rintro e w2 ⟨u, rfl, hb, ho⟩
    have RC : Hid (w2.cell? ⟨w.heap.size + 1, 0, none⟩ = some (.int .i64 0) ∧ w2.cell? ⟨w.heap.size + 1, 1, none⟩ = some (.slice none 0 0) ∧ (∀ o, w2.frozen? ⟨w.heap.size + 1, o, none⟩ = false) ∧ w.heap.size + 1 < w2.heap.size) := ⟨cell_later hb RB.out.1, cell_later hb RB.out.2.1, fun o => ((bcell hb).2 _ _ RB.out.2.2.2).trans (RB.out.2.2.1 o), Nat.lt_of_lt_of_le RB.out.2.2.2 hb.size⟩
    have BC := hide (below_on BB.out hb)
    have hz1 := RB.out.2.2.2
    have hzb := hb.size
    have HFn := hide (ret_putsS (r := w.heap.size + 1) (x := .int .i64 0) BC.out (by omega) ho (fun b hb => ⟨by omega, hb.2⟩))
    obtain ⟨au, nu, cu, hu⟩ : ∃ au nu cu, u = .slice au nu cu := by obtain ⟨x1, x2, x3, _⟩ := ho.rd; exact ⟨_, _, _, x3⟩
    subst hu
    clear hb ho v0 v1 v2 v3 v4 v5 HTt HT VB RB BB hzb hz1
    obtain ⟨c0, c1, F0, F1⟩ := RC.out
    have f0 := F0 0
    have f1 := F0 1
    clear F0 F1
    go_wp2
    refine bodyPost_ret (v := .agg #[.int .i64 0, .slice au nu cu]) (by simp [results, Tryz.results7, go_sem, c0, c1]) rfl ⟨_, rfl, HFn.out.1, HFn.out.2⟩
  · have hRe := HBad.out h0
    subst hRe
    have h0b : (Z == 0) = false := by simpa using h0
    have h0c : (Z != 0) = true := by simp [h0]
    have HFn := hide (ret_putsS (r := w.heap.size + 1) (x := .int .i64 Z) BB.out (by omega) (OwP_nil (fun _ => False) w1) (fun b hb => hb.elim))
    clear h0
    obtain ⟨v0, v1, v2, v3, v4, v5⟩ := VB.out
    obtain ⟨c0, c1, F0, F1⟩ := RB.out
    have f0 := F0 0
    have f1 := F0 1
    clear F0 F1
    go_wp2
    refine bodyPost_ret (v := .agg #[.int .i64 Z, .slice none 0 0]) (by simp [results, Tryz.results7, go_sem, c0, c1]) rfl ⟨_, rfl, HFn.out.1, HFn.out.2⟩
end Go.Proofs.YtlmaopljihbdkaaGreat
