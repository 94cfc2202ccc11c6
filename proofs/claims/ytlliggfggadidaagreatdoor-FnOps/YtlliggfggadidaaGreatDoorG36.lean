/- En6 Lo1 MathOp Ra6a Ra6 Lwh Open OpenB Dor in one text: what each says stands at its head below. -/
import Derived.Test.YtlliggfggadidaaGreatDoorG04
import Derived.Test.YtlliggfggadidaaGreatDoorG31
import Derived.Test.YtlliggfggadidaaGreatDoorG32
import Derived.Test.YtlliggfggadidaaGreatDoorG30
import Derived.Test.YtlliggfggadidaaGreatDoorG23
import Derived.Test.YtlliggfggadidaaGreatDoorG03
import Derived.Test.YtlliggfggadidaaGreatDoorG12
import Derived.BigQuiet
import Derived.Test.YtlliggfggadidaaGreatDoorG01
import Derived.ProofKit
import Derived.Lib.SmallJoins
import Derived.Deep.SlicePairs
import Derived.Test.YtlliggfggadidaaGreatDoorRows
import Derived.Test.YtlliggfggadidaaGreatDoorG06
import Derived.ChangeVars
import Derived.LaidLaws
import Derived.LaidHandle
import Derived.Stop.LaidErr
import Derived.Stop.LaidTwo
import Derived.Stop.JoinedAt
namespace Go.Proofs.YtlliggfggadidaaGreatDoor
open Go.RowKit
def sfC (i : Int) : Int := if 1 ≤ i ∧ i ≤ 9999 then 0 else 3
def sfV (i : Int) : Int := if 1 ≤ i ∧ i ≤ 9999 then 24 + i % 14 else 0
theorem sf_mod {i : Int} (h : 1 ≤ i) : Int.tmod i 14 = i % 14 := Int.tmod_eq_emod_of_nonneg (by omega)
set_option maxRecDepth 4000 in
theorem implSlotFor (i : Int) (w : World) :
    Calls Tryz.prog 28 #[.int .i64 i] w fun e w' => e = .returned (.agg #[.int .i64 (sfC i), .int .i64 (sfV i)]) ∧ Below w.heap.size w w' := by
  unfold sfC sfV
  have A0 := hide (below_alloc w (.cells #[.int .i64 0, .int .i64 0] 60))
  by_cases h : 1 ≤ i ∧ i ≤ 9999
  · rw [if_pos h, if_pos h]
    have HI := hide h
    have hm := sf_mod h.1
    have hr : 0 ≤ i % 14 ∧ i % 14 < 14 := ⟨Int.emod_nonneg _ (by decide), Int.emod_lt_of_pos _ (by decide)⟩
    generalize i % 14 = r at hm hr ⊢
    clear h
    go_enter Tryz.func28, Tryz.ntmps28
    go_wp2_with fail
    refine (isIndexY i HI.out.1 HI.out.2 _).mono ?_
    rintro e w1 ⟨rfl, hw⟩
    have hw := hw.symm
    subst hw
    go_wp2
    refine bodyPost_ret (v := .agg #[.int .i64 0, .int .i64 (24 + r)]) (by simp [results, Tryz.results28, go_sem]) rfl ⟨rfl, ?_⟩
    repeat (first | exact A0.out | exact below_alloc _ _ | refine Below.setCell ?_ (by first | (simp; done) | (simp; omega) | omega) _)
  · rw [if_neg h, if_neg h]
    have HI := hide h
    clear h
    go_enter Tryz.func28, Tryz.ntmps28
    go_wp2_with fail
    refine (isIndexN i HI.out _).mono ?_
    rintro e w1 ⟨rfl, hw⟩
    have hw := hw.symm
    subst hw
    go_wp2
    refine bodyPost_ret (v := .agg #[.int .i64 3, .int .i64 0]) (by simp [results, Tryz.results28, go_sem]) rfl ⟨rfl, ?_⟩
    repeat (first | exact A0.out | exact below_alloc _ _ | refine Below.setCell ?_ (by first | (simp; done) | (simp; omega) | omega) _)
end Go.Proofs.YtlliggfggadidaaGreatDoor
namespace Go.Proofs.YtlliggfggadidaaGreatDoor
open Go.RowKit
def lkH (a : Int) : List Int := if a = 3 ∨ a = 4 then [0, 1] else []
def lkS (ps : List Oj) : List Int := ps.map fun e => 24 + e.1 % 14
def lkU (a : Int) (ps : List Oj) : List Int := 2 :: (lkH a ++ lkS ps)
def lkQ (a : Int) (ps : List Oj) : List Int := (lkU a ps).mergeSort (fun x y => decide (x ≤ y))
theorem lkQ_up (a : Int) (ps : List Oj) : (lkQ a ps).Pairwise (· ≤ ·) := by
  have h := List.pairwise_mergeSort (le := fun (x y : Int) => decide (x ≤ y)) (fun a b c h1 h2 => by simp at *; omega) (fun a b => by simp; omega) (lkU a ps)
  exact h.imp (fun h => by simpa using h)
theorem lkS_in (ps : List Oj) : ∀ x, x ∈ lkS ps → 24 ≤ x ∧ x < 38 := fun x hx => by
  obtain ⟨e, _, rfl⟩ := List.mem_map.1 hx
  omega
theorem lkU_len (a : Int) (ps : List Oj) : (lkU a ps).length ≤ 3 + ps.length := by
  unfold lkU lkH lkS
  split <;> simp <;> omega
theorem lkQ_len (a : Int) (ps : List Oj) : (lkQ a ps).length = (lkU a ps).length := (List.mergeSort_perm _ _).length_eq
theorem lkS_take (ps : List Oj) (k : Nat) (h : k < ps.length) : lkS (ps.take (k + 1)) = lkS (ps.take k) ++ [24 + (ps.getD k oj0).1 % 14] := by
  have e : (ps.getD k oj0) = ps[k] := by simp [List.getD, h]
  rw [e, List.take_succ_eq_append_getElem h]
  unfold lkS
  rw [List.map_append]
  rfl
def lkA (r : Rf) : List Int := if opF r = 0 then lkQ r.tm r.lg else []
theorem lkA_ok {r : Rf} (h : opF r = 0) : lkA r = lkQ r.tm r.lg := by unfold lkA; rw [if_pos h]
theorem lkA_no {r : Rf} (h : opF r ≠ 0) : lkA r = [] := by unfold lkA; rw [if_neg h]
theorem lkA_len (r : Rf) : (lkA r).length ≤ 7 := by
  by_cases h : opF r = 0
  · rw [lkA_ok h, lkQ_len]
    have := lkU_len r.tm r.lg
    have := (opF_ok h).2.1
    omega
  · rw [lkA_no h]; simp
theorem op_index {r : Rf} (h : opF r = 0) (k : Nat) (hk : k < r.lg.length) : 1 ≤ (r.lg.getD k oj0).1 ∧ (r.lg.getD k oj0).1 ≤ 9999 := (entF_zero ((logF_iff.1 (opF_ok h).2.2.2).2.1 k hk)).1.1
structure ResL (w wr : World) (r : Nat) : Prop where
  below : Below w.heap.size w wr
  v : Var2 wr r (.int .i64 0) (.slice none 0 0)
  fr : ∀ o, wr.frozen? ⟨r, o, none⟩ = false
  ge : w.heap.size ≤ r
theorem ResL.later {w wr w1 : World} {r : Nat} (h : ResL w wr r) (hb : Below wr.heap.size wr w1) : ResL w w1 r := ⟨below_on h.below hb, h.v.later hb, fun o => ((bcell hb).2 _ _ h.v.lt).trans (h.fr o), h.ge⟩
theorem ResL.start (w : World) (o : Obj) (t : TypeId) : ResL w ((w.alloc o).alloc (.cells #[.int .i64 0, .slice none 0 0] t)) (w.heap.size + 1) := by
  have h := Var2_new (w.alloc o) (.int .i64 0) (.slice none 0 0) t
  rw [World.size_alloc] at h
  exact ⟨below_on (below_alloc _ _) (below_alloc _ _), h, fun q => by simp [go_sem], by omega⟩
theorem ret_list {w w3 : World} {r : Nat} {x0 y : Value} {xs : List Int} (hb : Below w.heap.size w w3) (hr : w.heap.size ≤ r) (ho : OwI (r + 1) w3 y xs) :
    Below w.heap.size w ((w3.setCell ⟨r, 0, none⟩ x0).setCell ⟨r, 1, none⟩ y) ∧ OwI w.heap.size ((w3.setCell ⟨r, 0, none⟩ x0).setCell ⟨r, 1, none⟩ y) y xs := by
  have hw : Wr (fun q => q = r) w3 ((w3.setCell ⟨r, 0, none⟩ x0).setCell ⟨r, 1, none⟩ y) := ((Wr.refl (fun q => q = r) _).setCell (p := ⟨r, 0, none⟩) rfl _).setCell (p := ⟨r, 1, none⟩) rfl _
  exact ⟨(hb.setCell (p := ⟨r, 0, none⟩) hr _).setCell (p := ⟨r, 1, none⟩) hr _, (ho.wr hw (fun b hb _ => by omega)).mono (by omega)⟩
end Go.Proofs.YtlliggfggadidaaGreatDoor
namespace Go.Proofs.YtlliggfggadidaaGreatDoor
open Go.RowKit
theorem kept_self {r : Rf} (h : rfF r = 0) : keptB r r = true := (kept_ok h h (by
  rintro (q | ⟨_, q, q2⟩)
  · omega
  · exact q2 rfl) (Int.le_refl _)).symm
theorem kept_app {r : Rf} {i t : Int} {l : List Oj} (h : apRC r i t l = 0) : keptB r (apRR r i t l) = true := by
  have h0 := (ap_ok_iff.1 h).rf
  have h1 := ap_rf2 h
  have e : apRR r i t l = { r with lg := apL r i l } := by unfold apRR; rw [if_pos h]
  rw [e] at h1 ⊢
  exact (kept_ok h0 h1 (by
    rintro (q | ⟨_, q, q2⟩)
    · exact absurd q (by show ¬ r.tm < r.tm; omega)
    · exact q2 rfl) (Int.le_refl _)).symm
theorem lkS_nodup {ps : List Oj} (h : logF ps = 0) (hl : ps.length ≤ 4) : (lkS ps).Nodup := by
  unfold lkS
  show List.Pairwise (· ≠ ·) _
  rw [List.pairwise_map, List.pairwise_iff_getElem]
  intro i j hi hj hij e
  have k1 := log_at h i hi
  have k2 := log_at h j hj
  have g1 : ps.getD i oj0 = ps[i] := by simp [List.getD, hi]
  have g2 : ps.getD j oj0 = ps[j] := by simp [List.getD, hj]
  rw [g1] at k1
  rw [g2] at k2
  rw [k1, k2] at e
  omega
theorem lkU_nodup {a : Int} {ps : List Oj} (h : logF ps = 0) (hl : ps.length ≤ 4) : (lkU a ps).Nodup := by
  have hS := lkS_nodup h hl
  have hH : (lkH a).Nodup := by unfold lkH; split <;> simp
  have hm : ∀ x, x ∈ lkH a → x ≤ 1 := fun x hx => by
    unfold lkH at hx
    split at hx
    · simp at hx; omega
    · simp at hx
  unfold lkU
  rw [List.nodup_cons, List.mem_append]
  refine ⟨?_, ?_⟩
  · rintro (hx | hx)
    · have := hm _ hx; omega
    · have := lkS_in ps _ hx; omega
  · rw [List.nodup_append]
    exact ⟨hH, hS, fun x hx y hy => by have := hm _ hx; have := lkS_in ps _ hy; omega⟩
theorem lkQ_strict {a : Int} {ps : List Oj} (h : logF ps = 0) (hl : ps.length ≤ 4) : (lkQ a ps).Pairwise (· < ·) := by
  have hn : (lkQ a ps).Nodup := (List.mergeSort_perm _ _).symm.nodup (lkU_nodup h hl)
  have hu := lkQ_up a ps
  exact (List.Pairwise.and hu hn).imp (fun h => by have h1 := h.1; have h2 := h.2; omega)
structure OpLaw (r o X : Rf) : Prop where
  r0 : rfF r = 0
  of : opF o = 0
  rf : rfF X = 0
  kept : keptB r X = true
  same : (doY r o ≠ 0 ∨ o.tm = 5) → X = r
  meta_ : 2 ∈ lkA o
  up : ∀ j, 1 ≤ j → j < (lkA o).length → (lkA o).getD (j - 1) 0 < (lkA o).getD j 0
theorem op_law {r o : Rf} (h : doC r o = 0) : OpLaw r o (doR r o) := by
  have h0 : rfF r = 0 := by
    unfold doC at h
    by_cases k : rfF r = 0
    · exact k
    · rw [if_pos k] at h; exact h
  have h1 : opF o = 0 := by
    unfold doC at h
    rw [if_neg (fun k => k h0)] at h; exact h
  obtain ⟨_, hY, _, hR⟩ := do_ok h0 h1
  obtain ⟨_, hl4, _, hlog⟩ := opF_ok h1
  have hA := lkA_ok h1
  have hself := kept_self h0
  rw [hR]
  have hc : rfF (dyR r o) = 0 ∧ keptB r (dyR r o) = true ∧ ((dyC r o ≠ 0 ∨ o.tm = 5) → dyR r o = r) := by
    rcases op_kind h1 with k | k | k | k | k
    · obtain ⟨e1, _, e3⟩ := dy1 (r := r) k
      rw [e1, e3]
      by_cases hz : shC r o.si o.st = 0
      · rw [if_pos hz]
        exact ⟨sh_rf hz, (hd_law hz).1, fun q => q.elim (fun q => absurd hz q) (fun q => by omega)⟩
      · rw [if_neg hz]; exact ⟨h0, hself, fun _ => rfl⟩
    · obtain ⟨e1, _, e3⟩ := dy2 (r := r) k
      rw [e1, e3]
      by_cases hz : apRC r o.vt o.si o.lg = 0
      · rw [if_pos hz]
        exact ⟨ap_rf2 hz, kept_app hz, fun q => q.elim (fun q => absurd hz q) (fun q => by omega)⟩
      · rw [if_neg hz]; exact ⟨h0, hself, fun _ => rfl⟩
    · obtain ⟨e1, _, e3⟩ := dy3 (r := r) k
      rw [e1, e3]
      by_cases hz : cpC r o.vt o.sn = 0
      · rw [if_pos hz]
        exact ⟨cp_rf hz, (cp_law hz).kept, fun q => q.elim (fun q => absurd hz q) (fun q => by omega)⟩
      · rw [if_neg hz]; exact ⟨h0, hself, fun _ => rfl⟩
    · obtain ⟨e1, _, e3⟩ := dy4 (r := r) k
      rw [e1, e3]
      by_cases hz : inC r o.vt o.si o.sn = 0
      · rw [if_pos hz]
        exact ⟨in_rf hz, (in_law hz).kept, fun q => q.elim (fun q => absurd hz q) (fun q => by omega)⟩
      · rw [if_neg hz]; exact ⟨h0, hself, fun _ => rfl⟩
    · obtain ⟨_, _, e3⟩ := dy5 (r := r) k
      rw [e3]
      exact ⟨h0, hself, fun _ => rfl⟩
  refine ⟨h0, h1, hc.1, hc.2.1, fun q => hc.2.2 (by rw [hY] at q; exact q), ?_, fun j hj1 hj2 => ?_⟩
  · rw [hA]
    exact (List.mergeSort_perm _ _).symm.subset (by unfold lkU; simp)
  · rw [hA] at hj2 ⊢
    have hp := List.pairwise_iff_getElem.1 (lkQ_strict (a := o.tm) hlog hl4) (j - 1) j (by omega) hj2 (by omega)
    simp only [List.getD, List.getElem?_eq_getElem hj2, List.getElem?_eq_getElem (show j - 1 < (lkQ o.tm o.lg).length by omega), Option.getD_some]
    exact hp
end Go.Proofs.YtlliggfggadidaaGreatDoor
namespace Go.Proofs.YtlliggfggadidaaGreatDoor
open Go.RowKit
def sameR (r s : Rf) : Bool := decide (r.tm = s.tm ∧ r.vt = s.vt ∧ r.si = s.si ∧ r.st = s.st ∧ r.sn = s.sn ∧ r.lg = s.lg)
end Go.Proofs.YtlliggfggadidaaGreatDoor
namespace Go.Proofs.YtlliggfggadidaaGreatDoor
open Go.RowKit
set_option maxHeartbeats 4000000 in
set_option maxRecDepth 4000 in
theorem implSameRafts {S T S' T' : Nat → Prop} {w : World} {yr zr ys zs : Value} (r s : Rf) (hyr : RdI S w yr r.sn) (hzr : RdJ T w zr r.lg) (hys : RdI S' w ys s.sn) (hzs : RdJ T' w zs s.lg) :
    Calls Tryz.prog 12 #[.agg #[.int .i64 r.tm, .int .i64 r.vt, .int .i64 r.si, .int .i64 r.st, yr, zr], .agg #[.int .i64 s.tm, .int .i64 s.vt, .int .i64 s.si, .int .i64 s.st, ys, zs]] w fun e w' => e = .returned (.bool (sameR r s)) ∧ Below w.heap.size w w' := by
  obtain ⟨ayr, cyr, rfl⟩ := hyr.shape
  obtain ⟨azr, czr, rfl, _⟩ := hzr.shape
  obtain ⟨ays, cys, rfl⟩ := hys.shape
  obtain ⟨azs, czs, rfl, _⟩ := hzs.shape
  have H1 := hide (fun (w' : World) (hb : Below w.heap.size w w') => slicesEqualR (hyr.later hb) (hys.later hb))
  have H2 := hide (fun (w' : World) (hb : Below w.heap.size w w') => implSameEntries (hzr.later hb) (hzs.later hb))
  have HZ : Hid (sameR r s = decide (r.tm = s.tm ∧ r.vt = s.vt ∧ r.si = s.si ∧ r.st = s.st ∧ r.sn = s.sn ∧ r.lg = s.lg)) := rfl
  obtain ⟨Z, hZ⟩ : ∃ Z, sameR r s = Z := ⟨_, rfl⟩
  rw [hZ] at HZ ⊢
  clear hZ
  generalize r.sn.length = lr at *
  generalize s.sn.length = ls at *
  generalize r.lg.length = mr at *
  generalize s.lg.length = ms at *
  obtain ⟨B5, hB5⟩ : ∃ B, decide (r.sn = s.sn) = B := ⟨_, rfl⟩
  obtain ⟨B6, hB6⟩ : ∃ B, decide (r.lg = s.lg) = B := ⟨_, rfl⟩
  rw [hB5] at H1
  rw [hB6] at H2
  have K5 := hide hB5
  have K6 := hide hB6
  clear hyr hzr hys hzs hB5 hB6
  generalize r.tm = a at *
  generalize s.tm = a' at *
  generalize r.vt = b at *
  generalize s.vt = b' at *
  generalize r.si = c at *
  generalize s.si = c' at *
  generalize r.st = d at *
  generalize s.st = d' at *
  have BA := hide (below_on (below_alloc w (.cells #[.int .i64 a, .int .i64 b, .int .i64 c, .int .i64 d, .slice ayr lr cyr, .slice azr mr czr] 27)) (below_alloc _ (.cells #[.int .i64 a', .int .i64 b', .int .i64 c', .int .i64 d', .slice ays ls cys, .slice azs ms czs] 27)))
  have VR := hide ((Var6_new w (.int .i64 a) (.int .i64 b) (.int .i64 c) (.int .i64 d) (.slice ayr lr cyr) (.slice azr mr czr) 27).later (below_alloc _ (.cells #[.int .i64 a', .int .i64 b', .int .i64 c', .int .i64 d', .slice ays ls cys, .slice azs ms czs] 27)))
  by_cases qa : a = a'
  · subst qa
    by_cases qb : b = b'
    · subst qb
      by_cases qc : c = c'
      · subst qc
        by_cases qd : d = d'
        · subst qd
          go_enter Tryz.func12, Tryz.ntmps12
          go_wp2_with fail
          refine (H1.out _ BA.out).mono ?_
          rintro e w1 ⟨rfl, q, rfl⟩
          cases B5
          · have HE : Hid (false = Z) := by rw [Hid, HZ.out]; exact (decide_eq_false (fun h => of_decide_eq_false K5.out h.2.2.2.2.1)).symm
            go_wp2
            go_ret
            exact ⟨by rw [← HE.out]; rfl, below_on BA.out (below_drewN _ _)⟩
          · go_wp2_with fail
            refine (H2.out _ (below_on BA.out (below_drewN _ _))).mono ?_
            rintro e w2 ⟨rfl, hb⟩
            have HE : Hid (B6 = Z) := by
              rw [Hid, HZ.out, ← K6.out]
              exact decide_eq_decide.2 ⟨fun h => ⟨by first | trivial | rfl, by first | trivial | rfl, by first | trivial | rfl, by first | trivial | rfl, of_decide_eq_true K5.out, h⟩, fun h => h.2.2.2.2.2⟩
            have BB := hide (below_on (below_on BA.out (below_drewN _ _)) hb)
            clear hb
            go_wp2
            go_ret
            exact ⟨by rw [← HE.out]; rfl, BB.out⟩
        · have qdb : (d == d') = false := by simpa using qd
          have qdc : decide (d = d') = false := by simpa using qd
          have HE : Hid (false = Z) := by rw [Hid, HZ.out]; exact (decide_eq_false (fun h => qd h.2.2.2.1)).symm
          clear qd
          go_enter Tryz.func12, Tryz.ntmps12
          go_wp2
          go_ret
          exact ⟨by rw [← HE.out]; rfl, BA.out⟩
      · have qcb : (c == c') = false := by simpa using qc
        have qcc : decide (c = c') = false := by simpa using qc
        have HE : Hid (false = Z) := by rw [Hid, HZ.out]; exact (decide_eq_false (fun h => qc h.2.2.1)).symm
        clear qc
        go_enter Tryz.func12, Tryz.ntmps12
        go_wp2
        go_ret
        exact ⟨by rw [← HE.out]; rfl, BA.out⟩
    · have qbb : (b == b') = false := by simpa using qb
      have qbc : decide (b = b') = false := by simpa using qb
      have HE : Hid (false = Z) := by rw [Hid, HZ.out]; exact (decide_eq_false (fun h => qb h.2.1)).symm
      clear qb
      go_enter Tryz.func12, Tryz.ntmps12
      go_wp2
      go_ret
      exact ⟨by rw [← HE.out]; rfl, BA.out⟩
  · have qab : (a == a') = false := by simpa using qa
    have qac : decide (a = a') = false := by simpa using qa
    have HE : Hid (false = Z) := by rw [Hid, HZ.out]; exact (decide_eq_false (fun h => qa h.1)).symm
    clear qa
    go_enter Tryz.func12, Tryz.ntmps12
    go_wp2
    go_ret
    exact ⟨by rw [← HE.out]; rfl, BA.out⟩
end Go.Proofs.YtlliggfggadidaaGreatDoor
namespace Go.Proofs.YtlliggfggadidaaGreatDoor
open Go.RowKit
set_option maxHeartbeats 1000000 in
set_option maxRecDepth 4000 in
theorem lwHas {S : Nat → Prop} {w : World} {v : Value} {xs : List Int} (a : Int) (hv : RdI S w v xs) (ha : a ∈ xs) :
    Calls Tryz.prog 14 #[v, .int .i64 a] w fun e w' => e = .returned (.bool true) ∧ w' = w := by
  have HV := hide hv
  have hml : xs.length ≤ 9223372036854775807 := by obtain ⟨_, _, _, h, _⟩ := hv; exact h
  obtain ⟨ao, c, rfl⟩ := hv.shape
  obtain ⟨n, hn⟩ : ∃ n, xs.length = n := ⟨_, rfl⟩
  have HN := hide hn
  have HA : Hid (∃ j, j < n ∧ xs.getD j 0 = a) := by
    obtain ⟨j, hj, e⟩ := List.mem_iff_getElem.1 ha
    exact ⟨j, by omega, by simp [List.getD, hj, e]⟩
  rw [hn] at HV hml ⊢
  clear hv hn ha
  go_enter Tryz.func14, Tryz.ntmps14
  go_wp2
  go_loopw [5] (fun i wr => ∃ k : Nat, k ≤ n ∧ i = .int .i64 (k : Int) ∧ Hid (∀ j, j < k → xs.getD j 0 ≠ a) ∧ wr = w) (fun i _ => n - (RowKit.intOf i).toNat)
  case atStart => exact ⟨0, Nat.zero_le _, rfl, fun j hj => absurd hj (Nat.not_lt_zero _), rfl⟩
  case round =>
    obtain ⟨k, hk, rfl, HB, rfl⟩ := hrel
    by_cases hlt : k < n
    · obtain ⟨b, off, rfl, q1⟩ : ∃ b off, ao = some ⟨b, off, none⟩ ∧ wr.cell? ⟨b, off + k, none⟩ = some (.int .i64 (xs.getD k 0)) := by
        obtain ⟨ao', c', e, _, h3⟩ := HV.out
        injection e with e1 _ _
        obtain ⟨b, off, f1, _, f3⟩ := h3 (by rintro rfl; have := HN.out; simp at this; omega)
        exact ⟨b, off, e1.trans f1, f3 k (by rw [HN.out]; exact hlt)⟩
      obtain ⟨x, hx⟩ : ∃ x, xs.getD k 0 = x := ⟨_, rfl⟩
      have HX := hide hx
      rw [hx] at q1
      have hk0 : (0 : Int) ≤ (k : Int) := Int.natCast_nonneg _
      have hk1 : (k : Int) < (n : Int) := by omega
      clear hx
      by_cases hxa : x = a
      · subst hxa
        go_wp2
        go_ret
        exact ⟨rfl, rfl⟩
      · have hxb : (x == a) = false := by simpa using hxa
        have HB' : Hid (∀ j, j < k + 1 → xs.getD j 0 ≠ a) := fun j hj => by
          by_cases e : j = k
          · subst e; rw [HX.out]; exact hxa
          · exact HB.out j (by omega)
        go_wp2
        go_roundw
        case rel => exact ⟨k + 1, hlt, by go_num, HB'.out, by trivial⟩
        case measure => simp [RowKit.intOf]; omega
    · exfalso
      obtain ⟨j, hj, e⟩ := HA.out
      exact HB.out j (by omega) e
end Go.Proofs.YtlliggfggadidaaGreatDoor
namespace Go.Proofs.YtlliggfggadidaaGreatDoor
open Go.ChangeShapes Go.WideShapes Go.ChangeAt Go.RowKit Go.Deep
theorem Tryz.own : ownKnob Tryz.prog.godebug = none := by kernel_rfl
theorem Tryz.laidOut : laidOutB Tryz.prog = true := by kernel_rfl
theorem addr_plain {w : World} {a : Addr} {v : Value} (h : w.cell? a = some v) : a = ⟨a.block, a.off, none⟩ := by
  obtain ⟨b, o, s⟩ := a
  cases s with
  | none => rfl
  | some k =>
    unfold World.cell? at h
    revert h
    cases w.heap[(⟨b, o, some k⟩ : Addr).block]? with
    | none => intro h; cases h
    | some ob => cases ob <;> intro h <;> simp at h
theorem addr_add (b o i : Nat) : (⟨b, o, none⟩ : Addr).add i = ⟨b, o + i, none⟩ := Addr.add_lit ..
section
variable {H : Type} {enc : TypeId × Value → H} {w : World}
end
end Go.Proofs.YtlliggfggadidaaGreatDoor
namespace Go.Proofs.YtlliggfggadidaaGreatDoor
open Go.ChangeShapes Go.WideShapes Go.ChangeAt Go.RowKit Go.Deep
theorem Tryz.cellsByte : Tryz.prog.cellsOf 5 = 1 := by kernel_rfl
theorem u8_wf {n : Int} (h : (Lit.int .u8 n).wf = true) : 0 ≤ n ∧ n ≤ 255 := by
  have e1 : IntKind.u8.min = 0 := by decide
  have e2 : IntKind.u8.max = 255 := by decide
  simp only [Lit.wf, e1, e2, Bool.and_eq_true, decide_eq_true_eq] at h
  exact h
section
variable {H : Type} {enc : TypeId × Value → H} {w : World}
set_option maxRecDepth 100000 in
theorem rdB_of {r : Reach} {b0 : Nat} {v : Value} {d : DataW H} {p : List MemPlace} (hv : Value.okWide Tryz.prog w r b0 22 v) (h : DataW.Trod enc Tryz.prog w 0 (fun _ => true) true 22 v d p) :
    (∃ bs, bs.length ≤ 1048576 ∧ RdB w.heap.size w v bs) ∨ ∃ ao n c, v = .slice ao n c ∧ 1048576 < n ∧ n ≤ 9223372036854775807 := by
  obtain ⟨a0, len0, cap0, rfl⟩ := okWide_slice Tryz.underlying22 hv
  obtain ⟨fuel, hf⟩ := h
  have hf' : DataW.trod enc Tryz.prog w 0 (fun _ => true) true fuel 22 [.slice a0 len0 cap0] = some (d, p) := by simpa [Value.cells] using hf
  rcases open_ints Tryz.underlying22 Tryz.underlying5 Tryz.cellsByte hf' with ⟨hcs, _⟩ | ⟨a, len, cap, zs, hcs, _, hl, hm, hz, _, hcell, hwf⟩
  · simp at hcs
    obtain ⟨rfl, rfl, rfl⟩ := hcs
    exact Or.inl ⟨[], by simp, none, 0, by simp, by simp, fun h => absurd rfl h⟩
  · simp at hcs
    obtain ⟨rfl, rfl, rfl⟩ := hcs
    simp only [if_true] at hz
    unfold maxLen at hm
    by_cases hbig : 1048576 < len0
    · exact Or.inr ⟨some a, len0, cap0, rfl, hbig, by omega⟩
    · left
      have hlen : ((zs.take len0).map Int.toNat).length = len0 := by simp; omega
      refine ⟨(zs.take len0).map Int.toNat, by rw [hlen]; omega, some a, cap0, by rw [hlen], by rw [hlen]; omega, fun hne => ?_⟩
      have hpos : 0 < len0 := by rw [← hlen]; exact List.length_pos_iff.2 hne
      have e := addr_plain (hcell 0 (by omega))
      have e0 : a.add 0 = a := by simp [Addr.add]
      rw [e0] at e
      have hb := World.block_lt_of_cell? _ _ (hcell 0 (by omega))
      rw [e0] at hb
      refine ⟨a.block, a.off, by rw [← e], by omega, fun i hi => ?_⟩
      rw [hlen] at hi
      have hmem : zs.getD i 0 ∈ zs := by
        have : i < zs.length := by omega
        simp [List.getD, this]
      have hw8 := u8_wf (hwf _ hmem)
      have e2 : ((zs.take len0).map Int.toNat).getD i 0 = (zs.getD i 0).toNat := by
        have : i < zs.length := by omega
        simp [List.getD, hi, this]
      rw [e2]
      refine ⟨?_, by omega⟩
      rw [← addr_add, ← e, hcell i (by omega), Int.toNat_of_nonneg hw8.1]
end
end Go.Proofs.YtlliggfggadidaaGreatDoor
namespace Go.Proofs.YtlliggfggadidaaGreatDoor
open Go.ChangeShapes Go.WideShapes Go.ChangeAt Go.RowKit
open Go.Extern.Stop Go.Stop Go.Extern
theorem Tryz.gN : Tryz.prog.globalNamed "loop.example/g00311/impl.errNotYet" = some 0 := by kernel_rfl
theorem Tryz.gNType : (Tryz.prog.globals[0]?).map (·.type) = some 72 := by kernel_rfl
theorem Tryz.gE : Tryz.prog.globalNamed "errors.errorType" = some 1 := by kernel_rfl
theorem Tryz.rt : (Tryz.prog.cutTypes.find? (·.1 == "internal/reflectlite.rtype")).map (·.2) = some 176 := by kernel_rfl
theorem Tryz.oneRow : ((List.range 225).filter fun t => Tryz.prog.rowNamed t [101, 114, 114, 111, 114]) = [72] := by kernel_rfl
theorem Tryz.tsize : Tryz.prog.types.size = 225 := by kernel_rfl
theorem Tryz.cellsE : Tryz.prog.cellsOf 213 = 1 := by kernel_rfl
theorem Tryz.cellsStr : Tryz.prog.cellsOf 9 = 1 := by kernel_rfl
theorem starE : "*" ++ "errors.errorString" = "*errors.errorString" := by decide
theorem Tryz.rowE (u : TypeId) (h : Tryz.prog.typeName? 3 u = some "*errors.errorString") : u = 191 :=
  typeName_ptr_named (nm := "errors.errorString") (by rw [starE]; kernel_rfl) (by kernel_rfl) (by decide) u (by rw [starE]; exact h)
def laidL : List (String × DataW Unit) := [("errors.errorType", Rows.laid_errors_errorType), ("loop.example/g00311/impl.errNotYet", Rows.laid_loop_example_g00311_impl_errNotYet)]
theorem gl_of_laid {W : World} (h : laidMetH Tryz.prog laidL W) : ∃ a, W.var? Tryz.prog "loop.example/g00311/impl.errNotYet" = some #[.iface 191 (.pointer (some a))] ∧ Gl W := by
  have h' : laidMet Tryz.prog [("loop.example/g00311/impl.errNotYet", Rows.laid_loop_example_g00311_impl_errNotYet)] W ∧ handlesMet Tryz.prog [("errors.errorType", Rows.laid_errors_errorType)] W := h
  obtain ⟨name, u, ty, e1, e2, e3, e4, e5⟩ := h'.2 _ (List.mem_singleton.2 rfl)
  have en : name = [101, 114, 114, 111, 114] := (Option.some.inj e1).symm
  subst en
  obtain rfl := Option.some.inj (Tryz.rt.symm.trans e2)
  have hm : ty ∈ (List.range 225).filter fun t => Tryz.prog.rowNamed t [101, 114, 114, 111, 114] := List.mem_filter.2 ⟨List.mem_range.2 (by rw [← Tryz.tsize]; exact e3), e4⟩
  rw [Tryz.oneRow] at hm
  obtain rfl := List.mem_singleton.1 hm
  have hh : typeHandle Tryz.prog 72 = .pointer (some ⟨2, 72, none⟩) := by kernel_rfl
  rw [hh] at e5
  obtain ⟨a, s, hv, _⟩ := laid_sentinel h'.1 Tryz.gN Tryz.gNType Tryz.underlying72 Tryz.rowE Tryz.underlying191 Tryz.underlying213 rfl rfl Tryz.underlying9 Tryz.cellsE Tryz.cellsStr
  exact ⟨a, hv, ⟨a, by simpa using World.var?_cell Tryz.gN hv 0⟩, by simpa using World.var?_cell Tryz.gE e5 0⟩
abbrev yetS : ByteArray := { data := #[110, 111, 116, 104, 105, 110, 103, 32, 105, 115, 32, 116, 104, 101, 114, 101, 32, 121, 101, 116] }
noncomputable def lowW : Nat := (World.holding Tryz.prog default ⟨#[], #[], []⟩).heap.size
noncomputable def laidWorld (os : Os) : World :=
  let w0 := World.holding Tryz.prog os ⟨#[.cells #[.string yetS] 213], #[], []⟩
  { w0 with heap := (w0.heap.modify 0 fun
      | .cells _ t frozen => .cells #[.iface 191 (.pointer (some ⟨lowW, 0, none⟩))] t frozen
      | o => o).modify 1 fun
      | .cells _ t frozen => .cells #[.iface 176 (.agg #[.pointer (some ⟨2, 72, none⟩)])] t frozen
      | o => o }
theorem laidWorld_met (os : Os) (args : Array Value) : laidMetH Tryz.prog laidL ((laidWorld os).forCall (fun _ _ => 0) ⟨#[], args, []⟩).memory :=
  laidMetH_of_parts (laidMet_of_run (ps := [.cell 0 0, .cell lowW 0]) 8 (by kernel_rfl) (by kernel_rfl) (by kernel_rfl)) (by kernel_rfl)
theorem vars_read {H : Type} (enc : TypeId × Value → H) {W : World} {x0 : Value} (h0 : W.var? Tryz.prog "loop.example/g00311/impl.errNotYet" = some #[x0]) (i0 : IsIface x0) (sp : Nat → Bool) :
    DataW.TrodVars enc Tryz.prog W sp ["loop.example/g00311/impl.errNotYet"] [tok enc x0] [.cell 0 0] :=
  ⟨0, 72, #[x0], 1, [], [], Tryz.gN, Tryz.gNType, h0, trod_held Tryz.underlying72 i0 0, rfl, rfl⟩
theorem var_below {W W' : World} {n : String} {cs : Array Value} (h : W.var? Tryz.prog n = some cs) (hb : Below W.heap.size W W') : W'.var? Tryz.prog n = some cs := by
  unfold World.var? at h ⊢
  cases hg : Tryz.prog.globalNamed n with
  | none => simp [hg] at h
  | some g =>
    simp only [hg, Option.bind_some] at h ⊢
    have hlt : g < W.heap.size := by
      rcases Nat.lt_or_ge g W.heap.size with h' | h'
      · exact h'
      · simp [Array.getElem?_eq_none h'] at h
    rw [hb.block g hlt]
    exact h
end Go.Proofs.YtlliggfggadidaaGreatDoor
