/- Ap1 Built3 BuiltEn Tear Spec2 Impl2 Spec2b in one text: what each says stands at its head below. -/
import Derived.Test.YtlljcajfdeiigaaGreatDoorG18
import Derived.Test.YtlljcajfdeiigaaGreatDoorG13
import Derived.Test.YtlljcajfdeiigaaGreatDoorG12
import Derived.Test.YtlljcajfdeiigaaGreatDoorG16
import Derived.Test.YtlljcajfdeiigaaGreatDoorG04
import Derived.Test.YtlljcajfdeiigaaGreatDoorG02
import Derived.Deep.AppendLies
import Derived.Test.YtlljcajfdeiigaaGreatDoorG03
/- Chapter 10: what 'AppendRaft' asks ahead of all, of the program. Made by program (genap1.py). -/
namespace Go.Proofs.YtlljcajfdeiigaaGreatDoor
open Go.RowKit

/-- The code of an append but for what is too long. -/
def apF (r : Rf) (i t : Int) (l : List Oj) : Int :=
  if rfF r ≠ 0 then rfF r else if logF l ≠ 0 then logF l else if ¬ fitR r i t l then 1 else if tmC r i ≠ 0 then tmC r i else if tmV r i ≠ t then 10 else 0
theorem af_bad {r : Rf} {i t : Int} {l : List Oj} (h : rfF r ≠ 0) : apF r i t l = rfF r := by unfold apF; rw [if_pos h]
theorem af_log {r : Rf} {i t : Int} {l : List Oj} (h : rfF r = 0) (h1 : logF l ≠ 0) : apF r i t l = logF l := by unfold apF; rw [if_neg (by simp [h]), if_pos h1]
theorem af_fit {r : Rf} {i t : Int} {l : List Oj} (h : rfF r = 0) (h1 : logF l = 0) (h2 : decide (gon l i t r.tm) = false) : apF r i t l = 1 := by
  unfold apF; rw [if_neg (by simp [h]), if_neg (by simp [h1]), if_pos (fun h3 => of_decide_eq_false h2 ((gon_fit r i t l).2 h3))]
theorem af_term {r : Rf} {i t : Int} {l : List Oj} (h : rfF r = 0) (h1 : logF l = 0) (h2 : decide (gon l i t r.tm) = true) : apF r i t l = if tmC r i ≠ 0 then tmC r i else if tmV r i ≠ t then 10 else 0 := by
  unfold apF; rw [if_neg (by simp [h]), if_neg (by simp [h1]), if_neg (fun h3 => h3 ((gon_fit r i t l).1 (of_decide_eq_true h2)))]
theorem log_head {l : List Oj} (h : logF l = 0) (hne : l ≠ []) : 1 ≤ (l.getD 0 oj0).1 ∧ (l.getD 0 oj0).1 ≤ 9999 :=
  (entF_zero ((logF_iff.1 h).2.1 0 (List.length_pos_iff.2 hne))).1.1

set_option maxHeartbeats 4000000 in
set_option maxRecDepth 4000 in
theorem appendFaultI {S T U : Nat → Prop} {w : World} {y z v : Value} {ls : List Oj} (r : Rf) (i t : Int) (hg : Gl w) (hy : RdI S w y r.sn) (hz : RdJ T w z r.lg) (hv : RdJ U w v ls) :
    Calls Tryz.prog 92 #[.agg #[.int .i64 r.tm, .int .i64 r.vt, .int .i64 r.si, .int .i64 r.st, y, z], .int .i64 i, .int .i64 t, v] w fun e w' => e = .returned (.int .i64 (apF r i t ls)) ∧ Below w.heap.size w w' := by
  obtain ⟨ay, cy, rfl⟩ := hy.shape
  obtain ⟨az, cz, rfl, _⟩ := hz.shape
  obtain ⟨av, cv, rfl, _⟩ := hv.shape
  have HG := hide hg
  have HF := hide (fun (w' : World) (hb : Below w.heap.size w w') => implRaftFault r (hy.later hb) (hz.later hb))
  have HLf := hide (fun (w' : World) (hb : Below w.heap.size w w') => implLogFault (hv.later hb))
  have HGo := hide (fun (h : logF ls = 0) (w' : World) (hb : Below w.heap.size w w') => goesOnB i t r.tm (hv.later hb) (log_head h))
  have HT := hide (fun (hm : r.lg.length ≤ 14) (w' : World) (hb : Below w.heap.size w w') => termsOfI r (hy.later hb) (hz.later hb) hm)
  have HI := hide (fun h => rfF_iff (r := r) |>.1 h)
  have HBad := hide (@af_bad r i t ls)
  have HLog := hide (@af_log r i t ls)
  have HFit := hide (@af_fit r i t ls)
  have HTerm := hide (@af_term r i t ls)
  have HLo := hide (@tm_lo r i)
  have HHi := hide (@tm_hi r i)
  have HIn := hide (@tm_in r i)
  have HAt := hide (@trm_at r i)
  have HTl : Hid ((trmL r).length = r.lg.length + 1) := by simp [Hid, trmL]
  have HLast : Hid (lastR r = r.si + (r.lg.length : Int)) := rfl
  obtain ⟨G, hG⟩ : ∃ x, decide (gon ls i t r.tm) = x := ⟨_, rfl⟩
  simp only [hG] at HGo HFit HTerm
  obtain ⟨A, hA⟩ : ∃ A, apF r i t ls = A := ⟨_, rfl⟩
  rw [hA] at HBad HLog HFit HTerm ⊢
  obtain ⟨Z, hZ⟩ : ∃ Z, rfF r = Z := ⟨_, rfl⟩
  rw [hZ] at HF HI HBad HLog HFit HTerm
  obtain ⟨D, hD⟩ : ∃ D, logF ls = D := ⟨_, rfl⟩
  simp only [hD] at HLf HGo HLog HFit HTerm
  obtain ⟨TC, hTC⟩ : ∃ x, tmC r i = x := ⟨_, rfl⟩
  obtain ⟨TV, hTV⟩ : ∃ x, tmV r i = x := ⟨_, rfl⟩
  simp only [hTC, hTV] at HTerm HLo HHi HIn HAt
  clear hG hA hZ hD hTC hTV hy hz hv hg
  generalize r.sn.length = l at *
  obtain ⟨m, hm⟩ : ∃ m, r.lg.length = m := ⟨_, rfl⟩
  simp only [hm] at HF HT HTl HLast ⊢
  have HM := hide hm
  clear hm
  have HRs := hide (fun h => (HI.out h).rg.2.1)
  have HLm := hide (fun h => (logF_iff.1 (HI.out h).lo).1)
  simp only [HM.out] at HLm
  generalize ls.length = ll at *
  obtain ⟨a, ha⟩ : ∃ x, r.tm = x := ⟨_, rfl⟩
  obtain ⟨b, hb⟩ : ∃ x, r.vt = x := ⟨_, rfl⟩
  obtain ⟨c, hc⟩ : ∃ x, r.si = x := ⟨_, rfl⟩
  obtain ⟨d, hd⟩ : ∃ x, r.st = x := ⟨_, rfl⟩
  simp only [ha, hb, hc, hd] at HF HT HGo ⊢
  simp only [hc] at HLo HHi HIn HAt HRs HLast
  clear ha hb hc hd
  have BA := hide (below_alloc w (.cells #[.int .i64 a, .int .i64 b, .int .i64 c, .int .i64 d, .slice ay l cy, .slice az m cz] 32))
  have VA := hide (Var6_new w (.int .i64 a) (.int .i64 b) (.int .i64 c) (.int .i64 d) (.slice ay l cy) (.slice az m cz) 32)
  obtain ⟨W, hW⟩ : ∃ W, w.alloc (.cells #[.int .i64 a, .int .i64 b, .int .i64 c, .int .i64 d, .slice ay l cy, .slice az m cz] 32) = W := ⟨_, rfl⟩
  rw [hW] at BA VA
  obtain ⟨v0, v1, v2, v3, v4, v5⟩ := VA.out
  go_enter Tryz.func92, Tryz.ntmps92
  go_wp2_with fail
  (try rw [hW])
  refine (HF.out _ BA.out).mono ?_
  rintro e w1 ⟨rfl, hb⟩
  have BB := hide (below_on BA.out hb)
  have VB := hide (VA.out.later hb)
  clear hb v0 v1 v2 v3 v4 v5 VA
  clear hW
  obtain ⟨v0, v1, v2, v3, v4, v5⟩ := VB.out
  by_cases h0 : Z = 0
  · subst h0
    go_wp2_with fail
    refine (HLf.out _ BB.out).mono ?_
    rintro e w2 ⟨rfl, hb⟩
    have BC := hide (below_on BB.out hb)
    have VC := hide (VB.out.later hb)
    clear hb v0 v1 v2 v3 v4 v5 VB
    obtain ⟨v0, v1, v2, v3, v4, v5⟩ := VC.out
    by_cases h1 : D = 0
    · subst h1
      have HGp := hide (HGo.out (by first | trivial | rfl))
      go_wp2_with fail
      refine (HGp.out _ BC.out).mono ?_
      rintro e w3 ⟨rfl, hb⟩
      have BD := hide (below_on BC.out hb)
      have VD := hide (VC.out.later hb)
      clear hb v0 v1 v2 v3 v4 v5 VC
      obtain ⟨v0, v1, v2, v3, v4, v5⟩ := VD.out
      cases G
      · obtain rfl := HFit.out (by first | trivial | rfl) (by first | trivial | rfl) (by first | trivial | rfl)
        go_wp2
        go_ret
        exact ⟨rfl, BD.out⟩
      · have hAe := HTerm.out (by first | trivial | rfl) (by first | trivial | rfl) (by first | trivial | rfl)
        have hml := HLm.out (by first | trivial | rfl)
        have hrs := HRs.out (by first | trivial | rfl)
        have HTt := hide (HT.out hml)
        go_wp2_with fail
        refine (HTt.out _ BD.out).mono ?_
        rintro e w4 ⟨u, rfl, hb, hu⟩
        have BE := hide (below_on BD.out hb)
        have VE := hide (VD.out.later hb)
        clear hb v0 v1 v2 v3 v4 v5 VD
        have HU := hide hu
        obtain ⟨au, cu, hue⟩ := hu.shape
        rw [HTl.out] at hue
        subst hue
        clear hu
        obtain ⟨⟨pa, hpa⟩, hp2⟩ := HG.out.later BE.out
        have HPa := hide hpa
        clear hpa hp2
        by_cases hlo : i < c
        · obtain ⟨rfl, rfl⟩ := HLo.out hlo
          rw [if_pos (by decide)] at hAe
          subst hAe
          have HAt1 := hide (atLoI c i au (m + 1) cu hlo)
          clear hlo
          go_wp2_with fail
          refine (HAt1.out _).mono ?_
          rintro e w5 ⟨rfl, hb⟩
          have BF := hide (below_on BE.out hb)
          clear hb
          have hne := run_neq_iface_nilR (P := Tryz.prog) w5 128 (.agg #[.int .i64 c]) Tryz.underlying110
          go_wp2_with fail
          refine (codeOver c _ (HG.out.later BF.out)).mono ?_
          rintro e w6 ⟨rfl, hb⟩
          have BH := hide (below_on BF.out hb)
          clear hb hne
          go_wp2
          go_ret
          exact ⟨rfl, BH.out⟩
        · by_cases hhi : c + (m : Int) < i
          · obtain ⟨rfl, rfl⟩ := HHi.out (by omega) (by rw [HLast.out]; omega)
            rw [if_pos (by decide)] at hAe
            subst hAe
            have HAt1 := hide (atHiI c i au (m + 1) cu hrs.1 (by omega) (by omega) (by push_cast; omega) _ pa HPa.out)
            clear hlo hhi
            go_wp2_with fail
            refine (HAt1.out).mono ?_
            rintro e w5 ⟨rfl, hb⟩
            have HPb := hide (cell_later hb HPa.out)
            have BF := hide (below_on BE.out hb)
            clear hb
            have hne := run_neq_iface_nilR (P := Tryz.prog) w5 168 (.pointer (some pa)) Tryz.underlying110
            go_wp2_with fail
            refine (codeYet pa _ (HG.out.later BF.out) HPb.out).mono ?_
            rintro e w6 ⟨rfl, hb⟩
            have BH := hide (below_on BF.out hb)
            clear hb hne
            go_wp2
            go_ret
            exact ⟨rfl, BH.out⟩
          · obtain rfl := HIn.out (by omega) (by rw [HLast.out]; omega)
            have HAt1 := hide (atInI c i HU.out hrs.1 (by omega) (by rw [HTl.out]; omega) (by omega) (by rw [HTl.out]; push_cast; omega))
            rw [HAt.out (by omega) (by rw [HLast.out]; omega)] at HAt1
            rw [if_neg (by simp)] at hAe
            clear hlo hhi
            go_wp2_with fail
            refine (HAt1.out).mono ?_
            rintro e w5 ⟨rfl, hb⟩
            have BF := hide (below_on BE.out hb)
            clear hb
            have hne := run_neq_nil_nilR (P := Tryz.prog) w5 Tryz.underlying110
            by_cases hte : TV = t
            · subst hte
              rw [if_neg (by simp)] at hAe
              subst hAe
              go_wp2
              go_ret
              exact ⟨rfl, BF.out⟩
            · rw [if_pos hte] at hAe
              subst hAe
              have ht1 : (TV == t) = false := by simpa using hte
              have ht2 : (TV != t) = true := by simp [hte]
              clear hte
              go_wp2
              go_ret
              exact ⟨rfl, BF.out⟩
    · obtain rfl := HLog.out (by first | trivial | rfl) h1
      have h0b : (A == 0) = false := by simpa using h1
      have h0c : (A != 0) = true := by simp [h1]
      clear h1
      go_wp2
      go_ret
      exact ⟨rfl, BC.out⟩
  · obtain rfl := HBad.out h0
    have h0b : (A == 0) = false := by simpa using h0
    have h0c : (A != 0) = true := by simp [h0]
    clear h0
    go_wp2
    go_ret
    exact ⟨rfl, BB.out⟩
end Go.Proofs.YtlljcajfdeiigaaGreatDoor
/- 'spec.l1Puts' and 'spec.l1Copy', walked. -/
namespace Go.Proofs.YtlljcajfdeiigaaGreatDoor
open Go.RowKit
end Go.Proofs.YtlljcajfdeiigaaGreatDoor
/- Chapter 9: entries that are built by append. Made by program (genen.py). -/
namespace Go.Proofs.YtlljcajfdeiigaaGreatDoor
open Go.RowKit


/-- The cells of k entries. -/
def cellsEn (ts : List Oj) (k : Nat) (V : Nat → Value) : List Value :=
  (List.range (k * 3)).map fun t => if t % 3 = 0 then .int .i64 (ts.getD (t / 3) oj0).1 else if t % 3 = 1 then .int .i64 (ts.getD (t / 3) oj0).2.1 else V (t / 3)
theorem cellsEn_len (ts : List Oj) (k : Nat) (V : Nat → Value) : (cellsEn ts k V).length = k * 3 := by simp [cellsEn]
theorem cellsEn_flg (ts : List Oj) (k : Nat) (V : Nat → Value) (i : Nat) (h : i < k) : (cellsEn ts k V)[i * 3]? = some (.int .i64 (ts.getD i oj0).1) := by
  unfold cellsEn
  rw [List.getElem?_map, List.getElem?_range (by omega)]
  simp only [Option.map_some]
  rw [if_pos (by omega), show i * 3 / 3 = i by omega]
theorem cellsEn_num (ts : List Oj) (k : Nat) (V : Nat → Value) (i : Nat) (h : i < k) : (cellsEn ts k V)[i * 3 + 1]? = some (.int .i64 (ts.getD i oj0).2.1) := by
  unfold cellsEn
  rw [List.getElem?_map, List.getElem?_range (by omega)]
  simp only [Option.map_some]
  rw [if_neg (by omega), if_pos (by omega), show (i * 3 + 1) / 3 = i by omega]
theorem cellsEn_words (ts : List Oj) (k : Nat) (V : Nat → Value) (i : Nat) (h : i < k) : (cellsEn ts k V)[i * 3 + 2]? = some (V i) := by
  unfold cellsEn
  rw [List.getElem?_map, List.getElem?_range (by omega)]
  simp only [Option.map_some]
  rw [if_neg (by omega), if_neg (by omega), show (i * 3 + 2) / 3 = i by omega]
theorem cellsEn_next (ts : List Oj) (k : Nat) (V : Nat → Value) : cellsEn ts (k + 1) V = cellsEn ts k V ++ [.int .i64 (ts.getD k oj0).1, .int .i64 (ts.getD k oj0).2.1, V k] := by
  unfold cellsEn
  rw [show (k + 1) * 3 = k * 3 + 1 + 1 + 1 by omega, List.range_succ, List.range_succ, List.range_succ]
  simp only [List.map_append, List.append_assoc, List.map_cons, List.map_nil, List.singleton_append]
  congr 1
  rw [if_pos (by omega), if_neg (by omega), if_pos (by omega), if_neg (by omega), if_neg (by omega), show k * 3 / 3 = k by omega, show (k * 3 + 1) / 3 = k by omega, show (k * 3 + 1 + 1) / 3 = k by omega]
  rfl
theorem cellsEn_congr (ts : List Oj) (k : Nat) (V V' : Nat → Value) (h : ∀ i, i < k → V i = V' i) : cellsEn ts k V = cellsEn ts k V' := by
  unfold cellsEn
  refine List.map_congr_left fun t ht => ?_
  have := List.mem_range.1 ht
  rw [h (t / 3) (by omega)]
theorem cellsEn_ext (ts ts' : List Oj) (k : Nat) (V : Nat → Value) (h : ∀ i, i < k → ts.getD i oj0 = ts'.getD i oj0) : cellsEn ts k V = cellsEn ts' k V := by
  unfold cellsEn
  refine List.map_congr_left fun t ht => ?_
  have := List.mem_range.1 ht
  rw [h (t / 3) (by omega)]
/-- k entries have been built. -/
def BuiltEn (P : Nat → Prop) (w : World) (v : Value) (k : Nat) (ts : List Oj) : Prop :=
  ∃ V Bk, w.ownsRow 0 76 3 v k (cellsEn ts k V) ∧ (∀ r, v.ownBlock = some r → P r) ∧ Inner P w v.ownBlock k V Bk (fun i => (ts.getD i oj0).2.2)
theorem BuiltEn.nil (P : Nat → Prop) (w : World) (ts : List Oj) : BuiltEn P w (.slice none 0 0) 0 ts :=
  ⟨fun _ => .bool false, fun _ => 0, World.ownsRow_nil _ _ _ _, fun _ h => (by cases h), Inner.zero _ _ _ _ _ _⟩
theorem BuiltEn.empty (w : World) (P : Nat → Prop) (hP : P w.heap.size) (ts : List Oj) : BuiltEn P (w.alloc (.cells #[] 76)) (.slice (some ⟨w.heap.size, 0, none⟩) 0 0) 0 ts :=
  ⟨fun _ => .bool false, fun _ => 0, World.ownsRow_made w #[] 0 (Nat.zero_le _) (by unfold maxLen; omega) (by simp), fun r h => by injection h with h; subst h; exact hP, Inner.zero _ _ _ _ _ _⟩
theorem BuiltEn.later {P : Nat → Prop} {w w' : World} {v : Value} {k : Nat} {ts : List Oj} (h : BuiltEn P w v k ts) (hb : Below w.heap.size w w') : BuiltEn P w' v k ts := by
  obtain ⟨V, Bk, h1, h2, h3⟩ := h
  exact ⟨V, Bk, ownsRow_later h1 hb, h2, h3.later hb⟩
theorem BuiltEn.mono {P P' : Nat → Prop} {w : World} {v : Value} {k : Nat} {ts : List Oj} (h : BuiltEn P w v k ts) (hP : ∀ b, P b → b < w.heap.size → P' b) : BuiltEn P' w v k ts := by
  obtain ⟨V, Bk, h1, h2, h3⟩ := h
  exact ⟨V, Bk, h1, fun r hr => hP r (h2 r hr) (h1.lt r hr).2, h3.mono hP⟩
theorem BuiltEn.shape {P : Nat → Prop} {w : World} {v : Value} {k : Nat} {ts : List Oj} (h : BuiltEn P w v k ts) : ∃ ao c, v = .slice ao k c := by
  obtain ⟨V, Bk, h1, _⟩ := h
  rcases h1.2 with ⟨rfl, e⟩ | ⟨g, cap, cur, rfl, _⟩
  · exact ⟨none, 0, by rw [e]⟩
  · exact ⟨_, _, rfl⟩
theorem BuiltEn.step {P P' : Nat → Prop} {w w1 w2 w3 : World} {v z : Value} {k g cap : Nat} {V : Nat → Value} {Bk : Nat → Nat} {ts : List Oj} (hi : Inner P w v.ownBlock k V Bk (fun i => (ts.getD i oj0).2.2)) (hr : w.ownsRow 0 76 3 v k (cellsEn ts k V)) (hpr : ∀ r, v.ownBlock = some r → P r)
    (hP : ∀ b, P b → P' b) (hN : ∀ b, w.heap.size ≤ b → P' b) (hb1 : Below w.heap.size w w1) (hz : OwI w.heap.size w1 z (ts.getD k oj0).2.2) (hb2 : Below w1.heap.size w1 w2)
    (hown : w3.ownsRow 0 76 3 (.slice (some ⟨g, 0, none⟩) (k + 1) cap) (k + 1) (cellsEn ts k V ++ [.int .i64 (ts.getD k oj0).1, .int .i64 (ts.getD k oj0).2.1, z])) (hg : w2.grownBy w3 v.ownBlock) (hat : v.ownBlock = some g ∨ g = w2.heap.size) :
    BuiltEn P' w3 (.slice (some ⟨g, 0, none⟩) (k + 1) cap) (k + 1) ts := by
  obtain ⟨Bk', h⟩ := hi.step hP hN (fun r hr' => (hr.lt r hr').2) hb1 hz hb2 hg hat
  refine ⟨_, Bk', ?_, fun r hr' => ?_, h⟩
  · rw [cellsEn_next, cellsEn_congr ts k _ V (fun i hi => by rw [if_neg (by omega)]), if_pos rfl]
    exact hown
  · injection hr' with hr'
    subst hr'
    rcases hat with hat | hat
    · exact hP _ (hpr _ hat)
    · have h1 := hb1.size
      have h2 := hb2.size
      exact hN _ (by dsimp only; omega)
theorem BuiltEn.ow {P : Nat → Prop} {w : World} {v : Value} {k : Nat} {ts : List Oj} (h : BuiltEn P w v k ts) (hk : ts.length = k) (hm : k ≤ 9223372036854775807) : OwJ (fun b => P b ∧ b < w.heap.size) w v ts := by
  obtain ⟨V, Bk, h1, hpr, h2⟩ := h
  subst hk
  rcases h1.2 with ⟨rfl, e⟩ | ⟨g, cap, cur, rfl, hg, hh, _⟩
  · have : ts = [] := List.eq_nil_of_length_eq_zero e
    subst this
    exact OwJ_nil _ _
  · refine ⟨_, cap, g, 0, V, Bk, rfl, hm, fun _ => ⟨rfl, ⟨hpr g rfl, (Array.getElem?_eq_some_iff.1 hh).1⟩, fun o => h1.frozenAt o⟩, fun i hi => ⟨?_, ?_, ?_, h2.rd i hi, fun hn => ?_⟩⟩
    · rw [Nat.zero_add, h1.cellAt (i * 3) (by omega)]
      exact cellsEn_flg _ _ _ _ hi
    · rw [Nat.zero_add, h1.cellAt (i * 3 + 1) (by omega)]
      exact cellsEn_num _ _ _ _ hi
    · rw [Nat.zero_add, h1.cellAt (i * 3 + 2) (by omega)]
      exact cellsEn_words _ _ _ _ hi
    · obtain ⟨k1, k2, k3, k4, k5⟩ := h2.own i hi hn
      exact ⟨⟨k1, k2⟩, fun e => k4 (by rw [e]; rfl), k3, k5⟩
theorem cellsEn_one {x y : Int} {ao : Option Addr} {n c : Nat} : ∀ u ∈ ([.int .i64 x, .int .i64 y, .slice ao n c] : List Value), u.oneCell' = true := by
  intro u hu
  simp at hu
  rcases hu with rfl | rfl | rfl <;> rfl
/-- The end of a function that stores a code and entries into its result's variable. -/
theorem ret_entries {w w3 : World} {P : Nat → Prop} {r : Nat} {z x : Value} {ts : List Oj} (hb : Below w.heap.size w w3) (hr : w.heap.size ≤ r) (ho : OwJ P w3 z ts) (hP : ∀ b, P b → r < b ∧ b < w3.heap.size) :
    Below w.heap.size w ((w3.setCell ⟨r, 0, none⟩ x).setCell ⟨r, 1, none⟩ z) ∧ OwJ (fun b => w.heap.size ≤ b ∧ b < ((w3.setCell ⟨r, 0, none⟩ x).setCell ⟨r, 1, none⟩ z).heap.size) ((w3.setCell ⟨r, 0, none⟩ x).setCell ⟨r, 1, none⟩ z) z ts := by
  have hw : Wr (fun y => y = r) w3 ((w3.setCell ⟨r, 0, none⟩ x).setCell ⟨r, 1, none⟩ z) := ((Wr.refl (fun y => y = r) _).setCell (p := ⟨r, 0, none⟩) rfl _).setCell (p := ⟨r, 1, none⟩) rfl _
  exact ⟨(hb.setCell (p := ⟨r, 0, none⟩) hr _).setCell (p := ⟨r, 1, none⟩) hr _, (ho.wr hw (fun b h1 e => by have := (hP b h1).1; omega)).mono fun b h1 => by have := hP b h1; simp; omega⟩
theorem Tryz.infoEn : (Tryz.prog.info? 76).map (fun i => (i.zero, i.size, i.bytes)) = some (some (.agg #[.int .i64 0, .int .i64 0, .slice none 0 0]), 3, 40) := by kernel_rfl
end Go.Proofs.YtlljcajfdeiigaaGreatDoor
/- What a block holds if just so much of what was put is there: 'spec.l1Half', 'spec.l1Tear', walked. -/
namespace Go.Proofs.YtlljcajfdeiigaaGreatDoor
open Go.RowKit
theorem RdI_nil (S : Nat → Prop) (w : World) (ao : Option Addr) (c : Nat) : RdI S w (.slice ao 0 c) [] := ⟨ao, c, by simp, by simp, fun h => absurd rfl h⟩

/-- What a block holds behind a tear. -/
def tearA (old next : List Int) (pick : Int) : List Int := if pick = 1 ∨ pick = 2 then next.take 32 else old.take 32
def tearB (old next : List Int) (pick : Int) : List Int := if pick = 1 ∨ pick = 3 then next.drop 32 else old.drop 32
/-- a, filled up with words 0 where b is not empty, and b behind it. -/
def joinT (a b : List Int) : List Int := if b = [] then a else a ++ List.replicate (32 - a.length) 0 ++ b
def tear (old next : List Int) (pick : Int) : List Int := joinT (tearA old next pick) (tearB old next pick)

theorem ownsRow_shape {w : World} {B e z n : Nat} {v : Value} {xs : List Value} (h : w.ownsRow B e z v n xs) : ∃ ao c, v = .slice ao n c := by
  rcases h.2 with ⟨rfl, e⟩ | ⟨g, cap, cur, rfl, _⟩
  · exact ⟨none, 0, by rw [e]⟩
  · exact ⟨_, _, rfl⟩

theorem snoc_zero (a : List Int) (j : Nat) : (a ++ List.replicate (j + 1) 0).map (Value.int .i64) = a.map (Value.int .i64) ++ (List.replicate j (.int .i64 0) ++ [.int .i64 0]) := by
  rw [List.replicate_succ']
  simp


/-- How long the slice in a slot is. -/
def sliceLen : Value → Nat
  | .slice _ n _ => n
  | _ => 0

theorem joinT_none (a : List Int) : joinT a [] = a := by unfold joinT; rw [if_pos rfl]
theorem joinT_some {a b : List Int} (h : b ≠ []) : joinT a b = a ++ List.replicate (32 - a.length) 0 ++ b := by unfold joinT; rw [if_neg h]

theorem tear_all {old next : List Int} (h : next.length ≤ 64) : tear old next 1 = next := by
  unfold tear tearA tearB
  rw [if_pos (Or.inl rfl), if_pos (Or.inl rfl)]
  by_cases hd : next.drop 32 = []
  · rw [hd, joinT_none]
    exact List.take_of_length_le (by have := congrArg List.length hd; simp at this; omega)
  · rw [joinT_some hd]
    have hl : 32 < next.length := by
      apply Nat.lt_of_not_le
      intro hle
      exact hd (List.drop_eq_nil_of_le hle)
    have e : (next.take 32).length = 32 := by simp; omega
    rw [e]
    simp

theorem tear_len {old next : List Int} {p : Int} (h1 : old.length ≤ 64) (h2 : next.length ≤ 64) : (tear old next p).length ≤ 64 := by
  have hA : (tearA old next p).length ≤ 32 := by unfold tearA; split <;> simp <;> omega
  have hB : (tearB old next p).length ≤ 32 := by unfold tearB; split <;> simp <;> omega
  unfold tear joinT
  split
  · omega
  · simp; omega
theorem RdI.at {S : Nat → Prop} {w : World} {ao : Option Addr} {n c : Nat} {xs : List Int} (h : RdI S w (.slice ao n c) xs) {k : Nat} (hk : k < xs.length) : ∃ b off, ao = some ⟨b, off, none⟩ ∧ w.cell? ⟨b, off + k, none⟩ = some (.int .i64 (xs.getD k 0)) := by
  obtain ⟨ao', c', e1, e2, e3⟩ := h
  obtain ⟨b, off, f1, f2, f3⟩ := e3 (by rintro rfl; simp at hk)
  injection e1 with e1 _ _
  exact ⟨b, off, by rw [e1, f1], f3 k hk⟩
end Go.Proofs.YtlljcajfdeiigaaGreatDoor
/- Chapter 2, the model's side: 'spec.l2Fault', 'spec.HeaderFault', walked. -/
namespace Go.Proofs.YtlljcajfdeiigaaGreatDoor
open Go.RowKit

/-- The fault of a header. -/
def headF (s t : Int) (xs : List Int) : Int :=
  if 1 ≤ s ∧ s ≤ 65000 ∧ 0 ≤ t ∧ t ≤ 23 then (if 24 < xs.length then 2 else if (∀ i, i < xs.length → 0 ≤ xs.getD i 0 ∧ xs.getD i 0 ≤ 39) then 0 else 3) else 3
theorem headF_range {s t : Int} {xs : List Int} (h : ¬ (1 ≤ s ∧ s ≤ 65000 ∧ 0 ≤ t ∧ t ≤ 23)) : headF s t xs = 3 := by unfold headF; rw [if_neg h]
theorem headF_many {s t : Int} {xs : List Int} (h : 1 ≤ s ∧ s ≤ 65000 ∧ 0 ≤ t ∧ t ≤ 23) (h2 : 24 < xs.length) : headF s t xs = 2 := by unfold headF; rw [if_pos h, if_pos h2]
theorem headF_ok {s t : Int} {xs : List Int} (h : 1 ≤ s ∧ s ≤ 65000 ∧ 0 ≤ t ∧ t ≤ 23) (h2 : ¬ 24 < xs.length) (h3 : ∀ i, i < xs.length → 0 ≤ xs.getD i 0 ∧ xs.getD i 0 ≤ 39) : headF s t xs = 0 := by unfold headF; rw [if_pos h, if_neg h2, if_pos h3]
theorem headF_at {s t : Int} {xs : List Int} (h : 1 ≤ s ∧ s ≤ 65000 ∧ 0 ≤ t ∧ t ≤ 23) (h2 : ¬ 24 < xs.length) {i : Nat} (hi : i < xs.length) (h3 : ¬ (0 ≤ xs.getD i 0 ∧ xs.getD i 0 ≤ 39)) : headF s t xs = 3 := by
  unfold headF; rw [if_pos h, if_neg h2, if_neg (fun k => h3 (k i hi))]
theorem headF_zero {s t : Int} {xs : List Int} (h : headF s t xs = 0) : (1 ≤ s ∧ s ≤ 65000 ∧ 0 ≤ t ∧ t ≤ 23) ∧ xs.length ≤ 24 ∧ ∀ i, i < xs.length → 0 ≤ xs.getD i 0 ∧ xs.getD i 0 ≤ 39 := by
  unfold headF at h
  split at h
  · rename_i h1
    split at h
    · exact absurd h (by decide)
    · rename_i h2
      split at h
      · rename_i h3
        exact ⟨h1, by omega, h3⟩
      · exact absurd h (by decide)
  · exact absurd h (by decide)

/-- A header's cells, at whatever place. -/
structure HdAt (w : World) (b o : Nat) (s t : Int) (y : Value) : Prop where
  seq : w.cell? ⟨b, o, none⟩ = some (.int .i64 s)
  start : w.cell? ⟨b, o + 1, none⟩ = some (.int .i64 t)
  addrs : w.cell? ⟨b, o + 2, none⟩ = some y

theorem HdAt_new (w : World) (s t : Int) (y : Value) (ty : TypeId) : HdAt (w.alloc (.cells #[.int .i64 s, .int .i64 t, y] ty)) w.heap.size 0 s t y := ⟨by simp [go_sem], by simp [go_sem], by simp [go_sem]⟩
theorem HdAt.later {w w' : World} {b o : Nat} {s t : Int} {y : Value} (h : HdAt w b o s t y) (hb : Below w.heap.size w w') : HdAt w' b o s t y := ⟨cell_later hb h.seq, cell_later hb h.start, cell_later hb h.addrs⟩

end Go.Proofs.YtlljcajfdeiigaaGreatDoor
/- Chapter 2, the program's side: 'impl.HeaderFault', walked. -/
namespace Go.Proofs.YtlljcajfdeiigaaGreatDoor
open Go.RowKit
end Go.Proofs.YtlljcajfdeiigaaGreatDoor
/- Chapter 2, the model's side: 'spec.l2Pack', 'spec.PackHeader', walked. -/
namespace Go.Proofs.YtlljcajfdeiigaaGreatDoor
open Go.RowKit

/-- An append onto what the call itself has made, as one step of a region that draws its order. -/
theorem step_append_any {P : Program} (w : World) {ops : Array Oper} {o : Oper} {a : Act} {K : Act → World → Prop} {Q : Exit → Act → World → Prop} {E : Prop} (hgd : o.guard = none) (s x : Operand) (t : TypeId)
    (ho : o.op = .call { callee := .builtin .append, args := #[s, x], argTypes := #[t, t] })
    (base : Nat) (e : TypeId) (i : TypeInfo) (z : Value) (size bytes : Nat) (ht : P.underlying t = some (.slice e)) (hi : P.info? e = some i) (hz : i.zero = some z)
    (hsize : i.size = size) (hby : i.bytes = bytes) (hzs : z.cells.size = size) (hsz : 0 < size)
    (v : Value) (n : Nat) (xs : List Value) (hs : a.eval s = v) (hown : w.ownsRow base e size v n xs)
    (ao : Option Addr) (m c : Nat) (news : List Value) (hx : a.eval x = .slice ao m c) (hl : news.length = m * size)
    (hnews : m ≠ 0 → ∃ ad, ao = some ad ∧ ∀ j u, news[j]? = some u → w.cell? (ad.add j) = some u) (h1 : ∀ u ∈ news, u.oneCell' = true)
    (h63 : n + m ≤ maxLen) (hbytes : (n + m) * bytes ≤ 140737488355328) (hbase : base ≤ w.heap.size)
    (h : ∀ v' w', w'.ownsRow base e size v' (n + m) (xs ++ news) → w.grownBy w' v.ownBlock → K (a.put o.dst v') w') : if Region.wanted o (yielded ops a.tmps) = true then Oper.wp P o a w K Q else E := by
  have hw : Region.wanted o (yielded ops a.tmps) = true := by simp [Region.wanted, hgd]
  rw [if_pos hw]
  by_cases hm : m = 0
  · subst hm
    have hn : news = [] := List.eq_nil_of_length_eq_zero (by simpa using hl)
    subst hn
    have hv : ∃ ad k, v = .slice ad n k ∧ n ≤ k := by
      rcases hown.2 with ⟨rfl, rfl⟩ | ⟨g, cap, cur, rfl, _, _, hnc, _⟩
      · exact ⟨_, _, rfl, Nat.le_refl _⟩
      · exact ⟨_, _, rfl, hnc⟩
    obtain ⟨ad, k, rfl, hk⟩ := hv
    have hrun := run_append_zero (P := P) w t o.type e i ht hi ad n k hk ao c
    unfold Oper.wp
    simp [execOp, ho, resolve, invoke, builtin, hs, hx, hrun, Result.andThen]
    exact h _ w (by simpa using hown) (World.grownBy.refl _ _)
  · obtain ⟨ad, rfl, hc⟩ := hnews hm
    exact wp_append_own (P := P) w s x t ho base e i z size bytes ht hi hz hsize hby hzs hsz v n xs hs hown ad m c news hx hl hc h1 h63 hbytes hbase (fun v' w' k1 k2 _ => h v' w' k1 k2)

theorem ownsRow_full (w : World) (cs : List Value) (e : TypeId) (hm : cs.length ≤ 1048576) : (w.alloc (.cells cs.toArray e)).ownsRow w.heap.size e 1 (.slice (some ⟨w.heap.size, 0, none⟩) cs.length cs.length) cs.length cs :=
  ⟨by simp, .inr ⟨w.heap.size, cs.length, cs.toArray, rfl, Nat.le_refl _, heap_alloc_new w _, Nat.le_refl _, by unfold maxLen; omega, by simp, by simp⟩⟩

/-- One half of a header's words; all of them. -/
def packH (s t : Int) (xs : List Int) : List Int := [s, t, (xs.length : Int)] ++ xs ++ List.replicate (29 - xs.length) 0
def packL (s t : Int) (xs : List Int) : List Int := packH s t xs ++ packH s t xs
theorem packH_len {s t : Int} {xs : List Int} (h : xs.length ≤ 29) : (packH s t xs).length = 32 := by simp [packH]; omega
theorem packL_len {s t : Int} {xs : List Int} (h : xs.length ≤ 29) : (packL s t xs).length = 64 := by simp [packL, packH_len h]

end Go.Proofs.YtlljcajfdeiigaaGreatDoor
