/- Fi9 in one text: what each says stands at its head below. -/
import Derived.Test.YtbfdnjhdlnfpmaaG23
/- Chapter 8: files without one; 'DropFile' of both sides, walked. -/
namespace Go.Proofs.Ytbfdnjhdlnfpmaa
open Go.RowKit

theorem fcount_succ (q : Oj → Bool) (fs : List Oj) (k : Nat) (h : k < fs.length) : ((fs.take (k + 1)).filter q).length = ((fs.take k).filter q).length + if q (fs.getD k oj0) = true then 1 else 0 := by
  have e : fs.getD k oj0 = fs[k] := by simp [List.getD, h]
  rw [e, List.take_succ_eq_append_getElem h, List.filter_append, List.length_append]
  congr 1
  by_cases hq : q fs[k] = true
  · rw [if_pos hq]; simp [hq]
  · rw [if_neg hq]; simp [hq]
theorem fcount_all (q : Oj → Bool) {fs : List Oj} {n : Nat} (h : fs.length = n) : ((fs.take n).filter q).length = (fs.filter q).length := by rw [← h, List.take_length]
theorem fcount_le (q : Oj → Bool) (fs : List Oj) (k : Nat) : ((fs.take k).filter q).length ≤ (fs.filter q).length := by
  conv => rhs; rw [← List.take_append_drop k fs, List.filter_append, List.length_append]
  omega
theorem filter_getD (q : Oj → Bool) (fs : List Oj) (k : Nat) (h : k < fs.length) (hq : q (fs.getD k oj0) = true) : (fs.filter q).getD ((fs.take k).filter q).length oj0 = fs.getD k oj0 := by
  have e : fs.getD k oj0 = fs[k] := by simp [List.getD, h]
  rw [e] at hq ⊢
  have e2 : fs = fs.take k ++ fs[k] :: fs.drop (k + 1) := by rw [← List.drop_eq_getElem_cons h, List.take_append_drop]
  have e3 : fs.filter q = (fs.take k).filter q ++ fs[k] :: (fs.drop (k + 1)).filter q := by
    conv => lhs; rw [e2]
    rw [List.filter_append, List.filter_cons_of_pos hq]
  rw [e3]
  simp [List.getD]
theorem filter_lens (q : Oj → Bool) {fs : List Oj} {m : Nat} (h : ∀ i, i < fs.length → (fs.getD i oj0).2.2.length ≤ m) : ∀ i, i < (fs.filter q).length → ((fs.filter q).getD i oj0).2.2.length ≤ m := by
  intro i hi
  have hm : (fs.filter q)[i] ∈ fs := (List.mem_filter.1 (List.getElem_mem hi)).1
  obtain ⟨j, hj, e⟩ := List.mem_iff_getElem.1 hm
  have := h j hj
  simp only [List.getD, List.getElem?_eq_getElem hj, Option.getD_some] at this
  simp only [List.getD, List.getElem?_eq_getElem hi, Option.getD_some]
  rw [← e]; exact this
/-- Whether a file has another label. -/
def notL (a s : Int) (p : Oj) : Bool := !(p.1 == a && p.2.1 == s)

set_option maxHeartbeats 4000000 in
set_option maxRecDepth 4000 in
/-- 'impl.withoutFile': the files of other labels, copied. -/
theorem withoutFile {S : Nat → Prop} {w : World} {v : Value} {fs : List Oj} {pt : Option Addr} {a s : Int} (hv : RdJ S w v fs) (hm : fs.length ≤ 1048576) (hl : ∀ i, i < fs.length → (fs.getD i oj0).2.2.length ≤ 1048576)
    (hlb : ∀ w1, Below w.heap.size w w1 → Calls Try.prog 62 #[.pointer pt] w1 fun e w' => e = .returned (.agg #[.int .i64 a, .int .i64 s]) ∧ Below w1.heap.size w1 w') :
    Calls Try.prog 41 #[v, .pointer pt] w fun e w' => ∃ z, e = .returned z ∧ Below w.heap.size w w' ∧ BuiltFi (w.heap.size ≤ ·) w' z (fs.filter (notL a s)).length (fs.filter (notL a s)) := by
  obtain ⟨av, cv, rfl, _⟩ := hv.shape
  have HV := hide hv
  have HLb := hide hlb
  have HLn := hide hl
  obtain ⟨n, hn⟩ : ∃ n, fs.length = n := ⟨_, rfl⟩
  have HN := hide hn
  rw [hn] at HV hm ⊢
  clear hv hn hlb hl
  obtain ⟨i0, hi, hz0, hz1, hz2⟩ := info_parts Try.infoFl
  have HCs := hide (fun k hk => fcount_succ (notL a s) fs k hk)
  have HGd := hide (fun k hk hq => filter_getD (notL a s) fs k hk hq)
  have HCl := hide (fun k => fcount_le (notL a s) fs k)
  have HCa := hide (fcount_all (notL a s) HN.out)
  have hgl : (fs.filter (notL a s)).length ≤ n := by rw [← HN.out]; exact List.length_filter_le _ _
  obtain ⟨gs, hgs⟩ : ∃ gs, fs.filter (notL a s) = gs := ⟨_, rfl⟩
  rw [hgs] at HGd HCl HCa hgl ⊢
  clear hgs
  go_enter Try.func41, Try.ntmps41
  go_wp2
  go_loopw [5, 9] (fun v i wr => ∃ (k j : Nat), k ≤ n ∧ i = .int .i64 k ∧ Hid (((fs.take k).filter (notL a s)).length = j) ∧ Hid (BuiltFi (w.heap.size ≤ ·) wr v j gs) ∧ Hid (Below w.heap.size w wr)) (fun _ i _ => n - (RowKit.intOf i).toNat)
  case atStart => exact ⟨0, 0, Nat.zero_le _, rfl, rfl, BuiltFi.nil _ _ _, Below.refl _ _⟩
  case round =>
    obtain ⟨k, j, hk, rfl, HJ, HBu, HB⟩ := hrel
    by_cases hlt : k < n
    · obtain ⟨b, off, rfl, hfp⟩ := HV.out.file (k := k) (by rw [HN.out]; exact hlt)
      have HSk := hide (HCs.out k (by rw [HN.out]; exact hlt))
      have HGk := hide (HGd.out k (by rw [HN.out]; exact hlt))
      have hlk := HLn.out k (by rw [HN.out]; exact hlt)
      rw [HJ.out] at HSk HGk
      have hjg : j ≤ n := by have := HCl.out k; rw [HJ.out] at this; omega
      have hk0 : (0 : Int) ≤ (k : Int) := by omega
      have hk1 : (k : Int) < (n : Int) := by omega
      obtain ⟨p, hp⟩ : ∃ p, fs.getD k oj0 = p := ⟨_, rfl⟩
      rw [hp] at hfp HSk HGk hlk
      obtain ⟨x, t, xs⟩ := p
      have HFp := hide hfp
      have HC1 := hide (labelOf (hfp.later HB.out))
      dsimp only at HC1 hlk
      have hzz := HB.out.size
      clear hfp hp
      by_cases hxa : x = a
      · subst hxa
        by_cases hts : t = s
        · subst hts
          have hnq : ¬ notL x t (x, t, xs) = true := by unfold notL; simp
          rw [if_neg hnq, Nat.add_zero] at HSk
          clear HGk hnq
          go_wp2_with fail
          refine HC1.out.mono ?_
          rintro e w1 ⟨rfl, hb1⟩
          have HB1 := hide (below_on HB.out hb1)
          have HBu1 := hide (HBu.out.later hb1)
          clear hb1
          go_wp2_with fail
          refine (HLb.out _ HB1.out).mono ?_
          rintro e w2 ⟨rfl, hb2⟩
          have HB2 := hide (below_on HB1.out hb2)
          have HBu2 := hide (HBu1.out.later hb2)
          clear hb2 HBu1 HB1
          go_wp2
          go_roundw
          case rel => exact ⟨k + 1, j, hlt, by go_num, HSk.out, HBu2.out, HB2.out⟩
          case measure => simp [RowKit.intOf]; omega
        · have htsb : (t == s) = false := by simpa using hts
          rw [if_pos (by unfold notL; simp [hts])] at HSk
          have HG := hide (HGk.out (by unfold notL; simp [hts]))
          clear HGk
          go_wp2_with fail
          refine HC1.out.mono ?_
          rintro e w1 ⟨rfl, hb1⟩
          have HB1 := hide (below_on HB.out hb1)
          have HBu1 := hide (HBu.out.later hb1)
          have hz1' := hb1.size
          clear hb1
          go_wp2_with fail
          refine (HLb.out _ HB1.out).mono ?_
          rintro e w2 ⟨rfl, hb2⟩
          have HB2 := hide (below_on HB1.out hb2)
          have HBu2 := hide (HBu1.out.later hb2)
          have hz2' := hb2.size
          clear hb2 HBu1 HB1
          have HC3 := hide (copyFile (HFp.out.later HB2.out) hlk)
          dsimp only at HC3
          go_wp2_with fail
          refine HC3.out.mono ?_
          rintro e w3 ⟨z3, rfl, hb3, ho3⟩
          have HB3 := hide hb3
          have HO3 := hide ho3
          obtain ⟨a3, c3, hz3⟩ := ho3.shape
          subst hz3
          obtain ⟨V2, Bk2, hown, hpr, hin⟩ := HBu2.out
          have HOw0 := hide hown
          have HPr := hide hpr
          have HIn := hide hin
          have hz3' := hb3.size
          clear hb3 ho3 hown hpr hin HC3
          obtain ⟨lx, hlx⟩ : ∃ lx, xs.length = lx := ⟨_, rfl⟩
          rw [hlx] at HO3
          (try rw [hlx])
          go_wp2_with (at_builtin; refine wpList_append_lies _ rfl _ _ _ rfl 0 35 i0 (.agg #[.int .i64 0, .int .i64 0, .slice none 0 0]) 3 40 Try.underlying26 hi hz0 hz1 hz2 rfl (by omega) _ j _ (by rfl) (ownsRow_later (ownsRow_later HOw0.out HB3.out) (below_alloc w3 (.cells #[.int .i64 x, .int .i64 t, .slice a3 lx c3] 35))) ⟨w3.heap.size, 0, none⟩ 1 1 [.int .i64 x, .int .i64 t, .slice a3 lx c3] (by rfl) (by rfl) (World.news_of_block (cs := #[.int .i64 x, .int .i64 t, .slice a3 lx c3]) (t := 35) (fr := (0, 0)) (heap_alloc_new w3 _)) cellsFi_one (by omega) (by unfold maxLen; omega) (by omega) (Nat.zero_le _) (w3.heap.size + 1) (by simp) ?_; intro g cap w4 hown4 hgrow hat hlt4)
          have HS := hide (BuiltFi.step (P' := (w.heap.size ≤ ·)) HIn.out HOw0.out HPr.out (fun _ h => h) (fun b hb => by omega) HB3.out (by rw [HG.out]; exact HO3.out) (below_alloc w3 (.cells #[.int .i64 x, .int .i64 t, .slice a3 lx c3] 35)) (by rw [HG.out]; exact hown4) hgrow (by simpa using hat))
          have HB4 := hide ((below_on (below_on HB2.out HB3.out) (below_alloc w3 (.cells #[.int .i64 x, .int .i64 t, .slice a3 lx c3] 35))).grown hgrow (by simp; omega) (fun r hr => HPr.out r hr))
          clear hown4 hgrow hat hlt4
          go_wp2
          go_roundw
          case rel => exact ⟨k + 1, j + 1, hlt, by go_num, HSk.out, HS.out, HB4.out⟩
          case measure => simp [RowKit.intOf]; omega
      · have hxab : (x == a) = false := by simpa using hxa
        rw [if_pos (by unfold notL; simp [hxa])] at HSk
        have HG := hide (HGk.out (by unfold notL; simp [hxa]))
        clear HGk
        go_wp2_with fail
        refine HC1.out.mono ?_
        rintro e w1 ⟨rfl, hb1⟩
        have HB1 := hide (below_on HB.out hb1)
        have HBu1 := hide (HBu.out.later hb1)
        have hz1' := hb1.size
        clear hb1
        go_wp2_with fail
        refine (HLb.out _ HB1.out).mono ?_
        rintro e w2 ⟨rfl, hb2⟩
        have HB2 := hide (below_on HB1.out hb2)
        have HBu2 := hide (HBu1.out.later hb2)
        have hz2' := hb2.size
        clear hb2 HBu1 HB1
        have HC3 := hide (copyFile (HFp.out.later HB2.out) hlk)
        dsimp only at HC3
        go_wp2_with fail
        refine HC3.out.mono ?_
        rintro e w3 ⟨z3, rfl, hb3, ho3⟩
        have HB3 := hide hb3
        have HO3 := hide ho3
        obtain ⟨a3, c3, hz3⟩ := ho3.shape
        subst hz3
        obtain ⟨V2, Bk2, hown, hpr, hin⟩ := HBu2.out
        have HOw0 := hide hown
        have HPr := hide hpr
        have HIn := hide hin
        have hz3' := hb3.size
        clear hb3 ho3 hown hpr hin HC3
        obtain ⟨lx, hlx⟩ : ∃ lx, xs.length = lx := ⟨_, rfl⟩
        rw [hlx] at HO3
        (try rw [hlx])
        go_wp2_with (at_builtin; refine wpList_append_lies _ rfl _ _ _ rfl 0 35 i0 (.agg #[.int .i64 0, .int .i64 0, .slice none 0 0]) 3 40 Try.underlying26 hi hz0 hz1 hz2 rfl (by omega) _ j _ (by rfl) (ownsRow_later (ownsRow_later HOw0.out HB3.out) (below_alloc w3 (.cells #[.int .i64 x, .int .i64 t, .slice a3 lx c3] 35))) ⟨w3.heap.size, 0, none⟩ 1 1 [.int .i64 x, .int .i64 t, .slice a3 lx c3] (by rfl) (by rfl) (World.news_of_block (cs := #[.int .i64 x, .int .i64 t, .slice a3 lx c3]) (t := 35) (fr := (0, 0)) (heap_alloc_new w3 _)) cellsFi_one (by omega) (by unfold maxLen; omega) (by omega) (Nat.zero_le _) (w3.heap.size + 1) (by simp) ?_; intro g cap w4 hown4 hgrow hat hlt4)
        have HS := hide (BuiltFi.step (P' := (w.heap.size ≤ ·)) HIn.out HOw0.out HPr.out (fun _ h => h) (fun b hb => by omega) HB3.out (by rw [HG.out]; exact HO3.out) (below_alloc w3 (.cells #[.int .i64 x, .int .i64 t, .slice a3 lx c3] 35)) (by rw [HG.out]; exact hown4) hgrow (by simpa using hat))
        have HB4 := hide ((below_on (below_on HB2.out HB3.out) (below_alloc w3 (.cells #[.int .i64 x, .int .i64 t, .slice a3 lx c3] 35))).grown hgrow (by simp; omega) (fun r hr => HPr.out r hr))
        clear hown4 hgrow hat hlt4
        go_wp2
        go_roundw
        case rel => exact ⟨k + 1, j + 1, hlt, by go_num, HSk.out, HS.out, HB4.out⟩
        case measure => simp [RowKit.intOf]; omega
    · have hkn : k = n := by omega
      subst hkn
      rw [HCa.out] at HJ
      go_wp2
      go_ret
      exact ⟨_, rfl, HB.out, by rw [HJ.out]; exact HBu.out⟩

/-- Files that share their words with older memory: j of them, in a row of their own. -/
def ShFi (w wr : World) (v : Value) (j : Nat) (gs : List Oj) : Prop :=
  ∃ V, wr.ownsRow w.heap.size 35 3 v j (cellsFi gs j V) ∧ (∀ i, i < j → RdI (fun _ => True) w (V i) (gs.getD i oj0).2.2) ∧ Below w.heap.size w wr
theorem ShFi.empty (w : World) (gs : List Oj) : ShFi w (w.alloc (.cells #[] 35)) (.slice (some ⟨w.heap.size, 0, none⟩) 0 0) 0 gs :=
  ⟨fun _ => .bool false, World.ownsRow_made w #[] 0 (Nat.le_refl _) (by unfold maxLen; omega) (by simp), fun i hi => absurd hi (Nat.not_lt_zero _), below_alloc _ _⟩
theorem ShFi.step {w wr w3 : World} {v z : Value} {j g cap : Nat} {gs : List Oj} {V : Nat → Value} {o : Obj} {a s : Int} (hr : wr.ownsRow w.heap.size 35 3 v j (cellsFi gs j V)) (hV : ∀ i, i < j → RdI (fun _ => True) w (V i) (gs.getD i oj0).2.2) (hb : Below w.heap.size w wr)
    (hz : RdI (fun _ => True) w z (gs.getD j oj0).2.2) (h1 : (gs.getD j oj0).1 = a) (h2 : (gs.getD j oj0).2.1 = s)
    (hown : w3.ownsRow w.heap.size 35 3 (.slice (some ⟨g, 0, none⟩) (j + 1) cap) (j + 1) (cellsFi gs j V ++ [.int .i64 a, .int .i64 s, z])) (hg : (wr.alloc o).grownBy w3 v.ownBlock) :
    ShFi w w3 (.slice (some ⟨g, 0, none⟩) (j + 1) cap) (j + 1) gs := by
  refine ⟨fun i => if i = j then z else V i, ?_, fun i hi => ?_, (below_on hb (below_alloc wr o)).grown hg (by have := hb.size; simp; omega) (fun r hr' => (hr.lt r hr').1)⟩
  · rw [cellsFi_next, cellsFi_congr gs j _ V (fun i hi => by rw [if_neg (by omega)]), if_pos rfl, h1, h2]
    exact hown
  · by_cases e : i = j
    · subst e; simp only [if_true]; exact hz
    · simp only [if_neg e]; exact hV i (by omega)
theorem ShFi.rd {w wr : World} {v : Value} {j : Nat} {gs : List Oj} (h : ShFi w wr v j gs) (hj : gs.length = j) (hm : j ≤ 1048576) : RdJ (fun _ => True) wr v gs := by
  obtain ⟨V, h1, h2, hb⟩ := h
  subst hj
  rcases h1.2 with ⟨rfl, e⟩ | ⟨g, cap, cur, rfl, hg, hh, _⟩
  · have : gs = [] := List.eq_nil_of_length_eq_zero e
    subst this
    exact ⟨none, 0, rfl, by simp, fun h => absurd rfl h⟩
  · refine ⟨_, cap, rfl, by omega, fun _ => ⟨g, 0, V, rfl, trivial, fun i hi => ⟨?_, ?_, ?_, (h2 i hi).later hb⟩⟩⟩
    · rw [Nat.zero_add, h1.cellAt (i * 3) (by omega)]
      exact cellsFi_flg _ _ _ _ hi
    · rw [Nat.zero_add, h1.cellAt (i * 3 + 1) (by omega)]
      exact cellsFi_num _ _ _ _ hi
    · rw [Nat.zero_add, h1.cellAt (i * 3 + 2) (by omega)]
      exact cellsFi_words _ _ _ _ hi
/-- Whether a file has another name. -/
def notN (a : Int) (p : Oj) : Bool := !(p.1 == a)

set_option maxHeartbeats 4000000 in
set_option maxRecDepth 4000 in
/-- 'spec.l8Without': the files of other names, copied. -/
theorem l8Without {S : Nat → Prop} {w : World} {v : Value} {fs : List Oj} (a : Int) (hv : RdJ S w v fs) (hm : fs.length ≤ 1048576) (hl : ∀ i, i < fs.length → (fs.getD i oj0).2.2.length ≤ 1048576) :
    Calls Try.prog 49 #[v, .int .i64 a] w fun e w' => ∃ z, e = .returned z ∧ Below w.heap.size w w' ∧ BuiltFi (w.heap.size ≤ ·) w' z (fs.filter (notN a)).length (fs.filter (notN a)) := by
  obtain ⟨av, cv, rfl, _⟩ := hv.shape
  have HV := hide hv
  have HGl := hide (filter_lens (notN a) hl)
  obtain ⟨n, hn⟩ : ∃ n, fs.length = n := ⟨_, rfl⟩
  have HN := hide hn
  rw [hn] at HV hm ⊢
  clear hv hn hl
  obtain ⟨i0, hi, hz0, hz1, hz2⟩ := info_parts Try.infoFl
  have HCs := hide (fun k hk => fcount_succ (notN a) fs k hk)
  have HGd := hide (fun k hk hq => filter_getD (notN a) fs k hk hq)
  have HCl := hide (fun k => fcount_le (notN a) fs k)
  have HCa := hide (fcount_all (notN a) HN.out)
  have hgl : (fs.filter (notN a)).length ≤ n := by rw [← HN.out]; exact List.length_filter_le _ _
  obtain ⟨gs, hgs⟩ : ∃ gs, fs.filter (notN a) = gs := ⟨_, rfl⟩
  rw [hgs] at HGd HCl HCa HGl hgl ⊢
  clear hgs
  go_enter Try.func49, Try.ntmps49
  go_wp2
  go_loopw [5, 6] (fun v i wr => ∃ (k j : Nat), k ≤ n ∧ i = .int .i64 k ∧ Hid (((fs.take k).filter (notN a)).length = j) ∧ Hid (ShFi w wr v j gs)) (fun _ i _ => n - (RowKit.intOf i).toNat)
  case atStart => exact ⟨0, 0, Nat.zero_le _, rfl, rfl, ShFi.empty _ _⟩
  case round =>
    obtain ⟨k, j, hk, rfl, HJ, HSh⟩ := hrel
    by_cases hlt : k < n
    · obtain ⟨b, off, rfl, y, q0, q1, q2, q3⟩ := HV.out.file (k := k) (by rw [HN.out]; exact hlt)
      have HSk := hide (HCs.out k (by rw [HN.out]; exact hlt))
      have HGk := hide (HGd.out k (by rw [HN.out]; exact hlt))
      rw [HJ.out] at HSk HGk
      have hjg : j ≤ n := by have := HCl.out k; rw [HJ.out] at this; omega
      have hk0 : (0 : Int) ≤ (k : Int) := by omega
      have hk1 : (k : Int) < (n : Int) := by omega
      obtain ⟨p, hp⟩ : ∃ p, fs.getD k oj0 = p := ⟨_, rfl⟩
      rw [hp] at q0 q1 q3 HSk HGk
      obtain ⟨x, t, xs⟩ := p
      dsimp only at q0 q1 q3
      obtain ⟨V, hrow, hV, hB⟩ := HSh.out
      have HRow := hide hrow
      have HVV := hide hV
      have HB := hide hB
      have g0 := cell_later hB q0
      have g1 := cell_later hB q1
      have g2 := cell_later hB q2
      obtain ⟨a3, c3, hy3⟩ := q3.shape
      subst hy3
      obtain ⟨lx, hlx⟩ : ∃ lx, xs.length = lx := ⟨_, rfl⟩
      rw [hlx] at g2 q3
      have HQ3 := hide q3
      have hzz := hB.size
      clear q0 q1 q2 q3 hp hrow hV hB hlx
      by_cases hxa : x = a
      · subst hxa
        rw [if_neg (by unfold notN; simp), Nat.add_zero] at HSk
        go_wp2
        go_roundw
        case rel => exact ⟨k + 1, j, hlt, by go_num, HSk.out, HSh.out⟩
        case measure => simp [RowKit.intOf]; omega
      · have hxab : (x == a) = false := by simpa using hxa
        rw [if_pos (by unfold notN; simp [hxa])] at HSk
        have HG := hide (HGk.out (by unfold notN; simp [hxa]))
        go_wp2_with (at_builtin; refine wpList_append_lies _ rfl _ _ _ rfl w.heap.size 35 i0 (.agg #[.int .i64 0, .int .i64 0, .slice none 0 0]) 3 40 Try.underlying26 hi hz0 hz1 hz2 rfl (by omega) _ j _ (by rfl) (ownsRow_later HRow.out (below_alloc wr (.cells #[.int .i64 x, .int .i64 t, .slice a3 lx c3] 35))) ⟨wr.heap.size, 0, none⟩ 1 1 [.int .i64 x, .int .i64 t, .slice a3 lx c3] (by rfl) (by rfl) (World.news_of_block (cs := #[.int .i64 x, .int .i64 t, .slice a3 lx c3]) (t := 35) (fr := (0, 0)) (heap_alloc_new wr _)) cellsFi_one (by omega) (by unfold maxLen; omega) (by omega) (by simp; omega) (wr.heap.size + 1) (by simp) ?_; intro g cap w4 hown4 hgrow hat hlt4)
        have HS := hide (ShFi.step HRow.out HVV.out HB.out (by rw [HG.out]; exact HQ3.out.narrow (fun _ _ _ => trivial)) (by rw [HG.out]) (by rw [HG.out]) hown4 hgrow)
        clear hown4 hgrow hat hlt4
        go_wp2
        go_roundw
        case rel => exact ⟨k + 1, j + 1, hlt, by go_num, HSk.out, HS.out⟩
        case measure => simp [RowKit.intOf]; omega
    · have hkn : k = n := by omega
      subst hkn
      rw [HCa.out] at HJ
      have hB : Below w.heap.size w wr := by obtain ⟨_, _, _, h⟩ := HSh.out; exact h
      have HB := hide hB
      have hzz := hB.size
      have HC := hide (l8Copy (HSh.out.rd HJ.out (by rw [← HJ.out]; omega)) (by omega) HGl.out)
      obtain ⟨au, cu, hu⟩ := (HSh.out.rd HJ.out (by rw [← HJ.out]; omega)).shape
      obtain ⟨hu, _⟩ := hu
      subst hu
      clear hB HSh
      go_wp2_with fail
      refine HC.out.mono ?_
      rintro e w2 ⟨z2, rfl, hb, ho⟩
      have HFn : Hid (Below w.heap.size w w2 ∧ BuiltFi (w.heap.size ≤ ·) w2 z2 gs.length gs) := ⟨below_on HB.out hb, ho.mono (fun b h _ => Nat.le_trans hzz h)⟩
      clear hb ho
      go_wp2
      go_ret
      exact ⟨_, rfl, HFn.out⟩
end Go.Proofs.Ytbfdnjhdlnfpmaa
