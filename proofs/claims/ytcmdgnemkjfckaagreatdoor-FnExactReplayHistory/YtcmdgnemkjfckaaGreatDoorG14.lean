/- Rt Built3 BuiltEn Tear Spec2 Impl2 Spec2b Flt Cells in one text: what each says stands at its head below. -/
import Derived.Test.YtcmdgnemkjfckaaGreatDoorG12
import Derived.Test.YtcmdgnemkjfckaaGreatDoorG13
import Derived.Test.YtcmdgnemkjfckaaGreatDoorG03
import Derived.Test.YtcmdgnemkjfckaaGreatDoorG02
import Derived.Deep.AppendLies
import Derived.Test.YtcmdgnemkjfckaaGreatDoorG01
import Derived.Deep.MidRow
/- Chapter 10: the terms of a store as a list that begins at an index, of the program, walked. -/
namespace Go.Proofs.YtcmdgnemkjfckaaGreatDoor
open Go.RowKit

/-- The terms from the snapshot on. -/
def trmL (r : Rf) : List Int := r.st :: r.lg.map fun p => p.2.1
theorem trm_take {ps : List Oj} {k : Nat} (h : k < ps.length) : (ps.take (k + 1)).map (fun p => p.2.1) = (ps.take k).map (fun p => p.2.1) ++ [(ps.getD k oj0).2.1] := by
  rw [List.take_succ_eq_append_getElem h, List.map_append]
  simp [List.getD, h]

set_option maxHeartbeats 4000000 in
set_option maxRecDepth 4000 in
theorem termsOfI {S T : Nat → Prop} {w : World} {y z : Value} (r : Rf) (hy : RdI S w y r.sn) (hz : RdJ T w z r.lg) (hm : r.lg.length ≤ 14) :
    Calls Tryz.prog 109 #[.agg #[.int .i64 r.tm, .int .i64 r.vt, .int .i64 r.si, .int .i64 r.st, y, z]] w fun e w' => ∃ u, e = .returned (.agg #[.int .i64 r.si, u]) ∧ Below w.heap.size w w' ∧ RdI (fun _ => True) w' u (trmL r) := by
  obtain ⟨ay, cy, rfl⟩ := hy.shape
  obtain ⟨az, cz, rfl, _⟩ := hz.shape
  have HZ := hide hz
  have HT : Hid (trmL r = r.st :: r.lg.map fun p => p.2.1) := rfl
  rw [HT.out]
  clear hy hz HT
  obtain ⟨l, hl⟩ : ∃ l, r.sn.length = l := ⟨_, rfl⟩
  obtain ⟨m, hme⟩ : ∃ m, r.lg.length = m := ⟨_, rfl⟩
  have HME := hide hme
  rw [hl]
  rw [hme] at HZ hm ⊢
  clear hl hme
  obtain ⟨ps, hps⟩ : ∃ ps, r.lg = ps := ⟨_, rfl⟩
  rw [hps] at HZ HME ⊢
  clear hps
  generalize r.tm = a at *
  generalize r.vt = b at *
  generalize r.si = c at *
  generalize r.st = d at *
  obtain ⟨i0, hi, hz0, hz1, hz2⟩ := info_parts Tryz.infoInt
  obtain ⟨W2, hW2⟩ : ∃ W2, (w.alloc (.cells #[.int .i64 a, .int .i64 b, .int .i64 c, .int .i64 d, .slice ay l cy, .slice az m cz] 33)).alloc (.cells #[.int .i64 0, .slice none 0 0] 148) = W2 := ⟨_, rfl⟩
  have hs2 : W2.heap.size = w.heap.size + 2 := by rw [← hW2]; simp
  have c2 : W2.cell? ⟨w.heap.size, 2, none⟩ = some (.int .i64 c) := by rw [← hW2]; simp [go_sem]
  have c3 : W2.cell? ⟨w.heap.size, 3, none⟩ = some (.int .i64 d) := by rw [← hW2]; simp [go_sem]
  have c5 : W2.cell? ⟨w.heap.size, 5, none⟩ = some (.slice az m cz) := by rw [← hW2]; simp [go_sem]
  have r0 : W2.cell? ⟨w.heap.size + 1, 0, none⟩ = some (.int .i64 0) := by rw [← hW2]; simp [go_sem]
  have r1 : W2.cell? ⟨w.heap.size + 1, 1, none⟩ = some (.slice none 0 0) := by rw [← hW2]; simp [go_sem]
  have f0 : W2.frozen? ⟨w.heap.size + 1, 0, none⟩ = false := by rw [← hW2]; simp [go_sem]
  have f1 : W2.frozen? ⟨w.heap.size + 1, 1, none⟩ = false := by rw [← hW2]; simp [go_sem]
  have BW := hide (show Below w.heap.size w W2 by rw [← hW2]; exact below_on (below_alloc _ _) (below_alloc _ _))
  have HW2 := hide hW2
  have HR0 := hide r0
  have HR1 := hide r1
  have HC2 := hide c2
  have HF0 := hide f0
  have HF1 := hide f1
  have HS2 := hide hs2
  go_enter Tryz.func109, Tryz.ntmps109
  go_wp2_with fail
  clear hW2 hs2
  have HRow0 : Hid ((W2.alloc (.cells #[.int .i64 d] 2)).ownsRow W2.heap.size 2 1 (.slice (some ⟨w.heap.size + 2, 0, none⟩) 1 1) 1 ([d].map (Value.int .i64))) := by rw [Hid, ← HS2.out]; exact ownsRow_fullF W2 [.int .i64 d] 2 (by simp)
  go_loopw [3, 12] (fun v i wr => ∃ k : Nat, k ≤ m ∧ i = .int .i64 k ∧ Hid (wr.ownsRow W2.heap.size 2 1 v (k + 1) ((d :: (ps.take k).map fun p => p.2.1).map (Value.int .i64))) ∧ Hid (Below W2.heap.size W2 wr)) (fun _ i _ => m - (RowKit.intOf i).toNat)
  case atStart => exact ⟨0, Nat.zero_le _, rfl, by simpa [Hid] using HRow0.out, below_alloc _ _⟩
  case round =>
    obtain ⟨k, hk, rfl, HRow, HB⟩ := hrel
    by_cases hlt : k < m
    · obtain ⟨bb, off, rfl, y0, q0, q1, q2, q3⟩ := HZ.out.file (k := k) (by rw [HME.out]; exact hlt)
      have hk0 : (0 : Int) ≤ (k : Int) := by omega
      have hk1 : (k : Int) < (m : Int) := by omega
      have HSn := hide (trm_take (ps := ps) (k := k) (by rw [HME.out]; exact hlt))
      obtain ⟨x, hx⟩ : ∃ x, ps.getD k oj0 = x := ⟨_, rfl⟩
      rw [hx] at q0 q1 q3 HSn
      clear hx
      obtain ⟨e0, t0, xs0⟩ := x
      dsimp only at q0 q1 q3 HSn
      obtain ⟨a3, c3', rfl⟩ := q3.shape
      have g0 := cell_later HB.out (cell_later BW.out q0)
      have g1 := cell_later HB.out (cell_later BW.out q1)
      have g2 := cell_later HB.out (cell_later BW.out q2)
      generalize xs0.length = l0 at g2
      have hbl := World.block_lt_of_cell? _ _ g0
      have hzz := HB.out.size
      clear q0 q1 q2 q3
      obtain ⟨P, hP⟩ : ∃ P, (ps.take k).map (fun p => p.2.1) = P := ⟨_, rfl⟩
      rw [hP] at HRow HSn
      clear hP
      go_wp2_with (at_builtin; refine wpList_append_lies _ rfl _ _ _ rfl W2.heap.size 2 i0 (.int .i64 0) 1 8 Tryz.underlying22 hi hz0 hz1 hz2 rfl (by omega) _ (k + 1) _ (by rfl) ((HRow.out.alloc (.cells #[.int .i64 e0, .int .i64 t0, .slice a3 l0 c3'] 90)).alloc (.cells #[.int .i64 t0] 2)) ⟨wr.heap.size + 1, 0, none⟩ 1 1 [.int .i64 t0] (by rfl) (by rfl) (World.news_of_block (cs := #[.int .i64 t0]) (t := 2) (fr := (0, 0)) (by have h := heap_alloc_new (wr.alloc (.cells #[.int .i64 e0, .int .i64 t0, .slice a3 l0 c3'] 90)) (.cells #[.int .i64 t0] 2); simpa using h)) (by simp [Value.oneCell']) (by omega) (by unfold maxLen; omega) (by omega) (by simp; omega) (wr.heap.size + 1 + 1) (by simp) ?_; intro g cap w4 hown3 hgrow hat hlt3)
      have HRow4 : Hid (w4.ownsRow W2.heap.size 2 1 (.slice (some ⟨g, 0, none⟩) (k + 1 + 1) cap) (k + 1 + 1) ((d :: (ps.take (k + 1)).map fun p => p.2.1).map (Value.int .i64))) := by
        rw [Hid, HSn.out]
        simpa using hown3
      have HB4 := hide ((below_on (below_on HB.out (below_alloc wr (.cells #[.int .i64 e0, .int .i64 t0, .slice a3 l0 c3'] 90))) (below_alloc _ (.cells #[.int .i64 t0] 2))).grown hgrow (by simp; omega) (fun r hr => (HRow.out.lt r hr).1))
      clear hown3 hgrow hat hlt3
      go_wp2
      go_roundw
      case rel => exact ⟨k + 1, by omega, by go_num, HRow4.out, HB4.out⟩
      case measure => simp [RowKit.intOf]; omega
    · have hkm : k = m := by omega
      subst hkm
      have hk1 : ¬ (k : Int) < (k : Int) := by omega
      have c2 := cell_later HB.out HC2.out
      have r0 := cell_later HB.out HR0.out
      have r1 := cell_later HB.out HR1.out
      have hs2 := HS2.out
      have f0 := ((bcell HB.out).2 _ _ (by omega)).trans HF0.out
      have f1 := ((bcell HB.out).2 _ _ (by omega)).trans HF1.out
      have ho := ow_of_owns (xs := d :: ps.map fun p => p.2.1) (n := k + 1) (by simp [HME.out]) (by have h := HRow.out; rw [List.take_of_length_le (by rw [HME.out]; omega)] at h; exact h) (by simp [HME.out]; omega)
      obtain ⟨au, cu, rfl⟩ := ho.shape
      have HFn := hide (ret_ints (x := .int .i64 c) (below_on BW.out HB.out) (Nat.le_succ w.heap.size) ho (by omega))
      clear hs2
      obtain ⟨lu, hlu⟩ : ∃ l, (d :: ps.map fun p => p.2.1).length = l := ⟨_, rfl⟩
      rw [hlu] at HFn ⊢
      clear ho hlu HRow
      go_wp2
      refine bodyPost_ret (v := .agg #[.int .i64 c, .slice au lu cu]) (by simp [results, Tryz.results109, go_sem, r0, r1]) rfl ⟨_, rfl, HFn.out.1, HFn.out.2.rd.narrow fun _ _ _ => trivial⟩
end Go.Proofs.YtcmdgnemkjfckaaGreatDoor
/- 'spec.l1Puts' and 'spec.l1Copy', walked. -/
namespace Go.Proofs.YtcmdgnemkjfckaaGreatDoor
open Go.RowKit
end Go.Proofs.YtcmdgnemkjfckaaGreatDoor
/- Chapter 9: entries that are built by append. Made by program (genen.py). -/
namespace Go.Proofs.YtcmdgnemkjfckaaGreatDoor
open Go.RowKit


/-- The cells of k entries. -/
def cellsEn (ts : List Oj) (k : Nat) (V : Nat → Value) : List Value :=
  (List.range (k * 3)).map fun t => if t % 3 = 0 then .int .i64 (ts.getD (t / 3) oj0).1 else if t % 3 = 1 then .int .i64 (ts.getD (t / 3) oj0).2.1 else V (t / 3)
theorem cellsEn_len (ts : List Oj) (k : Nat) (V : Nat → Value) : (cellsEn ts k V).length = k * 3 := by simp [cellsEn]
theorem cellsEn_flg (ts : List Oj) (k : Nat) (V : Nat → Value) (i : Nat) (h : i < k) : (cellsEn ts k V)[i * 3]? = some (.int .i64 (ts.getD i oj0).1) := by
  unfold cellsEn
  rw [List.getElem?_map, List.getElem?_range (by omega)]
  simp only [Option.map_some]
  rw [if_pos (by omega), show i * 3 / 3 = i by omega]
theorem cellsEn_num (ts : List Oj) (k : Nat) (V : Nat → Value) (i : Nat) (h : i < k) : (cellsEn ts k V)[i * 3 + 1]? = some (.int .i64 (ts.getD i oj0).2.1) := by
  unfold cellsEn
  rw [List.getElem?_map, List.getElem?_range (by omega)]
  simp only [Option.map_some]
  rw [if_neg (by omega), if_pos (by omega), show (i * 3 + 1) / 3 = i by omega]
theorem cellsEn_words (ts : List Oj) (k : Nat) (V : Nat → Value) (i : Nat) (h : i < k) : (cellsEn ts k V)[i * 3 + 2]? = some (V i) := by
  unfold cellsEn
  rw [List.getElem?_map, List.getElem?_range (by omega)]
  simp only [Option.map_some]
  rw [if_neg (by omega), if_neg (by omega), show (i * 3 + 2) / 3 = i by omega]
theorem cellsEn_next (ts : List Oj) (k : Nat) (V : Nat → Value) : cellsEn ts (k + 1) V = cellsEn ts k V ++ [.int .i64 (ts.getD k oj0).1, .int .i64 (ts.getD k oj0).2.1, V k] := by
  unfold cellsEn
  rw [show (k + 1) * 3 = k * 3 + 1 + 1 + 1 by omega, List.range_succ, List.range_succ, List.range_succ]
  simp only [List.map_append, List.append_assoc, List.map_cons, List.map_nil, List.singleton_append]
  congr 1
  rw [if_pos (by omega), if_neg (by omega), if_pos (by omega), if_neg (by omega), if_neg (by omega), show k * 3 / 3 = k by omega, show (k * 3 + 1) / 3 = k by omega, show (k * 3 + 1 + 1) / 3 = k by omega]
  rfl
theorem cellsEn_congr (ts : List Oj) (k : Nat) (V V' : Nat → Value) (h : ∀ i, i < k → V i = V' i) : cellsEn ts k V = cellsEn ts k V' := by
  unfold cellsEn
  refine List.map_congr_left fun t ht => ?_
  have := List.mem_range.1 ht
  rw [h (t / 3) (by omega)]
theorem cellsEn_ext (ts ts' : List Oj) (k : Nat) (V : Nat → Value) (h : ∀ i, i < k → ts.getD i oj0 = ts'.getD i oj0) : cellsEn ts k V = cellsEn ts' k V := by
  unfold cellsEn
  refine List.map_congr_left fun t ht => ?_
  have := List.mem_range.1 ht
  rw [h (t / 3) (by omega)]
/-- k entries have been built. -/
def BuiltEn (P : Nat → Prop) (w : World) (v : Value) (k : Nat) (ts : List Oj) : Prop :=
  ∃ V Bk, w.ownsRow 0 90 3 v k (cellsEn ts k V) ∧ (∀ r, v.ownBlock = some r → P r) ∧ Inner P w v.ownBlock k V Bk (fun i => (ts.getD i oj0).2.2)
theorem BuiltEn.nil (P : Nat → Prop) (w : World) (ts : List Oj) : BuiltEn P w (.slice none 0 0) 0 ts :=
  ⟨fun _ => .bool false, fun _ => 0, World.ownsRow_nil _ _ _ _, fun _ h => (by cases h), Inner.zero _ _ _ _ _ _⟩
theorem BuiltEn.empty (w : World) (P : Nat → Prop) (hP : P w.heap.size) (ts : List Oj) : BuiltEn P (w.alloc (.cells #[] 90)) (.slice (some ⟨w.heap.size, 0, none⟩) 0 0) 0 ts :=
  ⟨fun _ => .bool false, fun _ => 0, World.ownsRow_made w #[] 0 (Nat.zero_le _) (by unfold maxLen; omega) (by simp), fun r h => by injection h with h; subst h; exact hP, Inner.zero _ _ _ _ _ _⟩
theorem BuiltEn.later {P : Nat → Prop} {w w' : World} {v : Value} {k : Nat} {ts : List Oj} (h : BuiltEn P w v k ts) (hb : Below w.heap.size w w') : BuiltEn P w' v k ts := by
  obtain ⟨V, Bk, h1, h2, h3⟩ := h
  exact ⟨V, Bk, ownsRow_later h1 hb, h2, h3.later hb⟩
theorem BuiltEn.mono {P P' : Nat → Prop} {w : World} {v : Value} {k : Nat} {ts : List Oj} (h : BuiltEn P w v k ts) (hP : ∀ b, P b → b < w.heap.size → P' b) : BuiltEn P' w v k ts := by
  obtain ⟨V, Bk, h1, h2, h3⟩ := h
  exact ⟨V, Bk, h1, fun r hr => hP r (h2 r hr) (h1.lt r hr).2, h3.mono hP⟩
theorem BuiltEn.shape {P : Nat → Prop} {w : World} {v : Value} {k : Nat} {ts : List Oj} (h : BuiltEn P w v k ts) : ∃ ao c, v = .slice ao k c := by
  obtain ⟨V, Bk, h1, _⟩ := h
  rcases h1.2 with ⟨rfl, e⟩ | ⟨g, cap, cur, rfl, _⟩
  · exact ⟨none, 0, by rw [e]⟩
  · exact ⟨_, _, rfl⟩
theorem BuiltEn.step {P P' : Nat → Prop} {w w1 w2 w3 : World} {v z : Value} {k g cap : Nat} {V : Nat → Value} {Bk : Nat → Nat} {ts : List Oj} (hi : Inner P w v.ownBlock k V Bk (fun i => (ts.getD i oj0).2.2)) (hr : w.ownsRow 0 90 3 v k (cellsEn ts k V)) (hpr : ∀ r, v.ownBlock = some r → P r)
    (hP : ∀ b, P b → P' b) (hN : ∀ b, w.heap.size ≤ b → P' b) (hb1 : Below w.heap.size w w1) (hz : OwI w.heap.size w1 z (ts.getD k oj0).2.2) (hb2 : Below w1.heap.size w1 w2)
    (hown : w3.ownsRow 0 90 3 (.slice (some ⟨g, 0, none⟩) (k + 1) cap) (k + 1) (cellsEn ts k V ++ [.int .i64 (ts.getD k oj0).1, .int .i64 (ts.getD k oj0).2.1, z])) (hg : w2.grownBy w3 v.ownBlock) (hat : v.ownBlock = some g ∨ g = w2.heap.size) :
    BuiltEn P' w3 (.slice (some ⟨g, 0, none⟩) (k + 1) cap) (k + 1) ts := by
  obtain ⟨Bk', h⟩ := hi.step hP hN (fun r hr' => (hr.lt r hr').2) hb1 hz hb2 hg hat
  refine ⟨_, Bk', ?_, fun r hr' => ?_, h⟩
  · rw [cellsEn_next, cellsEn_congr ts k _ V (fun i hi => by rw [if_neg (by omega)]), if_pos rfl]
    exact hown
  · injection hr' with hr'
    subst hr'
    rcases hat with hat | hat
    · exact hP _ (hpr _ hat)
    · have h1 := hb1.size
      have h2 := hb2.size
      exact hN _ (by dsimp only; omega)
theorem BuiltEn.ow {P : Nat → Prop} {w : World} {v : Value} {k : Nat} {ts : List Oj} (h : BuiltEn P w v k ts) (hk : ts.length = k) (hm : k ≤ 9223372036854775807) : OwJ (fun b => P b ∧ b < w.heap.size) w v ts := by
  obtain ⟨V, Bk, h1, hpr, h2⟩ := h
  subst hk
  rcases h1.2 with ⟨rfl, e⟩ | ⟨g, cap, cur, rfl, hg, hh, hnc, _⟩
  · have : ts = [] := List.eq_nil_of_length_eq_zero e
    subst this
    exact OwJ_nil _ _
  · refine ⟨_, cap, g, 0, V, Bk, rfl, ⟨hm, hnc⟩, fun _ => ⟨rfl, ⟨hpr g rfl, (Array.getElem?_eq_some_iff.1 hh).1⟩, fun o => h1.frozenAt o⟩, fun i hi => ⟨?_, ?_, ?_, h2.rd i hi, fun hn => ?_⟩⟩
    · rw [Nat.zero_add, h1.cellAt (i * 3) (by omega)]
      exact cellsEn_flg _ _ _ _ hi
    · rw [Nat.zero_add, h1.cellAt (i * 3 + 1) (by omega)]
      exact cellsEn_num _ _ _ _ hi
    · rw [Nat.zero_add, h1.cellAt (i * 3 + 2) (by omega)]
      exact cellsEn_words _ _ _ _ hi
    · obtain ⟨k1, k2, k3, k4, k5⟩ := h2.own i hi hn
      exact ⟨⟨k1, k2⟩, fun e => k4 (by rw [e]; rfl), k3, k5⟩
theorem cellsEn_one {x y : Int} {ao : Option Addr} {n c : Nat} : ∀ u ∈ ([.int .i64 x, .int .i64 y, .slice ao n c] : List Value), u.oneCell' = true := by
  intro u hu
  simp at hu
  rcases hu with rfl | rfl | rfl <;> rfl
/-- The end of a function that stores a code and entries into its result's variable. -/
theorem ret_entries {w w3 : World} {P : Nat → Prop} {r : Nat} {z x : Value} {ts : List Oj} (hb : Below w.heap.size w w3) (hr : w.heap.size ≤ r) (ho : OwJ P w3 z ts) (hP : ∀ b, P b → r < b ∧ b < w3.heap.size) :
    Below w.heap.size w ((w3.setCell ⟨r, 0, none⟩ x).setCell ⟨r, 1, none⟩ z) ∧ OwJ (fun b => w.heap.size ≤ b ∧ b < ((w3.setCell ⟨r, 0, none⟩ x).setCell ⟨r, 1, none⟩ z).heap.size) ((w3.setCell ⟨r, 0, none⟩ x).setCell ⟨r, 1, none⟩ z) z ts := by
  have hw : Wr (fun y => y = r) w3 ((w3.setCell ⟨r, 0, none⟩ x).setCell ⟨r, 1, none⟩ z) := ((Wr.refl (fun y => y = r) _).setCell (p := ⟨r, 0, none⟩) rfl _).setCell (p := ⟨r, 1, none⟩) rfl _
  exact ⟨(hb.setCell (p := ⟨r, 0, none⟩) hr _).setCell (p := ⟨r, 1, none⟩) hr _, (ho.wr hw (fun b h1 e => by have := (hP b h1).1; omega)).mono fun b h1 => by have := hP b h1; simp; omega⟩
theorem Tryz.infoEn : (Tryz.prog.info? 90).map (fun i => (i.zero, i.size, i.bytes)) = some (some (.agg #[.int .i64 0, .int .i64 0, .slice none 0 0]), 3, 40) := by kernel_rfl
end Go.Proofs.YtcmdgnemkjfckaaGreatDoor
/- What a block holds if just so much of what was put is there: 'spec.l1Half', 'spec.l1Tear', walked. -/
namespace Go.Proofs.YtcmdgnemkjfckaaGreatDoor
open Go.RowKit
theorem RdI_nil (S : Nat → Prop) (w : World) (ao : Option Addr) (c : Nat) : RdI S w (.slice ao 0 c) [] := ⟨ao, c, by simp, by simp, fun h => absurd rfl h⟩

/-- What a block holds behind a tear. -/
def tearA (old next : List Int) (pick : Int) : List Int := if pick = 1 ∨ pick = 2 then next.take 32 else old.take 32
def tearB (old next : List Int) (pick : Int) : List Int := if pick = 1 ∨ pick = 3 then next.drop 32 else old.drop 32
/-- a, filled up with words 0 where b is not empty, and b behind it. -/
def joinT (a b : List Int) : List Int := if b = [] then a else a ++ List.replicate (32 - a.length) 0 ++ b
def tear (old next : List Int) (pick : Int) : List Int := joinT (tearA old next pick) (tearB old next pick)

theorem ownsRow_shape {w : World} {B e z n : Nat} {v : Value} {xs : List Value} (h : w.ownsRow B e z v n xs) : ∃ ao c, v = .slice ao n c := by
  rcases h.2 with ⟨rfl, e⟩ | ⟨g, cap, cur, rfl, _⟩
  · exact ⟨none, 0, by rw [e]⟩
  · exact ⟨_, _, rfl⟩

theorem snoc_zero (a : List Int) (j : Nat) : (a ++ List.replicate (j + 1) 0).map (Value.int .i64) = a.map (Value.int .i64) ++ (List.replicate j (.int .i64 0) ++ [.int .i64 0]) := by
  rw [List.replicate_succ']
  simp


/-- How long the slice in a slot is. -/
def sliceLen : Value → Nat
  | .slice _ n _ => n
  | _ => 0

theorem joinT_none (a : List Int) : joinT a [] = a := by unfold joinT; rw [if_pos rfl]
theorem joinT_some {a b : List Int} (h : b ≠ []) : joinT a b = a ++ List.replicate (32 - a.length) 0 ++ b := by unfold joinT; rw [if_neg h]

theorem tear_all {old next : List Int} (h : next.length ≤ 64) : tear old next 1 = next := by
  unfold tear tearA tearB
  rw [if_pos (Or.inl rfl), if_pos (Or.inl rfl)]
  by_cases hd : next.drop 32 = []
  · rw [hd, joinT_none]
    exact List.take_of_length_le (by have := congrArg List.length hd; simp at this; omega)
  · rw [joinT_some hd]
    have hl : 32 < next.length := by
      apply Nat.lt_of_not_le
      intro hle
      exact hd (List.drop_eq_nil_of_le hle)
    have e : (next.take 32).length = 32 := by simp; omega
    rw [e]
    simp

theorem tear_len {old next : List Int} {p : Int} (h1 : old.length ≤ 64) (h2 : next.length ≤ 64) : (tear old next p).length ≤ 64 := by
  have hA : (tearA old next p).length ≤ 32 := by unfold tearA; split <;> simp <;> omega
  have hB : (tearB old next p).length ≤ 32 := by unfold tearB; split <;> simp <;> omega
  unfold tear joinT
  split
  · omega
  · simp; omega
theorem RdI.at {S : Nat → Prop} {w : World} {ao : Option Addr} {n c : Nat} {xs : List Int} (h : RdI S w (.slice ao n c) xs) {k : Nat} (hk : k < xs.length) : ∃ b off, ao = some ⟨b, off, none⟩ ∧ w.cell? ⟨b, off + k, none⟩ = some (.int .i64 (xs.getD k 0)) := by
  obtain ⟨ao', c', e1, e2, e3⟩ := h
  obtain ⟨b, off, f1, f2, f3⟩ := e3 (by rintro rfl; simp at hk)
  injection e1 with e1 _ _
  exact ⟨b, off, by rw [e1, f1], f3 k hk⟩
end Go.Proofs.YtcmdgnemkjfckaaGreatDoor
/- Chapter 2, the model's side: 'spec.l2Fault', 'spec.HeaderFault', walked. -/
namespace Go.Proofs.YtcmdgnemkjfckaaGreatDoor
open Go.RowKit

/-- The fault of a header. -/
def headF (s t : Int) (xs : List Int) : Int :=
  if 1 ≤ s ∧ s ≤ 65000 ∧ 0 ≤ t ∧ t ≤ 23 then (if 24 < xs.length then 2 else if (∀ i, i < xs.length → 0 ≤ xs.getD i 0 ∧ xs.getD i 0 ≤ 39) then 0 else 3) else 3
theorem headF_range {s t : Int} {xs : List Int} (h : ¬ (1 ≤ s ∧ s ≤ 65000 ∧ 0 ≤ t ∧ t ≤ 23)) : headF s t xs = 3 := by unfold headF; rw [if_neg h]
theorem headF_many {s t : Int} {xs : List Int} (h : 1 ≤ s ∧ s ≤ 65000 ∧ 0 ≤ t ∧ t ≤ 23) (h2 : 24 < xs.length) : headF s t xs = 2 := by unfold headF; rw [if_pos h, if_pos h2]
theorem headF_ok {s t : Int} {xs : List Int} (h : 1 ≤ s ∧ s ≤ 65000 ∧ 0 ≤ t ∧ t ≤ 23) (h2 : ¬ 24 < xs.length) (h3 : ∀ i, i < xs.length → 0 ≤ xs.getD i 0 ∧ xs.getD i 0 ≤ 39) : headF s t xs = 0 := by unfold headF; rw [if_pos h, if_neg h2, if_pos h3]
theorem headF_at {s t : Int} {xs : List Int} (h : 1 ≤ s ∧ s ≤ 65000 ∧ 0 ≤ t ∧ t ≤ 23) (h2 : ¬ 24 < xs.length) {i : Nat} (hi : i < xs.length) (h3 : ¬ (0 ≤ xs.getD i 0 ∧ xs.getD i 0 ≤ 39)) : headF s t xs = 3 := by
  unfold headF; rw [if_pos h, if_neg h2, if_neg (fun k => h3 (k i hi))]
theorem headF_zero {s t : Int} {xs : List Int} (h : headF s t xs = 0) : (1 ≤ s ∧ s ≤ 65000 ∧ 0 ≤ t ∧ t ≤ 23) ∧ xs.length ≤ 24 ∧ ∀ i, i < xs.length → 0 ≤ xs.getD i 0 ∧ xs.getD i 0 ≤ 39 := by
  unfold headF at h
  split at h
  · rename_i h1
    split at h
    · exact absurd h (by decide)
    · rename_i h2
      split at h
      · rename_i h3
        exact ⟨h1, by omega, h3⟩
      · exact absurd h (by decide)
  · exact absurd h (by decide)

/-- A header's cells, at whatever place. -/
structure HdAt (w : World) (b o : Nat) (s t : Int) (y : Value) : Prop where
  seq : w.cell? ⟨b, o, none⟩ = some (.int .i64 s)
  start : w.cell? ⟨b, o + 1, none⟩ = some (.int .i64 t)
  addrs : w.cell? ⟨b, o + 2, none⟩ = some y

theorem HdAt_new (w : World) (s t : Int) (y : Value) (ty : TypeId) : HdAt (w.alloc (.cells #[.int .i64 s, .int .i64 t, y] ty)) w.heap.size 0 s t y := ⟨by simp [go_sem], by simp [go_sem], by simp [go_sem]⟩
theorem HdAt.later {w w' : World} {b o : Nat} {s t : Int} {y : Value} (h : HdAt w b o s t y) (hb : Below w.heap.size w w') : HdAt w' b o s t y := ⟨cell_later hb h.seq, cell_later hb h.start, cell_later hb h.addrs⟩

end Go.Proofs.YtcmdgnemkjfckaaGreatDoor
/- Chapter 2, the program's side: 'impl.HeaderFault', walked. -/
namespace Go.Proofs.YtcmdgnemkjfckaaGreatDoor
open Go.RowKit
end Go.Proofs.YtcmdgnemkjfckaaGreatDoor
/- Chapter 2, the model's side: 'spec.l2Pack', 'spec.PackHeader', walked. -/
namespace Go.Proofs.YtcmdgnemkjfckaaGreatDoor
open Go.RowKit

/-- An append onto what the call itself has made, as one step of a region that draws its order. -/
theorem step_append_any {P : Program} (w : World) {ops : Array Oper} {o : Oper} {a : Act} {K : Act → World → Prop} {Q : Exit → Act → World → Prop} {E : Prop} (hgd : o.guard = none) (s x : Operand) (t : TypeId)
    (ho : o.op = .call { callee := .builtin .append, args := #[s, x], argTypes := #[t, t] })
    (base : Nat) (e : TypeId) (i : TypeInfo) (z : Value) (size bytes : Nat) (ht : P.underlying t = some (.slice e)) (hi : P.info? e = some i) (hz : i.zero = some z)
    (hsize : i.size = size) (hby : i.bytes = bytes) (hzs : z.cells.size = size) (hsz : 0 < size)
    (v : Value) (n : Nat) (xs : List Value) (hs : a.eval s = v) (hown : w.ownsRow base e size v n xs)
    (ao : Option Addr) (m c : Nat) (news : List Value) (hx : a.eval x = .slice ao m c) (hl : news.length = m * size)
    (hnews : m ≠ 0 → ∃ ad, ao = some ad ∧ ∀ j u, news[j]? = some u → w.cell? (ad.add j) = some u) (h1 : ∀ u ∈ news, u.oneCell' = true)
    (h63 : n + m ≤ maxLen) (hbytes : (n + m) * bytes ≤ 140737488355328) (hbase : base ≤ w.heap.size)
    (h : ∀ v' w', w'.ownsRow base e size v' (n + m) (xs ++ news) → w.grownBy w' v.ownBlock → K (a.put o.dst v') w') : if Region.wanted o (yielded ops a.tmps) = true then Oper.wp P o a w K Q else E := by
  have hw : Region.wanted o (yielded ops a.tmps) = true := by simp [Region.wanted, hgd]
  rw [if_pos hw]
  by_cases hm : m = 0
  · subst hm
    have hn : news = [] := List.eq_nil_of_length_eq_zero (by simpa using hl)
    subst hn
    have hv : ∃ ad k, v = .slice ad n k ∧ n ≤ k := by
      rcases hown.2 with ⟨rfl, rfl⟩ | ⟨g, cap, cur, rfl, _, _, hnc, _⟩
      · exact ⟨_, _, rfl, Nat.le_refl _⟩
      · exact ⟨_, _, rfl, hnc⟩
    obtain ⟨ad, k, rfl, hk⟩ := hv
    have hrun := run_append_zero (P := P) w t o.type e i ht hi ad n k hk ao c
    unfold Oper.wp
    simp [execOp, ho, resolve, invoke, builtin, hs, hx, hrun, Result.andThen]
    exact h _ w (by simpa using hown) (World.grownBy.refl _ _)
  · obtain ⟨ad, rfl, hc⟩ := hnews hm
    exact wp_append_own (P := P) w s x t ho base e i z size bytes ht hi hz hsize hby hzs hsz v n xs hs hown ad m c news hx hl hc h1 h63 hbytes hbase (fun v' w' k1 k2 _ => h v' w' k1 k2)

theorem ownsRow_full (w : World) (cs : List Value) (e : TypeId) (hm : cs.length ≤ 1048576) : (w.alloc (.cells cs.toArray e)).ownsRow w.heap.size e 1 (.slice (some ⟨w.heap.size, 0, none⟩) cs.length cs.length) cs.length cs :=
  ⟨by simp, .inr ⟨w.heap.size, cs.length, cs.toArray, rfl, Nat.le_refl _, heap_alloc_new w _, Nat.le_refl _, by unfold maxLen; omega, by simp, by simp⟩⟩

/-- One half of a header's words; all of them. -/
def packH (s t : Int) (xs : List Int) : List Int := [s, t, (xs.length : Int)] ++ xs ++ List.replicate (29 - xs.length) 0
def packL (s t : Int) (xs : List Int) : List Int := packH s t xs ++ packH s t xs
theorem packH_len {s t : Int} {xs : List Int} (h : xs.length ≤ 29) : (packH s t xs).length = 32 := by simp [packH]; omega
theorem packL_len {s t : Int} {xs : List Int} (h : xs.length ≤ 29) : (packL s t xs).length = 64 := by simp [packL, packH_len h]

end Go.Proofs.YtcmdgnemkjfckaaGreatDoor
/- Small whole numbers as floats, and back. -/
namespace Go.Proofs.YtcmdgnemkjfckaaGreatDoor
open Go.RowKit

/-- The float64 of a whole number. -/
def fl (n : Nat) : Nat := FloatKind.f64.nearest (n : Int)

theorem cut_even_zero (neg : Bool) (m : Nat) : Ieee.Toward.even.cut neg m 0 = m := by
  simp [Ieee.Toward.cut, Nat.mod_one]

theorem fl_zero : fl 0 = 0 := by decide

theorem fl_form (n L : Nat) (hn : n ≠ 0) (hl : n.log2 = L) (hL : L ≤ 15) : fl n = (L + 1022) * 4503599627370496 + n * 2 ^ (52 - L) := by
  have hlt : n < 65536 := by
    have : n < 2 ^ 16 := (Nat.log2_lt hn).1 (by omega)
    simpa using this
  unfold fl FloatKind.nearest FloatKind.encode Ieee.Format.write Ieee.Format.nearest
  simp only [Int.natAbs_natCast]
  rw [if_neg hn]
  simp only [hl]
  have e1 : max ((0 : Int) + ((L : Nat) : Int) - ((FloatKind.f64.format.fractionBits : Nat) : Int)) FloatKind.f64.format.leastPlace = (L : Int) - 52 := by
    simp only [FloatKind.format, Ieee.double, Ieee.Format.leastPlace]
    omega
  rw [e1]
  have e2 : ((L : Int) - 52 - 0).toNat = 0 := by omega
  have e3 : ((0 : Int) - ((L : Int) - 52)).toNat = 52 - L := by omega
  rw [e2, e3, cut_even_zero, Nat.shiftLeft_eq]
  have e4 : ((L : Int) - 52 - FloatKind.f64.format.leastPlace).toNat = L + 1022 := by
    simp only [FloatKind.format, Ieee.double, Ieee.Format.leastPlace]
    omega
  have e5 : FloatKind.f64.format.binade = 4503599627370496 := by decide
  have e6 : FloatKind.f64.format.infRung = 9218868437227405312 := by decide
  have e7 : decide (((n : Nat) : Int) < 0) = false := by simp
  rw [e4, e5, e6, e7]
  simp only [Ieee.Format.word]
  have h2 : n * 2 ^ (52 - L) < 9007199254740992 := by
    have h3 : n < 2 ^ (L + 1) := (Nat.log2_lt hn).1 (by omega)
    calc n * 2 ^ (52 - L) < 2 ^ (L + 1) * 2 ^ (52 - L) := Nat.mul_lt_mul_of_pos_right h3 (Nat.two_pow_pos _)
      _ = 2 ^ 53 := by rw [← Nat.pow_add]; congr 1; omega
      _ = 9007199254740992 := by decide
  rw [Nat.min_eq_left (by omega)]
  simp

theorem fl_read (n L : Nat) (hn : n ≠ 0) (hl : n.log2 = L) (hL : L ≤ 15) : FloatKind.f64.decode (fl n) = .number false (n * 2 ^ (52 - L)) ((L : Int) - 52) := by
  have h2 : n * 2 ^ (52 - L) < 9007199254740992 := by
    have h3 : n < 2 ^ (L + 1) := (Nat.log2_lt hn).1 (by omega)
    calc n * 2 ^ (52 - L) < 2 ^ (L + 1) * 2 ^ (52 - L) := Nat.mul_lt_mul_of_pos_right h3 (Nat.two_pow_pos _)
      _ = 2 ^ 53 := by rw [← Nat.pow_add]; congr 1; omega
      _ = 9007199254740992 := by decide
  have h1 : 4503599627370496 ≤ n * 2 ^ (52 - L) := by
    have h3 : 2 ^ L ≤ n := (Nat.le_log2 hn).1 (by omega)
    calc 4503599627370496 = 2 ^ 52 := by decide
      _ = 2 ^ L * 2 ^ (52 - L) := by rw [← Nat.pow_add]; congr 1; omega
      _ ≤ n * 2 ^ (52 - L) := Nat.mul_le_mul_right _ h3
  rw [fl_form n L hn hl hL]
  generalize n * 2 ^ (52 - L) = m at h1 h2 ⊢
  have e5 : FloatKind.f64.format.binade = 4503599627370496 := by decide
  have e6 : FloatKind.f64.format.infRung = 9218868437227405312 := by decide
  have e7 : FloatKind.f64.format.signWeight = 9223372036854775808 := by decide
  have e8 : FloatKind.f64.format.leastPlace = -1074 := by decide
  unfold FloatKind.decode Ieee.Format.read
  simp only [e5, e6, e7, e8]
  have r : (L + 1022) * 4503599627370496 + m < 9218868437227405312 := by omega
  have r1 : ((L + 1022) * 4503599627370496 + m) % 9223372036854775808 = (L + 1022) * 4503599627370496 + m := Nat.mod_eq_of_lt (by omega)
  have r2 : ((L + 1022) * 4503599627370496 + m) / 9223372036854775808 = 0 := Nat.div_eq_of_lt (by omega)
  rw [r1, r2, if_neg (by omega), if_pos r]
  congr 1
  · omega
  · omega

theorem fl_toInt (n : Nat) (h : n ≤ 65535) : (FloatKind.f64.decode (fl n)).toInt .zero = some (n : Int) := by
  by_cases hn : n = 0
  · subst hn
    decide
  · have hL : n.log2 ≤ 15 := by
      have : n.log2 < 16 := (Nat.log2_lt hn).2 (by omega)
      omega
    obtain ⟨L, hl⟩ : ∃ L, n.log2 = L := ⟨_, rfl⟩
    rw [hl] at hL
    rw [fl_read n L hn hl hL]
    have h1 : 4503599627370496 ≤ n * 2 ^ (52 - L) := by
      have h3 : 2 ^ L ≤ n := (Nat.le_log2 hn).1 (by omega)
      calc 4503599627370496 = 2 ^ 52 := by decide
        _ = 2 ^ L * 2 ^ (52 - L) := by rw [← Nat.pow_add]; congr 1; omega
        _ ≤ n * 2 ^ (52 - L) := Nat.mul_le_mul_right _ h3
    unfold Ieee.Datum.toInt Ieee.Datum.integral
    have e1 : ((L : Int) - 52).toNat = 0 := by omega
    have e2 : (-((L : Int) - 52)).toNat = 52 - L := by omega
    simp only [e1, e2, Nat.shiftLeft_zero]
    have h4 : 52 ≤ (n * 2 ^ (52 - L)).log2 := (Nat.le_log2 (by omega)).2 (by simpa using h1)
    have e3 : Ieee.Toward.zero.cut false (n * 2 ^ (52 - L)) (52 - L) = n := by
      unfold Ieee.Toward.cut
      simp only [Nat.min_eq_left (show 52 - L ≤ (n * 2 ^ (52 - L)).log2 + 2 by omega), Nat.one_shiftLeft]
      rw [Nat.mul_div_cancel _ (Nat.two_pow_pos _)]
      simp
    rw [e3]
    simp [Ieee.signed]

theorem fl_ne (n : Nat) (h : n ≤ 65535) (hn : n ≠ 0) : (FloatKind.f64.format.order (fl n) 0 == some Ordering.eq) = false := by
  have hL : n.log2 ≤ 15 := by
    have : n.log2 < 16 := (Nat.log2_lt hn).2 (by omega)
    omega
  obtain ⟨L, hl⟩ : ∃ L, n.log2 = L := ⟨_, rfl⟩
  rw [hl] at hL
  have h0 := fl_read n L hn hl hL
  have hz : FloatKind.f64.format.read 0 = .number false 0 (-1074) := by decide
  unfold FloatKind.decode at h0
  unfold Ieee.Format.order
  rw [h0, hz]
  unfold Ieee.Datum.order
  have e1 : min ((L : Int) - 52) (-1074) = -1074 := by omega
  simp only [e1, Ieee.signed]
  simp
  exact ⟨hn, by exact_mod_cast Nat.ne_of_gt (Nat.two_pow_pos (52 - L))⟩
end Go.Proofs.YtcmdgnemkjfckaaGreatDoor
/- 'impl.cellsOf', walked. -/
namespace Go.Proofs.YtcmdgnemkjfckaaGreatDoor
open Go.RowKit

@[go_sem] theorem run_store_complex (P : Program) (w : World) (a : Addr) (m : Mode) (k : FloatKind) (x y : Nat) : (store a (.complex k x y) m).run P w = stored P w a (.complex k x y) m := run_store P w a _ m rfl

def zc : Value := .complex .f64 0 0
/-- The cell of the i-th of the words. -/
def cellV (xs : List Int) (i : Nat) : Value := if i < xs.length then .complex .f64 (fl (xs.getD i 0).toNat) (fl (i + 1)) else zc
/-- The first k cells are laid. -/
def cellsTo (xs : List Int) (k : Nat) : List Value := (List.range 64).map fun i => if i < k then cellV xs i else zc

theorem cellsTo_len (xs : List Int) (k : Nat) : (cellsTo xs k).length = 64 := by simp [cellsTo]
theorem cellsTo_at (xs : List Int) (k i : Nat) (h : i < 64) : (cellsTo xs k)[i]? = some (if i < k then cellV xs i else zc) := by simp [cellsTo, h]
theorem cellsTo_zero (xs : List Int) : cellsTo xs 0 = List.replicate 64 zc := by
  refine List.ext_getElem? fun i => ?_
  by_cases h : i < 64
  · rw [cellsTo_at xs 0 i h, if_neg (Nat.not_lt_zero _), List.getElem?_replicate, if_pos h]
  · rw [List.getElem?_eq_none (by rw [cellsTo_len]; omega), List.getElem?_eq_none (by simp; omega)]

theorem setCells_size (b : Nat) : ∀ (vs : List Value) (o : Nat) (w : World), (w.setCells b o vs).heap.size = w.heap.size
  | [], _, _ => rfl
  | v :: r, o, w => by simp only [World.setCells]; rw [setCells_size b r]; simp
theorem Below.setCells {B b : Nat} {a w : World} (h : Below B a w) (hb : B ≤ b) : ∀ (o : Nat) (vs : List Value), Below B a (w.setCells b o vs) := by
  intro o vs
  induction vs generalizing o w with
  | nil => exact h
  | cons v r ih => exact ih (h.setCell (p := ⟨b, o, none⟩) hb v) (o + 1)

theorem range_new (w : World) (cs : List Value) (t : TypeId) : (w.alloc (.cells cs.toArray t)).rangeAt w.heap.size 0 cs := by
  intro j v hv
  have h := World.rangeAt_of_block (heap_alloc_new w (.cells cs.toArray t)) 0 cs.length
  simp at h
  have := h j v hv
  simpa using this
theorem there_new (w : World) (cs : List Value) (t : TypeId) (n : Nat) (hn : cs.length = n) : (w.alloc (.cells cs.toArray t)).there w.heap.size 0 n := by
  intro j hj
  refine ⟨(range_new w cs t).isSome j (by omega), by simp [go_sem]⟩

theorem cellsTo_one (xs : List Int) (k : Nat) : ∀ v ∈ cellsTo xs k, v.oneCell' = true := by
  intro v hv
  simp only [cellsTo, List.mem_map] at hv
  obtain ⟨i, _, rfl⟩ := hv
  unfold cellV zc
  split
  · split <;> rfl
  · rfl

/-- What the loop of 'cellsOf' knows behind k words. -/
structure CellsAt (xs : List Int) (w : World) (k : Nat) (wr : World) : Prop where
  below : Below w.heap.size w wr
  size : wr.heap.size = w.heap.size + 2
  res : wr.there w.heap.size 0 64
  free : ∀ o, wr.frozen? ⟨w.heap.size + 1, o, none⟩ = false
  cells : wr.rangeAt (w.heap.size + 1) 0 (cellsTo xs k)

theorem CellsAt.step {xs : List Int} {w wr : World} {k : Nat} (h : CellsAt xs w k wr) (hk : k < 64) (hkx : k < xs.length) : CellsAt xs w (k + 1) (wr.setCell ⟨w.heap.size + 1, k, none⟩ (.complex .f64 (fl (xs.getD k 0).toNat) (fl (k + 1)))) := by
  refine ⟨h.below.setCell (by simp) _, by simpa using h.size, fun j hj => ?_, fun o => by rw [World.frozen?_setCell]; exact h.free o, fun j v hv => ?_⟩
  · rw [World.cell?_setCell_other _ _ _ _ (by simp), World.frozen?_setCell]
    exact h.res j hj
  · have hj : j < 64 := by
      have := (List.getElem?_eq_some_iff.1 hv).1
      rwa [cellsTo_len] at this
    rw [cellsTo_at xs (k + 1) j hj] at hv
    injection hv with hv
    have hold := h.cells j _ (cellsTo_at xs k j hj)
    rw [Nat.zero_add] at hold ⊢
    by_cases e : j = k
    · subst e
      rw [World.cell?_setCell_same _ _ _ hold, ← hv, if_pos (by omega)]
      simp only [cellV]
      rw [if_pos hkx]
    · rw [World.cell?_setCell_other _ _ _ _ (by intro h'; injection h' with _ h2; exact e h2.symm), hold, ← hv]
      by_cases h2 : j < k
      · rw [if_pos h2, if_pos (by omega)]
      · rw [if_neg h2, if_neg (by omega)]

end Go.Proofs.YtcmdgnemkjfckaaGreatDoor
