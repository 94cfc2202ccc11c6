/- Rs Rt Rt2 in one text: what each says stands at its head below. -/
import Derived.Test.YtlljcajfdeiigaaGreatDoorG16
import Derived.Deep.RegionLaw
import Derived.Deep.AppendLies
import Derived.Test.YtlljcajfdeiigaaGreatDoorG15
import Derived.Test.YtlljcajfdeiigaaGreatDoorG14
/- The variable of a result; what append does at a step of a region that draws. -/
namespace Go.Proofs.YtlljcajfdeiigaaGreatDoor
open Go.RowKit

/-- The variable of the result (a code, a list) as it was made. -/
structure ResF (w wr : World) : Prop where
  below : Below w.heap.size w wr
  c0 : wr.cell? ⟨w.heap.size, 0, none⟩ = some (.int .i64 0)
  c1 : wr.cell? ⟨w.heap.size, 1, none⟩ = some (.slice none 0 0)
  fr : ∀ o, wr.frozen? ⟨w.heap.size, o, none⟩ = false
theorem ResF.lt {w wr : World} (h : ResF w wr) : w.heap.size < wr.heap.size := World.block_lt_of_cell? _ _ h.c0
theorem ResF.later {w wr w1 : World} (h : ResF w wr) (hb : Below wr.heap.size wr w1) : ResF w w1 :=
  ⟨below_on h.below hb, cell_later hb h.c0, cell_later hb h.c1, fun o => ((bcell hb).2 _ _ h.lt).trans (h.fr o)⟩
theorem ResF.start (w : World) (t : TypeId) : ResF w (w.alloc (.cells #[.int .i64 0, .slice none 0 0] t)) :=
  ⟨below_alloc _ _, by simp [go_sem], by simp [go_sem], fun o => by simp [go_sem]⟩
theorem ResF.shut {w wr : World} (h : ResF w wr) (x y : Value) : Below w.heap.size w ((wr.setCell ⟨w.heap.size, 0, none⟩ x).setCell ⟨w.heap.size, 1, none⟩ y) := (h.below.setCell (Nat.le_refl _) _).setCell (Nat.le_refl _) _

theorem owns_shapeR {w : World} {B e s : Nat} {v : Value} {n : Nat} {xs : List Value} (h : w.ownsRow B e s v n xs) : ∃ ao c, v = .slice ao n c := by
  rcases h.2 with ⟨rfl, rfl⟩ | ⟨g, cap, cur, rfl, _⟩
  · exact ⟨_, _, rfl⟩
  · exact ⟨_, _, rfl⟩
theorem ownsRow_fullF (w : World) (cs : List Value) (e : TypeId) (hm : cs.length ≤ 1048576) : (w.alloc (.cells cs.toArray e)).ownsRow w.heap.size e 1 (.slice (some ⟨w.heap.size, 0, none⟩) cs.length cs.length) cs.length cs :=
  ⟨by simp, .inr ⟨w.heap.size, cs.length, cs.toArray, rfl, Nat.le_refl _, heap_alloc_new w _, Nat.le_refl _, by unfold maxLen; omega, by simp, by simp⟩⟩
/-- An append at a step of a region that draws, of a slice of whatever address where it holds nothing. -/
theorem step_append_fi {P : Program} (w : World) {ops : Array Oper} {o : Oper} {a : Act} {K : Act → World → Prop} {Q : Exit → Act → World → Prop} {E : Prop} (hgd : o.guard = none) (s x : Operand) (t : TypeId)
    (ho : o.op = .call { callee := .builtin .append, args := #[s, x], argTypes := #[t, t] })
    (base : Nat) (e : TypeId) (i : TypeInfo) (z : Value) (size bytes : Nat) (ht : P.underlying t = some (.slice e)) (hi : P.info? e = some i) (hz : i.zero = some z)
    (hsize : i.size = size) (hby : i.bytes = bytes) (hzs : z.cells.size = size) (hsz : 0 < size)
    (v : Value) (n : Nat) (xs : List Value) (hs : a.eval s = v) (hown : w.ownsRow base e size v n xs)
    (ao : Option Addr) (m c : Nat) (news : List Value) (hx : a.eval x = .slice ao m c) (hl : news.length = m * size)
    (hnews : m ≠ 0 → ∃ ad, ao = some ad ∧ ∀ j u, news[j]? = some u → w.cell? (ad.add j) = some u) (h1 : ∀ u ∈ news, u.oneCell' = true)
    (h63 : n + m ≤ maxLen) (hbytes : (n + m) * bytes ≤ 140737488355328) (hbase : base ≤ w.heap.size)
    (h : ∀ v' w', w'.ownsRow base e size v' (n + m) (xs ++ news) → w.grownBy w' v.ownBlock → K (a.put o.dst v') w') :
    if Region.wanted o (yielded ops a.tmps) = true then Oper.wp P o a w K Q else E := by
  by_cases hm : m = 0
  · subst hm
    have hn : news = [] := List.eq_nil_of_length_eq_zero (by simpa using hl)
    subst hn
    have hw : Region.wanted o (yielded ops a.tmps) = true := by simp [Region.wanted, hgd]
    rw [if_pos hw]
    have hv : ∃ ad k, v = .slice ad n k ∧ n ≤ k := by
      rcases hown.2 with ⟨rfl, rfl⟩ | ⟨g, cap, cur, rfl, _, _, hnc, _⟩
      · exact ⟨_, _, rfl, Nat.le_refl _⟩
      · exact ⟨_, _, rfl, hnc⟩
    obtain ⟨ad, k, rfl, hk⟩ := hv
    have hrun := run_append_zero (P := P) w t o.type e i ht hi ad n k hk ao c
    have hh := h _ w (by simpa using hown) (World.grownBy.refl _ _)
    unfold Oper.wp execOp
    simp only [ho, resolve, invoke, builtin, Sem.run_bind, Sem.run_pure, Result.andThen_ok, List.map_toArray, List.map_cons, List.map_nil, hs, hx, hrun]
    exact hh
  · obtain ⟨ad, rfl, hc⟩ := hnews hm
    exact step_append_lies w hgd s x t ho base e i z size bytes ht hi hz hsize hby hzs hsz v n xs hs hown ad m c news hx hl hc h1 (by omega) h63 hbytes hbase _ rfl (fun g cap w' h2 h3 _ _ => h _ w' h2 h3)
end Go.Proofs.YtlljcajfdeiigaaGreatDoor
/- Chapter 10: the terms of a store as a list that begins at an index, of the program, walked. -/
namespace Go.Proofs.YtlljcajfdeiigaaGreatDoor
open Go.RowKit

/-- The terms from the snapshot on. -/
def trmL (r : Rf) : List Int := r.st :: r.lg.map fun p => p.2.1
theorem trm_take {ps : List Oj} {k : Nat} (h : k < ps.length) : (ps.take (k + 1)).map (fun p => p.2.1) = (ps.take k).map (fun p => p.2.1) ++ [(ps.getD k oj0).2.1] := by
  rw [List.take_succ_eq_append_getElem h, List.map_append]
  simp [List.getD, h]

set_option maxHeartbeats 4000000 in
set_option maxRecDepth 4000 in
theorem termsOfI {S T : Nat → Prop} {w : World} {y z : Value} (r : Rf) (hy : RdI S w y r.sn) (hz : RdJ T w z r.lg) (hm : r.lg.length ≤ 14) :
    Calls Tryz.prog 99 #[.agg #[.int .i64 r.tm, .int .i64 r.vt, .int .i64 r.si, .int .i64 r.st, y, z]] w fun e w' => ∃ u, e = .returned (.agg #[.int .i64 r.si, u]) ∧ Below w.heap.size w w' ∧ RdI (fun _ => True) w' u (trmL r) := by
  obtain ⟨ay, cy, rfl⟩ := hy.shape
  obtain ⟨az, cz, rfl, _⟩ := hz.shape
  have HZ := hide hz
  have HT : Hid (trmL r = r.st :: r.lg.map fun p => p.2.1) := rfl
  rw [HT.out]
  clear hy hz HT
  obtain ⟨l, hl⟩ : ∃ l, r.sn.length = l := ⟨_, rfl⟩
  obtain ⟨m, hme⟩ : ∃ m, r.lg.length = m := ⟨_, rfl⟩
  have HME := hide hme
  rw [hl]
  rw [hme] at HZ hm ⊢
  clear hl hme
  obtain ⟨ps, hps⟩ : ∃ ps, r.lg = ps := ⟨_, rfl⟩
  rw [hps] at HZ HME ⊢
  clear hps
  generalize r.tm = a at *
  generalize r.vt = b at *
  generalize r.si = c at *
  generalize r.st = d at *
  obtain ⟨i0, hi, hz0, hz1, hz2⟩ := info_parts Tryz.infoInt
  obtain ⟨W2, hW2⟩ : ∃ W2, (w.alloc (.cells #[.int .i64 a, .int .i64 b, .int .i64 c, .int .i64 d, .slice ay l cy, .slice az m cz] 32)).alloc (.cells #[.int .i64 0, .slice none 0 0] 124) = W2 := ⟨_, rfl⟩
  have hs2 : W2.heap.size = w.heap.size + 2 := by rw [← hW2]; simp
  have c2 : W2.cell? ⟨w.heap.size, 2, none⟩ = some (.int .i64 c) := by rw [← hW2]; simp [go_sem]
  have c3 : W2.cell? ⟨w.heap.size, 3, none⟩ = some (.int .i64 d) := by rw [← hW2]; simp [go_sem]
  have c5 : W2.cell? ⟨w.heap.size, 5, none⟩ = some (.slice az m cz) := by rw [← hW2]; simp [go_sem]
  have r0 : W2.cell? ⟨w.heap.size + 1, 0, none⟩ = some (.int .i64 0) := by rw [← hW2]; simp [go_sem]
  have r1 : W2.cell? ⟨w.heap.size + 1, 1, none⟩ = some (.slice none 0 0) := by rw [← hW2]; simp [go_sem]
  have f0 : W2.frozen? ⟨w.heap.size + 1, 0, none⟩ = false := by rw [← hW2]; simp [go_sem]
  have f1 : W2.frozen? ⟨w.heap.size + 1, 1, none⟩ = false := by rw [← hW2]; simp [go_sem]
  have BW := hide (show Below w.heap.size w W2 by rw [← hW2]; exact below_on (below_alloc _ _) (below_alloc _ _))
  have HW2 := hide hW2
  have HR0 := hide r0
  have HR1 := hide r1
  have HC2 := hide c2
  have HF0 := hide f0
  have HF1 := hide f1
  have HS2 := hide hs2
  go_enter Tryz.func99, Tryz.ntmps99
  go_wp2_with fail
  clear hW2 hs2
  have HRow0 : Hid ((W2.alloc (.cells #[.int .i64 d] 2)).ownsRow W2.heap.size 2 1 (.slice (some ⟨w.heap.size + 2, 0, none⟩) 1 1) 1 ([d].map (Value.int .i64))) := by rw [Hid, ← HS2.out]; exact ownsRow_fullF W2 [.int .i64 d] 2 (by simp)
  go_loopw [3, 12] (fun v i wr => ∃ k : Nat, k ≤ m ∧ i = .int .i64 k ∧ Hid (wr.ownsRow W2.heap.size 2 1 v (k + 1) ((d :: (ps.take k).map fun p => p.2.1).map (Value.int .i64))) ∧ Hid (Below W2.heap.size W2 wr)) (fun _ i _ => m - (RowKit.intOf i).toNat)
  case atStart => exact ⟨0, Nat.zero_le _, rfl, by simpa [Hid] using HRow0.out, below_alloc _ _⟩
  case round =>
    obtain ⟨k, hk, rfl, HRow, HB⟩ := hrel
    by_cases hlt : k < m
    · obtain ⟨bb, off, rfl, y0, q0, q1, q2, q3⟩ := HZ.out.file (k := k) (by rw [HME.out]; exact hlt)
      have hk0 : (0 : Int) ≤ (k : Int) := by omega
      have hk1 : (k : Int) < (m : Int) := by omega
      have HSn := hide (trm_take (ps := ps) (k := k) (by rw [HME.out]; exact hlt))
      obtain ⟨x, hx⟩ : ∃ x, ps.getD k oj0 = x := ⟨_, rfl⟩
      rw [hx] at q0 q1 q3 HSn
      clear hx
      obtain ⟨e0, t0, xs0⟩ := x
      dsimp only at q0 q1 q3 HSn
      obtain ⟨a3, c3', rfl⟩ := q3.shape
      have g0 := cell_later HB.out (cell_later BW.out q0)
      have g1 := cell_later HB.out (cell_later BW.out q1)
      have g2 := cell_later HB.out (cell_later BW.out q2)
      generalize xs0.length = l0 at g2
      have hbl := World.block_lt_of_cell? _ _ g0
      have hzz := HB.out.size
      clear q0 q1 q2 q3
      obtain ⟨P, hP⟩ : ∃ P, (ps.take k).map (fun p => p.2.1) = P := ⟨_, rfl⟩
      rw [hP] at HRow HSn
      clear hP
      go_wp2_with (at_builtin; refine wpList_append_lies _ rfl _ _ _ rfl W2.heap.size 2 i0 (.int .i64 0) 1 8 Tryz.underlying22 hi hz0 hz1 hz2 rfl (by omega) _ (k + 1) _ (by rfl) ((HRow.out.alloc (.cells #[.int .i64 e0, .int .i64 t0, .slice a3 l0 c3'] 76)).alloc (.cells #[.int .i64 t0] 2)) ⟨wr.heap.size + 1, 0, none⟩ 1 1 [.int .i64 t0] (by rfl) (by rfl) (World.news_of_block (cs := #[.int .i64 t0]) (t := 2) (fr := (0, 0)) (by have h := heap_alloc_new (wr.alloc (.cells #[.int .i64 e0, .int .i64 t0, .slice a3 l0 c3'] 76)) (.cells #[.int .i64 t0] 2); simpa using h)) (by simp [Value.oneCell']) (by omega) (by unfold maxLen; omega) (by omega) (by simp; omega) (wr.heap.size + 1 + 1) (by simp) ?_; intro g cap w4 hown3 hgrow hat hlt3)
      have HRow4 : Hid (w4.ownsRow W2.heap.size 2 1 (.slice (some ⟨g, 0, none⟩) (k + 1 + 1) cap) (k + 1 + 1) ((d :: (ps.take (k + 1)).map fun p => p.2.1).map (Value.int .i64))) := by
        rw [Hid, HSn.out]
        simpa using hown3
      have HB4 := hide ((below_on (below_on HB.out (below_alloc wr (.cells #[.int .i64 e0, .int .i64 t0, .slice a3 l0 c3'] 76))) (below_alloc _ (.cells #[.int .i64 t0] 2))).grown hgrow (by simp; omega) (fun r hr => (HRow.out.lt r hr).1))
      clear hown3 hgrow hat hlt3
      go_wp2
      go_roundw
      case rel => exact ⟨k + 1, by omega, by go_num, HRow4.out, HB4.out⟩
      case measure => simp [RowKit.intOf]; omega
    · have hkm : k = m := by omega
      subst hkm
      have hk1 : ¬ (k : Int) < (k : Int) := by omega
      have c2 := cell_later HB.out HC2.out
      have r0 := cell_later HB.out HR0.out
      have r1 := cell_later HB.out HR1.out
      have hs2 := HS2.out
      have f0 := ((bcell HB.out).2 _ _ (by omega)).trans HF0.out
      have f1 := ((bcell HB.out).2 _ _ (by omega)).trans HF1.out
      have ho := ow_of_owns (xs := d :: ps.map fun p => p.2.1) (n := k + 1) (by simp [HME.out]) (by have h := HRow.out; rw [List.take_of_length_le (by rw [HME.out]; omega)] at h; exact h) (by simp [HME.out]; omega)
      obtain ⟨au, cu, rfl⟩ := ho.shape
      have HFn := hide (ret_ints (x := .int .i64 c) (below_on BW.out HB.out) (Nat.le_succ w.heap.size) ho (by omega))
      clear hs2
      obtain ⟨lu, hlu⟩ : ∃ l, (d :: ps.map fun p => p.2.1).length = l := ⟨_, rfl⟩
      rw [hlu] at HFn ⊢
      clear ho hlu HRow
      go_wp2
      refine bodyPost_ret (v := .agg #[.int .i64 c, .slice au lu cu]) (by simp [results, Tryz.results99, go_sem, r0, r1]) rfl ⟨_, rfl, HFn.out.1, HFn.out.2.rd.narrow fun _ _ _ => trivial⟩
end Go.Proofs.YtlljcajfdeiigaaGreatDoor
/- Chapter 10: a list that begins at an index: its end, what is in reach, what is at an index; the term at an index, of the program and of the model. -/
namespace Go.Proofs.YtlljcajfdeiigaaGreatDoor
open Go.RowKit

theorem endI (f : Int) (ao : Option Addr) (n c : Nat) (h0 : 0 ≤ f) (h1 : f ≤ 10000) (h2 : n ≤ 100) (w : World) :
    Calls Tryz.prog 108 #[.agg #[.int .i64 f, .slice ao n c]] w fun e w' => e = .returned (.int .i64 (f + n)) ∧ Below w.heap.size w w' := by
  have hw : IntKind.i64.wrap (f + (n : Int)) = f + n := by simp [IntKind.wrap, IntKind.bits, IntKind.signed]; omega
  go_enter Tryz.func108, Tryz.ntmps108
  go_wp2
  go_ret
  exact ⟨rfl, below_alloc _ _⟩
theorem reachLoI (f i : Int) (ao : Option Addr) (n c : Nat) (h : i < f) (w : World) :
    Calls Tryz.prog 107 #[.agg #[.int .i64 f, .slice ao n c], .int .i64 i] w fun e w' => e = .returned (.iface 128 (.agg #[.int .i64 f])) ∧ Below w.heap.size w w' := by
  go_enter Tryz.func107, Tryz.ntmps107
  go_wp2
  go_ret
  exact ⟨rfl, below_alloc _ _⟩
set_option maxHeartbeats 1000000 in
theorem reachHiI (f i : Int) (ao : Option Addr) (n c : Nat) (h0 : 0 ≤ f) (h1 : f ≤ 10000) (h2 : n ≤ 100) (h : f + n < i) (w : World) (a : Addr) (ha : w.cell? ⟨0, 0, none⟩ = some (.iface 168 (.pointer (some a)))) :
    Calls Tryz.prog 107 #[.agg #[.int .i64 f, .slice ao n c], .int .i64 i] w fun e w' => e = .returned (.iface 168 (.pointer (some a))) ∧ Below w.heap.size w w' := by
  have HE := hide (endI f ao n c h0 h1 h2)
  have hl : ¬ i < f := by omega
  obtain ⟨s, hs⟩ : ∃ s, f + (n : Int) = s := ⟨_, rfl⟩
  rw [hs] at HE h
  have BA := hide (below_alloc w (.cells #[.int .i64 f, .slice ao n c] 124))
  clear hs h0 h1 h2
  go_enter Tryz.func107, Tryz.ntmps107
  go_wp2_with fail
  refine (HE.out _).mono ?_
  rintro e w1 ⟨rfl, hb⟩
  have g := cell_later (below_on BA.out hb) ha
  have BB := hide (below_on BA.out hb)
  clear hb
  go_wp2
  go_ret
  exact ⟨rfl, BB.out⟩
set_option maxHeartbeats 1000000 in
theorem reachInI (f i : Int) (ao : Option Addr) (n c : Nat) (h0 : 0 ≤ f) (h1 : f ≤ 10000) (h2 : n ≤ 100) (h3 : f ≤ i) (h : i ≤ f + n) (w : World) :
    Calls Tryz.prog 107 #[.agg #[.int .i64 f, .slice ao n c], .int .i64 i] w fun e w' => e = .returned .nilIface ∧ Below w.heap.size w w' := by
  have HE := hide (endI f ao n c h0 h1 h2)
  have hl : ¬ i < f := by omega
  obtain ⟨s, hs⟩ : ∃ s, f + (n : Int) = s := ⟨_, rfl⟩
  rw [hs] at HE h
  have hr : ¬ s < i := by omega
  have BA := hide (below_alloc w (.cells #[.int .i64 f, .slice ao n c] 124))
  clear hs h0 h1 h2 h
  go_enter Tryz.func107, Tryz.ntmps107
  go_wp2_with fail
  refine (HE.out _).mono ?_
  rintro e w1 ⟨rfl, hb⟩
  have BB := hide (below_on BA.out hb)
  clear hb
  go_wp2
  go_ret
  exact ⟨rfl, BB.out⟩
theorem run_neq_iface_nilR {P : Program} (w : World) {ti : TypeId} {ms : Array (String × TypeId)} (tp : TypeId) (v : Value) (hi : P.underlying ti = some (.interface ms)) :
    (binOp .neq ti (.iface tp v) .nilIface).run P w = .ok (.bool true) w := by
  have h : ∀ d : Nat, (Op.equalIn (d + 1) ti (.iface tp v) .nilIface).run P w = .ok false w := fun d => by simp [Op.equalIn, run_underlying hi]
  simp only [binOp]
  simp [Op.equal, Op.maxDepth, h 9999]
theorem run_neq_nil_nilR {P : Program} (w : World) {ti : TypeId} {ms : Array (String × TypeId)} (hi : P.underlying ti = some (.interface ms)) :
    (binOp .neq ti .nilIface .nilIface).run P w = .ok (.bool false) w := by
  have h : ∀ d : Nat, (Op.equalIn (d + 1) ti .nilIface .nilIface).run P w = .ok true w := fun d => by simp [Op.equalIn, run_underlying hi]
  simp only [binOp]
  simp [Op.equal, Op.maxDepth, h 9999]
set_option maxHeartbeats 1000000 in
theorem atLoI (f i : Int) (ao : Option Addr) (n c : Nat) (h : i < f) (w : World) :
    Calls Tryz.prog 100 #[.agg #[.int .i64 f, .slice ao n c], .int .i64 i] w fun e w' => e = .returned (.tuple #[.int .i64 0, .iface 128 (.agg #[.int .i64 f])]) ∧ Below w.heap.size w w' := by
  have HE := hide (reachLoI f i ao n c h)
  have BA := hide (below_alloc w (.cells #[.int .i64 f, .slice ao n c] 124))
  clear h
  go_enter Tryz.func100, Tryz.ntmps100
  go_wp2_with fail
  refine (HE.out _).mono ?_
  rintro e w1 ⟨rfl, hb⟩
  have BB := hide (below_on BA.out hb)
  clear hb
  have hne := run_neq_iface_nilR (P := Tryz.prog) w1 128 (.agg #[.int .i64 f]) Tryz.underlying110
  go_wp2
  refine bodyPost_ret (v := .tuple #[.int .i64 0, .iface 128 (.agg #[.int .i64 f])]) (by simp [results, Tryz.results100, go_sem]) rfl ⟨rfl, BB.out⟩
set_option maxHeartbeats 2000000 in
theorem atHiI (f i : Int) (ao : Option Addr) (n c : Nat) (h0 : 0 ≤ f) (h1 : f ≤ 10000) (h2 : n ≤ 100) (h : f + n ≤ i) (w : World) (a : Addr) (ha : w.cell? ⟨0, 0, none⟩ = some (.iface 168 (.pointer (some a)))) :
    Calls Tryz.prog 100 #[.agg #[.int .i64 f, .slice ao n c], .int .i64 i] w fun e w' => e = .returned (.tuple #[.int .i64 0, .iface 168 (.pointer (some a))]) ∧ Below w.heap.size w w' := by
  have BA := hide (below_alloc w (.cells #[.int .i64 f, .slice ao n c] 124))
  have VA := hide (Var2_new w (.int .i64 f) (.slice ao n c) 124)
  have hac := cell_later BA.out ha
  by_cases hh : f + n < i
  · have HE := hide (reachHiI f i ao n c h0 h1 h2 hh _ a hac)
    clear h h0 h1 h2 hh ha hac
    go_enter Tryz.func100, Tryz.ntmps100
    go_wp2_with fail
    refine HE.out.mono ?_
    rintro e w1 ⟨rfl, hb⟩
    have BB := hide (below_on BA.out hb)
    clear hb
    have hne := run_neq_iface_nilR (P := Tryz.prog) w1 168 (.pointer (some a)) Tryz.underlying110
    go_wp2
    refine bodyPost_ret (v := .tuple #[.int .i64 0, .iface 168 (.pointer (some a))]) (by simp [results, Tryz.results100, go_sem]) rfl ⟨rfl, BB.out⟩
  · have he : i = f + n := by omega
    subst he
    have HE := hide (reachInI f (f + n) ao n c h0 h1 h2 (by omega) (by omega))
    have HN := hide (endI f ao n c h0 h1 h2)
    obtain ⟨s, hs⟩ : ∃ s, f + (n : Int) = s := ⟨_, rfl⟩
    rw [hs] at HE HN ⊢
    clear h h0 h1 h2 hh hs
    go_enter Tryz.func100, Tryz.ntmps100
    go_wp2_with fail
    refine (HE.out _).mono ?_
    rintro e w1 ⟨rfl, hb⟩
    have BB := hide (below_on BA.out hb)
    obtain ⟨v0, v1⟩ := VA.out.later hb
    have g := cell_later hb hac
    clear hb
    have hne := run_neq_nil_nilR (P := Tryz.prog) w1 Tryz.underlying110
    go_wp2_with fail
    refine (HN.out _).mono ?_
    rintro e w2 ⟨rfl, hb⟩
    have BC := hide (below_on BB.out hb)
    have g2 := cell_later hb g
    clear hb v0 v1 g
    go_wp2_with fail
    go_quiet (fail)
    go_wp2
    refine bodyPost_ret (v := .tuple #[.int .i64 0, .iface 168 (.pointer (some a))]) (by simp [results, Tryz.results100, go_sem]) rfl ⟨rfl, below_on BC.out (below_drewN _ _)⟩
set_option maxHeartbeats 2000000 in
theorem atInI {S : Nat → Prop} {w : World} {v : Value} {xs : List Int} (f i : Int) (hv : RdI S w v xs) (h0 : 0 ≤ f) (h1 : f ≤ 10000) (h2 : xs.length ≤ 100) (h3 : f ≤ i) (h : i < f + xs.length) :
    Calls Tryz.prog 100 #[.agg #[.int .i64 f, v], .int .i64 i] w fun e w' => e = .returned (.tuple #[.int .i64 (xs.getD (i - f).toNat 0), .nilIface]) ∧ Below w.heap.size w w' := by
  have hxl : (i - f).toNat < xs.length := by omega
  obtain ⟨ao, c, rfl, _, hc⟩ := hv
  obtain ⟨bb, off, rfl, _, hcell⟩ := hc (by intro e; rw [e] at hxl; simp at hxl)
  have g := hcell _ hxl
  obtain ⟨x, hx⟩ : ∃ x, xs.getD (i - f).toNat 0 = x := ⟨_, rfl⟩
  rw [hx] at g ⊢
  have HE := hide (reachInI f i (some ⟨bb, off, none⟩) xs.length (xs.length + c) h0 h1 h2 h3 (by omega))
  have HN := hide (endI f (some ⟨bb, off, none⟩) xs.length (xs.length + c) h0 h1 h2)
  obtain ⟨n, hn⟩ : ∃ n, xs.length = n := ⟨_, rfl⟩
  rw [hn] at HE HN h h2 ⊢
  obtain ⟨j, hj⟩ : ∃ j, (i - f).toNat = j := ⟨_, rfl⟩
  rw [hj] at g
  have hij : i - f = (j : Int) := by omega
  have hwr : IntKind.i64.wrap (i - f) = (j : Int) := by simp [IntKind.wrap, IntKind.bits, IntKind.signed]; omega
  have hjn : (j : Int) < (n : Int) := by omega
  have hj0 : (0 : Int) ≤ (j : Int) := by omega
  obtain ⟨s, hs⟩ : ∃ s, f + (n : Int) = s := ⟨_, rfl⟩
  rw [hs] at HN h
  have hne : (i == s) = false := by simp; omega
  have hned : decide (i = s) = false := by simp; omega
  have BA := hide (below_alloc w (.cells #[.int .i64 f, .slice (some ⟨bb, off, none⟩) n (n + c)] 124))
  have VA := hide (Var2_new w (.int .i64 f) (.slice (some ⟨bb, off, none⟩) n (n + c)) 124)
  have HG := hide g
  clear g hcell hc hx hn hj hs h0 h1 h2 h3 h hxl hij
  go_enter Tryz.func100, Tryz.ntmps100
  go_wp2_with fail
  refine (HE.out _).mono ?_
  rintro e w1 ⟨rfl, hb⟩
  have BB := hide (below_on BA.out hb)
  have VB := hide (VA.out.later hb)
  clear hb
  obtain ⟨v0, v1⟩ := VB.out
  have hnn := run_neq_nil_nilR (P := Tryz.prog) w1 Tryz.underlying110
  go_wp2_with fail
  refine (HN.out _).mono ?_
  rintro e w2 ⟨rfl, hb⟩
  have BC := hide (below_on BB.out hb)
  obtain ⟨u0, u1⟩ := VB.out.later hb
  have g2 := cell_later BC.out HG.out
  clear hb v0 v1
  go_wp2
  refine bodyPost_ret (v := .tuple #[.int .i64 x, .nilIface]) (by simp [results, Tryz.results100, go_sem]) rfl ⟨rfl, BC.out⟩
end Go.Proofs.YtlljcajfdeiigaaGreatDoor
