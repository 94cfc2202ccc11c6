/- Do1 Do2 in one text: what each says stands at its head below. -/
import Derived.Test.YtlliggfggadidaaGreatDoorG31
import Derived.Test.YtlliggfggadidaaGreatDoorG19
import Derived.Test.YtlliggfggadidaaGreatDoorG15
import Derived.Test.YtlliggfggadidaaGreatDoorG12
import Derived.Test.YtlliggfggadidaaGreatDoorG14
namespace Go.Proofs.YtlliggfggadidaaGreatDoor
open Go.RowKit
def dyC (r o : Rf) : Int := if o.tm = 1 then shC r o.si o.st else if o.tm = 2 then apRC r o.vt o.si o.lg else if o.tm = 3 then cpC r o.vt o.sn else if o.tm = 4 then inC r o.vt o.si o.sn else taC r o.vt
def dyN (r o : Rf) : Rf := if o.tm = 1 then shR r o.si o.st else if o.tm = 2 then apRR r o.vt o.si o.lg else if o.tm = 3 then cpR r o.vt o.sn else if o.tm = 4 then inR r o.vt o.si o.sn else r
def dyR (r o : Rf) : Rf := if dyC r o = 0 then dyN r o else r
def dyV (r o : Rf) : Int := if o.tm = 1 ∨ o.tm = 2 ∨ o.tm = 3 ∨ o.tm = 4 then 0 else taV r o.vt
def Room (x : Rf) : Prop := x.sn.length ≤ 1048576 ∧ x.lg.length ≤ 1048576 ∧ ∀ i, i < x.lg.length → (x.lg.getD i oj0).2.2.length ≤ 1048576
theorem room_tot {x : Rf} (h : totR x ≤ 1048576) : Room x := by
  unfold totR at h
  have h2 : ∀ i, i ≤ x.lg.length → i * 2 ≤ totJ x.lg i := by
    intro i
    induction i with
    | zero => intro _; omega
    | succ k ih => intro hk; have := ih (by omega); have := totJ_succ x.lg k (by omega); omega
  have h3 := h2 x.lg.length (Nat.le_refl _)
  exact ⟨by omega, by omega, fun i hi => by have h4 := totJ_succ x.lg i hi; have h5 := totJ_le x.lg (i + 1) x.lg.length hi; omega⟩
theorem tot_of {r : Rf} (h : rfF r = 0) : totR r ≤ 1048576 := by
  obtain ⟨h1, h2, _⟩ := rf_room h
  have hs := sum_le _ (six (rfF_iff.1 h).lo)
  unfold totR totJ
  rw [List.take_length]
  omega
theorem op_kind {o : Rf} (h : opF o = 0) : o.tm = 1 ∨ o.tm = 2 ∨ o.tm = 3 ∨ o.tm = 4 ∨ o.tm = 5 := by
  have := (opF_ok h).1
  unfold fmO at this
  omega
def doC (r o : Rf) : Int := if rfF r ≠ 0 then rfF r else opF o
def doY (r o : Rf) : Int := if doC r o = 0 then dyC r o else 0
def doV (r o : Rf) : Int := if doC r o = 0 then dyV r o else 0
def doR (r o : Rf) : Rf := if doC r o = 0 then dyR r o else rf0
theorem do_bad {r o : Rf} (h : rfF r ≠ 0) : doC r o = rfF r ∧ doY r o = 0 ∧ doV r o = 0 ∧ doR r o = rf0 := by
  have hc : doC r o = rfF r := by unfold doC; rw [if_pos h]
  have hn : ¬ doC r o = 0 := by rw [hc]; exact h
  exact ⟨hc, by unfold doY; rw [if_neg hn], by unfold doV; rw [if_neg hn], by unfold doR; rw [if_neg hn]⟩
theorem do_op {r o : Rf} (h : rfF r = 0) (h1 : opF o ≠ 0) : doC r o = opF o ∧ doY r o = 0 ∧ doV r o = 0 ∧ doR r o = rf0 := by
  have hc : doC r o = opF o := by unfold doC; rw [if_neg (fun k => k h)]
  have hn : ¬ doC r o = 0 := by rw [hc]; exact h1
  exact ⟨hc, by unfold doY; rw [if_neg hn], by unfold doV; rw [if_neg hn], by unfold doR; rw [if_neg hn]⟩
theorem do_ok {r o : Rf} (h : rfF r = 0) (h1 : opF o = 0) : doC r o = 0 ∧ doY r o = dyC r o ∧ doV r o = dyV r o ∧ doR r o = dyR r o := by
  have hc : doC r o = 0 := by unfold doC; rw [if_neg (fun k => k h)]; exact h1
  exact ⟨hc, by unfold doY; rw [if_pos hc], by unfold doV; rw [if_pos hc], by unfold doR; rw [if_pos hc]⟩
theorem dy1 {r o : Rf} (h : o.tm = 1) : dyC r o = shC r o.si o.st ∧ dyV r o = 0 ∧ dyR r o = if shC r o.si o.st = 0 then shR r o.si o.st else r := by
  have hc : dyC r o = shC r o.si o.st := by unfold dyC; rw [if_pos h]
  exact ⟨hc, by unfold dyV; rw [if_pos (by omega)], by unfold dyR; rw [hc]; unfold dyN; rw [if_pos h]⟩
theorem dy2 {r o : Rf} (h : o.tm = 2) : dyC r o = apRC r o.vt o.si o.lg ∧ dyV r o = 0 ∧ dyR r o = if apRC r o.vt o.si o.lg = 0 then apRR r o.vt o.si o.lg else r := by
  have hc : dyC r o = apRC r o.vt o.si o.lg := by unfold dyC; rw [if_neg (show ¬ o.tm = 1 by omega), if_pos h]
  exact ⟨hc, by unfold dyV; rw [if_pos (by omega)], by unfold dyR; rw [hc]; unfold dyN; rw [if_neg (show ¬ o.tm = 1 by omega), if_pos h]⟩
theorem dy3 {r o : Rf} (h : o.tm = 3) : dyC r o = cpC r o.vt o.sn ∧ dyV r o = 0 ∧ dyR r o = if cpC r o.vt o.sn = 0 then cpR r o.vt o.sn else r := by
  have hc : dyC r o = cpC r o.vt o.sn := by unfold dyC; rw [if_neg (show ¬ o.tm = 1 by omega), if_neg (show ¬ o.tm = 2 by omega), if_pos h]
  exact ⟨hc, by unfold dyV; rw [if_pos (by omega)], by unfold dyR; rw [hc]; unfold dyN; rw [if_neg (show ¬ o.tm = 1 by omega), if_neg (show ¬ o.tm = 2 by omega), if_pos h]⟩
theorem dy4 {r o : Rf} (h : o.tm = 4) : dyC r o = inC r o.vt o.si o.sn ∧ dyV r o = 0 ∧ dyR r o = if inC r o.vt o.si o.sn = 0 then inR r o.vt o.si o.sn else r := by
  have hc : dyC r o = inC r o.vt o.si o.sn := by unfold dyC; rw [if_neg (show ¬ o.tm = 1 by omega), if_neg (show ¬ o.tm = 2 by omega), if_neg (show ¬ o.tm = 3 by omega), if_pos h]
  exact ⟨hc, by unfold dyV; rw [if_pos (by omega)], by unfold dyR; rw [hc]; unfold dyN; rw [if_neg (show ¬ o.tm = 1 by omega), if_neg (show ¬ o.tm = 2 by omega), if_neg (show ¬ o.tm = 3 by omega), if_pos h]⟩
theorem dy5 {r o : Rf} (h : o.tm = 5) : dyC r o = taC r o.vt ∧ dyV r o = taV r o.vt ∧ dyR r o = r := by
  have hc : dyC r o = taC r o.vt := by unfold dyC; rw [if_neg (show ¬ o.tm = 1 by omega), if_neg (show ¬ o.tm = 2 by omega), if_neg (show ¬ o.tm = 3 by omega), if_neg (show ¬ o.tm = 4 by omega)]
  refine ⟨hc, by unfold dyV; rw [if_neg (by omega)], ?_⟩
  unfold dyR
  split
  · unfold dyN; rw [if_neg (show ¬ o.tm = 1 by omega), if_neg (show ¬ o.tm = 2 by omega), if_neg (show ¬ o.tm = 3 by omega), if_neg (show ¬ o.tm = 4 by omega)]
  · rfl
end Go.Proofs.YtlliggfggadidaaGreatDoor
namespace Go.Proofs.YtlliggfggadidaaGreatDoor
open Go.RowKit
set_option maxHeartbeats 2000000 in
set_option maxRecDepth 4000 in
theorem table1 (w : World) : Calls Tryz.prog 55 #[.int .i64 1] w fun e w' => e = .returned (.iface 93 (.func (.func 76) #[] #[])) ∧ Below w.heap.size w w' := by
  go_enter Tryz.func55, Tryz.ntmps55
  go_wp2
  go_ret
  exact ⟨rfl, below_alloc _ _⟩
set_option maxHeartbeats 2000000 in
set_option maxRecDepth 4000 in
theorem table2 (w : World) : Calls Tryz.prog 55 #[.int .i64 2] w fun e w' => e = .returned (.iface 93 (.func (.func 78) #[] #[])) ∧ Below w.heap.size w w' := by
  go_enter Tryz.func55, Tryz.ntmps55
  go_wp2
  go_ret
  exact ⟨rfl, below_alloc _ _⟩
set_option maxHeartbeats 2000000 in
set_option maxRecDepth 4000 in
theorem table3 (w : World) : Calls Tryz.prog 55 #[.int .i64 3] w fun e w' => e = .returned (.iface 93 (.func (.func 80) #[] #[])) ∧ Below w.heap.size w w' := by
  go_enter Tryz.func55, Tryz.ntmps55
  go_wp2
  go_ret
  exact ⟨rfl, below_alloc _ _⟩
set_option maxHeartbeats 2000000 in
set_option maxRecDepth 4000 in
theorem table4 (w : World) : Calls Tryz.prog 55 #[.int .i64 4] w fun e w' => e = .returned (.iface 93 (.func (.func 82) #[] #[])) ∧ Below w.heap.size w w' := by
  go_enter Tryz.func55, Tryz.ntmps55
  go_wp2
  go_ret
  exact ⟨rfl, below_alloc _ _⟩
set_option maxHeartbeats 2000000 in
set_option maxRecDepth 4000 in
theorem table5 (w : World) : Calls Tryz.prog 55 #[.int .i64 5] w fun e w' => e = .returned (.iface 95 (.func (.func 84) #[] #[])) ∧ Below w.heap.size w w' := by
  go_enter Tryz.func55, Tryz.ntmps55
  go_wp2
  go_ret
  exact ⟨rfl, below_alloc _ _⟩
set_option maxHeartbeats 2000000 in
set_option maxRecDepth 4000 in
theorem deed1 {S T S' T' : Nat → Prop} {w : World} {y z u v : Value} (r o : Rf) (hg : Gl w) (hy : RdI S w y r.sn) (hz : RdJ T w z r.lg) (hcp : capE z) (hu : RdI S' w u o.sn) (hv : RdJ T' w v o.lg) (hcv : capE v) :
    Calls Tryz.prog 76 #[.agg #[.int .i64 r.tm, .int .i64 r.vt, .int .i64 r.si, .int .i64 r.st, y, z], .agg #[.int .i64 o.tm, .int .i64 o.vt, .int .i64 o.si, .int .i64 o.st, u, v]] w (EndsRf (shC r o.si o.st) (shR r o.si o.st) w) := by
  obtain ⟨ay, cy, rfl⟩ := hy.shape
  obtain ⟨az, cz, rfl, _⟩ := hz.shape
  obtain ⟨au, cu, rfl⟩ := hu.shape
  obtain ⟨av, cv, rfl, _⟩ := hv.shape
  have BA0 := below_on (below_on (below_alloc w (.cells #[.int .i64 r.tm, .int .i64 r.vt, .int .i64 r.si, .int .i64 r.st, .slice ay r.sn.length cy, .slice az r.lg.length cz] 27)) (below_alloc _ (.cells #[.int .i64 o.tm, .int .i64 o.vt, .int .i64 o.si, .int .i64 o.st, .slice au o.sn.length cu, .slice av o.lg.length cv] 29))) (below_alloc _ (.cells #[.int .i64 0, .int .i64 0, .int .i64 0, .int .i64 0, .int .i64 0, .slice none 0 0, .slice none 0 0] 79))
  have HF := hide (implSetHard r o.si o.st (hg.later BA0) (hy.later BA0) (hz.later BA0))
  have VR0 := ((Var6_new w (.int .i64 r.tm) (.int .i64 r.vt) (.int .i64 r.si) (.int .i64 r.st) (.slice ay r.sn.length cy) (.slice az r.lg.length cz) 27).later (below_alloc _ (.cells #[.int .i64 o.tm, .int .i64 o.vt, .int .i64 o.si, .int .i64 o.st, .slice au o.sn.length cu, .slice av o.lg.length cv] 29))).later (below_alloc _ (.cells #[.int .i64 0, .int .i64 0, .int .i64 0, .int .i64 0, .int .i64 0, .slice none 0 0, .slice none 0 0] 79))
  have VO0 := (Var6_new (w.alloc (.cells #[.int .i64 r.tm, .int .i64 r.vt, .int .i64 r.si, .int .i64 r.st, .slice ay r.sn.length cy, .slice az r.lg.length cz] 27)) (.int .i64 o.tm) (.int .i64 o.vt) (.int .i64 o.si) (.int .i64 o.st) (.slice au o.sn.length cu) (.slice av o.lg.length cv) 29).later (below_alloc _ (.cells #[.int .i64 0, .int .i64 0, .int .i64 0, .int .i64 0, .int .i64 0, .slice none 0 0, .slice none 0 0] 79))
  rw [World.size_alloc] at VO0
  obtain ⟨W, hW⟩ : ∃ x, (((w.alloc (.cells #[.int .i64 r.tm, .int .i64 r.vt, .int .i64 r.si, .int .i64 r.st, .slice ay r.sn.length cy, .slice az r.lg.length cz] 27)).alloc (.cells #[.int .i64 o.tm, .int .i64 o.vt, .int .i64 o.si, .int .i64 o.st, .slice au o.sn.length cu, .slice av o.lg.length cv] 29)).alloc (.cells #[.int .i64 0, .int .i64 0, .int .i64 0, .int .i64 0, .int .i64 0, .slice none 0 0, .slice none 0 0] 79)) = x := ⟨_, rfl⟩
  have hsW : W.heap.size = w.heap.size + 3 := by rw [← hW]; simp
  have RA : Hid (Res7 w W (w.heap.size + 2)) := by rw [Hid, ← hW]; exact ⟨BA0, by have h := Var7_new ((w.alloc (.cells #[.int .i64 r.tm, .int .i64 r.vt, .int .i64 r.si, .int .i64 r.st, .slice ay r.sn.length cy, .slice az r.lg.length cz] 27)).alloc (.cells #[.int .i64 o.tm, .int .i64 o.vt, .int .i64 o.si, .int .i64 o.st, .slice au o.sn.length cu, .slice av o.lg.length cv] 29)) (.int .i64 0) (.int .i64 0) (.int .i64 0) (.int .i64 0) (.int .i64 0) (.slice none 0 0) (.slice none 0 0) 79; simpa using h, fun q => by simp [go_sem], by omega⟩
  rw [hW] at BA0 HF VR0 VO0
  have BA := hide BA0
  obtain ⟨C, hC⟩ : ∃ C, shC r o.si o.st = C := ⟨_, rfl⟩
  obtain ⟨R, hR⟩ : ∃ R, shR r o.si o.st = R := ⟨_, rfl⟩
  rw [hC, hR] at HF ⊢
  clear hC hR hy hz hu hv hcp hcv hg BA0
  generalize r.sn.length = l at *
  generalize r.lg.length = m at *
  generalize o.sn.length = l2 at *
  generalize o.lg.length = m2 at *
  generalize r.tm = a at *
  generalize r.vt = b at *
  generalize r.si = c at *
  generalize r.st = d at *
  generalize o.tm = a2 at *
  generalize o.vt = b2 at *
  generalize o.si = c2 at *
  generalize o.st = d2 at *
  obtain ⟨v0, v1, v2, v3, v4, v5⟩ := VR0
  obtain ⟨p0, p1, p2, p3, p4, p5⟩ := VO0
  go_enter Tryz.func76, Tryz.ntmps76
  go_wp2_with fail
  clear hW
  refine HF.out.mono ?_
  rintro e w1 ⟨y1, z1, rfl, hb, ho⟩
  obtain ⟨a1, k1, g1, j1, rfl, rfl⟩ := ho.shape
  have RB := hide (RA.out.later hb)
  have HFn := hide (ret_raft (r := w.heap.size + 2) (x0 := .int .i64 C) (x1 := .int .i64 R.tm) (x2 := .int .i64 R.vt) (x3 := .int .i64 R.si) (x4 := .int .i64 R.st) RB.out.below RB.out.ge ho (by omega))
  clear hb ho v0 v1 v2 v3 v4 v5 p0 p1 p2 p3 p4 p5 RA
  obtain ⟨_, ⟨c0, c1, c2, c3, c4, c5, c6⟩, F, _⟩ := RB.out
  have f0 := F 0
  have f1 := F 1
  have f2 := F 2
  have f3 := F 3
  have f4 := F 4
  have f5 := F 5
  have f6 := F 6
  clear F
  go_wp2
  refine bodyPost_ret (v := .agg #[.int .i64 C, .int .i64 R.tm, .int .i64 R.vt, .int .i64 R.si, .int .i64 R.st, .slice a1 R.sn.length k1, .slice g1 R.lg.length j1]) (by simp [results, Tryz.results76, go_sem, c0, c1, c2, c3, c4, c5, c6]) rfl ⟨_, _, rfl, HFn.out.1, HFn.out.2⟩
set_option maxHeartbeats 2000000 in
set_option maxRecDepth 4000 in
theorem deed2 {S T S' T' : Nat → Prop} {w : World} {y z u v : Value} (r o : Rf) (hg : Gl w) (hy : RdI S w y r.sn) (hz : RdJ T w z r.lg) (hcp : capE z) (hu : RdI S' w u o.sn) (hv : RdJ T' w v o.lg) (hcv : capE v) :
    Calls Tryz.prog 78 #[.agg #[.int .i64 r.tm, .int .i64 r.vt, .int .i64 r.si, .int .i64 r.st, y, z], .agg #[.int .i64 o.tm, .int .i64 o.vt, .int .i64 o.si, .int .i64 o.st, u, v]] w (EndsRf (apRC r o.vt o.si o.lg) (apRR r o.vt o.si o.lg) w) := by
  obtain ⟨ay, cy, rfl⟩ := hy.shape
  obtain ⟨az, cz, rfl, _⟩ := hz.shape
  obtain ⟨au, cu, rfl⟩ := hu.shape
  obtain ⟨av, cv, rfl, _⟩ := hv.shape
  have BA0 := below_on (below_on (below_alloc w (.cells #[.int .i64 r.tm, .int .i64 r.vt, .int .i64 r.si, .int .i64 r.st, .slice ay r.sn.length cy, .slice az r.lg.length cz] 27)) (below_alloc _ (.cells #[.int .i64 o.tm, .int .i64 o.vt, .int .i64 o.si, .int .i64 o.st, .slice au o.sn.length cu, .slice av o.lg.length cv] 29))) (below_alloc _ (.cells #[.int .i64 0, .int .i64 0, .int .i64 0, .int .i64 0, .int .i64 0, .slice none 0 0, .slice none 0 0] 79))
  have HF := hide (implAppendRaft r o.vt o.si (hg.later BA0) (hy.later BA0) (hz.later BA0) hcp (hv.later BA0) hcv)
  have VR0 := ((Var6_new w (.int .i64 r.tm) (.int .i64 r.vt) (.int .i64 r.si) (.int .i64 r.st) (.slice ay r.sn.length cy) (.slice az r.lg.length cz) 27).later (below_alloc _ (.cells #[.int .i64 o.tm, .int .i64 o.vt, .int .i64 o.si, .int .i64 o.st, .slice au o.sn.length cu, .slice av o.lg.length cv] 29))).later (below_alloc _ (.cells #[.int .i64 0, .int .i64 0, .int .i64 0, .int .i64 0, .int .i64 0, .slice none 0 0, .slice none 0 0] 79))
  have VO0 := (Var6_new (w.alloc (.cells #[.int .i64 r.tm, .int .i64 r.vt, .int .i64 r.si, .int .i64 r.st, .slice ay r.sn.length cy, .slice az r.lg.length cz] 27)) (.int .i64 o.tm) (.int .i64 o.vt) (.int .i64 o.si) (.int .i64 o.st) (.slice au o.sn.length cu) (.slice av o.lg.length cv) 29).later (below_alloc _ (.cells #[.int .i64 0, .int .i64 0, .int .i64 0, .int .i64 0, .int .i64 0, .slice none 0 0, .slice none 0 0] 79))
  rw [World.size_alloc] at VO0
  obtain ⟨W, hW⟩ : ∃ x, (((w.alloc (.cells #[.int .i64 r.tm, .int .i64 r.vt, .int .i64 r.si, .int .i64 r.st, .slice ay r.sn.length cy, .slice az r.lg.length cz] 27)).alloc (.cells #[.int .i64 o.tm, .int .i64 o.vt, .int .i64 o.si, .int .i64 o.st, .slice au o.sn.length cu, .slice av o.lg.length cv] 29)).alloc (.cells #[.int .i64 0, .int .i64 0, .int .i64 0, .int .i64 0, .int .i64 0, .slice none 0 0, .slice none 0 0] 79)) = x := ⟨_, rfl⟩
  have hsW : W.heap.size = w.heap.size + 3 := by rw [← hW]; simp
  have RA : Hid (Res7 w W (w.heap.size + 2)) := by rw [Hid, ← hW]; exact ⟨BA0, by have h := Var7_new ((w.alloc (.cells #[.int .i64 r.tm, .int .i64 r.vt, .int .i64 r.si, .int .i64 r.st, .slice ay r.sn.length cy, .slice az r.lg.length cz] 27)).alloc (.cells #[.int .i64 o.tm, .int .i64 o.vt, .int .i64 o.si, .int .i64 o.st, .slice au o.sn.length cu, .slice av o.lg.length cv] 29)) (.int .i64 0) (.int .i64 0) (.int .i64 0) (.int .i64 0) (.int .i64 0) (.slice none 0 0) (.slice none 0 0) 79; simpa using h, fun q => by simp [go_sem], by omega⟩
  rw [hW] at BA0 HF VR0 VO0
  have BA := hide BA0
  obtain ⟨C, hC⟩ : ∃ C, apRC r o.vt o.si o.lg = C := ⟨_, rfl⟩
  obtain ⟨R, hR⟩ : ∃ R, apRR r o.vt o.si o.lg = R := ⟨_, rfl⟩
  rw [hC, hR] at HF ⊢
  clear hC hR hy hz hu hv hcp hcv hg BA0
  generalize r.sn.length = l at *
  generalize r.lg.length = m at *
  generalize o.sn.length = l2 at *
  generalize o.lg.length = m2 at *
  generalize r.tm = a at *
  generalize r.vt = b at *
  generalize r.si = c at *
  generalize r.st = d at *
  generalize o.tm = a2 at *
  generalize o.vt = b2 at *
  generalize o.si = c2 at *
  generalize o.st = d2 at *
  obtain ⟨v0, v1, v2, v3, v4, v5⟩ := VR0
  obtain ⟨p0, p1, p2, p3, p4, p5⟩ := VO0
  go_enter Tryz.func78, Tryz.ntmps78
  go_wp2_with fail
  clear hW
  refine HF.out.mono ?_
  rintro e w1 ⟨y1, z1, rfl, hb, ho⟩
  obtain ⟨a1, k1, g1, j1, rfl, rfl⟩ := ho.shape
  have RB := hide (RA.out.later hb)
  have HFn := hide (ret_raft (r := w.heap.size + 2) (x0 := .int .i64 C) (x1 := .int .i64 R.tm) (x2 := .int .i64 R.vt) (x3 := .int .i64 R.si) (x4 := .int .i64 R.st) RB.out.below RB.out.ge ho (by omega))
  clear hb ho v0 v1 v2 v3 v4 v5 p0 p1 p2 p3 p4 p5 RA
  obtain ⟨_, ⟨c0, c1, c2, c3, c4, c5, c6⟩, F, _⟩ := RB.out
  have f0 := F 0
  have f1 := F 1
  have f2 := F 2
  have f3 := F 3
  have f4 := F 4
  have f5 := F 5
  have f6 := F 6
  clear F
  go_wp2
  refine bodyPost_ret (v := .agg #[.int .i64 C, .int .i64 R.tm, .int .i64 R.vt, .int .i64 R.si, .int .i64 R.st, .slice a1 R.sn.length k1, .slice g1 R.lg.length j1]) (by simp [results, Tryz.results78, go_sem, c0, c1, c2, c3, c4, c5, c6]) rfl ⟨_, _, rfl, HFn.out.1, HFn.out.2⟩
set_option maxHeartbeats 2000000 in
set_option maxRecDepth 4000 in
theorem deed3 {S T S' T' : Nat → Prop} {w : World} {y z u v : Value} (r o : Rf) (hg : Gl w) (hy : RdI S w y r.sn) (hz : RdJ T w z r.lg) (hcp : capE z) (hu : RdI S' w u o.sn) (hv : RdJ T' w v o.lg) (hcv : capE v) :
    Calls Tryz.prog 80 #[.agg #[.int .i64 r.tm, .int .i64 r.vt, .int .i64 r.si, .int .i64 r.st, y, z], .agg #[.int .i64 o.tm, .int .i64 o.vt, .int .i64 o.si, .int .i64 o.st, u, v]] w (EndsRf (cpC r o.vt o.sn) (cpR r o.vt o.sn) w) := by
  obtain ⟨ay, cy, rfl⟩ := hy.shape
  obtain ⟨az, cz, rfl, _⟩ := hz.shape
  obtain ⟨au, cu, rfl⟩ := hu.shape
  obtain ⟨av, cv, rfl, _⟩ := hv.shape
  have BA0 := below_on (below_on (below_alloc w (.cells #[.int .i64 r.tm, .int .i64 r.vt, .int .i64 r.si, .int .i64 r.st, .slice ay r.sn.length cy, .slice az r.lg.length cz] 27)) (below_alloc _ (.cells #[.int .i64 o.tm, .int .i64 o.vt, .int .i64 o.si, .int .i64 o.st, .slice au o.sn.length cu, .slice av o.lg.length cv] 29))) (below_alloc _ (.cells #[.int .i64 0, .int .i64 0, .int .i64 0, .int .i64 0, .int .i64 0, .slice none 0 0, .slice none 0 0] 79))
  have HF := hide (implCompactRaft r o.vt (hg.later BA0) (hy.later BA0) (hz.later BA0) hcp (hu.later BA0))
  have VR0 := ((Var6_new w (.int .i64 r.tm) (.int .i64 r.vt) (.int .i64 r.si) (.int .i64 r.st) (.slice ay r.sn.length cy) (.slice az r.lg.length cz) 27).later (below_alloc _ (.cells #[.int .i64 o.tm, .int .i64 o.vt, .int .i64 o.si, .int .i64 o.st, .slice au o.sn.length cu, .slice av o.lg.length cv] 29))).later (below_alloc _ (.cells #[.int .i64 0, .int .i64 0, .int .i64 0, .int .i64 0, .int .i64 0, .slice none 0 0, .slice none 0 0] 79))
  have VO0 := (Var6_new (w.alloc (.cells #[.int .i64 r.tm, .int .i64 r.vt, .int .i64 r.si, .int .i64 r.st, .slice ay r.sn.length cy, .slice az r.lg.length cz] 27)) (.int .i64 o.tm) (.int .i64 o.vt) (.int .i64 o.si) (.int .i64 o.st) (.slice au o.sn.length cu) (.slice av o.lg.length cv) 29).later (below_alloc _ (.cells #[.int .i64 0, .int .i64 0, .int .i64 0, .int .i64 0, .int .i64 0, .slice none 0 0, .slice none 0 0] 79))
  rw [World.size_alloc] at VO0
  obtain ⟨W, hW⟩ : ∃ x, (((w.alloc (.cells #[.int .i64 r.tm, .int .i64 r.vt, .int .i64 r.si, .int .i64 r.st, .slice ay r.sn.length cy, .slice az r.lg.length cz] 27)).alloc (.cells #[.int .i64 o.tm, .int .i64 o.vt, .int .i64 o.si, .int .i64 o.st, .slice au o.sn.length cu, .slice av o.lg.length cv] 29)).alloc (.cells #[.int .i64 0, .int .i64 0, .int .i64 0, .int .i64 0, .int .i64 0, .slice none 0 0, .slice none 0 0] 79)) = x := ⟨_, rfl⟩
  have hsW : W.heap.size = w.heap.size + 3 := by rw [← hW]; simp
  have RA : Hid (Res7 w W (w.heap.size + 2)) := by rw [Hid, ← hW]; exact ⟨BA0, by have h := Var7_new ((w.alloc (.cells #[.int .i64 r.tm, .int .i64 r.vt, .int .i64 r.si, .int .i64 r.st, .slice ay r.sn.length cy, .slice az r.lg.length cz] 27)).alloc (.cells #[.int .i64 o.tm, .int .i64 o.vt, .int .i64 o.si, .int .i64 o.st, .slice au o.sn.length cu, .slice av o.lg.length cv] 29)) (.int .i64 0) (.int .i64 0) (.int .i64 0) (.int .i64 0) (.int .i64 0) (.slice none 0 0) (.slice none 0 0) 79; simpa using h, fun q => by simp [go_sem], by omega⟩
  rw [hW] at BA0 HF VR0 VO0
  have BA := hide BA0
  obtain ⟨C, hC⟩ : ∃ C, cpC r o.vt o.sn = C := ⟨_, rfl⟩
  obtain ⟨R, hR⟩ : ∃ R, cpR r o.vt o.sn = R := ⟨_, rfl⟩
  rw [hC, hR] at HF ⊢
  clear hC hR hy hz hu hv hcp hcv hg BA0
  generalize r.sn.length = l at *
  generalize r.lg.length = m at *
  generalize o.sn.length = l2 at *
  generalize o.lg.length = m2 at *
  generalize r.tm = a at *
  generalize r.vt = b at *
  generalize r.si = c at *
  generalize r.st = d at *
  generalize o.tm = a2 at *
  generalize o.vt = b2 at *
  generalize o.si = c2 at *
  generalize o.st = d2 at *
  obtain ⟨v0, v1, v2, v3, v4, v5⟩ := VR0
  obtain ⟨p0, p1, p2, p3, p4, p5⟩ := VO0
  go_enter Tryz.func80, Tryz.ntmps80
  go_wp2_with fail
  clear hW
  refine HF.out.mono ?_
  rintro e w1 ⟨y1, z1, rfl, hb, ho⟩
  obtain ⟨a1, k1, g1, j1, rfl, rfl⟩ := ho.shape
  have RB := hide (RA.out.later hb)
  have HFn := hide (ret_raft (r := w.heap.size + 2) (x0 := .int .i64 C) (x1 := .int .i64 R.tm) (x2 := .int .i64 R.vt) (x3 := .int .i64 R.si) (x4 := .int .i64 R.st) RB.out.below RB.out.ge ho (by omega))
  clear hb ho v0 v1 v2 v3 v4 v5 p0 p1 p2 p3 p4 p5 RA
  obtain ⟨_, ⟨c0, c1, c2, c3, c4, c5, c6⟩, F, _⟩ := RB.out
  have f0 := F 0
  have f1 := F 1
  have f2 := F 2
  have f3 := F 3
  have f4 := F 4
  have f5 := F 5
  have f6 := F 6
  clear F
  go_wp2
  refine bodyPost_ret (v := .agg #[.int .i64 C, .int .i64 R.tm, .int .i64 R.vt, .int .i64 R.si, .int .i64 R.st, .slice a1 R.sn.length k1, .slice g1 R.lg.length j1]) (by simp [results, Tryz.results80, go_sem, c0, c1, c2, c3, c4, c5, c6]) rfl ⟨_, _, rfl, HFn.out.1, HFn.out.2⟩
set_option maxHeartbeats 2000000 in
set_option maxRecDepth 4000 in
theorem deed4 {S T S' T' : Nat → Prop} {w : World} {y z u v : Value} (r o : Rf) (hg : Gl w) (hy : RdI S w y r.sn) (hz : RdJ T w z r.lg) (hcp : capE z) (hu : RdI S' w u o.sn) (hv : RdJ T' w v o.lg) (hcv : capE v) :
    Calls Tryz.prog 82 #[.agg #[.int .i64 r.tm, .int .i64 r.vt, .int .i64 r.si, .int .i64 r.st, y, z], .agg #[.int .i64 o.tm, .int .i64 o.vt, .int .i64 o.si, .int .i64 o.st, u, v]] w (EndsRf (inC r o.vt o.si o.sn) (inR r o.vt o.si o.sn) w) := by
  obtain ⟨ay, cy, rfl⟩ := hy.shape
  obtain ⟨az, cz, rfl, _⟩ := hz.shape
  obtain ⟨au, cu, rfl⟩ := hu.shape
  obtain ⟨av, cv, rfl, _⟩ := hv.shape
  have BA0 := below_on (below_on (below_alloc w (.cells #[.int .i64 r.tm, .int .i64 r.vt, .int .i64 r.si, .int .i64 r.st, .slice ay r.sn.length cy, .slice az r.lg.length cz] 27)) (below_alloc _ (.cells #[.int .i64 o.tm, .int .i64 o.vt, .int .i64 o.si, .int .i64 o.st, .slice au o.sn.length cu, .slice av o.lg.length cv] 29))) (below_alloc _ (.cells #[.int .i64 0, .int .i64 0, .int .i64 0, .int .i64 0, .int .i64 0, .slice none 0 0, .slice none 0 0] 79))
  have HF := hide (implInstallRaft r o.vt o.si (hg.later BA0) (hy.later BA0) (hz.later BA0) hcp (hu.later BA0))
  have VR0 := ((Var6_new w (.int .i64 r.tm) (.int .i64 r.vt) (.int .i64 r.si) (.int .i64 r.st) (.slice ay r.sn.length cy) (.slice az r.lg.length cz) 27).later (below_alloc _ (.cells #[.int .i64 o.tm, .int .i64 o.vt, .int .i64 o.si, .int .i64 o.st, .slice au o.sn.length cu, .slice av o.lg.length cv] 29))).later (below_alloc _ (.cells #[.int .i64 0, .int .i64 0, .int .i64 0, .int .i64 0, .int .i64 0, .slice none 0 0, .slice none 0 0] 79))
  have VO0 := (Var6_new (w.alloc (.cells #[.int .i64 r.tm, .int .i64 r.vt, .int .i64 r.si, .int .i64 r.st, .slice ay r.sn.length cy, .slice az r.lg.length cz] 27)) (.int .i64 o.tm) (.int .i64 o.vt) (.int .i64 o.si) (.int .i64 o.st) (.slice au o.sn.length cu) (.slice av o.lg.length cv) 29).later (below_alloc _ (.cells #[.int .i64 0, .int .i64 0, .int .i64 0, .int .i64 0, .int .i64 0, .slice none 0 0, .slice none 0 0] 79))
  rw [World.size_alloc] at VO0
  obtain ⟨W, hW⟩ : ∃ x, (((w.alloc (.cells #[.int .i64 r.tm, .int .i64 r.vt, .int .i64 r.si, .int .i64 r.st, .slice ay r.sn.length cy, .slice az r.lg.length cz] 27)).alloc (.cells #[.int .i64 o.tm, .int .i64 o.vt, .int .i64 o.si, .int .i64 o.st, .slice au o.sn.length cu, .slice av o.lg.length cv] 29)).alloc (.cells #[.int .i64 0, .int .i64 0, .int .i64 0, .int .i64 0, .int .i64 0, .slice none 0 0, .slice none 0 0] 79)) = x := ⟨_, rfl⟩
  have hsW : W.heap.size = w.heap.size + 3 := by rw [← hW]; simp
  have RA : Hid (Res7 w W (w.heap.size + 2)) := by rw [Hid, ← hW]; exact ⟨BA0, by have h := Var7_new ((w.alloc (.cells #[.int .i64 r.tm, .int .i64 r.vt, .int .i64 r.si, .int .i64 r.st, .slice ay r.sn.length cy, .slice az r.lg.length cz] 27)).alloc (.cells #[.int .i64 o.tm, .int .i64 o.vt, .int .i64 o.si, .int .i64 o.st, .slice au o.sn.length cu, .slice av o.lg.length cv] 29)) (.int .i64 0) (.int .i64 0) (.int .i64 0) (.int .i64 0) (.int .i64 0) (.slice none 0 0) (.slice none 0 0) 79; simpa using h, fun q => by simp [go_sem], by omega⟩
  rw [hW] at BA0 HF VR0 VO0
  have BA := hide BA0
  obtain ⟨C, hC⟩ : ∃ C, inC r o.vt o.si o.sn = C := ⟨_, rfl⟩
  obtain ⟨R, hR⟩ : ∃ R, inR r o.vt o.si o.sn = R := ⟨_, rfl⟩
  rw [hC, hR] at HF ⊢
  clear hC hR hy hz hu hv hcp hcv hg BA0
  generalize r.sn.length = l at *
  generalize r.lg.length = m at *
  generalize o.sn.length = l2 at *
  generalize o.lg.length = m2 at *
  generalize r.tm = a at *
  generalize r.vt = b at *
  generalize r.si = c at *
  generalize r.st = d at *
  generalize o.tm = a2 at *
  generalize o.vt = b2 at *
  generalize o.si = c2 at *
  generalize o.st = d2 at *
  obtain ⟨v0, v1, v2, v3, v4, v5⟩ := VR0
  obtain ⟨p0, p1, p2, p3, p4, p5⟩ := VO0
  go_enter Tryz.func82, Tryz.ntmps82
  go_wp2_with fail
  clear hW
  refine HF.out.mono ?_
  rintro e w1 ⟨y1, z1, rfl, hb, ho⟩
  obtain ⟨a1, k1, g1, j1, rfl, rfl⟩ := ho.shape
  have RB := hide (RA.out.later hb)
  have HFn := hide (ret_raft (r := w.heap.size + 2) (x0 := .int .i64 C) (x1 := .int .i64 R.tm) (x2 := .int .i64 R.vt) (x3 := .int .i64 R.si) (x4 := .int .i64 R.st) RB.out.below RB.out.ge ho (by omega))
  clear hb ho v0 v1 v2 v3 v4 v5 p0 p1 p2 p3 p4 p5 RA
  obtain ⟨_, ⟨c0, c1, c2, c3, c4, c5, c6⟩, F, _⟩ := RB.out
  have f0 := F 0
  have f1 := F 1
  have f2 := F 2
  have f3 := F 3
  have f4 := F 4
  have f5 := F 5
  have f6 := F 6
  clear F
  go_wp2
  refine bodyPost_ret (v := .agg #[.int .i64 C, .int .i64 R.tm, .int .i64 R.vt, .int .i64 R.si, .int .i64 R.st, .slice a1 R.sn.length k1, .slice g1 R.lg.length j1]) (by simp [results, Tryz.results82, go_sem, c0, c1, c2, c3, c4, c5, c6]) rfl ⟨_, _, rfl, HFn.out.1, HFn.out.2⟩
set_option maxHeartbeats 2000000 in
set_option maxRecDepth 4000 in
theorem deed5 {S T S' T' : Nat → Prop} {w : World} {y z u v : Value} (r o : Rf) (hg : Gl w) (hy : RdI S w y r.sn) (hz : RdJ T w z r.lg) (hcp : capE z) (hu : RdI S' w u o.sn) (hv : RdJ T' w v o.lg) (hcv : capE v) :
    Calls Tryz.prog 84 #[.agg #[.int .i64 r.tm, .int .i64 r.vt, .int .i64 r.si, .int .i64 r.st, y, z], .agg #[.int .i64 o.tm, .int .i64 o.vt, .int .i64 o.si, .int .i64 o.st, u, v]] w fun e w' => e = .returned (.agg #[.int .i64 (taC r o.vt), .int .i64 (taV r o.vt)]) ∧ Below w.heap.size w w' := by
  obtain ⟨ay, cy, rfl⟩ := hy.shape
  obtain ⟨az, cz, rfl, _⟩ := hz.shape
  obtain ⟨au, cu, rfl⟩ := hu.shape
  obtain ⟨av, cv, rfl, _⟩ := hv.shape
  have BA0 := below_on (below_on (below_alloc w (.cells #[.int .i64 r.tm, .int .i64 r.vt, .int .i64 r.si, .int .i64 r.st, .slice ay r.sn.length cy, .slice az r.lg.length cz] 27)) (below_alloc _ (.cells #[.int .i64 o.tm, .int .i64 o.vt, .int .i64 o.si, .int .i64 o.st, .slice au o.sn.length cu, .slice av o.lg.length cv] 29))) (below_alloc _ (.cells #[.int .i64 0, .int .i64 0] 60))
  have HF := hide (implTermAt r o.vt (hg.later BA0) (hy.later BA0) (hz.later BA0))
  have VR0 := ((Var6_new w (.int .i64 r.tm) (.int .i64 r.vt) (.int .i64 r.si) (.int .i64 r.st) (.slice ay r.sn.length cy) (.slice az r.lg.length cz) 27).later (below_alloc _ (.cells #[.int .i64 o.tm, .int .i64 o.vt, .int .i64 o.si, .int .i64 o.st, .slice au o.sn.length cu, .slice av o.lg.length cv] 29))).later (below_alloc _ (.cells #[.int .i64 0, .int .i64 0] 60))
  have VO0 := (Var6_new (w.alloc (.cells #[.int .i64 r.tm, .int .i64 r.vt, .int .i64 r.si, .int .i64 r.st, .slice ay r.sn.length cy, .slice az r.lg.length cz] 27)) (.int .i64 o.tm) (.int .i64 o.vt) (.int .i64 o.si) (.int .i64 o.st) (.slice au o.sn.length cu) (.slice av o.lg.length cv) 29).later (below_alloc _ (.cells #[.int .i64 0, .int .i64 0] 60))
  rw [World.size_alloc] at VO0
  obtain ⟨W, hW⟩ : ∃ x, (((w.alloc (.cells #[.int .i64 r.tm, .int .i64 r.vt, .int .i64 r.si, .int .i64 r.st, .slice ay r.sn.length cy, .slice az r.lg.length cz] 27)).alloc (.cells #[.int .i64 o.tm, .int .i64 o.vt, .int .i64 o.si, .int .i64 o.st, .slice au o.sn.length cu, .slice av o.lg.length cv] 29)).alloc (.cells #[.int .i64 0, .int .i64 0] 60)) = x := ⟨_, rfl⟩
  have hsW : W.heap.size = w.heap.size + 3 := by rw [← hW]; simp
  have RA : Hid (Var2 W (w.heap.size + 2) (.int .i64 0) (.int .i64 0) ∧ ∀ q, W.frozen? ⟨w.heap.size + 2, q, none⟩ = false) := by rw [Hid, ← hW]; exact ⟨by have h := Var2_new ((w.alloc (.cells #[.int .i64 r.tm, .int .i64 r.vt, .int .i64 r.si, .int .i64 r.st, .slice ay r.sn.length cy, .slice az r.lg.length cz] 27)).alloc (.cells #[.int .i64 o.tm, .int .i64 o.vt, .int .i64 o.si, .int .i64 o.st, .slice au o.sn.length cu, .slice av o.lg.length cv] 29)) (.int .i64 0) (.int .i64 0) 60; simpa using h, fun q => by simp [go_sem]⟩
  rw [hW] at BA0 HF VR0 VO0
  have BA := hide BA0
  obtain ⟨C, hC⟩ : ∃ C, taC r o.vt = C := ⟨_, rfl⟩
  obtain ⟨R, hR⟩ : ∃ R, taV r o.vt = R := ⟨_, rfl⟩
  rw [hC, hR] at HF ⊢
  clear hC hR hy hz hu hv hcp hcv hg BA0
  generalize r.sn.length = l at *
  generalize r.lg.length = m at *
  generalize o.sn.length = l2 at *
  generalize o.lg.length = m2 at *
  generalize r.tm = a at *
  generalize r.vt = b at *
  generalize r.si = c at *
  generalize r.st = d at *
  generalize o.tm = a2 at *
  generalize o.vt = b2 at *
  generalize o.si = c2 at *
  generalize o.st = d2 at *
  obtain ⟨v0, v1, v2, v3, v4, v5⟩ := VR0
  obtain ⟨p0, p1, p2, p3, p4, p5⟩ := VO0
  go_enter Tryz.func84, Tryz.ntmps84
  go_wp2_with fail
  clear hW
  refine HF.out.mono ?_
  rintro e w1 ⟨rfl, hb⟩
  have RB := hide (And.intro (RA.out.1.later hb) (fun q => ((bcell hb).2 _ _ RA.out.1.lt).trans (RA.out.2 q)))
  have BB := hide (below_on BA.out hb)
  clear hb v0 v1 v2 v3 v4 v5 p0 p1 p2 p3 p4 p5 RA
  obtain ⟨⟨c0, c1⟩, F⟩ := RB.out
  have f0 := F 0
  have f1 := F 1
  clear F
  go_wp2
  refine bodyPost_ret (v := .agg #[.int .i64 C, .int .i64 R]) (by simp [results, Tryz.results84, go_sem, c0, c1]) rfl ⟨rfl, ?_⟩
  repeat (first | exact BB.out | refine Below.setCell ?_ (by first | (simp; done) | (simp; omega) | omega) _)
end Go.Proofs.YtlliggfggadidaaGreatDoor
