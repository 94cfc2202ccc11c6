/- Do2 in one text: what each says stands at its head below. -/
import Derived.Test.YtcmdgnemkjfckaaGreatDoorG27
import Derived.Test.YtcmdgnemkjfckaaGreatDoorG19
import Derived.Test.YtcmdgnemkjfckaaGreatDoorG21
/- Chapter 12: what each kind of operation does, of the program: a table of functions. Made by program (gendo.py). -/
namespace Go.Proofs.YtcmdgnemkjfckaaGreatDoor
open Go.RowKit

set_option maxHeartbeats 2000000 in
set_option maxRecDepth 4000 in
theorem table1 (w : World) : Calls Tryz.prog 63 #[.int .i64 1] w fun e w' => e = .returned (.iface 109 (.func (.func 83) #[] #[])) ∧ Below w.heap.size w w' := by
  go_enter Tryz.func63, Tryz.ntmps63
  go_wp2
  go_ret
  exact ⟨rfl, below_alloc _ _⟩

set_option maxHeartbeats 2000000 in
set_option maxRecDepth 4000 in
theorem table2 (w : World) : Calls Tryz.prog 63 #[.int .i64 2] w fun e w' => e = .returned (.iface 109 (.func (.func 85) #[] #[])) ∧ Below w.heap.size w w' := by
  go_enter Tryz.func63, Tryz.ntmps63
  go_wp2
  go_ret
  exact ⟨rfl, below_alloc _ _⟩

set_option maxHeartbeats 2000000 in
set_option maxRecDepth 4000 in
theorem table3 (w : World) : Calls Tryz.prog 63 #[.int .i64 3] w fun e w' => e = .returned (.iface 109 (.func (.func 87) #[] #[])) ∧ Below w.heap.size w w' := by
  go_enter Tryz.func63, Tryz.ntmps63
  go_wp2
  go_ret
  exact ⟨rfl, below_alloc _ _⟩

set_option maxHeartbeats 2000000 in
set_option maxRecDepth 4000 in
theorem table4 (w : World) : Calls Tryz.prog 63 #[.int .i64 4] w fun e w' => e = .returned (.iface 109 (.func (.func 89) #[] #[])) ∧ Below w.heap.size w w' := by
  go_enter Tryz.func63, Tryz.ntmps63
  go_wp2
  go_ret
  exact ⟨rfl, below_alloc _ _⟩

set_option maxHeartbeats 2000000 in
set_option maxRecDepth 4000 in
theorem table5 (w : World) : Calls Tryz.prog 63 #[.int .i64 5] w fun e w' => e = .returned (.iface 111 (.func (.func 91) #[] #[])) ∧ Below w.heap.size w w' := by
  go_enter Tryz.func63, Tryz.ntmps63
  go_wp2
  go_ret
  exact ⟨rfl, below_alloc _ _⟩

set_option maxHeartbeats 2000000 in
set_option maxRecDepth 4000 in
theorem deed1 {S T S' T' : Nat → Prop} {w : World} {y z u v : Value} (r o : Rf) (hg : Gl w) (hy : RdI S w y r.sn) (hz : RdJ T w z r.lg) (hcp : capE z) (hu : RdI S' w u o.sn) (hv : RdJ T' w v o.lg) (hcv : capE v) :
    Calls Tryz.prog 83 #[.agg #[.int .i64 r.tm, .int .i64 r.vt, .int .i64 r.si, .int .i64 r.st, y, z], .agg #[.int .i64 o.tm, .int .i64 o.vt, .int .i64 o.si, .int .i64 o.st, u, v]] w (EndsRf (shC r o.si o.st) (shR r o.si o.st) w) := by
  obtain ⟨ay, cy, rfl⟩ := hy.shape
  obtain ⟨az, cz, rfl, _⟩ := hz.shape
  obtain ⟨au, cu, rfl⟩ := hu.shape
  obtain ⟨av, cv, rfl, _⟩ := hv.shape
  have BA0 := below_on (below_on (below_alloc w (.cells #[.int .i64 r.tm, .int .i64 r.vt, .int .i64 r.si, .int .i64 r.st, .slice ay r.sn.length cy, .slice az r.lg.length cz] 33)) (below_alloc _ (.cells #[.int .i64 o.tm, .int .i64 o.vt, .int .i64 o.si, .int .i64 o.st, .slice au o.sn.length cu, .slice av o.lg.length cv] 68))) (below_alloc _ (.cells #[.int .i64 0, .int .i64 0, .int .i64 0, .int .i64 0, .int .i64 0, .slice none 0 0, .slice none 0 0] 94))
  have HF := hide (implSetHard r o.si o.st (hg.later BA0) (hy.later BA0) (hz.later BA0))
  have VR0 := ((Var6_new w (.int .i64 r.tm) (.int .i64 r.vt) (.int .i64 r.si) (.int .i64 r.st) (.slice ay r.sn.length cy) (.slice az r.lg.length cz) 33).later (below_alloc _ (.cells #[.int .i64 o.tm, .int .i64 o.vt, .int .i64 o.si, .int .i64 o.st, .slice au o.sn.length cu, .slice av o.lg.length cv] 68))).later (below_alloc _ (.cells #[.int .i64 0, .int .i64 0, .int .i64 0, .int .i64 0, .int .i64 0, .slice none 0 0, .slice none 0 0] 94))
  have VO0 := (Var6_new (w.alloc (.cells #[.int .i64 r.tm, .int .i64 r.vt, .int .i64 r.si, .int .i64 r.st, .slice ay r.sn.length cy, .slice az r.lg.length cz] 33)) (.int .i64 o.tm) (.int .i64 o.vt) (.int .i64 o.si) (.int .i64 o.st) (.slice au o.sn.length cu) (.slice av o.lg.length cv) 68).later (below_alloc _ (.cells #[.int .i64 0, .int .i64 0, .int .i64 0, .int .i64 0, .int .i64 0, .slice none 0 0, .slice none 0 0] 94))
  rw [World.size_alloc] at VO0
  obtain ⟨W, hW⟩ : ∃ x, (((w.alloc (.cells #[.int .i64 r.tm, .int .i64 r.vt, .int .i64 r.si, .int .i64 r.st, .slice ay r.sn.length cy, .slice az r.lg.length cz] 33)).alloc (.cells #[.int .i64 o.tm, .int .i64 o.vt, .int .i64 o.si, .int .i64 o.st, .slice au o.sn.length cu, .slice av o.lg.length cv] 68)).alloc (.cells #[.int .i64 0, .int .i64 0, .int .i64 0, .int .i64 0, .int .i64 0, .slice none 0 0, .slice none 0 0] 94)) = x := ⟨_, rfl⟩
  have hsW : W.heap.size = w.heap.size + 3 := by rw [← hW]; simp
  have RA : Hid (Res7 w W (w.heap.size + 2)) := by rw [Hid, ← hW]; exact ⟨BA0, by have h := Var7_new ((w.alloc (.cells #[.int .i64 r.tm, .int .i64 r.vt, .int .i64 r.si, .int .i64 r.st, .slice ay r.sn.length cy, .slice az r.lg.length cz] 33)).alloc (.cells #[.int .i64 o.tm, .int .i64 o.vt, .int .i64 o.si, .int .i64 o.st, .slice au o.sn.length cu, .slice av o.lg.length cv] 68)) (.int .i64 0) (.int .i64 0) (.int .i64 0) (.int .i64 0) (.int .i64 0) (.slice none 0 0) (.slice none 0 0) 94; simpa using h, fun q => by simp [go_sem], by omega⟩
  rw [hW] at BA0 HF VR0 VO0
  have BA := hide BA0
  obtain ⟨C, hC⟩ : ∃ C, shC r o.si o.st = C := ⟨_, rfl⟩
  obtain ⟨R, hR⟩ : ∃ R, shR r o.si o.st = R := ⟨_, rfl⟩
  rw [hC, hR] at HF ⊢
  clear hC hR hy hz hu hv hcp hcv hg BA0
  generalize r.sn.length = l at *
  generalize r.lg.length = m at *
  generalize o.sn.length = l2 at *
  generalize o.lg.length = m2 at *
  generalize r.tm = a at *
  generalize r.vt = b at *
  generalize r.si = c at *
  generalize r.st = d at *
  generalize o.tm = a2 at *
  generalize o.vt = b2 at *
  generalize o.si = c2 at *
  generalize o.st = d2 at *
  obtain ⟨v0, v1, v2, v3, v4, v5⟩ := VR0
  obtain ⟨p0, p1, p2, p3, p4, p5⟩ := VO0
  go_enter Tryz.func83, Tryz.ntmps83
  go_wp2_with fail
  clear hW
  refine HF.out.mono ?_
  rintro e w1 ⟨y1, z1, rfl, hb, ho⟩
  obtain ⟨a1, k1, g1, j1, rfl, rfl⟩ := ho.shape
  have RB := hide (RA.out.later hb)
  have HFn := hide (ret_raft (r := w.heap.size + 2) (x0 := .int .i64 C) (x1 := .int .i64 R.tm) (x2 := .int .i64 R.vt) (x3 := .int .i64 R.si) (x4 := .int .i64 R.st) RB.out.below RB.out.ge ho (by omega))
  clear hb ho v0 v1 v2 v3 v4 v5 p0 p1 p2 p3 p4 p5 RA
  obtain ⟨_, ⟨c0, c1, c2, c3, c4, c5, c6⟩, F, _⟩ := RB.out
  have f0 := F 0
  have f1 := F 1
  have f2 := F 2
  have f3 := F 3
  have f4 := F 4
  have f5 := F 5
  have f6 := F 6
  clear F
  go_wp2
  refine bodyPost_ret (v := .agg #[.int .i64 C, .int .i64 R.tm, .int .i64 R.vt, .int .i64 R.si, .int .i64 R.st, .slice a1 R.sn.length k1, .slice g1 R.lg.length j1]) (by simp [results, Tryz.results83, go_sem, c0, c1, c2, c3, c4, c5, c6]) rfl ⟨_, _, rfl, HFn.out.1, HFn.out.2⟩

set_option maxHeartbeats 2000000 in
set_option maxRecDepth 4000 in
theorem deed2 {S T S' T' : Nat → Prop} {w : World} {y z u v : Value} (r o : Rf) (hg : Gl w) (hy : RdI S w y r.sn) (hz : RdJ T w z r.lg) (hcp : capE z) (hu : RdI S' w u o.sn) (hv : RdJ T' w v o.lg) (hcv : capE v) :
    Calls Tryz.prog 85 #[.agg #[.int .i64 r.tm, .int .i64 r.vt, .int .i64 r.si, .int .i64 r.st, y, z], .agg #[.int .i64 o.tm, .int .i64 o.vt, .int .i64 o.si, .int .i64 o.st, u, v]] w (EndsRf (apRC r o.vt o.si o.lg) (apRR r o.vt o.si o.lg) w) := by
  obtain ⟨ay, cy, rfl⟩ := hy.shape
  obtain ⟨az, cz, rfl, _⟩ := hz.shape
  obtain ⟨au, cu, rfl⟩ := hu.shape
  obtain ⟨av, cv, rfl, _⟩ := hv.shape
  have BA0 := below_on (below_on (below_alloc w (.cells #[.int .i64 r.tm, .int .i64 r.vt, .int .i64 r.si, .int .i64 r.st, .slice ay r.sn.length cy, .slice az r.lg.length cz] 33)) (below_alloc _ (.cells #[.int .i64 o.tm, .int .i64 o.vt, .int .i64 o.si, .int .i64 o.st, .slice au o.sn.length cu, .slice av o.lg.length cv] 68))) (below_alloc _ (.cells #[.int .i64 0, .int .i64 0, .int .i64 0, .int .i64 0, .int .i64 0, .slice none 0 0, .slice none 0 0] 94))
  have HF := hide (implAppendRaft r o.vt o.si (hg.later BA0) (hy.later BA0) (hz.later BA0) hcp (hv.later BA0) hcv)
  have VR0 := ((Var6_new w (.int .i64 r.tm) (.int .i64 r.vt) (.int .i64 r.si) (.int .i64 r.st) (.slice ay r.sn.length cy) (.slice az r.lg.length cz) 33).later (below_alloc _ (.cells #[.int .i64 o.tm, .int .i64 o.vt, .int .i64 o.si, .int .i64 o.st, .slice au o.sn.length cu, .slice av o.lg.length cv] 68))).later (below_alloc _ (.cells #[.int .i64 0, .int .i64 0, .int .i64 0, .int .i64 0, .int .i64 0, .slice none 0 0, .slice none 0 0] 94))
  have VO0 := (Var6_new (w.alloc (.cells #[.int .i64 r.tm, .int .i64 r.vt, .int .i64 r.si, .int .i64 r.st, .slice ay r.sn.length cy, .slice az r.lg.length cz] 33)) (.int .i64 o.tm) (.int .i64 o.vt) (.int .i64 o.si) (.int .i64 o.st) (.slice au o.sn.length cu) (.slice av o.lg.length cv) 68).later (below_alloc _ (.cells #[.int .i64 0, .int .i64 0, .int .i64 0, .int .i64 0, .int .i64 0, .slice none 0 0, .slice none 0 0] 94))
  rw [World.size_alloc] at VO0
  obtain ⟨W, hW⟩ : ∃ x, (((w.alloc (.cells #[.int .i64 r.tm, .int .i64 r.vt, .int .i64 r.si, .int .i64 r.st, .slice ay r.sn.length cy, .slice az r.lg.length cz] 33)).alloc (.cells #[.int .i64 o.tm, .int .i64 o.vt, .int .i64 o.si, .int .i64 o.st, .slice au o.sn.length cu, .slice av o.lg.length cv] 68)).alloc (.cells #[.int .i64 0, .int .i64 0, .int .i64 0, .int .i64 0, .int .i64 0, .slice none 0 0, .slice none 0 0] 94)) = x := ⟨_, rfl⟩
  have hsW : W.heap.size = w.heap.size + 3 := by rw [← hW]; simp
  have RA : Hid (Res7 w W (w.heap.size + 2)) := by rw [Hid, ← hW]; exact ⟨BA0, by have h := Var7_new ((w.alloc (.cells #[.int .i64 r.tm, .int .i64 r.vt, .int .i64 r.si, .int .i64 r.st, .slice ay r.sn.length cy, .slice az r.lg.length cz] 33)).alloc (.cells #[.int .i64 o.tm, .int .i64 o.vt, .int .i64 o.si, .int .i64 o.st, .slice au o.sn.length cu, .slice av o.lg.length cv] 68)) (.int .i64 0) (.int .i64 0) (.int .i64 0) (.int .i64 0) (.int .i64 0) (.slice none 0 0) (.slice none 0 0) 94; simpa using h, fun q => by simp [go_sem], by omega⟩
  rw [hW] at BA0 HF VR0 VO0
  have BA := hide BA0
  obtain ⟨C, hC⟩ : ∃ C, apRC r o.vt o.si o.lg = C := ⟨_, rfl⟩
  obtain ⟨R, hR⟩ : ∃ R, apRR r o.vt o.si o.lg = R := ⟨_, rfl⟩
  rw [hC, hR] at HF ⊢
  clear hC hR hy hz hu hv hcp hcv hg BA0
  generalize r.sn.length = l at *
  generalize r.lg.length = m at *
  generalize o.sn.length = l2 at *
  generalize o.lg.length = m2 at *
  generalize r.tm = a at *
  generalize r.vt = b at *
  generalize r.si = c at *
  generalize r.st = d at *
  generalize o.tm = a2 at *
  generalize o.vt = b2 at *
  generalize o.si = c2 at *
  generalize o.st = d2 at *
  obtain ⟨v0, v1, v2, v3, v4, v5⟩ := VR0
  obtain ⟨p0, p1, p2, p3, p4, p5⟩ := VO0
  go_enter Tryz.func85, Tryz.ntmps85
  go_wp2_with fail
  clear hW
  refine HF.out.mono ?_
  rintro e w1 ⟨y1, z1, rfl, hb, ho⟩
  obtain ⟨a1, k1, g1, j1, rfl, rfl⟩ := ho.shape
  have RB := hide (RA.out.later hb)
  have HFn := hide (ret_raft (r := w.heap.size + 2) (x0 := .int .i64 C) (x1 := .int .i64 R.tm) (x2 := .int .i64 R.vt) (x3 := .int .i64 R.si) (x4 := .int .i64 R.st) RB.out.below RB.out.ge ho (by omega))
  clear hb ho v0 v1 v2 v3 v4 v5 p0 p1 p2 p3 p4 p5 RA
  obtain ⟨_, ⟨c0, c1, c2, c3, c4, c5, c6⟩, F, _⟩ := RB.out
  have f0 := F 0
  have f1 := F 1
  have f2 := F 2
  have f3 := F 3
  have f4 := F 4
  have f5 := F 5
  have f6 := F 6
  clear F
  go_wp2
  refine bodyPost_ret (v := .agg #[.int .i64 C, .int .i64 R.tm, .int .i64 R.vt, .int .i64 R.si, .int .i64 R.st, .slice a1 R.sn.length k1, .slice g1 R.lg.length j1]) (by simp [results, Tryz.results85, go_sem, c0, c1, c2, c3, c4, c5, c6]) rfl ⟨_, _, rfl, HFn.out.1, HFn.out.2⟩

set_option maxHeartbeats 2000000 in
set_option maxRecDepth 4000 in
theorem deed3 {S T S' T' : Nat → Prop} {w : World} {y z u v : Value} (r o : Rf) (hg : Gl w) (hy : RdI S w y r.sn) (hz : RdJ T w z r.lg) (hcp : capE z) (hu : RdI S' w u o.sn) (hv : RdJ T' w v o.lg) (hcv : capE v) :
    Calls Tryz.prog 87 #[.agg #[.int .i64 r.tm, .int .i64 r.vt, .int .i64 r.si, .int .i64 r.st, y, z], .agg #[.int .i64 o.tm, .int .i64 o.vt, .int .i64 o.si, .int .i64 o.st, u, v]] w (EndsRf (cpC r o.vt o.sn) (cpR r o.vt o.sn) w) := by
  obtain ⟨ay, cy, rfl⟩ := hy.shape
  obtain ⟨az, cz, rfl, _⟩ := hz.shape
  obtain ⟨au, cu, rfl⟩ := hu.shape
  obtain ⟨av, cv, rfl, _⟩ := hv.shape
  have BA0 := below_on (below_on (below_alloc w (.cells #[.int .i64 r.tm, .int .i64 r.vt, .int .i64 r.si, .int .i64 r.st, .slice ay r.sn.length cy, .slice az r.lg.length cz] 33)) (below_alloc _ (.cells #[.int .i64 o.tm, .int .i64 o.vt, .int .i64 o.si, .int .i64 o.st, .slice au o.sn.length cu, .slice av o.lg.length cv] 68))) (below_alloc _ (.cells #[.int .i64 0, .int .i64 0, .int .i64 0, .int .i64 0, .int .i64 0, .slice none 0 0, .slice none 0 0] 94))
  have HF := hide (implCompactRaft r o.vt (hg.later BA0) (hy.later BA0) (hz.later BA0) hcp (hu.later BA0))
  have VR0 := ((Var6_new w (.int .i64 r.tm) (.int .i64 r.vt) (.int .i64 r.si) (.int .i64 r.st) (.slice ay r.sn.length cy) (.slice az r.lg.length cz) 33).later (below_alloc _ (.cells #[.int .i64 o.tm, .int .i64 o.vt, .int .i64 o.si, .int .i64 o.st, .slice au o.sn.length cu, .slice av o.lg.length cv] 68))).later (below_alloc _ (.cells #[.int .i64 0, .int .i64 0, .int .i64 0, .int .i64 0, .int .i64 0, .slice none 0 0, .slice none 0 0] 94))
  have VO0 := (Var6_new (w.alloc (.cells #[.int .i64 r.tm, .int .i64 r.vt, .int .i64 r.si, .int .i64 r.st, .slice ay r.sn.length cy, .slice az r.lg.length cz] 33)) (.int .i64 o.tm) (.int .i64 o.vt) (.int .i64 o.si) (.int .i64 o.st) (.slice au o.sn.length cu) (.slice av o.lg.length cv) 68).later (below_alloc _ (.cells #[.int .i64 0, .int .i64 0, .int .i64 0, .int .i64 0, .int .i64 0, .slice none 0 0, .slice none 0 0] 94))
  rw [World.size_alloc] at VO0
  obtain ⟨W, hW⟩ : ∃ x, (((w.alloc (.cells #[.int .i64 r.tm, .int .i64 r.vt, .int .i64 r.si, .int .i64 r.st, .slice ay r.sn.length cy, .slice az r.lg.length cz] 33)).alloc (.cells #[.int .i64 o.tm, .int .i64 o.vt, .int .i64 o.si, .int .i64 o.st, .slice au o.sn.length cu, .slice av o.lg.length cv] 68)).alloc (.cells #[.int .i64 0, .int .i64 0, .int .i64 0, .int .i64 0, .int .i64 0, .slice none 0 0, .slice none 0 0] 94)) = x := ⟨_, rfl⟩
  have hsW : W.heap.size = w.heap.size + 3 := by rw [← hW]; simp
  have RA : Hid (Res7 w W (w.heap.size + 2)) := by rw [Hid, ← hW]; exact ⟨BA0, by have h := Var7_new ((w.alloc (.cells #[.int .i64 r.tm, .int .i64 r.vt, .int .i64 r.si, .int .i64 r.st, .slice ay r.sn.length cy, .slice az r.lg.length cz] 33)).alloc (.cells #[.int .i64 o.tm, .int .i64 o.vt, .int .i64 o.si, .int .i64 o.st, .slice au o.sn.length cu, .slice av o.lg.length cv] 68)) (.int .i64 0) (.int .i64 0) (.int .i64 0) (.int .i64 0) (.int .i64 0) (.slice none 0 0) (.slice none 0 0) 94; simpa using h, fun q => by simp [go_sem], by omega⟩
  rw [hW] at BA0 HF VR0 VO0
  have BA := hide BA0
  obtain ⟨C, hC⟩ : ∃ C, cpC r o.vt o.sn = C := ⟨_, rfl⟩
  obtain ⟨R, hR⟩ : ∃ R, cpR r o.vt o.sn = R := ⟨_, rfl⟩
  rw [hC, hR] at HF ⊢
  clear hC hR hy hz hu hv hcp hcv hg BA0
  generalize r.sn.length = l at *
  generalize r.lg.length = m at *
  generalize o.sn.length = l2 at *
  generalize o.lg.length = m2 at *
  generalize r.tm = a at *
  generalize r.vt = b at *
  generalize r.si = c at *
  generalize r.st = d at *
  generalize o.tm = a2 at *
  generalize o.vt = b2 at *
  generalize o.si = c2 at *
  generalize o.st = d2 at *
  obtain ⟨v0, v1, v2, v3, v4, v5⟩ := VR0
  obtain ⟨p0, p1, p2, p3, p4, p5⟩ := VO0
  go_enter Tryz.func87, Tryz.ntmps87
  go_wp2_with fail
  clear hW
  refine HF.out.mono ?_
  rintro e w1 ⟨y1, z1, rfl, hb, ho⟩
  obtain ⟨a1, k1, g1, j1, rfl, rfl⟩ := ho.shape
  have RB := hide (RA.out.later hb)
  have HFn := hide (ret_raft (r := w.heap.size + 2) (x0 := .int .i64 C) (x1 := .int .i64 R.tm) (x2 := .int .i64 R.vt) (x3 := .int .i64 R.si) (x4 := .int .i64 R.st) RB.out.below RB.out.ge ho (by omega))
  clear hb ho v0 v1 v2 v3 v4 v5 p0 p1 p2 p3 p4 p5 RA
  obtain ⟨_, ⟨c0, c1, c2, c3, c4, c5, c6⟩, F, _⟩ := RB.out
  have f0 := F 0
  have f1 := F 1
  have f2 := F 2
  have f3 := F 3
  have f4 := F 4
  have f5 := F 5
  have f6 := F 6
  clear F
  go_wp2
  refine bodyPost_ret (v := .agg #[.int .i64 C, .int .i64 R.tm, .int .i64 R.vt, .int .i64 R.si, .int .i64 R.st, .slice a1 R.sn.length k1, .slice g1 R.lg.length j1]) (by simp [results, Tryz.results87, go_sem, c0, c1, c2, c3, c4, c5, c6]) rfl ⟨_, _, rfl, HFn.out.1, HFn.out.2⟩

set_option maxHeartbeats 2000000 in
set_option maxRecDepth 4000 in
theorem deed4 {S T S' T' : Nat → Prop} {w : World} {y z u v : Value} (r o : Rf) (hg : Gl w) (hy : RdI S w y r.sn) (hz : RdJ T w z r.lg) (hcp : capE z) (hu : RdI S' w u o.sn) (hv : RdJ T' w v o.lg) (hcv : capE v) :
    Calls Tryz.prog 89 #[.agg #[.int .i64 r.tm, .int .i64 r.vt, .int .i64 r.si, .int .i64 r.st, y, z], .agg #[.int .i64 o.tm, .int .i64 o.vt, .int .i64 o.si, .int .i64 o.st, u, v]] w (EndsRf (inC r o.vt o.si o.sn) (inR r o.vt o.si o.sn) w) := by
  obtain ⟨ay, cy, rfl⟩ := hy.shape
  obtain ⟨az, cz, rfl, _⟩ := hz.shape
  obtain ⟨au, cu, rfl⟩ := hu.shape
  obtain ⟨av, cv, rfl, _⟩ := hv.shape
  have BA0 := below_on (below_on (below_alloc w (.cells #[.int .i64 r.tm, .int .i64 r.vt, .int .i64 r.si, .int .i64 r.st, .slice ay r.sn.length cy, .slice az r.lg.length cz] 33)) (below_alloc _ (.cells #[.int .i64 o.tm, .int .i64 o.vt, .int .i64 o.si, .int .i64 o.st, .slice au o.sn.length cu, .slice av o.lg.length cv] 68))) (below_alloc _ (.cells #[.int .i64 0, .int .i64 0, .int .i64 0, .int .i64 0, .int .i64 0, .slice none 0 0, .slice none 0 0] 94))
  have HF := hide (implInstallRaft r o.vt o.si (hg.later BA0) (hy.later BA0) (hz.later BA0) hcp (hu.later BA0))
  have VR0 := ((Var6_new w (.int .i64 r.tm) (.int .i64 r.vt) (.int .i64 r.si) (.int .i64 r.st) (.slice ay r.sn.length cy) (.slice az r.lg.length cz) 33).later (below_alloc _ (.cells #[.int .i64 o.tm, .int .i64 o.vt, .int .i64 o.si, .int .i64 o.st, .slice au o.sn.length cu, .slice av o.lg.length cv] 68))).later (below_alloc _ (.cells #[.int .i64 0, .int .i64 0, .int .i64 0, .int .i64 0, .int .i64 0, .slice none 0 0, .slice none 0 0] 94))
  have VO0 := (Var6_new (w.alloc (.cells #[.int .i64 r.tm, .int .i64 r.vt, .int .i64 r.si, .int .i64 r.st, .slice ay r.sn.length cy, .slice az r.lg.length cz] 33)) (.int .i64 o.tm) (.int .i64 o.vt) (.int .i64 o.si) (.int .i64 o.st) (.slice au o.sn.length cu) (.slice av o.lg.length cv) 68).later (below_alloc _ (.cells #[.int .i64 0, .int .i64 0, .int .i64 0, .int .i64 0, .int .i64 0, .slice none 0 0, .slice none 0 0] 94))
  rw [World.size_alloc] at VO0
  obtain ⟨W, hW⟩ : ∃ x, (((w.alloc (.cells #[.int .i64 r.tm, .int .i64 r.vt, .int .i64 r.si, .int .i64 r.st, .slice ay r.sn.length cy, .slice az r.lg.length cz] 33)).alloc (.cells #[.int .i64 o.tm, .int .i64 o.vt, .int .i64 o.si, .int .i64 o.st, .slice au o.sn.length cu, .slice av o.lg.length cv] 68)).alloc (.cells #[.int .i64 0, .int .i64 0, .int .i64 0, .int .i64 0, .int .i64 0, .slice none 0 0, .slice none 0 0] 94)) = x := ⟨_, rfl⟩
  have hsW : W.heap.size = w.heap.size + 3 := by rw [← hW]; simp
  have RA : Hid (Res7 w W (w.heap.size + 2)) := by rw [Hid, ← hW]; exact ⟨BA0, by have h := Var7_new ((w.alloc (.cells #[.int .i64 r.tm, .int .i64 r.vt, .int .i64 r.si, .int .i64 r.st, .slice ay r.sn.length cy, .slice az r.lg.length cz] 33)).alloc (.cells #[.int .i64 o.tm, .int .i64 o.vt, .int .i64 o.si, .int .i64 o.st, .slice au o.sn.length cu, .slice av o.lg.length cv] 68)) (.int .i64 0) (.int .i64 0) (.int .i64 0) (.int .i64 0) (.int .i64 0) (.slice none 0 0) (.slice none 0 0) 94; simpa using h, fun q => by simp [go_sem], by omega⟩
  rw [hW] at BA0 HF VR0 VO0
  have BA := hide BA0
  obtain ⟨C, hC⟩ : ∃ C, inC r o.vt o.si o.sn = C := ⟨_, rfl⟩
  obtain ⟨R, hR⟩ : ∃ R, inR r o.vt o.si o.sn = R := ⟨_, rfl⟩
  rw [hC, hR] at HF ⊢
  clear hC hR hy hz hu hv hcp hcv hg BA0
  generalize r.sn.length = l at *
  generalize r.lg.length = m at *
  generalize o.sn.length = l2 at *
  generalize o.lg.length = m2 at *
  generalize r.tm = a at *
  generalize r.vt = b at *
  generalize r.si = c at *
  generalize r.st = d at *
  generalize o.tm = a2 at *
  generalize o.vt = b2 at *
  generalize o.si = c2 at *
  generalize o.st = d2 at *
  obtain ⟨v0, v1, v2, v3, v4, v5⟩ := VR0
  obtain ⟨p0, p1, p2, p3, p4, p5⟩ := VO0
  go_enter Tryz.func89, Tryz.ntmps89
  go_wp2_with fail
  clear hW
  refine HF.out.mono ?_
  rintro e w1 ⟨y1, z1, rfl, hb, ho⟩
  obtain ⟨a1, k1, g1, j1, rfl, rfl⟩ := ho.shape
  have RB := hide (RA.out.later hb)
  have HFn := hide (ret_raft (r := w.heap.size + 2) (x0 := .int .i64 C) (x1 := .int .i64 R.tm) (x2 := .int .i64 R.vt) (x3 := .int .i64 R.si) (x4 := .int .i64 R.st) RB.out.below RB.out.ge ho (by omega))
  clear hb ho v0 v1 v2 v3 v4 v5 p0 p1 p2 p3 p4 p5 RA
  obtain ⟨_, ⟨c0, c1, c2, c3, c4, c5, c6⟩, F, _⟩ := RB.out
  have f0 := F 0
  have f1 := F 1
  have f2 := F 2
  have f3 := F 3
  have f4 := F 4
  have f5 := F 5
  have f6 := F 6
  clear F
  go_wp2
  refine bodyPost_ret (v := .agg #[.int .i64 C, .int .i64 R.tm, .int .i64 R.vt, .int .i64 R.si, .int .i64 R.st, .slice a1 R.sn.length k1, .slice g1 R.lg.length j1]) (by simp [results, Tryz.results89, go_sem, c0, c1, c2, c3, c4, c5, c6]) rfl ⟨_, _, rfl, HFn.out.1, HFn.out.2⟩

set_option maxHeartbeats 2000000 in
set_option maxRecDepth 4000 in
theorem deed5 {S T S' T' : Nat → Prop} {w : World} {y z u v : Value} (r o : Rf) (hg : Gl w) (hy : RdI S w y r.sn) (hz : RdJ T w z r.lg) (hcp : capE z) (hu : RdI S' w u o.sn) (hv : RdJ T' w v o.lg) (hcv : capE v) :
    Calls Tryz.prog 91 #[.agg #[.int .i64 r.tm, .int .i64 r.vt, .int .i64 r.si, .int .i64 r.st, y, z], .agg #[.int .i64 o.tm, .int .i64 o.vt, .int .i64 o.si, .int .i64 o.st, u, v]] w fun e w' => e = .returned (.agg #[.int .i64 (taC r o.vt), .int .i64 (taV r o.vt)]) ∧ Below w.heap.size w w' := by
  obtain ⟨ay, cy, rfl⟩ := hy.shape
  obtain ⟨az, cz, rfl, _⟩ := hz.shape
  obtain ⟨au, cu, rfl⟩ := hu.shape
  obtain ⟨av, cv, rfl, _⟩ := hv.shape
  have BA0 := below_on (below_on (below_alloc w (.cells #[.int .i64 r.tm, .int .i64 r.vt, .int .i64 r.si, .int .i64 r.st, .slice ay r.sn.length cy, .slice az r.lg.length cz] 33)) (below_alloc _ (.cells #[.int .i64 o.tm, .int .i64 o.vt, .int .i64 o.si, .int .i64 o.st, .slice au o.sn.length cu, .slice av o.lg.length cv] 68))) (below_alloc _ (.cells #[.int .i64 0, .int .i64 0] 100))
  have HF := hide (implTermAt r o.vt (hg.later BA0) (hy.later BA0) (hz.later BA0))
  have VR0 := ((Var6_new w (.int .i64 r.tm) (.int .i64 r.vt) (.int .i64 r.si) (.int .i64 r.st) (.slice ay r.sn.length cy) (.slice az r.lg.length cz) 33).later (below_alloc _ (.cells #[.int .i64 o.tm, .int .i64 o.vt, .int .i64 o.si, .int .i64 o.st, .slice au o.sn.length cu, .slice av o.lg.length cv] 68))).later (below_alloc _ (.cells #[.int .i64 0, .int .i64 0] 100))
  have VO0 := (Var6_new (w.alloc (.cells #[.int .i64 r.tm, .int .i64 r.vt, .int .i64 r.si, .int .i64 r.st, .slice ay r.sn.length cy, .slice az r.lg.length cz] 33)) (.int .i64 o.tm) (.int .i64 o.vt) (.int .i64 o.si) (.int .i64 o.st) (.slice au o.sn.length cu) (.slice av o.lg.length cv) 68).later (below_alloc _ (.cells #[.int .i64 0, .int .i64 0] 100))
  rw [World.size_alloc] at VO0
  obtain ⟨W, hW⟩ : ∃ x, (((w.alloc (.cells #[.int .i64 r.tm, .int .i64 r.vt, .int .i64 r.si, .int .i64 r.st, .slice ay r.sn.length cy, .slice az r.lg.length cz] 33)).alloc (.cells #[.int .i64 o.tm, .int .i64 o.vt, .int .i64 o.si, .int .i64 o.st, .slice au o.sn.length cu, .slice av o.lg.length cv] 68)).alloc (.cells #[.int .i64 0, .int .i64 0] 100)) = x := ⟨_, rfl⟩
  have hsW : W.heap.size = w.heap.size + 3 := by rw [← hW]; simp
  have RA : Hid (Var2 W (w.heap.size + 2) (.int .i64 0) (.int .i64 0) ∧ ∀ q, W.frozen? ⟨w.heap.size + 2, q, none⟩ = false) := by rw [Hid, ← hW]; exact ⟨by have h := Var2_new ((w.alloc (.cells #[.int .i64 r.tm, .int .i64 r.vt, .int .i64 r.si, .int .i64 r.st, .slice ay r.sn.length cy, .slice az r.lg.length cz] 33)).alloc (.cells #[.int .i64 o.tm, .int .i64 o.vt, .int .i64 o.si, .int .i64 o.st, .slice au o.sn.length cu, .slice av o.lg.length cv] 68)) (.int .i64 0) (.int .i64 0) 100; simpa using h, fun q => by simp [go_sem]⟩
  rw [hW] at BA0 HF VR0 VO0
  have BA := hide BA0
  obtain ⟨C, hC⟩ : ∃ C, taC r o.vt = C := ⟨_, rfl⟩
  obtain ⟨R, hR⟩ : ∃ R, taV r o.vt = R := ⟨_, rfl⟩
  rw [hC, hR] at HF ⊢
  clear hC hR hy hz hu hv hcp hcv hg BA0
  generalize r.sn.length = l at *
  generalize r.lg.length = m at *
  generalize o.sn.length = l2 at *
  generalize o.lg.length = m2 at *
  generalize r.tm = a at *
  generalize r.vt = b at *
  generalize r.si = c at *
  generalize r.st = d at *
  generalize o.tm = a2 at *
  generalize o.vt = b2 at *
  generalize o.si = c2 at *
  generalize o.st = d2 at *
  obtain ⟨v0, v1, v2, v3, v4, v5⟩ := VR0
  obtain ⟨p0, p1, p2, p3, p4, p5⟩ := VO0
  go_enter Tryz.func91, Tryz.ntmps91
  go_wp2_with fail
  clear hW
  refine HF.out.mono ?_
  rintro e w1 ⟨rfl, hb⟩
  have RB := hide (And.intro (RA.out.1.later hb) (fun q => ((bcell hb).2 _ _ RA.out.1.lt).trans (RA.out.2 q)))
  have BB := hide (below_on BA.out hb)
  clear hb v0 v1 v2 v3 v4 v5 p0 p1 p2 p3 p4 p5 RA
  obtain ⟨⟨c0, c1⟩, F⟩ := RB.out
  have f0 := F 0
  have f1 := F 1
  clear F
  go_wp2
  refine bodyPost_ret (v := .agg #[.int .i64 C, .int .i64 R]) (by simp [results, Tryz.results91, go_sem, c0, c1]) rfl ⟨rfl, ?_⟩
  repeat (first | exact BB.out | refine Below.setCell ?_ (by first | (simp; done) | (simp; omega) | omega) _)
end Go.Proofs.YtcmdgnemkjfckaaGreatDoor
