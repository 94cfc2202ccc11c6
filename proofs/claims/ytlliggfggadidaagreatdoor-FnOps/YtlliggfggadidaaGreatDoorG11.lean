/- Cp1 Cp2 in one text: what each says stands at its head below. -/
import Derived.Test.YtlliggfggadidaaGreatDoorG10
namespace Go.Proofs.YtlliggfggadidaaGreatDoor
open Go.RowKit
structure AtV (w wr : World) (f : Int) (s : Value) : Prop where
  below : Below w.heap.size w wr
  l : Var2 wr w.heap.size (.int .i64 f) s
  r : Var3 wr (w.heap.size + 1) (.int .i64 0) (.int .i64 0) (.slice none 0 0)
  i : Var3 wr (w.heap.size + 2) (.int .i64 0) (.int .i64 0) (.slice none 0 0)
  fr : ∀ o, wr.frozen? ⟨w.heap.size + 1, o, none⟩ = false
theorem AtV.later {w wr w1 : World} {f : Int} {s : Value} (h : AtV w wr f s) (hb : Below wr.heap.size wr w1) : AtV w w1 f s :=
  ⟨below_on h.below hb, h.l.later hb, h.r.later hb, h.i.later hb, fun o => ((bcell hb).2 _ _ h.r.lt).trans (h.fr o)⟩
theorem AtV.start (w : World) (f : Int) (s : Value) : AtV w (((w.alloc (.cells #[.int .i64 f, s] 131)).alloc (.cells #[.int .i64 0, .int .i64 0, .slice none 0 0] 58)).alloc (.cells #[.int .i64 0, .int .i64 0, .slice none 0 0] 58)) f s := by
  refine ⟨below_on (below_on (below_alloc _ _) (below_alloc _ _)) (below_alloc _ _), ?_, ?_, ?_, fun o => by simp [go_sem]⟩
  · refine ⟨?_, ?_⟩ <;> simp [go_sem]
  · refine ⟨?_, ?_, ?_⟩ <;> simp [go_sem]
  · refine ⟨?_, ?_, ?_⟩ <;> simp [go_sem]
theorem AtV.shut {w wr : World} {f : Int} {s : Value} (h : AtV w wr f s) (x y z : Value) : Below w.heap.size w (((wr.setCell ⟨w.heap.size + 1, 0, none⟩ x).setCell ⟨w.heap.size + 1, 1, none⟩ y).setCell ⟨w.heap.size + 1, 2, none⟩ z) :=
  ((h.below.setCell (p := ⟨w.heap.size + 1, 0, none⟩) (Nat.le_succ _) _).setCell (p := ⟨w.heap.size + 1, 1, none⟩) (Nat.le_succ _) _).setCell (p := ⟨w.heap.size + 1, 2, none⟩) (Nat.le_succ _) _
set_option maxHeartbeats 2000000 in
theorem atLoE (f i : Int) (ao : Option Addr) (n c : Nat) (h : i < f) (w : World) : Calls Tryz.prog 105 #[.agg #[.int .i64 f, .slice ao n c], .int .i64 i] w fun e w' => e = .returned (.tuple #[.agg #[.int .i64 0, .int .i64 0, .slice none 0 0], .iface 107 (.agg #[.int .i64 f])]) ∧ Below w.heap.size w w' := by
  have HE := hide (reachLoE f i ao n c h)
  clear h
  have AA := hide (AtV.start w f (.slice ao n c))
  obtain ⟨W, hW⟩ : ∃ W, (((w.alloc (.cells #[.int .i64 f, .slice ao n c] 131)).alloc (.cells #[.int .i64 0, .int .i64 0, .slice none 0 0] 58)).alloc (.cells #[.int .i64 0, .int .i64 0, .slice none 0 0] 58)) = W := ⟨_, rfl⟩
  rw [hW] at AA
  obtain ⟨_, ⟨l0, l1⟩, ⟨r0, r1, r2⟩, ⟨i0, i1, i2⟩, F⟩ := AA.out
  have f0 := F 0
  have f1 := F 1
  have f2 := F 2
  clear F
  go_enter Tryz.func105, Tryz.ntmps105
  go_wp2_with fail
  clear hW
  refine (HE.out _).mono ?_
  rintro e w1 ⟨rfl, hb⟩
  have AB := hide (AA.out.later hb)
  clear hb
  clear l0 l1 r0 r1 r2 i0 i1 i2 f0 f1 f2
  obtain ⟨_, ⟨l0, l1⟩, ⟨r0, r1, r2⟩, ⟨i0, i1, i2⟩, F⟩ := AB.out
  have f0 := F 0
  have f1 := F 1
  have f2 := F 2
  clear F
  have hne := run_neq_iface_nilR (P := Tryz.prog) w1 107 (.agg #[.int .i64 f]) Tryz.underlying72
  go_wp2
  refine bodyPost_ret (v := .tuple #[.agg #[.int .i64 0, .int .i64 0, .slice none 0 0], .iface 107 (.agg #[.int .i64 f])]) (by simp [results, Tryz.results105, go_sem, r0, r1, r2]) rfl ⟨rfl, AB.out.shut _ _ _⟩
set_option maxHeartbeats 4000000 in
theorem atHiE (f i : Int) (ao : Option Addr) (n c : Nat) (h0 : 0 ≤ f) (h1 : f ≤ 10000) (h2 : n ≤ 100) (h : f + n ≤ i) (w : World) (a : Addr) (ha : w.cell? ⟨0, 0, none⟩ = some (.iface 191 (.pointer (some a)))) : Calls Tryz.prog 105 #[.agg #[.int .i64 f, .slice ao n c], .int .i64 i] w fun e w' => e = .returned (.tuple #[.agg #[.int .i64 0, .int .i64 0, .slice none 0 0], .iface 191 (.pointer (some a))]) ∧ Below w.heap.size w w' := by
  have AA := hide (AtV.start w f (.slice ao n c))
  obtain ⟨W, hW⟩ : ∃ W, (((w.alloc (.cells #[.int .i64 f, .slice ao n c] 131)).alloc (.cells #[.int .i64 0, .int .i64 0, .slice none 0 0] 58)).alloc (.cells #[.int .i64 0, .int .i64 0, .slice none 0 0] 58)) = W := ⟨_, rfl⟩
  rw [hW] at AA
  have hac := cell_later AA.out.below ha
  by_cases hh : f + n < i
  · have HE := hide (reachHiE f i ao n c h0 h1 h2 hh W a hac)
    clear h h0 h1 h2 hh ha hac
    obtain ⟨_, ⟨l0, l1⟩, ⟨r0, r1, r2⟩, ⟨i0, i1, i2⟩, F⟩ := AA.out
    have f0 := F 0
    have f1 := F 1
    have f2 := F 2
    clear F
    go_enter Tryz.func105, Tryz.ntmps105
    go_wp2_with fail
    clear hW
    refine HE.out.mono ?_
    rintro e w1 ⟨rfl, hb⟩
    have AB := hide (AA.out.later hb)
    clear hb
    clear l0 l1 r0 r1 r2 i0 i1 i2 f0 f1 f2
    obtain ⟨_, ⟨l0, l1⟩, ⟨r0, r1, r2⟩, ⟨i0, i1, i2⟩, F⟩ := AB.out
    have f0 := F 0
    have f1 := F 1
    have f2 := F 2
    clear F
    have hne := run_neq_iface_nilR (P := Tryz.prog) w1 191 (.pointer (some a)) Tryz.underlying72
    go_wp2
    refine bodyPost_ret (v := .tuple #[.agg #[.int .i64 0, .int .i64 0, .slice none 0 0], .iface 191 (.pointer (some a))]) (by simp [results, Tryz.results105, go_sem, r0, r1, r2]) rfl ⟨rfl, AB.out.shut _ _ _⟩
  · have he : i = f + n := by omega
    subst he
    have HE := hide (reachInE f (f + n) ao n c h0 h1 h2 (by omega) (by omega))
    have HN := hide (endE f ao n c h0 h1 h2)
    obtain ⟨s, hs⟩ : ∃ s, f + (n : Int) = s := ⟨_, rfl⟩
    rw [hs] at HE HN ⊢
    have HAc := hide hac
    clear h h0 h1 h2 hh hs ha hac
    obtain ⟨_, ⟨l0, l1⟩, ⟨r0, r1, r2⟩, ⟨i0, i1, i2⟩, F⟩ := AA.out
    have f0 := F 0
    have f1 := F 1
    have f2 := F 2
    clear F
    go_enter Tryz.func105, Tryz.ntmps105
    go_wp2_with fail
    clear hW
    refine (HE.out _).mono ?_
    rintro e w1 ⟨rfl, hb⟩
    have AB := hide (AA.out.later hb)
    have HBc := hide (cell_later hb HAc.out)
    clear hb
    clear l0 l1 r0 r1 r2 i0 i1 i2 f0 f1 f2
    obtain ⟨_, ⟨l0, l1⟩, ⟨r0, r1, r2⟩, ⟨i0, i1, i2⟩, F⟩ := AB.out
    have f0 := F 0
    have f1 := F 1
    have f2 := F 2
    clear F
    have hne := run_neq_nil_nilR (P := Tryz.prog) w1 Tryz.underlying72
    go_wp2_with fail
    refine (HN.out _).mono ?_
    rintro e w2 ⟨rfl, hb⟩
    have AC := hide (AB.out.later hb)
    have g2 := cell_later hb HBc.out
    clear hb hne
    clear l0 l1 r0 r1 r2 i0 i1 i2 f0 f1 f2
    obtain ⟨_, ⟨l0, l1⟩, ⟨r0, r1, r2⟩, ⟨i0, i1, i2⟩, F⟩ := AC.out
    have f0 := F 0
    have f1 := F 1
    have f2 := F 2
    clear F
    go_wp2_with fail
    go_region
    all_goals go_wp2
    all_goals refine bodyPost_ret (v := .tuple #[.agg #[.int .i64 0, .int .i64 0, .slice none 0 0], .iface 191 (.pointer (some a))]) (by simp [results, Tryz.results105, go_sem, r0, r1, r2]) rfl ⟨rfl, ?_⟩
    all_goals exact below_on (AC.out.shut _ _ _) (below_drewN _ 1)
set_option maxHeartbeats 4000000 in
theorem atInE {S : Nat → Prop} {w : World} {ao : Option Addr} {n c : Nat} {ps : List Oj} (f i : Int) (j : Nat) (hv : RdJ S w (.slice ao n c) ps) (hn : ps.length = n) (h0 : 0 ≤ f) (h1 : f ≤ 10000) (h2 : n ≤ 100) (hij : i - f = (j : Int)) (hjn : j < n) :
    Calls Tryz.prog 105 #[.agg #[.int .i64 f, .slice ao n c], .int .i64 i] w fun e w' => ∃ q k d, e = .returned (.tuple #[.agg #[.int .i64 (ps.getD j oj0).1, .int .i64 (ps.getD j oj0).2.1, .slice q k d], .nilIface]) ∧ Below w.heap.size w w' := by
  obtain ⟨bb, off, rfl, y0, q0, q1, q2, q3⟩ := hv.file (k := j) (by omega)
  obtain ⟨a3, c3, rfl⟩ := q3.shape
  obtain ⟨x, hx⟩ : ∃ x, (ps.getD j oj0).1 = x := ⟨_, rfl⟩
  obtain ⟨t, ht⟩ : ∃ t, (ps.getD j oj0).2.1 = t := ⟨_, rfl⟩
  obtain ⟨l3, hl3⟩ : ∃ l, (ps.getD j oj0).2.2.length = l := ⟨_, rfl⟩
  rw [hx] at q0 ⊢
  rw [ht] at q1 ⊢
  rw [hl3] at q2
  clear hx ht hl3 q3 hv hn
  have HE := hide (reachInE f i (some ⟨bb, off, none⟩) n c h0 h1 h2 (by omega) (by omega))
  have HN := hide (endE f (some ⟨bb, off, none⟩) n c h0 h1 h2)
  have hwr : IntKind.i64.wrap (i - f) = (j : Int) := by rw [hij]; simp [IntKind.wrap, IntKind.bits, IntKind.signed]; omega
  have hj1 : (j : Int) < (n : Int) := by omega
  have hj0 : (0 : Int) ≤ (j : Int) := by omega
  obtain ⟨s, hs⟩ : ∃ s, f + (n : Int) = s := ⟨_, rfl⟩
  rw [hs] at HN
  have hne : (i == s) = false := by simp; omega
  have hned : decide (i = s) = false := by simp; omega
  have AA := hide (AtV.start w f (.slice (some ⟨bb, off, none⟩) n c))
  obtain ⟨W, hW⟩ : ∃ W, (((w.alloc (.cells #[.int .i64 f, .slice (some ⟨bb, off, none⟩) n c] 131)).alloc (.cells #[.int .i64 0, .int .i64 0, .slice none 0 0] 58)).alloc (.cells #[.int .i64 0, .int .i64 0, .slice none 0 0] 58)) = W := ⟨_, rfl⟩
  rw [hW] at AA
  have G0 := hide (cell_later AA.out.below q0)
  have G1 := hide (cell_later AA.out.below q1)
  have G2 := hide (cell_later AA.out.below q2)
  clear q0 q1 q2 hs h0 h1 h2 hij
  obtain ⟨_, ⟨l0, l1⟩, ⟨r0, r1, r2⟩, ⟨i0, i1, i2⟩, F⟩ := AA.out
  have f0 := F 0
  have f1 := F 1
  have f2 := F 2
  clear F
  go_enter Tryz.func105, Tryz.ntmps105
  go_wp2_with fail
  clear hW
  refine (HE.out _).mono ?_
  rintro e w1 ⟨rfl, hb⟩
  have AB := hide (AA.out.later hb)
  have B0 := hide hb
  clear hb
  clear l0 l1 r0 r1 r2 i0 i1 i2 f0 f1 f2
  obtain ⟨_, ⟨l0, l1⟩, ⟨r0, r1, r2⟩, ⟨i0, i1, i2⟩, F⟩ := AB.out
  have f0 := F 0
  have f1 := F 1
  have f2 := F 2
  clear F
  have hnn := run_neq_nil_nilR (P := Tryz.prog) w1 Tryz.underlying72
  go_wp2_with fail
  refine (HN.out _).mono ?_
  rintro e w2 ⟨rfl, hb⟩
  have AC := hide (AB.out.later hb)
  have g0 := cell_later hb (cell_later B0.out G0.out)
  have g1 := cell_later hb (cell_later B0.out G1.out)
  have g2 := cell_later hb (cell_later B0.out G2.out)
  clear hb hnn
  clear l0 l1 r0 r1 r2 i0 i1 i2 f0 f1 f2
  obtain ⟨_, ⟨l0, l1⟩, ⟨r0, r1, r2⟩, ⟨i0, i1, i2⟩, F⟩ := AC.out
  have f0 := F 0
  have f1 := F 1
  have f2 := F 2
  clear F
  go_wp2
  refine bodyPost_ret (v := .tuple #[.agg #[.int .i64 x, .int .i64 t, .slice a3 l3 c3], .nilIface]) (by simp [results, Tryz.results105, go_sem, r0, r1, r2]) rfl ⟨_, _, _, rfl, AC.out.shut _ _ _⟩
end Go.Proofs.YtlliggfggadidaaGreatDoor
namespace Go.Proofs.YtlliggfggadidaaGreatDoor
open Go.RowKit
def dfF (r : Rf) (xs : List Int) : Int := if rfF r ≠ 0 then rfF r else daF xs
theorem dfF_bad {r : Rf} {xs : List Int} (h : rfF r ≠ 0) : dfF r xs = rfF r := by unfold dfF; rw [if_pos h]
theorem dfF_ok {r : Rf} {xs : List Int} (h : rfF r = 0) : dfF r xs = daF xs := by unfold dfF; rw [if_neg (by simp [h])]
set_option maxHeartbeats 2000000 in
theorem dataFaultI {S T U : Nat → Prop} {w : World} {y z v : Value} {xs : List Int} (r : Rf) (hy : RdI S w y r.sn) (hz : RdJ T w z r.lg) (hv : RdI U w v xs) : Calls Tryz.prog 104 #[.agg #[.int .i64 r.tm, .int .i64 r.vt, .int .i64 r.si, .int .i64 r.st, y, z], v] w fun e w' => e = .returned (.int .i64 (dfF r xs)) ∧ Below w.heap.size w w' := by
  obtain ⟨ay, cy, rfl⟩ := hy.shape
  obtain ⟨az, cz, rfl, _⟩ := hz.shape
  obtain ⟨av, cv, rfl⟩ := hv.shape
  have BA := hide (below_alloc w (.cells #[.int .i64 r.tm, .int .i64 r.vt, .int .i64 r.si, .int .i64 r.st, .slice ay r.sn.length cy, .slice az r.lg.length cz] 27))
  have HF := hide (implRaftFault r (hy.later BA.out) (hz.later BA.out))
  have HD := hide (fun (w' : World) (hb : Below w.heap.size w w') => snapFaultI (hv.later hb))
  have HBad := hide (@dfF_bad r xs)
  have HOk := hide (@dfF_ok r xs)
  obtain ⟨Z, hZ⟩ : ∃ Z, rfF r = Z := ⟨_, rfl⟩
  obtain ⟨C, hC⟩ : ∃ C, dfF r xs = C := ⟨_, rfl⟩
  obtain ⟨D, hD⟩ : ∃ D, daF xs = D := ⟨_, rfl⟩
  rw [hZ] at HF HBad HOk
  rw [hC] at HBad HOk ⊢
  rw [hD] at HOk HD
  clear hZ hC hD hy hz hv
  generalize xs.length = q at *
  generalize r.sn.length = l at *
  generalize r.lg.length = m at *
  generalize r.tm = a at *
  generalize r.vt = b at *
  generalize r.si = c at *
  generalize r.st = d at *
  go_enter Tryz.func104, Tryz.ntmps104
  go_wp2_with fail
  refine HF.out.mono ?_
  rintro e w1 ⟨rfl, hb⟩
  have BB := hide (below_on BA.out hb)
  clear hb
  by_cases h0 : Z = 0
  · subst h0
    obtain rfl := HOk.out (by first | trivial | rfl)
    go_wp2_with fail
    refine (HD.out _ BB.out).mono ?_
    rintro e w2 ⟨rfl, qd, hw2⟩
    have BC : Hid (Below w.heap.size w w2) := by rw [hw2]; exact below_on BB.out (below_drewN _ _)
    clear hw2
    go_wp2
    go_ret
    exact ⟨rfl, BC.out⟩
  · obtain rfl := HBad.out h0
    have h0b : (C == 0) = false := by simpa using h0
    have h0c : (C != 0) = true := by simp [h0]
    clear h0
    go_wp2
    go_ret
    exact ⟨rfl, BB.out⟩
set_option maxHeartbeats 4000000 in
set_option maxRecDepth 4000 in
theorem snappedI {S T : Nat → Prop} {w : World} {y z : Value} {xs : List Int} {ps : List Oj} (a b c d x t : Int) (a1 a2 a3 : Option Addr) (l1 c1 l2 c2 l3 c3 : Nat) (hy : RdI S w y xs) (hz : RdJ T w z ps) (hm : xs.length ≤ 1048576) (hm' : ps.length ≤ 1048576) (hl' : ∀ i, i < ps.length → (ps.getD i oj0).2.2.length ≤ 1048576) :
    Calls Tryz.prog 106 #[.agg #[.int .i64 a, .int .i64 b, .int .i64 c, .int .i64 d, .slice a1 l1 c1, .slice a2 l2 c2], .agg #[.int .i64 x, .int .i64 t, .slice a3 l3 c3], y, z] w fun e w' => ∃ y' z', e = .returned (.agg #[.int .i64 a, .int .i64 b, .int .i64 x, .int .i64 t, y', z']) ∧ Below w.heap.size w w' ∧ IvR w.heap.size w'.heap.size w' y' z' xs ps := by
  have HCp := hide (fun (w' : World) (hb : Below w.heap.size w w') => copyRaftI a b x t (hy.later hb) (hz.later hb) hm hm' hl')
  obtain ⟨ay, cy, rfl⟩ := hy.shape
  obtain ⟨az, cz, rfl, _⟩ := hz.shape
  obtain ⟨l, hl⟩ : ∃ l, xs.length = l := ⟨_, rfl⟩
  obtain ⟨m, hme⟩ : ∃ m, ps.length = m := ⟨_, rfl⟩
  rw [hl] at HCp ⊢
  rw [hme] at HCp ⊢
  have HL := hide hl
  have HME := hide hme
  clear hy hz hm hm' hl' hl hme
  go_enter Tryz.func106, Tryz.ntmps106
  go_wp2_with fail
  refine forget (fun W => Var3 W (w.heap.size + 1) (.int .i64 x) (.int .i64 t) (.slice a3 l3 c3) ∧ Var6 W (w.heap.size + 2) (.int .i64 0) (.int .i64 0) (.int .i64 0) (.int .i64 0) (.slice none 0 0) (.slice none 0 0) ∧ Var6 W (w.heap.size + 3) (.int .i64 a) (.int .i64 b) (.int .i64 c) (.int .i64 d) (.slice a1 l1 c1) (.slice a2 l2 c2) ∧ (∀ o, W.frozen? ⟨w.heap.size + 2, o, none⟩ = false) ∧ (∀ o, W.frozen? ⟨w.heap.size + 3, o, none⟩ = false) ∧ Below w.heap.size w W ∧ W.heap.size = w.heap.size + 4) ?s0 ?_
  case s0 =>
    refine ⟨?_, ?_, ?_, ?_, ?_, ?_, ?_⟩
    · refine ⟨?_, ?_, ?_⟩ <;> simp [go_sem]
    · refine ⟨?_, ?_, ?_, ?_, ?_, ?_⟩ <;> simp [go_sem]
    · refine ⟨?_, ?_, ?_, ?_, ?_, ?_⟩ <;> simp [go_sem]
    · intro o; simp [go_sem]
    · intro o; simp [go_sem]
    · exact below_on (below_on (below_on (below_alloc _ _) (below_alloc _ _)) (below_alloc _ _)) (below_alloc _ _)
    · simp
  rintro W ⟨⟨e0, e1, e2⟩, ⟨r0, r1, r2, r3, r4, r5⟩, ⟨n0, n1, n2, n3, n4, n5⟩, hf, hg, hbW, hsW⟩
  have f0 := hf 0
  have f1 := hf 1
  have f2 := hf 2
  have f3 := hf 3
  have f4 := hf 4
  have f5 := hf 5
  have g2 := hg 2
  have g3 := hg 3
  have g4 := hg 4
  have g5 := hg 5
  have HB := hide hbW
  have HS := hide hsW
  clear hbW hsW
  have BX : Hid (Below w.heap.size w ((((W.setCell ⟨w.heap.size + 3, 2, none⟩ (.int .i64 x)).setCell ⟨w.heap.size + 3, 3, none⟩ (.int .i64 t)).setCell ⟨w.heap.size + 3, 4, none⟩ (.slice ay l cy)).setCell ⟨w.heap.size + 3, 5, none⟩ (.slice az m cz)).drew) := below_on ((((HB.out.setCell (p := ⟨w.heap.size + 3, 2, none⟩) (by simp) (.int .i64 x)).setCell (p := ⟨w.heap.size + 3, 3, none⟩) (by simp) (.int .i64 t)).setCell (p := ⟨w.heap.size + 3, 4, none⟩) (by simp) (.slice ay l cy)).setCell (p := ⟨w.heap.size + 3, 5, none⟩) (by simp) (.slice az m cz)) (below_drewN _ 1)
  have RX : Hid (Var6 ((((W.setCell ⟨w.heap.size + 3, 2, none⟩ (.int .i64 x)).setCell ⟨w.heap.size + 3, 3, none⟩ (.int .i64 t)).setCell ⟨w.heap.size + 3, 4, none⟩ (.slice ay l cy)).setCell ⟨w.heap.size + 3, 5, none⟩ (.slice az m cz)).drew (w.heap.size + 2) (.int .i64 0) (.int .i64 0) (.int .i64 0) (.int .i64 0) (.slice none 0 0) (.slice none 0 0)) := by
    refine ⟨?_, ?_, ?_, ?_, ?_, ?_⟩ <;> simp [go_sem, r0, r1, r2, r3, r4, r5]
  have FX : Hid (∀ o, ((((W.setCell ⟨w.heap.size + 3, 2, none⟩ (.int .i64 x)).setCell ⟨w.heap.size + 3, 3, none⟩ (.int .i64 t)).setCell ⟨w.heap.size + 3, 4, none⟩ (.slice ay l cy)).setCell ⟨w.heap.size + 3, 5, none⟩ (.slice az m cz)).drew.frozen? ⟨w.heap.size + 2, o, none⟩ = false) := fun o => by simp [go_sem, hf o]
  have SX : Hid (((((W.setCell ⟨w.heap.size + 3, 2, none⟩ (.int .i64 x)).setCell ⟨w.heap.size + 3, 3, none⟩ (.int .i64 t)).setCell ⟨w.heap.size + 3, 4, none⟩ (.slice ay l cy)).setCell ⟨w.heap.size + 3, 5, none⟩ (.slice az m cz)).drew.heap.size = w.heap.size + 4) := by simp [Hid, HS.out]
  clear hf hg
  go_region
  go_wp2_with fail
  refine (HCp.out _ BX.out).mono ?_
  rintro e w2 ⟨y2, z2, rfl, hb, ho⟩
  have hs4 := SX.out
  have hz2 := hb.size
  rw [hs4] at hz2
  have ho4 := hide ho
  clear ho
  have R2 := hide (RX.out.later hb)
  have F2 : ∀ o, w2.frozen? ⟨w.heap.size + 2, o, none⟩ = false := fun o => ((bcell hb).2 _ _ (by rw [hs4]; simp)).trans (FX.out o)
  have B2 := hide (below_on BX.out hb)
  obtain ⟨a5, k5, b5, j5, hy5, hz5⟩ := ho4.out.shape
  rw [HL.out] at hy5
  rw [HME.out] at hz5
  subst hy5
  subst hz5
  rw [hs4] at ho4
  clear hb hs4 RX FX SX BX r0 n0 f0 r1 n1 f1 r2 n2 f2 r3 n3 f3 r4 n4 f4 r5 n5 f5 e0 e1 e2 g2 g3 g4 g5
  obtain ⟨r0, r1, r2, r3, r4, r5⟩ := R2.out
  have f0 := F2 0
  have f1 := F2 1
  have f2 := F2 2
  have f3 := F2 3
  have f4 := F2 4
  have f5 := F2 5
  clear F2
  go_wp2
  refine bodyPost_ret (v := .agg #[.int .i64 a, .int .i64 b, .int .i64 x, .int .i64 t, .slice a5 l k5, .slice b5 m j5]) (by simp [results, Tryz.results106, go_sem, r0, r1, r2, r3, r4, r5]) rfl ⟨_, _, rfl, ?_, ?_⟩
  · repeat (first | refine Below.setCell ?_ (by first | (simp; done) | (simp; omega) | omega) _ | exact B2.out)
  · refine IvR.up (IvR.wr (T := fun q => q = w.heap.size + 2) ho4.out (w' := _) ?_ (fun q h1 h2 e => by omega)) (by omega) (by simp)
    repeat (first | refine Wr.setCell ?_ (by rfl) _ | exact Wr.refl _ _)
end Go.Proofs.YtlliggfggadidaaGreatDoor
