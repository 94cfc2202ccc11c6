/- Do4 Ap4 in one text: what each says stands at its head below. -/
import Derived.Test.YtlljcajfdeiigaaGreatDoorG32
import Derived.Test.YtlljcajfdeiigaaGreatDoorG15
import Derived.Test.YtlljcajfdeiigaaGreatDoorG13
import Derived.Test.YtlljcajfdeiigaaGreatDoorG08
import Derived.BigQuiet
/- Chapter 12: 'DoOp' of the program, walked. Made by program (gendo.py). -/
namespace Go.Proofs.YtlljcajfdeiigaaGreatDoor
open Go.RowKit

set_option linter.unusedSimpArgs false in
set_option maxHeartbeats 8000000 in
set_option maxRecDepth 4000 in
theorem implDoOp {S T S' T' : Nat → Prop} {w : World} {y z u v : Value} (r o : Rf) (hg : Gl w) (hy : RdI S w y r.sn) (hz : RdJ T w z r.lg) (hcp : capE z) (hu : RdI S' w u o.sn) (hv : RdJ T' w v o.lg) (hcv : capE v) :
    Calls Tryz.prog 10 #[.agg #[.int .i64 r.tm, .int .i64 r.vt, .int .i64 r.si, .int .i64 r.st, y, z], .agg #[.int .i64 o.tm, .int .i64 o.vt, .int .i64 o.si, .int .i64 o.st, u, v]] w (EndsO8 (doC r o) (doY r o) (doV r o) (doR r o).tm (doR r o).vt (doR r o).si (doR r o).st (doR r o).sn (doR r o).lg w) := by
  obtain ⟨ay, cy, rfl⟩ := hy.shape
  obtain ⟨az, cz, rfl, _⟩ := hz.shape
  obtain ⟨au, cu, rfl⟩ := hu.shape
  obtain ⟨av, cv, rfl, _⟩ := hv.shape
  have HBad := hide (@do_bad r o)
  have HOp := hide (@do_op r o)
  have HOk := hide (@do_ok r o)
  have HF := hide (fun (w' : World) (hb : Below w.heap.size w w') => implRaftFault r (hy.later hb) (hz.later hb))
  have HG := hide (fun (w' : World) (hb : Below w.heap.size w w') => implOpFault o (hu.later hb) (hv.later hb))
  have HD := hide (fun (h0 : rfF r = 0) (h1 : opF o = 0) (w' : World) (hb : Below w.heap.size w w') => doneByI r o h0 h1 (hg.later hb) (hy.later hb) (hz.later hb) hcp (hu.later hb) (hv.later hb) hcv)
  obtain ⟨C, hC⟩ : ∃ x, doC r o = x := ⟨_, rfl⟩
  rw [hC] at HBad HOp HOk ⊢
  clear hC
  obtain ⟨Y, hY⟩ : ∃ x, doY r o = x := ⟨_, rfl⟩
  rw [hY] at HBad HOp HOk ⊢
  clear hY
  obtain ⟨V, hV⟩ : ∃ x, doV r o = x := ⟨_, rfl⟩
  rw [hV] at HBad HOp HOk ⊢
  clear hV
  obtain ⟨R, hR⟩ : ∃ x, doR r o = x := ⟨_, rfl⟩
  rw [hR] at HBad HOp HOk ⊢
  clear hR
  obtain ⟨Z, hZ⟩ : ∃ x, rfF r = x := ⟨_, rfl⟩
  obtain ⟨G, hG⟩ : ∃ x, opF o = x := ⟨_, rfl⟩
  rw [hZ] at HF HBad HOp HOk HD
  rw [hG] at HG HOp HOk HD
  obtain ⟨dc, hdc⟩ : ∃ x, dyC r o = x := ⟨_, rfl⟩
  rw [hdc] at HOk HD
  clear hdc
  obtain ⟨dv, hdv⟩ : ∃ x, dyV r o = x := ⟨_, rfl⟩
  rw [hdv] at HOk HD
  clear hdv
  obtain ⟨dr, hdr⟩ : ∃ x, dyR r o = x := ⟨_, rfl⟩
  rw [hdr] at HOk HD
  clear hdr
  clear hZ hG hy hz hu hv hcp hcv hg
  generalize r.sn.length = l at *
  generalize r.lg.length = m at *
  generalize o.sn.length = l2 at *
  generalize o.lg.length = m2 at *
  generalize r.tm = a at *
  generalize r.vt = b at *
  generalize r.si = c at *
  generalize r.st = d at *
  generalize o.tm = a2 at *
  generalize o.vt = b2 at *
  generalize o.si = c2 at *
  generalize o.st = d2 at *
  have BA0 := below_on (below_on (below_alloc w (.cells #[.int .i64 a, .int .i64 b, .int .i64 c, .int .i64 d, .slice ay l cy, .slice az m cz] 32)) (below_alloc _ (.cells #[.int .i64 a2, .int .i64 b2, .int .i64 c2, .int .i64 d2, .slice au l2 cu, .slice av m2 cv] 38))) (below_alloc _ (.cells #[.int .i64 0, .int .i64 0, .int .i64 0, .int .i64 0, .int .i64 0, .int .i64 0, .int .i64 0, .slice none 0 0, .slice none 0 0] 34))
  have VR0 := ((Var6_new w (.int .i64 a) (.int .i64 b) (.int .i64 c) (.int .i64 d) (.slice ay l cy) (.slice az m cz) 32).later (below_alloc _ (.cells #[.int .i64 a2, .int .i64 b2, .int .i64 c2, .int .i64 d2, .slice au l2 cu, .slice av m2 cv] 38))).later (below_alloc _ (.cells #[.int .i64 0, .int .i64 0, .int .i64 0, .int .i64 0, .int .i64 0, .int .i64 0, .int .i64 0, .slice none 0 0, .slice none 0 0] 34))
  have VO0 := (Var6_new (w.alloc (.cells #[.int .i64 a, .int .i64 b, .int .i64 c, .int .i64 d, .slice ay l cy, .slice az m cz] 32)) (.int .i64 a2) (.int .i64 b2) (.int .i64 c2) (.int .i64 d2) (.slice au l2 cu) (.slice av m2 cv) 38).later (below_alloc _ (.cells #[.int .i64 0, .int .i64 0, .int .i64 0, .int .i64 0, .int .i64 0, .int .i64 0, .int .i64 0, .slice none 0 0, .slice none 0 0] 34))
  rw [World.size_alloc] at VO0
  have RA0 := Res9.new (below_on (below_alloc w (.cells #[.int .i64 a, .int .i64 b, .int .i64 c, .int .i64 d, .slice ay l cy, .slice az m cz] 32)) (below_alloc _ (.cells #[.int .i64 a2, .int .i64 b2, .int .i64 c2, .int .i64 d2, .slice au l2 cu, .slice av m2 cv] 38))) 34
  rw [World.size_alloc, World.size_alloc] at RA0
  obtain ⟨W3, hW3⟩ : ∃ x, (((w.alloc (.cells #[.int .i64 a, .int .i64 b, .int .i64 c, .int .i64 d, .slice ay l cy, .slice az m cz] 32)).alloc (.cells #[.int .i64 a2, .int .i64 b2, .int .i64 c2, .int .i64 d2, .slice au l2 cu, .slice av m2 cv] 38)).alloc (.cells #[.int .i64 0, .int .i64 0, .int .i64 0, .int .i64 0, .int .i64 0, .int .i64 0, .int .i64 0, .slice none 0 0, .slice none 0 0] 34)) = x := ⟨_, rfl⟩
  rw [hW3] at BA0 VR0 VO0 RA0
  have BA := hide BA0
  have VA := hide VR0
  have OA := hide VO0
  have RA := hide RA0
  clear BA0 VR0 VO0 RA0
  go_enter Tryz.func10, Tryz.ntmps10
  go_upto_region 1 with fail
  (try rw [hW3])
  clear hW3
  obtain ⟨v0, v1, v2, v3, v4, v5⟩ := VA.out
  obtain ⟨p0, p1, p2, p3, p4, p5⟩ := OA.out
  have HE := hide (HF.out _ BA.out)
  go_wp2_with fail
  refine HE.out.mono ?_
  rintro e w1 ⟨rfl, hb⟩
  have VB := hide (VA.out.later hb)
  have OB := hide (OA.out.later hb)
  have RB := hide (RA.out.later hb)
  have BB := hide (below_on BA.out hb)
  have hzw1 := hb.size
  clear v0 v1 v2 v3 v4 v5 p0 p1 p2 p3 p4 p5 HE VA OA RA BA
  have VA := VB
  have OA := OB
  have RA := RB
  have BA := BB
  clear VB OB RB BB
  by_cases h0 : Z = 0
  · subst h0
    clear hb
    obtain ⟨v0, v1, v2, v3, v4, v5⟩ := VA.out
    obtain ⟨p0, p1, p2, p3, p4, p5⟩ := OA.out
    have HE := hide (HG.out _ BA.out)
    go_wp2_with fail
    refine HE.out.mono ?_
    rintro e w2 ⟨rfl, hb⟩
    have VB := hide (VA.out.later hb)
    have OB := hide (OA.out.later hb)
    have RB := hide (RA.out.later hb)
    have BB := hide (below_on BA.out hb)
    have hzw2 := hb.size
    clear v0 v1 v2 v3 v4 v5 p0 p1 p2 p3 p4 p5 HE VA OA RA BA
    have VA := VB
    have OA := OB
    have RA := RB
    have BA := BB
    clear VB OB RB BB
    by_cases h1 : G = 0
    · subst h1
      clear hb
      obtain ⟨rfl, rfl, rfl, rfl⟩ := HOk.out (by first | trivial | rfl) (by first | trivial | rfl)
      have hr2 := RA.out.lt
      obtain ⟨v0, v1, v2, v3, v4, v5⟩ := VA.out
      obtain ⟨p0, p1, p2, p3, p4, p5⟩ := OA.out
      have HE := hide (HD.out (by first | trivial | rfl) (by first | trivial | rfl) _ BA.out)
      go_wp2_with fail
      refine HE.out.mono ?_
      rintro e w3 ⟨y3, z3, rfl, hb, ho⟩
      have VB := hide (VA.out.later hb)
      have OB := hide (OA.out.later hb)
      have RB := hide (RA.out.later hb)
      have BB := hide (below_on BA.out hb)
      have hzw3 := hb.size
      clear v0 v1 v2 v3 v4 v5 p0 p1 p2 p3 p4 p5 HE VA OA RA BA
      have VA := VB
      have OA := OB
      have RA := RB
      have BA := BB
      clear VB OB RB BB
      obtain ⟨a3, k3, g3, j3, hy3, hz3⟩ := ho.shape
      subst hy3
      subst hz3
      skip
      have HFn := hide (ret_op (w := w) (r := w.heap.size + 2) (x0 := .int .i64 0) (x1 := .int .i64 Y) (x2 := .int .i64 V) (x3 := .int .i64 R.tm) (x4 := .int .i64 R.vt) (x5 := .int .i64 R.si) (x6 := .int .i64 R.st) RA.out.below RA.out.ge ho (by omega))
      clear ho hb
      obtain ⟨_, ⟨c0, c1, c2, c3, c4, c5, c6, c7, c8⟩, F, _⟩ := RA.out
      have f0 := F 0
      have f1 := F 1
      have f2 := F 2
      have f3 := F 3
      have f4 := F 4
      have f5 := F 5
      have f6 := F 6
      have f7 := F 7
      have f8 := F 8
      clear F
      go_wp2
      refine bodyPost_ret (v := .agg #[.int .i64 0, .int .i64 Y, .int .i64 V, .int .i64 R.tm, .int .i64 R.vt, .int .i64 R.si, .int .i64 R.st, .slice a3 R.sn.length k3, .slice g3 R.lg.length j3]) (by simp [results, Tryz.results10, go_sem, c0, c1, c2, c3, c4, c5, c6, c7, c8]) rfl ⟨_, _, rfl, HFn.out.1, HFn.out.2⟩
    · have h1b : (G == 0) = false := by simpa using h1
      have h1c : (G != 0) = true := by simp [h1]
      obtain ⟨rfl, rfl, rfl, rfl⟩ := HOp.out (by first | trivial | rfl) h1
      clear h1
      clear hb
      have HFn := hide (ret_op (w := w) (r := w.heap.size + 2) (x0 := .int .i64 C) (x1 := .int .i64 0) (x2 := .int .i64 0) (x3 := .int .i64 0) (x4 := .int .i64 0) (x5 := .int .i64 0) (x6 := .int .i64 0) RA.out.below RA.out.ge (IvR_nil (w.heap.size + 3) w2) (by omega))
      obtain ⟨_, ⟨c0, c1, c2, c3, c4, c5, c6, c7, c8⟩, F, _⟩ := RA.out
      have f0 := F 0
      have f1 := F 1
      have f2 := F 2
      have f3 := F 3
      have f4 := F 4
      have f5 := F 5
      have f6 := F 6
      have f7 := F 7
      have f8 := F 8
      clear F
      go_wp2
      refine bodyPost_ret (v := .agg #[.int .i64 C, .int .i64 0, .int .i64 0, .int .i64 0, .int .i64 0, .int .i64 0, .int .i64 0, .slice none 0 0, .slice none 0 0]) (by simp [results, Tryz.results10, go_sem, c0, c1, c2, c3, c4, c5, c6, c7, c8]) rfl ⟨_, _, rfl, HFn.out.1, HFn.out.2⟩
  · have h0b : (Z == 0) = false := by simpa using h0
    have h0c : (Z != 0) = true := by simp [h0]
    obtain ⟨rfl, rfl, rfl, rfl⟩ := HBad.out h0
    clear h0
    clear hb
    have HFn := hide (ret_op (w := w) (r := w.heap.size + 2) (x0 := .int .i64 C) (x1 := .int .i64 0) (x2 := .int .i64 0) (x3 := .int .i64 0) (x4 := .int .i64 0) (x5 := .int .i64 0) (x6 := .int .i64 0) RA.out.below RA.out.ge (IvR_nil (w.heap.size + 3) w1) (by omega))
    obtain ⟨_, ⟨c0, c1, c2, c3, c4, c5, c6, c7, c8⟩, F, _⟩ := RA.out
    have f0 := F 0
    have f1 := F 1
    have f2 := F 2
    have f3 := F 3
    have f4 := F 4
    have f5 := F 5
    have f6 := F 6
    have f7 := F 7
    have f8 := F 8
    clear F
    go_wp2
    refine bodyPost_ret (v := .agg #[.int .i64 C, .int .i64 0, .int .i64 0, .int .i64 0, .int .i64 0, .int .i64 0, .int .i64 0, .slice none 0 0, .slice none 0 0]) (by simp [results, Tryz.results10, go_sem, c0, c1, c2, c3, c4, c5, c6, c7, c8]) rfl ⟨_, _, rfl, HFn.out.1, HFn.out.2⟩
end Go.Proofs.YtlljcajfdeiigaaGreatDoor
/- Chapter 10: 'l10Fits' of the model, walked. Made by program (genap4.py). -/
namespace Go.Proofs.YtlljcajfdeiigaaGreatDoor
open Go.RowKit

set_option maxHeartbeats 8000000 in
set_option maxRecDepth 4000 in
theorem l10FitsI {S : Nat → Prop} {w : World} {bk : Nat} {v x1 x2 x3 x4 x5 : Value} {fs : List Oj} (i t m : Int) (h6 : Var6 w bk (.int .i64 m) x1 x2 x3 x4 x5) (hv : RdJ S w v fs) (h0 : fs ≠ [] → 1 ≤ (fs.getD 0 oj0).1 ∧ (fs.getD 0 oj0).1 ≤ 9999) :
    Calls Tryz.prog 70 #[.pointer (some ⟨bk, 0, none⟩), .int .i64 i, .int .i64 t, v] w fun e w' => e = .returned (.bool (decide (gon fs i t m))) ∧ ∃ q, w' = w.drewN q := by
  obtain ⟨av, cv, rfl, hm⟩ := hv.shape
  have v0 := h6.1
  clear h6
  by_cases hne : fs = []
  · subst hne
    rw [decide_eq_true (show gon [] i t m from fun h => absurd rfl h)]
    go_enter Tryz.func70, Tryz.ntmps70
    go_wp2
    go_ret
    exact ⟨rfl, 0, rfl⟩
  · have hpos : 0 < fs.length := List.length_pos_iff.2 hne
    obtain ⟨b, off, rfl, y, p0, p1, p2, p3⟩ := hv.file (k := 0) hpos
    obtain ⟨b', off', e', y', r0, r1, r2, r3⟩ := hv.file (k := fs.length - 1) (by omega)
    injection e' with e'
    injection e' with e1 e2
    subst e1 e2
    have hh := h0 hne
    have HG : Hid (gon fs i t m ↔ (fs.getD 0 oj0).1 - 1 = i ∧ t ≤ (fs.getD 0 oj0).2.1 ∧ (fs.getD (fs.length - 1) oj0).2.1 ≤ m) := ⟨fun h => h hne, fun h _ => h⟩
    obtain ⟨n, hn⟩ : ∃ n, fs.length = n := ⟨_, rfl⟩
    rw [hn] at r0 r1 r2 r3 hm hpos HG ⊢
    obtain ⟨x, hx⟩ : ∃ x, fs.getD 0 oj0 = x := ⟨_, rfl⟩
    obtain ⟨x', hx'⟩ : ∃ x', fs.getD (n - 1) oj0 = x' := ⟨_, rfl⟩
    rw [hx] at p0 p1 p3 hh HG
    rw [hx'] at r0 r1 r3 HG
    obtain ⟨a0, t0, xs0⟩ := x
    obtain ⟨a1, t1, xs1⟩ := x'
    dsimp only at p0 p1 p3 r0 r1 r3 hh HG
    have g3 := p3.shape
    have g4 := r3.shape
    obtain ⟨ay, cy, rfl⟩ := g3
    obtain ⟨ay', cy', rfl⟩ := g4
    generalize xs0.length = l0 at p2
    generalize xs1.length = l1 at r2
    simp only [Nat.zero_mul, Nat.add_zero] at p0 p1 p2
    clear p3 r3 hv hne h0 hn hx hx'
    have hbl := World.block_lt_of_cell? _ _ p0
    have hn0 : ((n : Int) == 0) = false := by simp; omega
    have hw1 : IntKind.i64.wrap ((n : Int) - 1) = ((n - 1 : Nat) : Int) := by simp [IntKind.wrap, IntKind.bits, IntKind.signed]; omega
    obtain ⟨j, hj⟩ : ∃ j, n - 1 = j := ⟨_, rfl⟩
    rw [hj] at r0 r1 r2 hw1
    have hjn : (j : Int) < (n : Int) := by omega
    have hj0 : (0 : Int) ≤ (j : Int) := by omega
    have hn1 : (0 : Int) < (n : Int) := by omega
    clear hj
    have ha1 : IntKind.i64.wrap (a0 - 1) = a0 - 1 := by simp [IntKind.wrap, IntKind.bits, IntKind.signed]; omega
    obtain ⟨B, hB⟩ : ∃ B, decide (gon fs i t m) = B := ⟨_, rfl⟩
    have HB := hide hB
    rw [hB]
    clear hB
    have hz0 : off + 0 = off := rfl
    clear r0 r2 p2
    by_cases c1 : a0 - 1 = i
    · have c1b : (a0 - 1 == i) = true := by simpa using c1
      have c1d : decide (a0 - 1 = i) = true := decide_eq_true c1
      by_cases c2 : t ≤ t0
      · have c2d : decide (t ≤ t0) = true := decide_eq_true c2
        by_cases c3 : t1 ≤ m
        · have c3d : decide (t1 ≤ m) = true := decide_eq_true c3
          obtain rfl : true = B := by rw [← HB.out]; exact (decide_eq_true (HG.out.2 ⟨c1, c2, c3⟩)).symm
          clear c1 c2 c3
          go_enter Tryz.func70, Tryz.ntmps70
          go_wp2_with fail
          go_quiet (fail)
          go_wp2
          go_ret
          exact ⟨rfl, _, rfl⟩
        · have c3d : decide (t1 ≤ m) = false := decide_eq_false c3
          obtain rfl : false = B := by rw [← HB.out]; exact (decide_eq_false (fun h => c3 (HG.out.1 h).2.2)).symm
          clear c1 c2 c3
          go_enter Tryz.func70, Tryz.ntmps70
          go_wp2_with fail
          go_quiet (fail)
          go_wp2
          go_ret
          exact ⟨rfl, _, rfl⟩
      · have c2d : decide (t ≤ t0) = false := decide_eq_false c2
        obtain rfl : false = B := by rw [← HB.out]; exact (decide_eq_false (fun h => c2 (HG.out.1 h).2.1)).symm
        clear c1 c2
        go_enter Tryz.func70, Tryz.ntmps70
        go_wp2_with fail
        go_quiet (fail)
        go_wp2
        go_ret
        exact ⟨rfl, _, rfl⟩
    · have c1b : (a0 - 1 == i) = false := by simpa using c1
      have c1d : decide (a0 - 1 = i) = false := decide_eq_false c1
      obtain rfl : false = B := by rw [← HB.out]; exact (decide_eq_false (fun h => c1 (HG.out.1 h).1)).symm
      clear c1
      go_enter Tryz.func70, Tryz.ntmps70
      go_wp2_with fail
      go_quiet (fail)
      go_wp2
      go_ret
      exact ⟨rfl, _, rfl⟩
end Go.Proofs.YtlljcajfdeiigaaGreatDoor
