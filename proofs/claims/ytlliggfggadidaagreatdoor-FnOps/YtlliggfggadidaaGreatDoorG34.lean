/- Do4 in one text: what each says stands at its head below. -/
import Derived.Test.YtlliggfggadidaaGreatDoorG33
import Derived.Test.YtlliggfggadidaaGreatDoorG06
namespace Go.Proofs.YtlliggfggadidaaGreatDoor
open Go.RowKit
set_option linter.unusedSimpArgs false in
set_option maxHeartbeats 8000000 in
set_option maxRecDepth 4000 in
theorem implDoOp {S T S' T' : Nat → Prop} {w : World} {y z u v : Value} (r o : Rf) (hg : Gl w) (hy : RdI S w y r.sn) (hz : RdJ T w z r.lg) (hcp : capE z) (hu : RdI S' w u o.sn) (hv : RdJ T' w v o.lg) (hcv : capE v) :
    Calls Tryz.prog 7 #[.agg #[.int .i64 r.tm, .int .i64 r.vt, .int .i64 r.si, .int .i64 r.st, y, z], .agg #[.int .i64 o.tm, .int .i64 o.vt, .int .i64 o.si, .int .i64 o.st, u, v]] w (EndsO8 (doC r o) (doY r o) (doV r o) (doR r o).tm (doR r o).vt (doR r o).si (doR r o).st (doR r o).sn (doR r o).lg w) := by
  obtain ⟨ay, cy, rfl⟩ := hy.shape
  obtain ⟨az, cz, rfl, _⟩ := hz.shape
  obtain ⟨au, cu, rfl⟩ := hu.shape
  obtain ⟨av, cv, rfl, _⟩ := hv.shape
  have HBad := hide (@do_bad r o)
  have HOp := hide (@do_op r o)
  have HOk := hide (@do_ok r o)
  have HF := hide (fun (w' : World) (hb : Below w.heap.size w w') => implRaftFault r (hy.later hb) (hz.later hb))
  have HG := hide (fun (w' : World) (hb : Below w.heap.size w w') => implOpFault o (hu.later hb) (hv.later hb))
  have HD := hide (fun (h0 : rfF r = 0) (h1 : opF o = 0) (w' : World) (hb : Below w.heap.size w w') => doneByI r o (tot_of h0) h1 (hg.later hb) (hy.later hb) (hz.later hb) hcp (hu.later hb) (hv.later hb) hcv)
  obtain ⟨C, hC⟩ : ∃ x, doC r o = x := ⟨_, rfl⟩
  rw [hC] at HBad HOp HOk ⊢
  clear hC
  obtain ⟨Y, hY⟩ : ∃ x, doY r o = x := ⟨_, rfl⟩
  rw [hY] at HBad HOp HOk ⊢
  clear hY
  obtain ⟨V, hV⟩ : ∃ x, doV r o = x := ⟨_, rfl⟩
  rw [hV] at HBad HOp HOk ⊢
  clear hV
  obtain ⟨R, hR⟩ : ∃ x, doR r o = x := ⟨_, rfl⟩
  rw [hR] at HBad HOp HOk ⊢
  clear hR
  obtain ⟨Z, hZ⟩ : ∃ x, rfF r = x := ⟨_, rfl⟩
  obtain ⟨G, hG⟩ : ∃ x, opF o = x := ⟨_, rfl⟩
  rw [hZ] at HF HBad HOp HOk HD
  rw [hG] at HG HOp HOk HD
  obtain ⟨dc, hdc⟩ : ∃ x, dyC r o = x := ⟨_, rfl⟩
  rw [hdc] at HOk HD
  clear hdc
  obtain ⟨dv, hdv⟩ : ∃ x, dyV r o = x := ⟨_, rfl⟩
  rw [hdv] at HOk HD
  clear hdv
  obtain ⟨dr, hdr⟩ : ∃ x, dyR r o = x := ⟨_, rfl⟩
  rw [hdr] at HOk HD
  clear hdr
  clear hZ hG hy hz hu hv hcp hcv hg
  generalize r.sn.length = l at *
  generalize r.lg.length = m at *
  generalize o.sn.length = l2 at *
  generalize o.lg.length = m2 at *
  generalize r.tm = a at *
  generalize r.vt = b at *
  generalize r.si = c at *
  generalize r.st = d at *
  generalize o.tm = a2 at *
  generalize o.vt = b2 at *
  generalize o.si = c2 at *
  generalize o.st = d2 at *
  have BA0 := below_on (below_on (below_alloc w (.cells #[.int .i64 a, .int .i64 b, .int .i64 c, .int .i64 d, .slice ay l cy, .slice az m cz] 27)) (below_alloc _ (.cells #[.int .i64 a2, .int .i64 b2, .int .i64 c2, .int .i64 d2, .slice au l2 cu, .slice av m2 cv] 29))) (below_alloc _ (.cells #[.int .i64 0, .int .i64 0, .int .i64 0, .int .i64 0, .int .i64 0, .int .i64 0, .int .i64 0, .slice none 0 0, .slice none 0 0] 33))
  have VR0 := ((Var6_new w (.int .i64 a) (.int .i64 b) (.int .i64 c) (.int .i64 d) (.slice ay l cy) (.slice az m cz) 27).later (below_alloc _ (.cells #[.int .i64 a2, .int .i64 b2, .int .i64 c2, .int .i64 d2, .slice au l2 cu, .slice av m2 cv] 29))).later (below_alloc _ (.cells #[.int .i64 0, .int .i64 0, .int .i64 0, .int .i64 0, .int .i64 0, .int .i64 0, .int .i64 0, .slice none 0 0, .slice none 0 0] 33))
  have VO0 := (Var6_new (w.alloc (.cells #[.int .i64 a, .int .i64 b, .int .i64 c, .int .i64 d, .slice ay l cy, .slice az m cz] 27)) (.int .i64 a2) (.int .i64 b2) (.int .i64 c2) (.int .i64 d2) (.slice au l2 cu) (.slice av m2 cv) 29).later (below_alloc _ (.cells #[.int .i64 0, .int .i64 0, .int .i64 0, .int .i64 0, .int .i64 0, .int .i64 0, .int .i64 0, .slice none 0 0, .slice none 0 0] 33))
  rw [World.size_alloc] at VO0
  have RA0 := Res9.new (below_on (below_alloc w (.cells #[.int .i64 a, .int .i64 b, .int .i64 c, .int .i64 d, .slice ay l cy, .slice az m cz] 27)) (below_alloc _ (.cells #[.int .i64 a2, .int .i64 b2, .int .i64 c2, .int .i64 d2, .slice au l2 cu, .slice av m2 cv] 29))) 33
  rw [World.size_alloc, World.size_alloc] at RA0
  obtain ⟨W3, hW3⟩ : ∃ x, (((w.alloc (.cells #[.int .i64 a, .int .i64 b, .int .i64 c, .int .i64 d, .slice ay l cy, .slice az m cz] 27)).alloc (.cells #[.int .i64 a2, .int .i64 b2, .int .i64 c2, .int .i64 d2, .slice au l2 cu, .slice av m2 cv] 29)).alloc (.cells #[.int .i64 0, .int .i64 0, .int .i64 0, .int .i64 0, .int .i64 0, .int .i64 0, .int .i64 0, .slice none 0 0, .slice none 0 0] 33)) = x := ⟨_, rfl⟩
  rw [hW3] at BA0 VR0 VO0 RA0
  have BA := hide BA0
  have VA := hide VR0
  have OA := hide VO0
  have RA := hide RA0
  clear BA0 VR0 VO0 RA0
  go_enter Tryz.func7, Tryz.ntmps7
  go_upto_region 1 with fail
  (try rw [hW3])
  clear hW3
  obtain ⟨v0, v1, v2, v3, v4, v5⟩ := VA.out
  obtain ⟨p0, p1, p2, p3, p4, p5⟩ := OA.out
  have HE := hide (HF.out _ BA.out)
  go_wp2_with fail
  refine HE.out.mono ?_
  rintro e w1 ⟨rfl, hb⟩
  have VB := hide (VA.out.later hb)
  have OB := hide (OA.out.later hb)
  have RB := hide (RA.out.later hb)
  have BB := hide (below_on BA.out hb)
  have hzw1 := hb.size
  clear v0 v1 v2 v3 v4 v5 p0 p1 p2 p3 p4 p5 HE VA OA RA BA
  have VA := VB
  have OA := OB
  have RA := RB
  have BA := BB
  clear VB OB RB BB
  by_cases h0 : Z = 0
  · subst h0
    clear hb
    obtain ⟨v0, v1, v2, v3, v4, v5⟩ := VA.out
    obtain ⟨p0, p1, p2, p3, p4, p5⟩ := OA.out
    have HE := hide (HG.out _ BA.out)
    go_wp2_with fail
    refine HE.out.mono ?_
    rintro e w2 ⟨rfl, hb⟩
    have VB := hide (VA.out.later hb)
    have OB := hide (OA.out.later hb)
    have RB := hide (RA.out.later hb)
    have BB := hide (below_on BA.out hb)
    have hzw2 := hb.size
    clear v0 v1 v2 v3 v4 v5 p0 p1 p2 p3 p4 p5 HE VA OA RA BA
    have VA := VB
    have OA := OB
    have RA := RB
    have BA := BB
    clear VB OB RB BB
    by_cases h1 : G = 0
    · subst h1
      clear hb
      obtain ⟨rfl, rfl, rfl, rfl⟩ := HOk.out (by first | trivial | rfl) (by first | trivial | rfl)
      have hr2 := RA.out.lt
      obtain ⟨v0, v1, v2, v3, v4, v5⟩ := VA.out
      obtain ⟨p0, p1, p2, p3, p4, p5⟩ := OA.out
      have HE := hide (HD.out (by first | trivial | rfl) (by first | trivial | rfl) _ BA.out)
      go_wp2_with fail
      refine HE.out.mono ?_
      rintro e w3 ⟨y3, z3, rfl, hb, ho⟩
      have VB := hide (VA.out.later hb)
      have OB := hide (OA.out.later hb)
      have RB := hide (RA.out.later hb)
      have BB := hide (below_on BA.out hb)
      have hzw3 := hb.size
      clear v0 v1 v2 v3 v4 v5 p0 p1 p2 p3 p4 p5 HE VA OA RA BA
      have VA := VB
      have OA := OB
      have RA := RB
      have BA := BB
      clear VB OB RB BB
      obtain ⟨a3, k3, g3, j3, hy3, hz3⟩ := ho.shape
      subst hy3
      subst hz3
      skip
      have HFn := hide (ret_op (w := w) (r := w.heap.size + 2) (x0 := .int .i64 0) (x1 := .int .i64 Y) (x2 := .int .i64 V) (x3 := .int .i64 R.tm) (x4 := .int .i64 R.vt) (x5 := .int .i64 R.si) (x6 := .int .i64 R.st) RA.out.below RA.out.ge ho (by omega))
      clear ho hb
      obtain ⟨_, ⟨c0, c1, c2, c3, c4, c5, c6, c7, c8⟩, F, _⟩ := RA.out
      have f0 := F 0
      have f1 := F 1
      have f2 := F 2
      have f3 := F 3
      have f4 := F 4
      have f5 := F 5
      have f6 := F 6
      have f7 := F 7
      have f8 := F 8
      clear F
      go_wp2
      refine bodyPost_ret (v := .agg #[.int .i64 0, .int .i64 Y, .int .i64 V, .int .i64 R.tm, .int .i64 R.vt, .int .i64 R.si, .int .i64 R.st, .slice a3 R.sn.length k3, .slice g3 R.lg.length j3]) (by simp [results, Tryz.results7, go_sem, c0, c1, c2, c3, c4, c5, c6, c7, c8]) rfl ⟨_, _, rfl, HFn.out.1, HFn.out.2⟩
    · have h1b : (G == 0) = false := by simpa using h1
      have h1c : (G != 0) = true := by simp [h1]
      obtain ⟨rfl, rfl, rfl, rfl⟩ := HOp.out (by first | trivial | rfl) h1
      clear h1
      clear hb
      have HFn := hide (ret_op (w := w) (r := w.heap.size + 2) (x0 := .int .i64 C) (x1 := .int .i64 0) (x2 := .int .i64 0) (x3 := .int .i64 0) (x4 := .int .i64 0) (x5 := .int .i64 0) (x6 := .int .i64 0) RA.out.below RA.out.ge (IvR_nil (w.heap.size + 3) w2) (by omega))
      obtain ⟨_, ⟨c0, c1, c2, c3, c4, c5, c6, c7, c8⟩, F, _⟩ := RA.out
      have f0 := F 0
      have f1 := F 1
      have f2 := F 2
      have f3 := F 3
      have f4 := F 4
      have f5 := F 5
      have f6 := F 6
      have f7 := F 7
      have f8 := F 8
      clear F
      go_wp2
      refine bodyPost_ret (v := .agg #[.int .i64 C, .int .i64 0, .int .i64 0, .int .i64 0, .int .i64 0, .int .i64 0, .int .i64 0, .slice none 0 0, .slice none 0 0]) (by simp [results, Tryz.results7, go_sem, c0, c1, c2, c3, c4, c5, c6, c7, c8]) rfl ⟨_, _, rfl, HFn.out.1, HFn.out.2⟩
  · have h0b : (Z == 0) = false := by simpa using h0
    have h0c : (Z != 0) = true := by simp [h0]
    obtain ⟨rfl, rfl, rfl, rfl⟩ := HBad.out h0
    clear h0
    clear hb
    have HFn := hide (ret_op (w := w) (r := w.heap.size + 2) (x0 := .int .i64 C) (x1 := .int .i64 0) (x2 := .int .i64 0) (x3 := .int .i64 0) (x4 := .int .i64 0) (x5 := .int .i64 0) (x6 := .int .i64 0) RA.out.below RA.out.ge (IvR_nil (w.heap.size + 3) w1) (by omega))
    obtain ⟨_, ⟨c0, c1, c2, c3, c4, c5, c6, c7, c8⟩, F, _⟩ := RA.out
    have f0 := F 0
    have f1 := F 1
    have f2 := F 2
    have f3 := F 3
    have f4 := F 4
    have f5 := F 5
    have f6 := F 6
    have f7 := F 7
    have f8 := F 8
    clear F
    go_wp2
    refine bodyPost_ret (v := .agg #[.int .i64 C, .int .i64 0, .int .i64 0, .int .i64 0, .int .i64 0, .int .i64 0, .int .i64 0, .slice none 0 0, .slice none 0 0]) (by simp [results, Tryz.results7, go_sem, c0, c1, c2, c3, c4, c5, c6, c7, c8]) rfl ⟨_, _, rfl, HFn.out.1, HFn.out.2⟩
end Go.Proofs.YtlliggfggadidaaGreatDoor
