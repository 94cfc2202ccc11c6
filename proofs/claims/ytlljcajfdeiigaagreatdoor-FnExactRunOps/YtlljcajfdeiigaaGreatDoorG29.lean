/- Do4 Rn2 in one text: what each says stands at its head below. -/
import Derived.Test.YtlljcajfdeiigaaGreatDoorG28
import Derived.Test.YtlljcajfdeiigaaGreatDoorG11
import Derived.Test.YtlljcajfdeiigaaGreatDoorG25
/- Chapter 12: 'DoOp' of the program, walked. Made by program (gendo.py). -/
namespace Go.Proofs.YtlljcajfdeiigaaGreatDoor
open Go.RowKit

set_option linter.unusedSimpArgs false in
set_option maxHeartbeats 8000000 in
set_option maxRecDepth 4000 in
theorem implDoOp {S T S' T' : Nat → Prop} {w : World} {y z u v : Value} (r o : Rf) (hg : Gl w) (hy : RdI S w y r.sn) (hz : RdJ T w z r.lg) (hcp : capE z) (hu : RdI S' w u o.sn) (hv : RdJ T' w v o.lg) (hcv : capE v) :
    Calls Tryz.prog 10 #[.agg #[.int .i64 r.tm, .int .i64 r.vt, .int .i64 r.si, .int .i64 r.st, y, z], .agg #[.int .i64 o.tm, .int .i64 o.vt, .int .i64 o.si, .int .i64 o.st, u, v]] w (EndsO8 (doC r o) (doY r o) (doV r o) (doR r o).tm (doR r o).vt (doR r o).si (doR r o).st (doR r o).sn (doR r o).lg w) := by
  obtain ⟨ay, cy, rfl⟩ := hy.shape
  obtain ⟨az, cz, rfl, _⟩ := hz.shape
  obtain ⟨au, cu, rfl⟩ := hu.shape
  obtain ⟨av, cv, rfl, _⟩ := hv.shape
  have HBad := hide (@do_bad r o)
  have HOp := hide (@do_op r o)
  have HOk := hide (@do_ok r o)
  have HF := hide (fun (w' : World) (hb : Below w.heap.size w w') => implRaftFault r (hy.later hb) (hz.later hb))
  have HG := hide (fun (w' : World) (hb : Below w.heap.size w w') => implOpFault o (hu.later hb) (hv.later hb))
  have HD := hide (fun (h0 : rfF r = 0) (h1 : opF o = 0) (w' : World) (hb : Below w.heap.size w w') => doneByI r o (tot_of h0) h1 (hg.later hb) (hy.later hb) (hz.later hb) hcp (hu.later hb) (hv.later hb) hcv)
  obtain ⟨C, hC⟩ : ∃ x, doC r o = x := ⟨_, rfl⟩
  rw [hC] at HBad HOp HOk ⊢
  clear hC
  obtain ⟨Y, hY⟩ : ∃ x, doY r o = x := ⟨_, rfl⟩
  rw [hY] at HBad HOp HOk ⊢
  clear hY
  obtain ⟨V, hV⟩ : ∃ x, doV r o = x := ⟨_, rfl⟩
  rw [hV] at HBad HOp HOk ⊢
  clear hV
  obtain ⟨R, hR⟩ : ∃ x, doR r o = x := ⟨_, rfl⟩
  rw [hR] at HBad HOp HOk ⊢
  clear hR
  obtain ⟨Z, hZ⟩ : ∃ x, rfF r = x := ⟨_, rfl⟩
  obtain ⟨G, hG⟩ : ∃ x, opF o = x := ⟨_, rfl⟩
  rw [hZ] at HF HBad HOp HOk HD
  rw [hG] at HG HOp HOk HD
  obtain ⟨dc, hdc⟩ : ∃ x, dyC r o = x := ⟨_, rfl⟩
  rw [hdc] at HOk HD
  clear hdc
  obtain ⟨dv, hdv⟩ : ∃ x, dyV r o = x := ⟨_, rfl⟩
  rw [hdv] at HOk HD
  clear hdv
  obtain ⟨dr, hdr⟩ : ∃ x, dyR r o = x := ⟨_, rfl⟩
  rw [hdr] at HOk HD
  clear hdr
  clear hZ hG hy hz hu hv hcp hcv hg
  generalize r.sn.length = l at *
  generalize r.lg.length = m at *
  generalize o.sn.length = l2 at *
  generalize o.lg.length = m2 at *
  generalize r.tm = a at *
  generalize r.vt = b at *
  generalize r.si = c at *
  generalize r.st = d at *
  generalize o.tm = a2 at *
  generalize o.vt = b2 at *
  generalize o.si = c2 at *
  generalize o.st = d2 at *
  have BA0 := below_on (below_on (below_alloc w (.cells #[.int .i64 a, .int .i64 b, .int .i64 c, .int .i64 d, .slice ay l cy, .slice az m cz] 32)) (below_alloc _ (.cells #[.int .i64 a2, .int .i64 b2, .int .i64 c2, .int .i64 d2, .slice au l2 cu, .slice av m2 cv] 38))) (below_alloc _ (.cells #[.int .i64 0, .int .i64 0, .int .i64 0, .int .i64 0, .int .i64 0, .int .i64 0, .int .i64 0, .slice none 0 0, .slice none 0 0] 34))
  have VR0 := ((Var6_new w (.int .i64 a) (.int .i64 b) (.int .i64 c) (.int .i64 d) (.slice ay l cy) (.slice az m cz) 32).later (below_alloc _ (.cells #[.int .i64 a2, .int .i64 b2, .int .i64 c2, .int .i64 d2, .slice au l2 cu, .slice av m2 cv] 38))).later (below_alloc _ (.cells #[.int .i64 0, .int .i64 0, .int .i64 0, .int .i64 0, .int .i64 0, .int .i64 0, .int .i64 0, .slice none 0 0, .slice none 0 0] 34))
  have VO0 := (Var6_new (w.alloc (.cells #[.int .i64 a, .int .i64 b, .int .i64 c, .int .i64 d, .slice ay l cy, .slice az m cz] 32)) (.int .i64 a2) (.int .i64 b2) (.int .i64 c2) (.int .i64 d2) (.slice au l2 cu) (.slice av m2 cv) 38).later (below_alloc _ (.cells #[.int .i64 0, .int .i64 0, .int .i64 0, .int .i64 0, .int .i64 0, .int .i64 0, .int .i64 0, .slice none 0 0, .slice none 0 0] 34))
  rw [World.size_alloc] at VO0
  have RA0 := Res9.new (below_on (below_alloc w (.cells #[.int .i64 a, .int .i64 b, .int .i64 c, .int .i64 d, .slice ay l cy, .slice az m cz] 32)) (below_alloc _ (.cells #[.int .i64 a2, .int .i64 b2, .int .i64 c2, .int .i64 d2, .slice au l2 cu, .slice av m2 cv] 38))) 34
  rw [World.size_alloc, World.size_alloc] at RA0
  obtain ⟨W3, hW3⟩ : ∃ x, (((w.alloc (.cells #[.int .i64 a, .int .i64 b, .int .i64 c, .int .i64 d, .slice ay l cy, .slice az m cz] 32)).alloc (.cells #[.int .i64 a2, .int .i64 b2, .int .i64 c2, .int .i64 d2, .slice au l2 cu, .slice av m2 cv] 38)).alloc (.cells #[.int .i64 0, .int .i64 0, .int .i64 0, .int .i64 0, .int .i64 0, .int .i64 0, .int .i64 0, .slice none 0 0, .slice none 0 0] 34)) = x := ⟨_, rfl⟩
  rw [hW3] at BA0 VR0 VO0 RA0
  have BA := hide BA0
  have VA := hide VR0
  have OA := hide VO0
  have RA := hide RA0
  clear BA0 VR0 VO0 RA0
  go_enter Tryz.func10, Tryz.ntmps10
  go_upto_region 1 with fail
  (try rw [hW3])
  clear hW3
  obtain ⟨v0, v1, v2, v3, v4, v5⟩ := VA.out
  obtain ⟨p0, p1, p2, p3, p4, p5⟩ := OA.out
  have HE := hide (HF.out _ BA.out)
  go_wp2_with fail
  refine HE.out.mono ?_
  rintro e w1 ⟨rfl, hb⟩
  have VB := hide (VA.out.later hb)
  have OB := hide (OA.out.later hb)
  have RB := hide (RA.out.later hb)
  have BB := hide (below_on BA.out hb)
  have hzw1 := hb.size
  clear v0 v1 v2 v3 v4 v5 p0 p1 p2 p3 p4 p5 HE VA OA RA BA
  have VA := VB
  have OA := OB
  have RA := RB
  have BA := BB
  clear VB OB RB BB
  by_cases h0 : Z = 0
  · subst h0
    clear hb
    obtain ⟨v0, v1, v2, v3, v4, v5⟩ := VA.out
    obtain ⟨p0, p1, p2, p3, p4, p5⟩ := OA.out
    have HE := hide (HG.out _ BA.out)
    go_wp2_with fail
    refine HE.out.mono ?_
    rintro e w2 ⟨rfl, hb⟩
    have VB := hide (VA.out.later hb)
    have OB := hide (OA.out.later hb)
    have RB := hide (RA.out.later hb)
    have BB := hide (below_on BA.out hb)
    have hzw2 := hb.size
    clear v0 v1 v2 v3 v4 v5 p0 p1 p2 p3 p4 p5 HE VA OA RA BA
    have VA := VB
    have OA := OB
    have RA := RB
    have BA := BB
    clear VB OB RB BB
    by_cases h1 : G = 0
    · subst h1
      clear hb
      obtain ⟨rfl, rfl, rfl, rfl⟩ := HOk.out (by first | trivial | rfl) (by first | trivial | rfl)
      have hr2 := RA.out.lt
      obtain ⟨v0, v1, v2, v3, v4, v5⟩ := VA.out
      obtain ⟨p0, p1, p2, p3, p4, p5⟩ := OA.out
      have HE := hide (HD.out (by first | trivial | rfl) (by first | trivial | rfl) _ BA.out)
      go_wp2_with fail
      refine HE.out.mono ?_
      rintro e w3 ⟨y3, z3, rfl, hb, ho⟩
      have VB := hide (VA.out.later hb)
      have OB := hide (OA.out.later hb)
      have RB := hide (RA.out.later hb)
      have BB := hide (below_on BA.out hb)
      have hzw3 := hb.size
      clear v0 v1 v2 v3 v4 v5 p0 p1 p2 p3 p4 p5 HE VA OA RA BA
      have VA := VB
      have OA := OB
      have RA := RB
      have BA := BB
      clear VB OB RB BB
      obtain ⟨a3, k3, g3, j3, hy3, hz3⟩ := ho.shape
      subst hy3
      subst hz3
      skip
      have HFn := hide (ret_op (w := w) (r := w.heap.size + 2) (x0 := .int .i64 0) (x1 := .int .i64 Y) (x2 := .int .i64 V) (x3 := .int .i64 R.tm) (x4 := .int .i64 R.vt) (x5 := .int .i64 R.si) (x6 := .int .i64 R.st) RA.out.below RA.out.ge ho (by omega))
      clear ho hb
      obtain ⟨_, ⟨c0, c1, c2, c3, c4, c5, c6, c7, c8⟩, F, _⟩ := RA.out
      have f0 := F 0
      have f1 := F 1
      have f2 := F 2
      have f3 := F 3
      have f4 := F 4
      have f5 := F 5
      have f6 := F 6
      have f7 := F 7
      have f8 := F 8
      clear F
      go_wp2
      refine bodyPost_ret (v := .agg #[.int .i64 0, .int .i64 Y, .int .i64 V, .int .i64 R.tm, .int .i64 R.vt, .int .i64 R.si, .int .i64 R.st, .slice a3 R.sn.length k3, .slice g3 R.lg.length j3]) (by simp [results, Tryz.results10, go_sem, c0, c1, c2, c3, c4, c5, c6, c7, c8]) rfl ⟨_, _, rfl, HFn.out.1, HFn.out.2⟩
    · have h1b : (G == 0) = false := by simpa using h1
      have h1c : (G != 0) = true := by simp [h1]
      obtain ⟨rfl, rfl, rfl, rfl⟩ := HOp.out (by first | trivial | rfl) h1
      clear h1
      clear hb
      have HFn := hide (ret_op (w := w) (r := w.heap.size + 2) (x0 := .int .i64 C) (x1 := .int .i64 0) (x2 := .int .i64 0) (x3 := .int .i64 0) (x4 := .int .i64 0) (x5 := .int .i64 0) (x6 := .int .i64 0) RA.out.below RA.out.ge (IvR_nil (w.heap.size + 3) w2) (by omega))
      obtain ⟨_, ⟨c0, c1, c2, c3, c4, c5, c6, c7, c8⟩, F, _⟩ := RA.out
      have f0 := F 0
      have f1 := F 1
      have f2 := F 2
      have f3 := F 3
      have f4 := F 4
      have f5 := F 5
      have f6 := F 6
      have f7 := F 7
      have f8 := F 8
      clear F
      go_wp2
      refine bodyPost_ret (v := .agg #[.int .i64 C, .int .i64 0, .int .i64 0, .int .i64 0, .int .i64 0, .int .i64 0, .int .i64 0, .slice none 0 0, .slice none 0 0]) (by simp [results, Tryz.results10, go_sem, c0, c1, c2, c3, c4, c5, c6, c7, c8]) rfl ⟨_, _, rfl, HFn.out.1, HFn.out.2⟩
  · have h0b : (Z == 0) = false := by simpa using h0
    have h0c : (Z != 0) = true := by simp [h0]
    obtain ⟨rfl, rfl, rfl, rfl⟩ := HBad.out h0
    clear h0
    clear hb
    have HFn := hide (ret_op (w := w) (r := w.heap.size + 2) (x0 := .int .i64 C) (x1 := .int .i64 0) (x2 := .int .i64 0) (x3 := .int .i64 0) (x4 := .int .i64 0) (x5 := .int .i64 0) (x6 := .int .i64 0) RA.out.below RA.out.ge (IvR_nil (w.heap.size + 3) w1) (by omega))
    obtain ⟨_, ⟨c0, c1, c2, c3, c4, c5, c6, c7, c8⟩, F, _⟩ := RA.out
    have f0 := F 0
    have f1 := F 1
    have f2 := F 2
    have f3 := F 3
    have f4 := F 4
    have f5 := F 5
    have f6 := F 6
    have f7 := F 7
    have f8 := F 8
    clear F
    go_wp2
    refine bodyPost_ret (v := .agg #[.int .i64 C, .int .i64 0, .int .i64 0, .int .i64 0, .int .i64 0, .int .i64 0, .int .i64 0, .slice none 0 0, .slice none 0 0]) (by simp [results, Tryz.results10, go_sem, c0, c1, c2, c3, c4, c5, c6, c7, c8]) rfl ⟨_, _, rfl, HFn.out.1, HFn.out.2⟩
end Go.Proofs.YtlljcajfdeiigaaGreatDoor
/- Chapter 12: 'RunOps' of the program, walked. Made by program (genrn.py). -/
namespace Go.Proofs.YtlljcajfdeiigaaGreatDoor
open Go.RowKit

set_option linter.unusedSimpArgs false in
set_option maxHeartbeats 16000000 in
set_option maxRecDepth 4000 in
theorem implRunOps {S T : Nat → Prop} {w : World} {y z v : Value} {os : List Rf} (r : Rf) (hg : Gl w) (hy : RdI S w y r.sn) (hz : RdJ T w z r.lg) (hv : RdOpsC w v os) :
    Calls Tryz.prog 21 #[.agg #[.int .i64 r.tm, .int .i64 r.vt, .int .i64 r.si, .int .i64 r.st, y, z], v] w (EndsO8 (roC r os) 0 (roV r os) (roA r os).tm (roA r os).vt (roA r os).si (roA r os).st (roA r os).sn (roA r os).lg w) := by
  obtain ⟨ay, cy, rfl⟩ := hy.shape
  obtain ⟨az, cz, rfl, _⟩ := hz.shape
  obtain ⟨av, cv, rfl, hvm⟩ := hv.shape
  have HBad := hide (@ro_bad r os)
  have HMany := hide (@ro_many r os)
  have HOp := hide (@ro_op r os)
  have HOk := hide (@ro_ok r os)
  have HG := hide hg
  have HV := hide hv
  have HF := hide (fun (w' : World) (hb : Below w.heap.size w w') => implRaftFault r (hy.later hb) (hz.later hb))
  have HCp := hide (fun (h : rfF r = 0) (w' : World) (hb : Below w.heap.size w w') => copyRaftI r.tm r.vt r.si r.st (hy.later hb) (hz.later hb) (room_of h).1 (room_of h).2.1 (room_of h).2.2)
  have HTt := hide (fun (h : rfF r = 0) (k : Nat) => roR_tot (os := os) (tot_of h) k)
  have HAll := hide (@roF_all os)
  have HNl := hide (roN_le r os)
  have HR0 : Hid (roR r os 0 = r) := rfl
  have HRs : Hid (∀ k, roR r os (k + 1) = dyR (roR r os k) (os.getD k rf0)) := fun _ => rfl
  have HN0 : Hid (roN r os 0 = 0) := rfl
  have HNs : Hid (∀ k, roN r os (k + 1) = roN r os k + (if dyC (roR r os k) (os.getD k rf0) = 0 then 0 else 1)) := fun _ => rfl
  obtain ⟨C, hC⟩ : ∃ x, roC r os = x := ⟨_, rfl⟩
  obtain ⟨V, hV⟩ : ∃ x, roV r os = x := ⟨_, rfl⟩
  obtain ⟨A, hA⟩ : ∃ x, roA r os = x := ⟨_, rfl⟩
  rw [hC, hV, hA] at HBad HMany HOp HOk
  rw [hC, hV, hA]
  obtain ⟨Z, hZ⟩ : ∃ x, rfF r = x := ⟨_, rfl⟩
  rw [hZ] at HF HBad HMany HOp HOk HCp HTt
  obtain ⟨n, hn⟩ : ∃ x, os.length = x := ⟨_, rfl⟩
  have HN := hide hn
  have HF0 : Hid (cfr (fun i => opF (os.getD i rf0)) (n - 0) 0 = roF os) := by rw [Hid, Nat.sub_zero, ← hn]; rfl
  rw [hn] at HV HMany HOp HOk HAll hvm ⊢
  obtain ⟨F, hF⟩ : ∃ x, roF os = x := ⟨_, rfl⟩
  rw [hF] at HOp HOk HF0 HAll
  clear hC hV hA hZ hn hF hg hy hz hv
  obtain ⟨rn, hrn⟩ : ∃ f, roN r os = f := ⟨_, rfl⟩
  obtain ⟨rr, hrr⟩ : ∃ f, roR r os = f := ⟨_, rfl⟩
  rw [hrn] at HOk HNl HN0 HNs
  rw [hrr] at HOk HTt HR0 HRs HNs
  clear hrn hrr
  have BA0 := below_on (below_alloc w (.cells #[.int .i64 r.tm, .int .i64 r.vt, .int .i64 r.si, .int .i64 r.st, .slice ay r.sn.length cy, .slice az r.lg.length cz] 32)) (below_alloc _ (.cells #[.int .i64 0, .int .i64 0, .int .i64 0, .int .i64 0, .int .i64 0, .int .i64 0, .int .i64 0, .slice none 0 0, .slice none 0 0] 34))
  have VR0 := (Var6_new w (.int .i64 r.tm) (.int .i64 r.vt) (.int .i64 r.si) (.int .i64 r.st) (.slice ay r.sn.length cy) (.slice az r.lg.length cz) 32).later (below_alloc _ (.cells #[.int .i64 0, .int .i64 0, .int .i64 0, .int .i64 0, .int .i64 0, .int .i64 0, .int .i64 0, .slice none 0 0, .slice none 0 0] 34))
  have RA0 := Res9.new (below_alloc w (.cells #[.int .i64 r.tm, .int .i64 r.vt, .int .i64 r.si, .int .i64 r.st, .slice ay r.sn.length cy, .slice az r.lg.length cz] 32)) 34
  rw [World.size_alloc] at RA0
  obtain ⟨W2, hW2⟩ : ∃ x, ((w.alloc (.cells #[.int .i64 r.tm, .int .i64 r.vt, .int .i64 r.si, .int .i64 r.st, .slice ay r.sn.length cy, .slice az r.lg.length cz] 32)).alloc (.cells #[.int .i64 0, .int .i64 0, .int .i64 0, .int .i64 0, .int .i64 0, .int .i64 0, .int .i64 0, .slice none 0 0, .slice none 0 0] 34)) = x := ⟨_, rfl⟩
  rw [hW2] at BA0 VR0 RA0
  have BA := hide BA0
  have VA := hide VR0
  have RA := hide RA0
  clear BA0 VR0 RA0
  go_enter Tryz.func21, Tryz.ntmps21
  go_upto_region 1 with fail
  (try rw [hW2])
  clear hW2
  obtain ⟨v0, v1, v2, v3, v4, v5⟩ := VA.out
  have HE := hide (HF.out _ BA.out)
  go_wp2_with fail
  refine HE.out.mono ?_
  rintro e w1 ⟨rfl, hb⟩
  have BB := hide (below_on BA.out hb)
  have VB := hide (VA.out.later hb)
  have RB := hide (RA.out.later hb)
  clear hb v0 v1 v2 v3 v4 v5 VA RA BA HE HF
  have hr1 := RB.out.lt
  by_cases h0 : Z = 0
  · subst h0
    by_cases h60 : 60 < n
    · have h60' : (60 : Int) < (n : Int) := by omega
      obtain ⟨rfl, rfl, rfl⟩ := HMany.out (by first | trivial | rfl) h60
      have HFn := hide (ret_op (w := w) (r := w.heap.size + 1) (x0 := .int .i64 2) (x1 := .int .i64 0) (x2 := .int .i64 0) (x3 := .int .i64 0) (x4 := .int .i64 0) (x5 := .int .i64 0) (x6 := .int .i64 0) RB.out.below RB.out.ge (IvR_nil (w.heap.size + 2) w1) (by omega))
      obtain ⟨_, ⟨c0, c1, c2, c3, c4, c5, c6, c7, c8⟩, FF, _⟩ := RB.out
      have f0 := FF 0
      have f1 := FF 1
      have f2 := FF 2
      have f3 := FF 3
      have f4 := FF 4
      have f5 := FF 5
      have f6 := FF 6
      have f7 := FF 7
      have f8 := FF 8
      clear FF
      go_wp2
      refine bodyPost_ret (v := .agg #[.int .i64 2, .int .i64 0, .int .i64 0, .int .i64 0, .int .i64 0, .int .i64 0, .int .i64 0, .slice none 0 0, .slice none 0 0]) (by simp [results, Tryz.results21, go_sem, c0, c1, c2, c3, c4, c5, c6, c7, c8]) rfl ⟨_, _, rfl, HFn.out.1, HFn.out.2⟩
    · have h60' : ¬ (60 : Int) < (n : Int) := by omega
      go_wp2
      go_loopw [25] (fun i wr => ∃ k : Nat, k ≤ n ∧ i = .int .i64 k ∧ Hid (cfr (fun i => opF (os.getD i rf0)) (n - k) k = F) ∧ Hid (Below w1.heap.size w1 wr)) (fun i _ => n - (RowKit.intOf i).toNat)
      case atStart => exact ⟨0, Nat.zero_le _, rfl, HF0.out, Below.refl _ _⟩
      case round =>
        clear HF0
        obtain ⟨k, hk, rfl, HK, HB⟩ := hrel
        by_cases hlt : k < n
        · skip
          have hop := HV.out.at (k := k) (by rw [HN.out]; exact hlt)
          obtain ⟨b1, off, y1, z1, rfl, hr, hcap⟩ := hop
          obtain ⟨x, hx⟩ : ∃ x, os.getD k rf0 = x := ⟨_, rfl⟩
          rw [hx] at hr
          have HX := hide hx
          clear hx
          obtain ⟨g0, g1, g2, g3, g4, g5, gI, gJ⟩ := hr.later (below_on BB.out HB.out)
          obtain ⟨au, cu, rfl⟩ := gI.shape
          obtain ⟨aw, cw, rfl, _⟩ := gJ.shape
          have hk0 : (0 : Int) ≤ (k : Int) := by omega
          have hk1 : (k : Int) < (n : Int) := by omega
          have hbl := World.block_lt_of_cell? _ _ g0
          have hbx := below_alloc wr (.cells #[.int .i64 x.tm, .int .i64 x.vt, .int .i64 x.si, .int .i64 x.st, .slice au x.sn.length cu, .slice aw x.lg.length cw] 38)
          have HC := hide (implOpFault x (gI.later hbx) (gJ.later hbx))
          obtain ⟨cc, hcc⟩ : ∃ c, opF x = c := ⟨_, rfl⟩
          rw [hcc] at HC
          have HXc : Hid (opF (os.getD k rf0) = cc) := by rw [Hid, HX.out]; exact hcc
          clear gI gJ hr hcap hcc
          go_wp2_with fail
          refine HC.out.mono ?_
          rintro e w2 ⟨rfl, hb⟩
          have HB2 := hide (below_on HB.out (below_on hbx hb))
          clear hb hbx g0 g1 g2 g3 g4 g5 HC
          by_cases hc0 : cc = 0
          · subst hc0
            have HK2 : Hid (cfr (fun i => opF (os.getD i rf0)) (n - (k + 1)) (k + 1) = F) := by rw [Hid, ← cfr_ok (g := fun i => opF (os.getD i rf0)) hlt HXc.out]; exact HK.out
            go_wp2
            go_roundw
            case rel => exact ⟨k + 1, hlt, by go_num, HK2.out, HB2.out⟩
            case measure => simp [RowKit.intOf]; omega
          · have hcF : cc = F := by rw [← HK.out, cfr_no (g := fun i => opF (os.getD i rf0)) hlt (by rw [HXc.out]; exact hc0)]; exact HXc.out.symm
            subst hcF
            obtain ⟨rfl, rfl, rfl⟩ := HOp.out (by first | trivial | rfl) h60 hc0
            have hc1 : (C == 0) = false := by simpa using hc0
            have hc2 : (C != 0) = true := by simp [hc0]
            have RX := hide (RB.out.later HB2.out)
            have hrx := RX.out.lt
            have HFn := hide (ret_op (w := w) (r := w.heap.size + 1) (x0 := .int .i64 C) (x1 := .int .i64 0) (x2 := .int .i64 0) (x3 := .int .i64 0) (x4 := .int .i64 0) (x5 := .int .i64 0) (x6 := .int .i64 0) RX.out.below RX.out.ge (IvR_nil (w.heap.size + 2) w2) (by omega))
            obtain ⟨_, ⟨c0, c1, c2, c3, c4, c5, c6, c7, c8⟩, FF, _⟩ := RX.out
            have f0 := FF 0
            have f1 := FF 1
            have f2 := FF 2
            have f3 := FF 3
            have f4 := FF 4
            have f5 := FF 5
            have f6 := FF 6
            have f7 := FF 7
            have f8 := FF 8
            clear FF
            go_wp2
            refine bodyPost_ret (v := .agg #[.int .i64 C, .int .i64 0, .int .i64 0, .int .i64 0, .int .i64 0, .int .i64 0, .int .i64 0, .slice none 0 0, .slice none 0 0]) (by simp [results, Tryz.results21, go_sem, c0, c1, c2, c3, c4, c5, c6, c7, c8]) rfl ⟨_, _, rfl, HFn.out.1, HFn.out.2⟩
        · have hkn : k = n := by omega
          subst hkn
          have hF : (0 : Int) = F := by rw [← HK.out, cfr_end (Nat.lt_irrefl _)]
          subst hF
          obtain ⟨rfl, rfl, rfl⟩ := HOk.out (by first | trivial | rfl) h60 (by first | trivial | rfl)
          clear HK hlt hk
          have VC := hide (VB.out.later HB.out)
          have RC := hide (RB.out.later HB.out)
          have BC := hide (below_on BB.out HB.out)
          have hzr := HB.out.size
          clear VB RB BB HB HBad HMany HOp HOk
          obtain ⟨v0, v1, v2, v3, v4, v5⟩ := VC.out
          have HE := hide (HCp.out (by first | trivial | rfl) _ BC.out)
          go_wp2_with fail
          refine HE.out.mono ?_
          rintro e w3 ⟨y3, z3, rfl, hb, ho⟩
          obtain ⟨a3, k3, g3, j3, hy3, hz3⟩ := ho.shape
          subst hy3
          subst hz3
          have hba := below_on hb (below_alloc w3 (.cells #[.int .i64 0, .int .i64 0, .int .i64 0, .int .i64 r.tm, .int .i64 r.vt, .int .i64 r.si, .int .i64 r.st, .slice a3 r.sn.length k3, .slice g3 r.lg.length j3] 34))
          have BD := hide (below_on BC.out hba)
          have RD := hide (RC.out.later hba)
          have AD := hide (Var9_new w3 (.int .i64 0) (.int .i64 0) (.int .i64 0) (.int .i64 r.tm) (.int .i64 r.vt) (.int .i64 r.si) (.int .i64 r.st) (.slice a3 r.sn.length k3) (.slice g3 r.lg.length j3) 34)
          have AF : Hid (∀ o, (w3.alloc (.cells #[.int .i64 0, .int .i64 0, .int .i64 0, .int .i64 r.tm, .int .i64 r.vt, .int .i64 r.si, .int .i64 r.st, .slice a3 r.sn.length k3, .slice g3 r.lg.length j3] 34)).frozen? ⟨w3.heap.size, o, none⟩ = false) := fun o => by simp [go_sem]
          have ID := hide (ho.later (below_alloc w3 (.cells #[.int .i64 0, .int .i64 0, .int .i64 0, .int .i64 r.tm, .int .i64 r.vt, .int .i64 r.si, .int .i64 r.st, .slice a3 r.sn.length k3, .slice g3 r.lg.length j3] 34)))
          have hz3s := hb.size
          have hrz := RC.out.lt
          clear hb hba ho HE HCp v0 v1 v2 v3 v4 v5 VC BC RC
          go_upto_region 14 with fail
          obtain ⟨W4, hW4⟩ : ∃ x, w3.alloc (.cells #[.int .i64 0, .int .i64 0, .int .i64 0, .int .i64 r.tm, .int .i64 r.vt, .int .i64 r.si, .int .i64 r.st, .slice a3 r.sn.length k3, .slice g3 r.lg.length j3] 34) = x := ⟨_, rfl⟩
          have hs4 : W4.heap.size = w3.heap.size + 1 := by rw [← hW4]; simp
          rw [hW4] at BD RD AD AF ID
          (try rw [hW4])
          clear hW4
          generalize hAe : w3.heap.size = AA at *
          have hrc := RD.out.lt
          go_wp2
          go_loopw [41] (fun i wr => ∃ (k2 : Nat) (y z : Value), k2 ≤ k ∧ i = .int .i64 k2 ∧ Hid (Res9 w wr (w.heap.size + 1)) ∧ Hid (Var9 wr AA (.int .i64 0) (.int .i64 0) (.int .i64 (rn k2)) (.int .i64 (rr k2).tm) (.int .i64 (rr k2).vt) (.int .i64 (rr k2).si) (.int .i64 (rr k2).st) y z ∧ (∀ o, wr.frozen? ⟨AA, o, none⟩ = false)) ∧ Hid (∃ lo hi, w.heap.size + 1 < lo ∧ hi ≤ wr.heap.size ∧ (hi ≤ AA ∨ AA < lo) ∧ IvR lo hi wr y z (rr k2).sn (rr k2).lg)) (fun i _ => k - (RowKit.intOf i).toNat)
          case atStart => exact ⟨0, _, _, Nat.zero_le _, rfl, RD.out, by rw [HR0.out, HN0.out]; exact ⟨AD.out, AF.out⟩, by rw [HR0.out]; exact ⟨_, _, hrz, by omega, Or.inl (Nat.le_refl _), ID.out⟩⟩
          case round =>
            clear AD AF ID RD BD
            obtain ⟨k2, y2, z2, hk2, rfl, HR9, HV9, HIv⟩ := hrel
            have hop0 := HAll.out (by first | trivial | rfl)
            have HTk := hide (HTt.out (by first | trivial | rfl) k2)
            have HRk := hide (HRs.out k2)
            have HNk := hide (HNs.out k2)
            have hnl := HNl.out k2
            obtain ⟨Q, hQ⟩ : ∃ x, rr k2 = x := ⟨_, rfl⟩
            obtain ⟨nn, hnn⟩ : ∃ x, rn k2 = x := ⟨_, rfl⟩
            rw [hQ] at HV9 HIv HTk HRk HNk
            rw [hnn] at HV9 HNk hnl
            obtain ⟨lo, hi, hlo, hhi, hap, iv⟩ := HIv.out
            obtain ⟨a6, k6, g6, j6, ey, ez⟩ := iv.shape
            subst ey
            subst ez
            have IV := hide iv
            obtain ⟨⟨d0, d1, d2, d3, d4, d5, d6, d7, d8⟩, hfA⟩ := HV9.out
            have HfA := hide hfA
            have HVv := hide HV9.out.1
            have hAl := HV9.out.1.lt
            clear HIv iv hfA HV9
            by_cases hlt : k2 < k
            · skip
              have hop := HV.out.at (k := k2) (by rw [HN.out]; exact hlt)
              obtain ⟨b1, off, y1, z1, rfl, hr, hcap⟩ := hop
              obtain ⟨x, hx⟩ : ∃ x, os.getD k2 rf0 = x := ⟨_, rfl⟩
              rw [hx] at hr
              have HX := hide hx
              clear hx
              obtain ⟨g0, g1, g2, g3, g4, g5, gI, gJ⟩ := hr.later HR9.out.below
              obtain ⟨au, cu, rfl⟩ := gI.shape
              obtain ⟨aw, cw, rfl, _⟩ := gJ.shape
              have hk0 : (0 : Int) ≤ (k2 : Int) := by omega
              have hk1 : (k2 : Int) < (k : Int) := by omega
              have hbl := World.block_lt_of_cell? _ _ g0
              have hopx : opF x = 0 := by rw [← HX.out]; exact hop0 k2 hlt
              have hbx := below_alloc wr (.cells #[.int .i64 x.tm, .int .i64 x.vt, .int .i64 x.si, .int .i64 x.st, .slice au x.sn.length cu, .slice aw x.lg.length cw] 38)
              have HC := hide (doneByI Q x HTk.out hopx (HG.out.later (below_on HR9.out.below hbx)) (IV.out.later hbx).rdI (IV.out.later hbx).rdJ IV.out.capE (gI.later hbx) (gJ.later hbx) hcap)
              rw [HX.out] at HRk HNk
              obtain ⟨DC, hDC⟩ : ∃ c, dyC Q x = c := ⟨_, rfl⟩
              obtain ⟨DV, hDV⟩ : ∃ c, dyV Q x = c := ⟨_, rfl⟩
              obtain ⟨R, hR⟩ : ∃ c, dyR Q x = c := ⟨_, rfl⟩
              rw [hDC, hDV, hR] at HC
              rw [hDC] at HNk
              rw [hR] at HRk
              clear gI gJ hr hcap hDC hDV hR hopx hop0 hQ hnn
              go_wp2_with fail
              refine HC.out.mono ?_
              rintro e w5 ⟨y5, z5, rfl, hb, ho⟩
              obtain ⟨a5, k5, gg5, j5, ey, ez⟩ := ho.shape
              subst ey
              subst ez
              have hbn := below_on (below_on hbx hb) (below_alloc w5 (.cells #[.int .i64 0, .int .i64 DC, .int .i64 DV, .int .i64 R.tm, .int .i64 R.vt, .int .i64 R.si, .int .i64 R.st, .slice a5 R.sn.length k5, .slice gg5 R.lg.length j5] 34))
              have RE := hide (HR9.out.later hbn)
              have AE := hide (HVv.out.later hbn)
              have AF : Hid (∀ o, (w5.alloc (.cells #[.int .i64 0, .int .i64 DC, .int .i64 DV, .int .i64 R.tm, .int .i64 R.vt, .int .i64 R.si, .int .i64 R.st, .slice a5 R.sn.length k5, .slice gg5 R.lg.length j5] 34)).frozen? ⟨AA, o, none⟩ = false) := fun o => ((bcell hbn).2 _ _ hAl).trans (HfA.out o)
              have OE := hide (Var9_new w5 (.int .i64 0) (.int .i64 DC) (.int .i64 DV) (.int .i64 R.tm) (.int .i64 R.vt) (.int .i64 R.si) (.int .i64 R.st) (.slice a5 R.sn.length k5) (.slice gg5 R.lg.length j5) 34)
              have IE := hide (ho.later (below_alloc w5 (.cells #[.int .i64 0, .int .i64 DC, .int .i64 DV, .int .i64 R.tm, .int .i64 R.vt, .int .i64 R.si, .int .i64 R.st, .slice a5 R.sn.length k5, .slice gg5 R.lg.length j5] 34)))
              rw [World.size_alloc] at IE
              have hz5 := hb.size
              rw [World.size_alloc] at hz5
              clear hb hbx ho HC g0 g1 g2 g3 g4 g5 HR9 HVv HfA IV d0 d1 d2 d3 d4 d5 d6 d7 d8
              go_upto_region 18 with fail
              obtain ⟨X6, hX6⟩ : ∃ x, w5.alloc (.cells #[.int .i64 0, .int .i64 DC, .int .i64 DV, .int .i64 R.tm, .int .i64 R.vt, .int .i64 R.si, .int .i64 R.st, .slice a5 R.sn.length k5, .slice gg5 R.lg.length j5] 34) = x := ⟨_, rfl⟩
              have hs6 : X6.heap.size = w5.heap.size + 1 := by rw [← hX6]; simp
              rw [hX6] at RE AE AF OE IE
              (try rw [hX6])
              clear hbn hX6
              obtain ⟨d0, d1, d2, d3, d4, d5, d6, d7, d8⟩ := AE.out
              obtain ⟨o0, o1, o2, o3, o4, o5, o6, o7, o8⟩ := OE.out
              have e0 := AF.out 0
              have e1 := AF.out 1
              have e2 := AF.out 2
              have e3 := AF.out 3
              have e4 := AF.out 4
              have e5 := AF.out 5
              have e6 := AF.out 6
              have e7 := AF.out 7
              have e8 := AF.out 8
              by_cases hdc : DC = 0
              · subst hdc
                rw [if_pos rfl, Int.add_zero] at HNk
                go_upto_region 21 with fail
                refine forget (fun W6 => Res9 w W6 (w.heap.size + 1) ∧ (Var9 W6 AA (.int .i64 0) (.int .i64 0) (.int .i64 nn) (.int .i64 R.tm) (.int .i64 R.vt) (.int .i64 R.si) (.int .i64 R.st) (.slice a5 R.sn.length k5) (.slice gg5 R.lg.length j5) ∧ (∀ o, W6.frozen? ⟨AA, o, none⟩ = false)) ∧ ∃ lo hi, w.heap.size + 1 < lo ∧ hi ≤ W6.heap.size ∧ (hi ≤ AA ∨ AA < lo) ∧ IvR lo hi W6 (.slice a5 R.sn.length k5) (.slice gg5 R.lg.length j5) R.sn R.lg) ?srTrue ?_
                case srTrue =>
                  have hw6 : Wr (fun x => x = AA) X6 ((((((X6.setCell ⟨AA, 3, none⟩ (.int .i64 R.tm)).setCell ⟨AA, 4, none⟩ (.int .i64 R.vt)).setCell ⟨AA, 5, none⟩ (.int .i64 R.si)).setCell ⟨AA, 6, none⟩ (.int .i64 R.st)).setCell ⟨AA, 7, none⟩ (.slice a5 R.sn.length k5)).setCell ⟨AA, 8, none⟩ (.slice gg5 R.lg.length j5)) := (Wr.setCell (p := ⟨AA, 8, none⟩) (Wr.setCell (p := ⟨AA, 7, none⟩) (Wr.setCell (p := ⟨AA, 6, none⟩) (Wr.setCell (p := ⟨AA, 5, none⟩) (Wr.setCell (p := ⟨AA, 4, none⟩) (Wr.setCell (p := ⟨AA, 3, none⟩) (Wr.refl (fun x => x = AA) _) rfl (.int .i64 R.tm)) rfl (.int .i64 R.vt)) rfl (.int .i64 R.si)) rfl (.int .i64 R.st)) rfl (.slice a5 R.sn.length k5)) rfl (.slice gg5 R.lg.length j5))
                  refine ⟨RE.out.wr hw6 (by omega) (fun b hb => by omega), ⟨⟨by simp [go_sem, d0], by simp [go_sem, d1], by simp [go_sem, d2], by simp [go_sem, d3], by simp [go_sem, d4], by simp [go_sem, d5], by simp [go_sem, d6], by simp [go_sem, d7], by simp [go_sem, d8]⟩, fun o => ?_⟩, _, _, ?_, ?_, Or.inr ?_, IE.out.wr hw6 (fun b h1 h2 e => by omega)⟩
                  · simp only [World.frozen?_setCell]; exact AF.out o
                  · omega
                  · have := hw6.size; omega
                  · omega
                clear d0 d1 d2 d3 d4 d5 d6 d7 d8 o0 o1 o2 o3 o4 o5 o6 o7 o8 e0 e1 e2 e3 e4 e5 e6 e7 e8 RE AE AF OE IE
                rintro W6 ⟨hR6, hV6, hI6⟩
                have HR6 := hide hR6
                have HV6 := hide hV6
                have HI6 := hide hI6
                clear hR6 hV6 hI6
                go_wp2
                go_roundw
                case rel => exact ⟨k2 + 1, _, _, hlt, by go_num, HR6.out, by rw [HRk.out, HNk.out]; exact HV6.out, by rw [HRk.out]; exact HI6.out⟩
                case measure => simp [RowKit.intOf]; omega
              · have hd1 : (DC == 0) = false := by simpa using hdc
                have hd2 : (DC != 0) = true := by simp [hdc]
                rw [if_neg hdc] at HNk
                have hw1 : IntKind.i64.wrap (nn + 1) = nn + 1 := by simp [IntKind.wrap, IntKind.bits, IntKind.signed]; omega
                go_upto_region 21 with fail
                refine forget (fun W6 => Res9 w W6 (w.heap.size + 1) ∧ (Var9 W6 AA (.int .i64 0) (.int .i64 0) (.int .i64 (nn + 1)) (.int .i64 R.tm) (.int .i64 R.vt) (.int .i64 R.si) (.int .i64 R.st) (.slice a5 R.sn.length k5) (.slice gg5 R.lg.length j5) ∧ (∀ o, W6.frozen? ⟨AA, o, none⟩ = false)) ∧ ∃ lo hi, w.heap.size + 1 < lo ∧ hi ≤ W6.heap.size ∧ (hi ≤ AA ∨ AA < lo) ∧ IvR lo hi W6 (.slice a5 R.sn.length k5) (.slice gg5 R.lg.length j5) R.sn R.lg) ?srFalse ?_
                case srFalse =>
                  have hw6 : Wr (fun x => x = AA) X6 (((((((X6.setCell ⟨AA, 3, none⟩ (.int .i64 R.tm)).setCell ⟨AA, 4, none⟩ (.int .i64 R.vt)).setCell ⟨AA, 5, none⟩ (.int .i64 R.si)).setCell ⟨AA, 6, none⟩ (.int .i64 R.st)).setCell ⟨AA, 7, none⟩ (.slice a5 R.sn.length k5)).setCell ⟨AA, 8, none⟩ (.slice gg5 R.lg.length j5)).setCell ⟨AA, 2, none⟩ (.int .i64 (nn + 1))) := (Wr.setCell (p := ⟨AA, 2, none⟩) (Wr.setCell (p := ⟨AA, 8, none⟩) (Wr.setCell (p := ⟨AA, 7, none⟩) (Wr.setCell (p := ⟨AA, 6, none⟩) (Wr.setCell (p := ⟨AA, 5, none⟩) (Wr.setCell (p := ⟨AA, 4, none⟩) (Wr.setCell (p := ⟨AA, 3, none⟩) (Wr.refl (fun x => x = AA) _) rfl (.int .i64 R.tm)) rfl (.int .i64 R.vt)) rfl (.int .i64 R.si)) rfl (.int .i64 R.st)) rfl (.slice a5 R.sn.length k5)) rfl (.slice gg5 R.lg.length j5)) rfl (.int .i64 (nn + 1)))
                  refine ⟨RE.out.wr hw6 (by omega) (fun b hb => by omega), ⟨⟨by simp [go_sem, d0], by simp [go_sem, d1], by simp [go_sem, d2], by simp [go_sem, d3], by simp [go_sem, d4], by simp [go_sem, d5], by simp [go_sem, d6], by simp [go_sem, d7], by simp [go_sem, d8]⟩, fun o => ?_⟩, _, _, ?_, ?_, Or.inr ?_, IE.out.wr hw6 (fun b h1 h2 e => by omega)⟩
                  · simp only [World.frozen?_setCell]; exact AF.out o
                  · omega
                  · have := hw6.size; omega
                  · omega
                clear d0 d1 d2 d3 d4 d5 d6 d7 d8 o0 o1 o2 o3 o4 o5 o6 o7 o8 e0 e1 e2 e3 e4 e5 e6 e7 e8 RE AE AF OE IE
                rintro W6 ⟨hR6, hV6, hI6⟩
                have HR6 := hide hR6
                have HV6 := hide hV6
                have HI6 := hide hI6
                clear hR6 hV6 hI6
                go_wp2
                go_roundw
                case rel => exact ⟨k2 + 1, _, _, hlt, by go_num, HR6.out, by rw [HRk.out, HNk.out]; exact HV6.out, by rw [HRk.out]; exact HI6.out⟩
                case measure => simp [RowKit.intOf]; omega
            · have hkk : k2 = k := by omega
              subst hkk
              skip
              have HFn := hide (ret_op (w := w) (r := w.heap.size + 1) (x0 := .int .i64 0) (x1 := .int .i64 0) (x2 := .int .i64 nn) (x3 := .int .i64 Q.tm) (x4 := .int .i64 Q.vt) (x5 := .int .i64 Q.si) (x6 := .int .i64 Q.st) HR9.out.below HR9.out.ge (IV.out.up (Nat.le_refl _) hhi) hlo)
              obtain ⟨_, ⟨c0, c1, c2, c3, c4, c5, c6, c7, c8⟩, FF, _⟩ := HR9.out
              have f0 := FF 0
              have f1 := FF 1
              have f2 := FF 2
              have f3 := FF 3
              have f4 := FF 4
              have f5 := FF 5
              have f6 := FF 6
              have f7 := FF 7
              have f8 := FF 8
              clear FF
              have HQ := hide hQ
              have HNN := hide hnn
              clear hQ hnn
              go_wp2
              refine bodyPost_ret (v := .agg #[.int .i64 0, .int .i64 0, .int .i64 nn, .int .i64 Q.tm, .int .i64 Q.vt, .int .i64 Q.si, .int .i64 Q.st, .slice a6 Q.sn.length k6, .slice g6 Q.lg.length j6]) (by simp [results, Tryz.results21, go_sem, c0, c1, c2, c3, c4, c5, c6, c7, c8]) rfl ?_
              rw [HQ.out, HNN.out]
              exact ⟨_, _, rfl, HFn.out.1, HFn.out.2⟩
  · have h0b : (Z == 0) = false := by simpa using h0
    have h0c : (Z != 0) = true := by simp [h0]
    obtain ⟨rfl, rfl, rfl⟩ := HBad.out h0
    clear h0
    have HFn := hide (ret_op (w := w) (r := w.heap.size + 1) (x0 := .int .i64 C) (x1 := .int .i64 0) (x2 := .int .i64 0) (x3 := .int .i64 0) (x4 := .int .i64 0) (x5 := .int .i64 0) (x6 := .int .i64 0) RB.out.below RB.out.ge (IvR_nil (w.heap.size + 2) w1) (by omega))
    obtain ⟨_, ⟨c0, c1, c2, c3, c4, c5, c6, c7, c8⟩, FF, _⟩ := RB.out
    have f0 := FF 0
    have f1 := FF 1
    have f2 := FF 2
    have f3 := FF 3
    have f4 := FF 4
    have f5 := FF 5
    have f6 := FF 6
    have f7 := FF 7
    have f8 := FF 8
    clear FF
    go_wp2
    refine bodyPost_ret (v := .agg #[.int .i64 C, .int .i64 0, .int .i64 0, .int .i64 0, .int .i64 0, .int .i64 0, .int .i64 0, .slice none 0 0, .slice none 0 0]) (by simp [results, Tryz.results21, go_sem, c0, c1, c2, c3, c4, c5, c6, c7, c8]) rfl ⟨_, _, rfl, HFn.out.1, HFn.out.2⟩
end Go.Proofs.YtlljcajfdeiigaaGreatDoor
