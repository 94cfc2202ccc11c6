/- TxQ LawOpText in one text: what each says stands at its head below. -/
import Derived.Test.YtcbapclpopbjbaaDoorG40
import Derived.Test.YtcbapclpopbjbaaDoorG16
import Derived.Test.YtcbapclpopbjbaaDoorG36
import Derived.Test.YtcbapclpopbjbaaDoorG37
import Derived.Test.YtcbapclpopbjbaaDoorG13
/- The text of an operation: 'impl.OpText'. Made by program (gentxo.py). -/
namespace Go.Proofs.YtcbapclpopbjbaaDoor
open Go.RowKit

set_option maxRecDepth 4000 in
set_option maxHeartbeats 2000000 in
theorem implOpText {S T : Nat → Prop} {w : World} {y z : Value} (o : Rf) (hy : RdI S w y o.sn) (hz : RdJ T w z o.lg) (htb : TabP w) :
    Calls Tryd.prog 14 #[.agg #[.int .i64 o.tm, .int .i64 o.vt, .int .i64 o.si, .int .i64 o.st, y, z]] w fun e w' => e = .returned (.agg #[.int .i64 (otF o), .string (otV o)]) ∧ Below w.heap.size w w' := by
  have b0 := below_alloc w (.cells #[.int .i64 o.tm, .int .i64 o.vt, .int .i64 o.si, .int .i64 o.st, y, z] 39)
  have b1 := below_alloc (w.alloc (.cells #[.int .i64 o.tm, .int .i64 o.vt, .int .i64 o.si, .int .i64 o.st, y, z] 39)) (.cells #[.int .i64 0, .string { data := #[] }] 35)
  have V := (Var6_new w (.int .i64 o.tm) (.int .i64 o.vt) (.int .i64 o.si) (.int .i64 o.st) y z 39).later b1
  have HF := hide (implTextFault o (hy.later (below_on b0 b1)) (hz.later (below_on b0 b1)))
  have HT := hide (fun (h : otF o = 0) (w' : World) hb => implTextOf (w := w') o ((hy.later (below_on b0 b1)).later hb) ((hz.later (below_on b0 b1)).later hb) (otOk h) ((htb.later (below_on b0 b1)).later hb))
  have HB := hide (below_on b0 b1)
  have HV := hide V
  obtain ⟨ay, cy, rfl⟩ := hy.shape
  obtain ⟨az, cz, rfl, _⟩ := hz.shape
  have HX := hide (show otV o = if otF o = 0 then str (opT o) else { data := #[] } from rfl)
  generalize otV o = X at *
  generalize otF o = f at *
  generalize opT o = R at *
  have k0 : ((w.alloc (.cells #[.int .i64 o.tm, .int .i64 o.vt, .int .i64 o.si, .int .i64 o.st, .slice ay o.sn.length cy, .slice az o.lg.length cz] 39)).alloc (.cells #[.int .i64 0, .string { data := #[] }] 35)).cell? ⟨w.heap.size + 1, 0, none⟩ = some (.int .i64 0) := by simp [go_sem]
  have k1 : ((w.alloc (.cells #[.int .i64 o.tm, .int .i64 o.vt, .int .i64 o.si, .int .i64 o.st, .slice ay o.sn.length cy, .slice az o.lg.length cz] 39)).alloc (.cells #[.int .i64 0, .string { data := #[] }] 35)).cell? ⟨w.heap.size + 1, 1, none⟩ = some (.string { data := #[] }) := by simp [go_sem]
  have k2 : ∀ o', ((w.alloc (.cells #[.int .i64 o.tm, .int .i64 o.vt, .int .i64 o.si, .int .i64 o.st, .slice ay o.sn.length cy, .slice az o.lg.length cz] 39)).alloc (.cells #[.int .i64 0, .string { data := #[] }] 35)).frozen? ⟨w.heap.size + 1, o', none⟩ = false := fun o' => by simp [go_sem]
  clear V b0 b1 hy hz htb
  obtain ⟨v0, v1, v2, v3, v4, v5⟩ := HV.out
  go_enter Tryd.func14, Tryd.ntmps14
  go_wp2_with fail
  refine HF.out.mono ?_
  rintro e w1 ⟨rfl, hb⟩
  have HT1 := hide (fun (h : f = 0) => HT.out h w1 hb)
  have HB1 := hide (below_on HB.out hb)
  have HV1 := hide (HV.out.later hb)
  have j0 := cell_later hb k0
  have j1 := cell_later hb k1
  have j2 : ∀ o, w1.frozen? ⟨w.heap.size + 1, o, none⟩ = false := fun o => ((bcell hb).2 _ _ (by simp)).trans (k2 o)
  have hr : w.heap.size ≤ w.heap.size + 1 := by omega
  clear hb HF HT k0 k1 k2 HB v0 v1 v2 v3 v4 v5 HV
  obtain ⟨v0, v1, v2, v3, v4, v5⟩ := HV1.out
  by_cases h0 : f = 0
  · subst h0
    have HX' : Hid (X = str R) := by rw [Hid, HX.out, if_pos rfl]
    go_wp2_with fail
    refine (HT1.out (by trivial)).mono ?_
    rintro e w2 ⟨rfl, hb⟩
    have i0 := cell_later hb j0
    have i1 := cell_later hb j1
    have i2 : ∀ o, w2.frozen? ⟨w.heap.size + 1, o, none⟩ = false := fun o => ((bcell hb).2 _ _ (World.block_lt_of_cell? _ _ j0)).trans (j2 o)
    have HB2 := hide (below_on HB1.out hb)
    clear hb HT1 j0 j1 j2 v0 v1 v2 v3 v4 v5
    go_wp2
    refine bodyPost_ret (v := .agg #[.int .i64 0, .string (str R)]) (by simp [results, Tryd.results14, go_sem, i0, i1]) rfl ⟨by rw [HX'.out], (HB2.out.setCell (by simp) _).setCell (by simp) _⟩
  · have HX' : Hid (X = { data := #[] }) := by rw [Hid, HX.out, if_neg h0]
    clear HT1
    go_wp2
    refine bodyPost_ret (v := .agg #[.int .i64 f, .string { data := #[] }]) (by simp [results, Tryd.results14, go_sem, j0, j1]) rfl ⟨by rw [HX'.out], (HB1.out.setCell (by simp) _).setCell (by simp) _⟩
end Go.Proofs.YtcbapclpopbjbaaDoor
/- The law 'FnExactOpText' walked, out of what the program's function and the model's leave. Made by program (lawgen10.py). -/
namespace Go.Proofs.YtcbapclpopbjbaaDoor
open Go.RowKit

theorem eqTxResO (x : Int) (y : ByteArray) (w : World) : Calls Tryd.prog 15 #[.agg #[.int .i64 x, .string y], .agg #[.int .i64 x, .string y]] w fun e w' => e = .returned (.bool true) ∧ Below w.heap.size w w' := by
  go_enter Tryd.func15, Tryd.ntmps15
  go_wp2
  go_ret
  exact ⟨rfl, below_on (below_alloc _ _) (below_alloc _ _)⟩
set_option maxHeartbeats 4000000 in
set_option maxRecDepth 4000 in
theorem lawOpText {S T : Nat → Prop} {w : World} {y z0 : Value} (r : Rf) (z : Int) (z2 : ByteArray) (hy : RdI S w y r.sn) (hz : RdJ T w z0 r.lg)
    (hspec : ∀ (S T : Nat → Prop) (w' : World) (y z0 : Value), RdI S w' y r.sn → RdJ T w' z0 r.lg → Calls Tryd.prog 12 #[.agg #[.int .i64 r.tm, .int .i64 r.vt, .int .i64 r.si, .int .i64 r.st, y, z0]] w' fun e w'' => e = .returned (.agg #[.int .i64 z, .string z2]) ∧ Below w'.heap.size w' w'')
    (himpl : ∀ (S T : Nat → Prop) (w' : World) (y z0 : Value), Below w.heap.size w w' → RdI S w' y r.sn → RdJ T w' z0 r.lg → Calls Tryd.prog 14 #[.agg #[.int .i64 r.tm, .int .i64 r.vt, .int .i64 r.si, .int .i64 r.st, y, z0]] w' fun e w'' => e = .returned (.agg #[.int .i64 z, .string z2]) ∧ Below w'.heap.size w' w'') :
    Calls Tryd.prog 4 #[.agg #[.int .i64 r.tm, .int .i64 r.vt, .int .i64 r.si, .int .i64 r.st, y, z0]] w fun e w' => e = .returned (.bool true) ∧ Below w.heap.size w w' := by
  obtain ⟨ay, cy, rfl⟩ := hy.shape
  obtain ⟨az, cz, rfl, _⟩ := hz.shape
  have HS := hide hspec
  have HI := hide himpl
  have HSz := hide (fun (w' : World) (hb : Below w.heap.size w w') => szOp (left := 1048576) r.tm r.vt r.si r.st (hy.later hb) (hz.later hb) (by omega) (by omega))
  have HTo := hide (fun (h : (r.sn.length : Int) + szU r.lg ≤ 1048576) (w' : World) (hb : Below w.heap.size w w') => toOp r.tm r.vt r.si r.st (hy.later hb) (hz.later hb) (by have := szU_nonneg r.lg; omega) (smallU (qs := r.lg) (by omega)).1 (smallU (qs := r.lg) (by omega)).2.1)
  have HEq := hide (fun (w' : World) (u1 u2 v1 v2 : Value) (S1 S2 T1 T2 : Nat → Prop) (k1 : RdI S1 w' u1 r.sn) (k2 : RdJ S2 w' u2 r.lg) (k3 : RdI T1 w' v1 r.sn) (k4 : RdJ T2 w' v2 r.lg) => eqOp r.tm r.vt r.si r.st k1 k2 k3 k4)
  obtain ⟨sz, hsz⟩ : ∃ s, (r.sn.length : Int) + szU r.lg = s := ⟨_, rfl⟩
  rw [hsz] at HSz HTo
  obtain ⟨l, hl⟩ : ∃ l, r.sn.length = l := ⟨_, rfl⟩
  obtain ⟨m, hm⟩ : ∃ m, r.lg.length = m := ⟨_, rfl⟩
  have HL := hide hl
  have HM := hide hm
  rw [hl] at HSz HTo ⊢
  rw [hm] at HSz HTo ⊢
  clear hy hz hspec himpl hsz hl hm
  generalize r.tm = a at *
  generalize r.vt = b at *
  generalize r.si = c at *
  generalize r.st = d at *
  have BA := hide (below_alloc w (.cells #[.int .i64 a, .int .i64 b, .int .i64 c, .int .i64 d, .slice ay l cy, .slice az m cz] 32))
  have VA := hide (Var6_new w (.int .i64 a) (.int .i64 b) (.int .i64 c) (.int .i64 d) (.slice ay l cy) (.slice az m cz) 32)
  by_cases hs : sz ≤ 1048576
  · skip
    have HY := hide (szv_yes (left := 1048576) (s := sz) hs)
    have hp : ¬ ((1048576 : Int) - sz < 0) := by omega
    go_enter Tryd.func4, Tryd.ntmps4
    go_wp2_with fail
    refine (HSz.out _ BA.out).mono ?_
    rintro e w1 ⟨he, hb⟩
    rw [HY.out] at he
    subst he
    have B1 := hide (below_on BA.out hb)
    have V1 := hide (VA.out.later hb)
    clear hb
    obtain ⟨c0, c1, c2, c3, c4, c5⟩ := V1.out
    go_wp2_with fail
    refine (HTo.out hs _ B1.out).mono ?_
    rintro e w2 ⟨ys, zs, rfl, hb, ho⟩
    obtain ⟨bs, ks, gs, js, hys, hzs⟩ := ho.shape
    rw [HL.out] at hys
    rw [HM.out] at hzs
    subst hys
    subst hzs
    have Os := hide ho
    have B2 := hide (below_on B1.out hb)
    have V2 := hide (V1.out.later hb)
    clear hb ho
    clear c0 c1 c2 c3 c4 c5
    go_wp2_with fail
    refine (HS.out _ _ _ _ _ Os.out.rdI Os.out.rdJ).mono ?_
    rintro e w3 ⟨rfl, hb⟩
    have hb2 := below_on hb (below_alloc w3 (.cells #[.int .i64 z, .string z2] 35))
    have B3 := hide (below_on B2.out hb2)
    have V3 := hide (V2.out.later hb2)
    have R3 := hide (Var2_new w3 (.int .i64 z) (.string z2) 35)
    clear hb2
    clear hb Os
    obtain ⟨c0, c1, c2, c3, c4, c5⟩ := V3.out
    go_wp2_with fail
    refine (HTo.out hs _ B3.out).mono ?_
    rintro e w4 ⟨yx, zx, rfl, hb, ho⟩
    obtain ⟨bx, kx, gx, jx, hyx, hzx⟩ := ho.shape
    rw [HL.out] at hyx
    rw [HM.out] at hzx
    subst hyx
    subst hzx
    have Ox := hide ho
    have B4 := hide (below_on B3.out hb)
    have V4 := hide (V3.out.later hb)
    have R4 := hide (R3.out.later hb)
    have hz4 := hb.size
    simp only [World.size_alloc] at hz4
    clear hb ho
    clear c0 c1 c2 c3 c4 c5
    go_wp2_with fail
    refine (HI.out _ _ _ _ _ (below_on B4.out (below_alloc w4 (.cells #[.int .i64 a, .int .i64 b, .int .i64 c, .int .i64 d, .slice bx l kx, .slice gx m jx] 39))) (Ox.out.rdI.later (below_alloc _ _)) (Ox.out.rdJ.later (below_alloc _ _))).mono ?_
    rintro e w5 ⟨rfl, hb⟩
    have hb5 := below_on (below_on (below_alloc w4 (.cells #[.int .i64 a, .int .i64 b, .int .i64 c, .int .i64 d, .slice bx l kx, .slice gx m jx] 39)) hb) (below_alloc w5 (.cells #[.int .i64 z, .string z2] 35))
    have X5 := hide (((Var6_new w4 (.int .i64 a) (.int .i64 b) (.int .i64 c) (.int .i64 d) (.slice bx l kx) (.slice gx m jx) 39).later hb).later (below_alloc w5 (.cells #[.int .i64 z, .string z2] 35)))
    have V5 := hide (V4.out.later hb5)
    have B5 := hide (below_on B4.out hb5)
    have O5 := hide (Ox.out.later hb5)
    have R5 := hide (R4.out.later hb5)
    have G5 := hide (Var2_new w5 (.int .i64 z) (.string z2) 35)
    have hz5 := hb.size
    simp only [World.size_alloc] at hz5
    clear hb hb5 Ox R4 B4 V4
    obtain ⟨p0, p1⟩ := R5.out
    obtain ⟨g0, g1⟩ := G5.out
    go_wp2_with fail
    refine (eqTxResO z z2 _).mono ?_
    rintro e w6 ⟨rfl, hb⟩
    have B6 := hide (below_on B5.out hb)
    have V6 := hide (V5.out.later hb)
    have X6 := hide (X5.out.later hb)
    have O6 := hide (O5.out.later hb)
    clear hb p0 p1 g0 g1 R5 G5 B5 V5 X5 O5
    obtain ⟨c0, c1, c2, c3, c4, c5⟩ := V6.out
    obtain ⟨x0, x1, x2, x3, x4, x5⟩ := X6.out
    go_wp2_with fail
    go_region_held3 (fun w' => w'.cell? ⟨w.heap.size, 0, none⟩ = some (.int .i64 a) ∧ w'.cell? ⟨w.heap.size, 1, none⟩ = some (.int .i64 b) ∧ w'.cell? ⟨w.heap.size, 2, none⟩ = some (.int .i64 c) ∧ w'.cell? ⟨w.heap.size, 3, none⟩ = some (.int .i64 d) ∧ w'.cell? ⟨w.heap.size, 4, none⟩ = some (.slice ay l cy) ∧ w'.cell? ⟨w.heap.size, 5, none⟩ = some (.slice az m cz) ∧ w'.cell? ⟨w4.heap.size, 0, none⟩ = some (.int .i64 a) ∧ w'.cell? ⟨w4.heap.size, 1, none⟩ = some (.int .i64 b) ∧ w'.cell? ⟨w4.heap.size, 2, none⟩ = some (.int .i64 c) ∧ w'.cell? ⟨w4.heap.size, 3, none⟩ = some (.int .i64 d) ∧ w'.cell? ⟨w4.heap.size, 4, none⟩ = some (.slice bx l kx) ∧ w'.cell? ⟨w4.heap.size, 5, none⟩ = some (.slice gx m jx)) (first | exact ⟨c0, c1, c2, c3, c4, c5, x0, x1, x2, x3, x4, x5⟩ | exact ⟨e0, e1, e2, e3, e4, e5, e6, e7, e8, e9, e10, e11⟩ | exact ⟨i0, i1, i2, i3, i4, i5, i6, i7, i8, i9, i10, i11⟩)
      (first | (go_at_call 16; refine (HEq.out _ _ _ _ _ _ _ _ _ (O6.out.rdI.later HB6.out) (O6.out.rdJ.later HB6.out) HO6.out.rdI HO6.out.rdJ).mono ?_; rintro e w8 ⟨rfl, hb7⟩; have i0 := cell_later hb7 e0; have i1 := cell_later hb7 e1; have i2 := cell_later hb7 e2; have i3 := cell_later hb7 e3; have i4 := cell_later hb7 e4; have i5 := cell_later hb7 e5; have i6 := cell_later hb7 e6; have i7 := cell_later hb7 e7; have i8 := cell_later hb7 e8; have i9 := cell_later hb7 e9; have i10 := cell_later hb7 e10; have i11 := cell_later hb7 e11; have HB7 := hide (below_on HB6.out hb7); clear hb7) | (go_at_call 13; refine (HTo.out hs _ (below_on B6.out (below_drewN _ 1))).mono ?_; rintro e w7 ⟨y6, z6, rfl, hb, ho⟩; have e0 := cell_later hb c0; have e1 := cell_later hb c1; have e2 := cell_later hb c2; have e3 := cell_later hb c3; have e4 := cell_later hb c4; have e5 := cell_later hb c5; have e6 := cell_later hb x0; have e7 := cell_later hb x1; have e8 := cell_later hb x2; have e9 := cell_later hb x3; have e10 := cell_later hb x4; have e11 := cell_later hb x5; have HO6 := hide ho; have HB6 := hide (below_on (below_drewN w6 1) hb); clear hb ho))
    have B7 := hide (below_on B6.out HB7.out)
    go_wp2
    go_ret
    exact ⟨rfl, B7.out⟩
  · have HY := hide (szv_no (left := 1048576) (s := sz) (by omega))
    clear hs
    go_enter Tryd.func4, Tryd.ntmps4
    go_wp2_with fail
    refine (HSz.out _ BA.out).mono ?_
    rintro e w1 ⟨he, hb⟩
    rw [HY.out] at he
    subst he
    have B1 := hide (below_on BA.out hb)
    clear hb
    go_wp2
    go_ret
    exact ⟨rfl, B1.out⟩
end Go.Proofs.YtcbapclpopbjbaaDoor
