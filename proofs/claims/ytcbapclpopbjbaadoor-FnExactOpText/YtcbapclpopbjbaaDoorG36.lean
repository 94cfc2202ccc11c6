/- TxT in one text: what each says stands at its head below. -/
import Derived.Test.YtcbapclpopbjbaaDoorG35
/- The text of an operation: 'spec.OpText'. Made by program (gentxo.py). -/
namespace Go.Proofs.YtcbapclpopbjbaaDoor
open Go.RowKit

set_option maxRecDepth 4000 in
set_option maxHeartbeats 8000000 in
theorem specOpText {S T : Nat → Prop} {w : World} {y z : Value} (o : Rf) (hy : RdI S w y o.sn) (hz : RdJ T w z o.lg) :
    Calls Tryd.prog 12 #[.agg #[.int .i64 o.tm, .int .i64 o.vt, .int .i64 o.si, .int .i64 o.st, y, z]] w fun e w' => e = .returned (.agg #[.int .i64 (otF o), .string (otV o)]) ∧ Below w.heap.size w w' := by
  have b0 := below_alloc w (.cells #[.int .i64 o.tm, .int .i64 o.vt, .int .i64 o.si, .int .i64 o.st, y, z] 39)
  have b1 := below_alloc (w.alloc (.cells #[.int .i64 o.tm, .int .i64 o.vt, .int .i64 o.si, .int .i64 o.st, y, z] 39)) (.cells #[.int .i64 0, .string { data := #[] }] 35)
  have V := (Var6_new w (.int .i64 o.tm) (.int .i64 o.vt) (.int .i64 o.si) (.int .i64 o.st) y z 39).later b1
  have HF := hide (l12Fault o V.vat (hy.later (below_on b0 b1)) (hz.later (below_on b0 b1)))
  have HT := hide (fun (h : otF o = 0) (w' : World) hb => l16Text o (V.later (w' := w') hb) ((hy.later (below_on b0 b1)).later hb) ((hz.later (below_on b0 b1)).later hb) (otOk h))
  have HB := hide (below_on b0 b1)
  have HV := hide V
  have HZ0 := hide (hz.later (below_on b0 b1))
  obtain ⟨ay, cy, rfl⟩ := hy.shape
  obtain ⟨az, cz, rfl, hzm⟩ := hz.shape
  have k0 : ((w.alloc (.cells #[.int .i64 o.tm, .int .i64 o.vt, .int .i64 o.si, .int .i64 o.st, .slice ay o.sn.length cy, .slice az o.lg.length cz] 39)).alloc (.cells #[.int .i64 0, .string { data := #[] }] 35)).cell? ⟨w.heap.size + 1, 0, none⟩ = some (.int .i64 0) := by simp [go_sem]
  have k1 : ((w.alloc (.cells #[.int .i64 o.tm, .int .i64 o.vt, .int .i64 o.si, .int .i64 o.st, .slice ay o.sn.length cy, .slice az o.lg.length cz] 39)).alloc (.cells #[.int .i64 0, .string { data := #[] }] 35)).cell? ⟨w.heap.size + 1, 1, none⟩ = some (.string { data := #[] }) := by simp [go_sem]
  have k2 : ∀ o', ((w.alloc (.cells #[.int .i64 o.tm, .int .i64 o.vt, .int .i64 o.si, .int .i64 o.st, .slice ay o.sn.length cy, .slice az o.lg.length cz] 39)).alloc (.cells #[.int .i64 0, .string { data := #[] }] 35)).frozen? ⟨w.heap.size + 1, o', none⟩ = false := fun o' => by simp [go_sem]
  have HX := hide (show otV o = if otF o = 0 then str (opT o) else { data := #[] } from rfl)
  have H0 := hide (@otF_op o)
  have H1 := hide (@otF_many o)
  have H2 := hide (@otF_range o)
  have H3 := hide (@otF_form o)
  have H4 := hide (@otF_ok o)
  generalize otV o = XV at *
  generalize opT o = XT at *
  obtain ⟨Z, hZ⟩ : ∃ Z, otF o = Z := ⟨_, rfl⟩
  rw [hZ] at H0 H1 H2 H3 H4 HT HX ⊢
  obtain ⟨m, hm⟩ : ∃ m, o.lg.length = m := ⟨_, rfl⟩
  have HM := hide hm
  rw [hm] at HF HV HZ0 HB H1 H2 H3 H4 HT hzm k0 k1 ⊢
  simp only [hm] at k2
  generalize opF o = f at *
  generalize o.tm = a at *
  generalize o.vt = b at *
  generalize o.si = c at *
  generalize o.st = d at *
  generalize o.sn.length = l at *
  clear hy hz b0 b1 V hZ hm
  go_enter Tryd.func12, Tryd.ntmps12
  go_wp2_with fail
  refine HF.out.mono ?_
  rintro e w1 ⟨rfl, hb⟩
  have HB1 := hide (below_on HB.out hb)
  have HV1 := hide (HV.out.later hb)
  have HZ1 := hide (HZ0.out.later hb)
  have HT1 := hide (fun h0 (w' : World) (hb' : Below w1.heap.size w1 w') => HT.out h0 w' (below_on hb hb'))
  have j0 := cell_later hb k0
  have j1 := cell_later hb k1
  have j2 : ∀ o, w1.frozen? ⟨w.heap.size + 1, o, none⟩ = false := fun o => ((bcell hb).2 _ _ (by simp)).trans (k2 o)
  have hr : w.heap.size ≤ w.heap.size + 1 := by omega
  clear hb HF HB HV HZ0 HT k0 k1 k2
  obtain ⟨v0, v1, v2, v3, v4, v5⟩ := HV1.out
  by_cases h0 : f = 0
  · by_cases h2 : a = 2
    · by_cases hm1 : m = 1
      · have HR := hide (fun k => H2.out h0 (fun q => q.2 hm1) k)
        have HQ := hide (fun k q => H3.out h0 (fun q => q.2 hm1) k q)
        have HK := hide (fun k q => H4.out h0 (fun q => q.2 hm1) k q)
        clear H0 H1 H2 H3 H4
        obtain ⟨eb, eo, V, he1, e0, _, _, _⟩ := HZ1.out.atT (k := 0) (by rw [HM.out]; omega)
        subst he1
        simp only [Nat.zero_mul, Nat.add_zero] at e0
        generalize (o.lg.getD 0 oj0).1 = x at *
        subst h0
        subst h2
        subst hm1
        clear HZ1 HM
        by_cases n1 : smN b
        · by_cases n2 : smN c
          · by_cases n3 : smN d
            · have hwb : IntKind.i64.wrap (b + 1) = b + 1 := by have := n1.1; have := n1.2; simp [IntKind.wrap, IntKind.bits, IntKind.signed]; omega
              by_cases hx : x = b + 1
              · have HZ := hide (HK.out ⟨n1, n2, n3⟩ (fun q => q.2 hx))
                subst hx
                go_wp2_with fail
                refine (l16SmallB b _).mono ?_
                rintro e w9 ⟨rfl, rfl⟩
                rw [decide_eq_true n1]
                go_wp2_with fail
                refine (l16SmallB c _).mono ?_
                rintro e w9 ⟨rfl, rfl⟩
                rw [decide_eq_true n2]
                go_wp2_with fail
                refine (l16SmallB d _).mono ?_
                rintro e w9 ⟨rfl, rfl⟩
                rw [decide_eq_true n3]
                go_wp2
                go_quiet (fail)
                go_wp2_with fail
                refine (HT1.out HZ.out _ (below_drewN _ _)).mono ?_
                rintro e w2 ⟨rfl, hb⟩
                have i0 := cell_later (below_on (below_drewN _ _) hb) j0
                have i1 := cell_later (below_on (below_drewN _ _) hb) j1
                have i2 : ∀ o, w2.frozen? ⟨w.heap.size + 1, o, none⟩ = false := fun o => ((bcell (below_on (below_drewN _ _) hb)).2 _ _ (World.block_lt_of_cell? _ _ j0)).trans (j2 o)
                have HB2 := hide (below_on HB1.out (below_on (below_drewN _ _) hb))
                have HXe : Hid (XV = str XT) := by rw [Hid, HX.out, HZ.out, if_pos rfl]
                clear hb j0 j1 j2 v0 v1 v2 v3 v4 v5
                go_wp2
                refine bodyPost_ret (v := .agg #[.int .i64 0, .string (str XT)]) (by simp [results, Tryd.results12, go_sem, i0, i1]) rfl ⟨by rw [HZ.out, HXe.out], (HB2.out.setCell (by simp) _).setCell (by simp) _⟩
              · have HZ := hide (HQ.out ⟨n1, n2, n3⟩ ⟨rfl, hx⟩)
                have hxb : (x == b + 1) = false := by simpa using hx
                have hxb2 : (x != b + 1) = true := by simp [hx]
                go_wp2_with fail
                refine (l16SmallB b _).mono ?_
                rintro e w9 ⟨rfl, rfl⟩
                rw [decide_eq_true n1]
                go_wp2_with fail
                refine (l16SmallB c _).mono ?_
                rintro e w9 ⟨rfl, rfl⟩
                rw [decide_eq_true n2]
                go_wp2_with fail
                refine (l16SmallB d _).mono ?_
                rintro e w9 ⟨rfl, rfl⟩
                rw [decide_eq_true n3]
                go_wp2
                go_quiet (fail)
                go_wp2
                have HXe : Hid (XV = { data := #[] }) := by rw [Hid, HX.out, HZ.out, if_neg (by decide)]
                refine bodyPost_ret (v := .agg #[.int .i64 1, .string { data := #[] }]) (by simp [results, Tryd.results12, go_sem, j0, j1]) rfl ⟨by rw [HZ.out, HXe.out], ((below_on HB1.out (below_drewN _ _)).setCell (by simp) _).setCell (by simp) _⟩
            · have HZ := hide (HR.out (fun k => n3 k.2.2))
              go_wp2_with fail
              refine (l16SmallB b _).mono ?_
              rintro e w9 ⟨rfl, rfl⟩
              rw [decide_eq_true n1]
              go_wp2_with fail
              refine (l16SmallB c _).mono ?_
              rintro e w9 ⟨rfl, rfl⟩
              rw [decide_eq_true n2]
              go_wp2_with fail
              refine (l16SmallB d _).mono ?_
              rintro e w9 ⟨rfl, rfl⟩
              rw [decide_eq_false n3]
              go_wp2
              have HXe : Hid (XV = { data := #[] }) := by rw [Hid, HX.out, HZ.out, if_neg (by decide)]
              refine bodyPost_ret (v := .agg #[.int .i64 3, .string { data := #[] }]) (by simp [results, Tryd.results12, go_sem, j0, j1]) rfl ⟨by rw [HZ.out, HXe.out], (HB1.out.setCell (by simp) _).setCell (by simp) _⟩
          · have HZ := hide (HR.out (fun k => n2 k.2.1))
            go_wp2_with fail
            refine (l16SmallB b _).mono ?_
            rintro e w9 ⟨rfl, rfl⟩
            rw [decide_eq_true n1]
            go_wp2_with fail
            refine (l16SmallB c _).mono ?_
            rintro e w9 ⟨rfl, rfl⟩
            rw [decide_eq_false n2]
            go_wp2
            have HXe : Hid (XV = { data := #[] }) := by rw [Hid, HX.out, HZ.out, if_neg (by decide)]
            refine bodyPost_ret (v := .agg #[.int .i64 3, .string { data := #[] }]) (by simp [results, Tryd.results12, go_sem, j0, j1]) rfl ⟨by rw [HZ.out, HXe.out], (HB1.out.setCell (by simp) _).setCell (by simp) _⟩
        · have HZ := hide (HR.out (fun k => n1 k.1))
          go_wp2_with fail
          refine (l16SmallB b _).mono ?_
          rintro e w9 ⟨rfl, rfl⟩
          rw [decide_eq_false n1]
          go_wp2
          have HXe : Hid (XV = { data := #[] }) := by rw [Hid, HX.out, HZ.out, if_neg (by decide)]
          refine bodyPost_ret (v := .agg #[.int .i64 3, .string { data := #[] }]) (by simp [results, Tryd.results12, go_sem, j0, j1]) rfl ⟨by rw [HZ.out, HXe.out], (HB1.out.setCell (by simp) _).setCell (by simp) _⟩
      · have HZ := hide (H1.out h0 ⟨h2, hm1⟩)
        have hmb : ((m : Int) == 1) = false := by simp; omega
        have hmb2 : ((m : Int) != 1) = true := by simp; omega
        subst h0
        subst h2
        clear H0 H1 H2 H3 H4
        go_wp2
        have HXe : Hid (XV = { data := #[] }) := by rw [Hid, HX.out, HZ.out, if_neg (by decide)]
        refine bodyPost_ret (v := .agg #[.int .i64 2, .string { data := #[] }]) (by simp [results, Tryd.results12, go_sem, j0, j1]) rfl ⟨by rw [HZ.out, HXe.out], (HB1.out.setCell (by simp) _).setCell (by simp) _⟩
    · have HR := hide (fun k => H2.out h0 (fun q => h2 q.1) k)
      have HK := hide (fun k => H4.out h0 (fun q => h2 q.1) k (fun q => h2 q.1))
      have hab : (a == 2) = false := by simpa using h2
      subst h0
      clear H0 H1 H2 H3 H4
      by_cases n1 : smN b
      · by_cases n2 : smN c
        · by_cases n3 : smN d
          · have HZ := hide (HK.out ⟨n1, n2, n3⟩)
            go_wp2_with fail
            refine (l16SmallB b _).mono ?_
            rintro e w9 ⟨rfl, rfl⟩
            rw [decide_eq_true n1]
            go_wp2_with fail
            refine (l16SmallB c _).mono ?_
            rintro e w9 ⟨rfl, rfl⟩
            rw [decide_eq_true n2]
            go_wp2_with fail
            refine (l16SmallB d _).mono ?_
            rintro e w9 ⟨rfl, rfl⟩
            rw [decide_eq_true n3]
            go_wp2
            go_quiet (fail)
            go_wp2_with fail
            refine (HT1.out HZ.out _ (below_drewN _ _)).mono ?_
            rintro e w2 ⟨rfl, hb⟩
            have i0 := cell_later (below_on (below_drewN _ _) hb) j0
            have i1 := cell_later (below_on (below_drewN _ _) hb) j1
            have i2 : ∀ o, w2.frozen? ⟨w.heap.size + 1, o, none⟩ = false := fun o => ((bcell (below_on (below_drewN _ _) hb)).2 _ _ (World.block_lt_of_cell? _ _ j0)).trans (j2 o)
            have HB2 := hide (below_on HB1.out (below_on (below_drewN _ _) hb))
            have HXe : Hid (XV = str XT) := by rw [Hid, HX.out, HZ.out, if_pos rfl]
            clear hb j0 j1 j2 v0 v1 v2 v3 v4 v5
            go_wp2
            refine bodyPost_ret (v := .agg #[.int .i64 0, .string (str XT)]) (by simp [results, Tryd.results12, go_sem, i0, i1]) rfl ⟨by rw [HZ.out, HXe.out], (HB2.out.setCell (by simp) _).setCell (by simp) _⟩
          · have HZ := hide (HR.out (fun k => n3 k.2.2))
            go_wp2_with fail
            refine (l16SmallB b _).mono ?_
            rintro e w9 ⟨rfl, rfl⟩
            rw [decide_eq_true n1]
            go_wp2_with fail
            refine (l16SmallB c _).mono ?_
            rintro e w9 ⟨rfl, rfl⟩
            rw [decide_eq_true n2]
            go_wp2_with fail
            refine (l16SmallB d _).mono ?_
            rintro e w9 ⟨rfl, rfl⟩
            rw [decide_eq_false n3]
            go_wp2
            have HXe : Hid (XV = { data := #[] }) := by rw [Hid, HX.out, HZ.out, if_neg (by decide)]
            refine bodyPost_ret (v := .agg #[.int .i64 3, .string { data := #[] }]) (by simp [results, Tryd.results12, go_sem, j0, j1]) rfl ⟨by rw [HZ.out, HXe.out], (HB1.out.setCell (by simp) _).setCell (by simp) _⟩
        · have HZ := hide (HR.out (fun k => n2 k.2.1))
          go_wp2_with fail
          refine (l16SmallB b _).mono ?_
          rintro e w9 ⟨rfl, rfl⟩
          rw [decide_eq_true n1]
          go_wp2_with fail
          refine (l16SmallB c _).mono ?_
          rintro e w9 ⟨rfl, rfl⟩
          rw [decide_eq_false n2]
          go_wp2
          have HXe : Hid (XV = { data := #[] }) := by rw [Hid, HX.out, HZ.out, if_neg (by decide)]
          refine bodyPost_ret (v := .agg #[.int .i64 3, .string { data := #[] }]) (by simp [results, Tryd.results12, go_sem, j0, j1]) rfl ⟨by rw [HZ.out, HXe.out], (HB1.out.setCell (by simp) _).setCell (by simp) _⟩
      · have HZ := hide (HR.out (fun k => n1 k.1))
        go_wp2_with fail
        refine (l16SmallB b _).mono ?_
        rintro e w9 ⟨rfl, rfl⟩
        rw [decide_eq_false n1]
        go_wp2
        have HXe : Hid (XV = { data := #[] }) := by rw [Hid, HX.out, HZ.out, if_neg (by decide)]
        refine bodyPost_ret (v := .agg #[.int .i64 3, .string { data := #[] }]) (by simp [results, Tryd.results12, go_sem, j0, j1]) rfl ⟨by rw [HZ.out, HXe.out], (HB1.out.setCell (by simp) _).setCell (by simp) _⟩
  · have HZ := hide (H0.out h0)
    have HXe : Hid (XV = { data := #[] }) := by rw [Hid, HX.out, HZ.out, if_neg h0]
    clear H0 H1 H2 H3 H4
    go_wp2
    refine bodyPost_ret (v := .agg #[.int .i64 f, .string { data := #[] }]) (by simp [results, Tryd.results12, go_sem, j0, j1]) rfl ⟨by rw [HZ.out, HXe.out], (HB1.out.setCell (by simp) _).setCell (by simp) _⟩
end Go.Proofs.YtcbapclpopbjbaaDoor
