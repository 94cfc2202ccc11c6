/- TxP in one text: what each says stands at its head below. -/
import Derived.Test.YtcbapclpopbjbaaDoorG30
import Derived.Test.YtcbapclpopbjbaaDoorG39
/- The text of an operation: the program ('impl.textFault', 'impl.textOf', 'impl.OpText'). Made by program (gentxo.py). -/
namespace Go.Proofs.YtcbapclpopbjbaaDoor
open Go.RowKit

set_option maxRecDepth 4000 in
set_option maxHeartbeats 4000000 in
/-- 'impl.textFault'. -/
theorem implTextFault {S T : Nat → Prop} {w : World} {y z : Value} (o : Rf) (hy : RdI S w y o.sn) (hz : RdJ T w z o.lg) :
    Calls Tryd.prog 35 #[.agg #[.int .i64 o.tm, .int .i64 o.vt, .int .i64 o.si, .int .i64 o.st, y, z]] w fun e w' => e = .returned (.int .i64 (otF o)) ∧ Below w.heap.size w w' := by
  have b0 := below_alloc w (.cells #[.int .i64 o.tm, .int .i64 o.vt, .int .i64 o.si, .int .i64 o.st, y, z] 39)
  have V := Var6_new w (.int .i64 o.tm) (.int .i64 o.vt) (.int .i64 o.si) (.int .i64 o.st) y z 39
  have HF := hide (implOpFault o (hy.later b0) (hz.later b0))
  obtain ⟨ay, cy, rfl⟩ := hy.shape
  obtain ⟨az, cz, rfl, hzm⟩ := hz.shape
  have HB0 := hide b0
  have HV0 := hide V
  have HZ0 := hide (hz.later b0)
  have H0 := hide (@otF_op o)
  have H1 := hide (@otF_many o)
  have H2 := hide (@otF_range o)
  have H3 := hide (@otF_form o)
  have H4 := hide (@otF_ok o)
  obtain ⟨Z, hZ⟩ : ∃ Z, otF o = Z := ⟨_, rfl⟩
  rw [hZ] at H0 H1 H2 H3 H4 ⊢
  obtain ⟨m, hm⟩ : ∃ m, o.lg.length = m := ⟨_, rfl⟩
  have HM := hide hm
  rw [hm] at HF HV0 HZ0 HB0 H1 H2 H3 H4 hzm ⊢
  have HX := hide (show (o.lg.getD 0 oj0).1 = (o.lg.getD 0 oj0).1 from rfl)
  generalize opF o = f at *
  generalize o.tm = a at *
  generalize o.vt = b at *
  generalize o.si = c at *
  generalize o.st = d at *
  generalize o.sn.length = l at *
  clear hy hz b0 V hZ hm HX
  go_enter Tryd.func35, Tryd.ntmps35
  go_wp2_with fail
  refine HF.out.mono ?_
  rintro e w1 ⟨rfl, hb⟩
  have HB1 := hide (below_on HB0.out hb)
  have HV1 := hide (HV0.out.later hb)
  have HZ1 := hide (HZ0.out.later hb)
  clear hb HF HB0 HV0 HZ0
  obtain ⟨v0, v1, v2, v3, v4, v5⟩ := HV1.out
  by_cases h0 : f = 0
  · by_cases h2 : a = 2
    · by_cases hm1 : m = 1
      · have HR := hide (fun k => H2.out h0 (fun q => q.2 hm1) k)
        have HQ := hide (fun k q => H3.out h0 (fun q => q.2 hm1) k q)
        have HK := hide (fun k q => H4.out h0 (fun q => q.2 hm1) k q)
        clear H0 H1 H2 H3 H4
        obtain ⟨eb, eo, V, he1, e0, _, _, _⟩ := HZ1.out.atT (k := 0) (by rw [HM.out]; omega)
        subst he1
        simp only [Nat.zero_mul, Nat.add_zero] at e0
        generalize (o.lg.getD 0 oj0).1 = x at *
        subst h0
        subst h2
        subst hm1
        clear HZ1 HM
        by_cases n1 : smN b
        · by_cases n2 : smN c
          · by_cases n3 : smN d
            · have hwb : IntKind.i64.wrap (b + 1) = b + 1 := by have := n1.1; have := n1.2; simp [IntKind.wrap, IntKind.bits, IntKind.signed]; omega
              by_cases hx : x = b + 1
              · have HZ := hide (HK.out ⟨n1, n2, n3⟩ (fun q => q.2 hx))
                subst hx
                go_wp2_with fail
                refine (isNumberB b _).mono ?_
                rintro e w9 ⟨rfl, rfl⟩
                rw [decide_eq_true n1]
                go_wp2_with fail
                refine (isNumberB c _).mono ?_
                rintro e w9 ⟨rfl, rfl⟩
                rw [decide_eq_true n2]
                go_wp2_with fail
                refine (isNumberB d _).mono ?_
                rintro e w9 ⟨rfl, rfl⟩
                rw [decide_eq_true n3]
                go_wp2
                go_quiet (fail)
                go_wp2
                go_ret
                exact ⟨by rw [HZ.out]; rfl, below_on HB1.out (below_drewN _ _)⟩
              · have HZ := hide (HQ.out ⟨n1, n2, n3⟩ ⟨rfl, hx⟩)
                have hxb : (x == b + 1) = false := by simpa using hx
                have hxb2 : (x != b + 1) = true := by simp [hx]
                go_wp2_with fail
                refine (isNumberB b _).mono ?_
                rintro e w9 ⟨rfl, rfl⟩
                rw [decide_eq_true n1]
                go_wp2_with fail
                refine (isNumberB c _).mono ?_
                rintro e w9 ⟨rfl, rfl⟩
                rw [decide_eq_true n2]
                go_wp2_with fail
                refine (isNumberB d _).mono ?_
                rintro e w9 ⟨rfl, rfl⟩
                rw [decide_eq_true n3]
                go_wp2
                go_quiet (fail)
                go_wp2
                go_ret
                exact ⟨by rw [HZ.out]; rfl, below_on HB1.out (below_drewN _ _)⟩
            · have HZ := hide (HR.out (fun k => n3 k.2.2))
              go_wp2_with fail
              refine (isNumberB b _).mono ?_
              rintro e w9 ⟨rfl, rfl⟩
              rw [decide_eq_true n1]
              go_wp2_with fail
              refine (isNumberB c _).mono ?_
              rintro e w9 ⟨rfl, rfl⟩
              rw [decide_eq_true n2]
              go_wp2_with fail
              refine (isNumberB d _).mono ?_
              rintro e w9 ⟨rfl, rfl⟩
              rw [decide_eq_false n3]
              go_wp2
              go_ret
              exact ⟨by rw [HZ.out]; rfl, HB1.out⟩
          · have HZ := hide (HR.out (fun k => n2 k.2.1))
            go_wp2_with fail
            refine (isNumberB b _).mono ?_
            rintro e w9 ⟨rfl, rfl⟩
            rw [decide_eq_true n1]
            go_wp2_with fail
            refine (isNumberB c _).mono ?_
            rintro e w9 ⟨rfl, rfl⟩
            rw [decide_eq_false n2]
            go_wp2
            go_ret
            exact ⟨by rw [HZ.out]; rfl, HB1.out⟩
        · have HZ := hide (HR.out (fun k => n1 k.1))
          go_wp2_with fail
          refine (isNumberB b _).mono ?_
          rintro e w9 ⟨rfl, rfl⟩
          rw [decide_eq_false n1]
          go_wp2
          go_ret
          exact ⟨by rw [HZ.out]; rfl, HB1.out⟩
      · have HZ := hide (H1.out h0 ⟨h2, hm1⟩)
        have hmb : ((m : Int) == 1) = false := by simp; omega
        have hmb2 : ((m : Int) != 1) = true := by simp; omega
        subst h0
        subst h2
        clear H0 H1 H2 H3 H4
        go_wp2
        go_ret
        exact ⟨by rw [HZ.out]; rfl, HB1.out⟩
    · have HR := hide (fun k => H2.out h0 (fun q => h2 q.1) k)
      have HK := hide (fun k => H4.out h0 (fun q => h2 q.1) k (fun q => h2 q.1))
      have hab : (a == 2) = false := by simpa using h2
      subst h0
      clear H0 H1 H2 H3 H4
      by_cases n1 : smN b
      · by_cases n2 : smN c
        · by_cases n3 : smN d
          · have HZ := hide (HK.out ⟨n1, n2, n3⟩)
            go_wp2_with fail
            refine (isNumberB b _).mono ?_
            rintro e w9 ⟨rfl, rfl⟩
            rw [decide_eq_true n1]
            go_wp2_with fail
            refine (isNumberB c _).mono ?_
            rintro e w9 ⟨rfl, rfl⟩
            rw [decide_eq_true n2]
            go_wp2_with fail
            refine (isNumberB d _).mono ?_
            rintro e w9 ⟨rfl, rfl⟩
            rw [decide_eq_true n3]
            go_wp2
            go_quiet (fail)
            go_wp2
            go_ret
            exact ⟨by rw [HZ.out]; rfl, below_on HB1.out (below_drewN _ _)⟩
          · have HZ := hide (HR.out (fun k => n3 k.2.2))
            go_wp2_with fail
            refine (isNumberB b _).mono ?_
            rintro e w9 ⟨rfl, rfl⟩
            rw [decide_eq_true n1]
            go_wp2_with fail
            refine (isNumberB c _).mono ?_
            rintro e w9 ⟨rfl, rfl⟩
            rw [decide_eq_true n2]
            go_wp2_with fail
            refine (isNumberB d _).mono ?_
            rintro e w9 ⟨rfl, rfl⟩
            rw [decide_eq_false n3]
            go_wp2
            go_ret
            exact ⟨by rw [HZ.out]; rfl, HB1.out⟩
        · have HZ := hide (HR.out (fun k => n2 k.2.1))
          go_wp2_with fail
          refine (isNumberB b _).mono ?_
          rintro e w9 ⟨rfl, rfl⟩
          rw [decide_eq_true n1]
          go_wp2_with fail
          refine (isNumberB c _).mono ?_
          rintro e w9 ⟨rfl, rfl⟩
          rw [decide_eq_false n2]
          go_wp2
          go_ret
          exact ⟨by rw [HZ.out]; rfl, HB1.out⟩
      · have HZ := hide (HR.out (fun k => n1 k.1))
        go_wp2_with fail
        refine (isNumberB b _).mono ?_
        rintro e w9 ⟨rfl, rfl⟩
        rw [decide_eq_false n1]
        go_wp2
        go_ret
        exact ⟨by rw [HZ.out]; rfl, HB1.out⟩
  · have HZ := hide (H0.out h0)
    clear H0 H1 H2 H3 H4
    go_wp2
    go_ret
    exact ⟨by rw [HZ.out]; rfl, HB1.out⟩

set_option maxRecDepth 4000 in
set_option maxHeartbeats 4000000 in
/-- 'impl.textOf' of an operation that has a text. -/
theorem implTextOf {S T : Nat → Prop} {w : World} {y z : Value} (o : Rf) (hy : RdI S w y o.sn) (hz : RdJ T w z o.lg) (hok : OtOk o) (htb : TabP w) :
    Calls Tryd.prog 36 #[.agg #[.int .i64 o.tm, .int .i64 o.vt, .int .i64 o.si, .int .i64 o.st, y, z]] w fun e w' => e = .returned (.string (str (opT o))) ∧ Below w.heap.size w w' := by
  have b0 := below_alloc w (.cells #[.int .i64 o.tm, .int .i64 o.vt, .int .i64 o.si, .int .i64 o.st, y, z] 39)
  have HV := hide (Var6_new w (.int .i64 o.tm) (.int .i64 o.vt) (.int .i64 o.si) (.int .i64 o.st) y z 39)
  have HY := hide (hy.later b0)
  have HZ := hide (hz.later b0)
  have HT := hide (htb.later b0)
  obtain ⟨ay, cy, rfl⟩ := hy.shape
  obtain ⟨az, cz, rfl, hzm⟩ := hz.shape
  have HB0 := hide b0
  have HO := hide hok
  obtain ⟨X, hX⟩ : ∃ X, opT o = X := ⟨_, rfl⟩
  have HX := hide hX
  have hkd := hok.kd
  clear hX b0 hy hz htb hok
  obtain ⟨v0, v1, v2, v3, v4, v5⟩ := HV.out
  rcases hkd with hk | hk | hk | hk | hk
  · have HR : Hid (lineT hardW [o.si, o.st] = X) := by rw [Hid, ← HX.out, opT, if_pos hk]
    have HC := hide (numbersC hardW (rdI_new2 (w.alloc (.cells #[.int .i64 o.tm, .int .i64 o.vt, .int .i64 o.si, .int .i64 o.st, .slice ay o.sn.length cy, .slice az o.lg.length cz] 39)) o.si o.st 2) (by simp) (by simp) (smN_nums2 HO.out.ns HO.out.nt) (HT.out.later (below_alloc _ _)) (by simp))
    rw [HR.out] at HC
    clear HO HY HZ HT HR
    generalize o.tm = a at *
    generalize o.vt = b at *
    generalize o.si = c at *
    generalize o.st = d at *
    generalize o.sn.length = l at *
    generalize o.lg.length = m at *
    subst hk
    have es : (w.alloc (.cells #[.int .i64 1, .int .i64 b, .int .i64 c, .int .i64 d, .slice ay l cy, .slice az m cz] 39)).heap.size = w.heap.size + 1 := by simp
    rw [es] at HC
    clear es
    go_enter Tryd.func36, Tryd.ntmps36
    go_wp2_with fail
    refine HC.out.mono ?_
    rintro e w1 ⟨rfl, hb⟩
    have HB1 := hide (below_on (below_on HB0.out (below_alloc _ _)) hb)
    clear hb HC
    go_wp2
    go_ret
    exact ⟨by rw [HX.out]; rfl, HB1.out⟩
  · obtain ⟨hm, hx, hd, hdl⟩ := HO.out.ap hk
    obtain ⟨eb, eo, V, he1, e0, e1, e2, e3⟩ := HZ.out.atT (k := 0) (by omega)
    subst he1
    obtain ⟨av, cv, rfl⟩ := e3.shape
    simp only [Nat.zero_mul, Nat.add_zero] at e0 e1 e2
    have HR : Hid (lineT appendW [o.vt, o.si, (o.lg.getD 0 oj0).2.1] ++ [32] ++ listT (o.lg.getD 0 oj0).2.2 = X) := by rw [Hid, ← HX.out, opT, if_neg (by omega), if_pos hk]
    have HC := hide (listC appendW ((e3.later (below_alloc _ (.cells #[.int .i64 (o.lg.getD 0 oj0).1, .int .i64 (o.lg.getD 0 oj0).2.1, .slice av (o.lg.getD 0 oj0).2.2.length cv] 64))).later (below_alloc _ (.cells #[.int .i64 o.vt, .int .i64 o.si, .int .i64 (o.lg.getD 0 oj0).2.1] 2))) (rdI_new3 _ o.vt o.si (o.lg.getD 0 oj0).2.1 2) (by simp) (by simp) (nums3 HO.out.nv HO.out.ns hx) (by omega) hd ((HT.out.later (below_alloc _ _)).later (below_alloc _ _)) (by simp))
    rw [HR.out] at HC
    clear hx hd hdl e3
    generalize (o.lg.getD 0 oj0).2.2.length = dl at *
    generalize (o.lg.getD 0 oj0).1 = x at *
    generalize (o.lg.getD 0 oj0).2.1 = t at *
    clear HO HY HZ HT HR
    generalize o.tm = a at *
    generalize o.vt = b at *
    generalize o.si = c at *
    generalize o.st = d at *
    generalize o.sn.length = l at *
    generalize o.lg.length = m at *
    subst hk
    subst hm
    have es : (w.alloc (.cells #[.int .i64 2, .int .i64 b, .int .i64 c, .int .i64 d, .slice ay l cy, .slice (some ⟨eb, eo, none⟩) 1 cz] 39)).heap.size = w.heap.size + 1 := by simp
    have es2 : ((w.alloc (.cells #[.int .i64 2, .int .i64 b, .int .i64 c, .int .i64 d, .slice ay l cy, .slice (some ⟨eb, eo, none⟩) 1 cz] 39)).alloc (.cells #[.int .i64 x, .int .i64 t, .slice av dl cv] 64)).heap.size = w.heap.size + 2 := by simp
    simp only [es2] at HC
    clear es es2
    go_enter Tryd.func36, Tryd.ntmps36
    go_wp2_with fail
    refine HC.out.mono ?_
    rintro e w1 ⟨rfl, hb⟩
    have HB1 := hide (below_on (below_on (below_on HB0.out (below_alloc _ _)) (below_alloc _ _)) hb)
    clear hb HC
    go_wp2
    go_ret
    exact ⟨by rw [HX.out]; rfl, HB1.out⟩
  · have HR : Hid (lineT compactW [o.vt] ++ [32] ++ listT o.sn = X) := by rw [Hid, ← HX.out, opT, if_neg (by omega), if_neg (by omega), if_pos hk]
    have HC := hide (listC compactW (HY.out.later (below_alloc _ (.cells #[.int .i64 o.vt] 2))) (rdI_new1 _ o.vt 2) (by simp) (by simp) (nums1 HO.out.nv) (by have := HO.out.sn.2; omega) HO.out.sn.1 (HT.out.later (below_alloc _ _)) (by simp))
    rw [HR.out] at HC
    clear HO HY HZ HT HR
    generalize o.tm = a at *
    generalize o.vt = b at *
    generalize o.si = c at *
    generalize o.st = d at *
    generalize o.sn.length = l at *
    generalize o.lg.length = m at *
    subst hk
    have es : (w.alloc (.cells #[.int .i64 3, .int .i64 b, .int .i64 c, .int .i64 d, .slice ay l cy, .slice az m cz] 39)).heap.size = w.heap.size + 1 := by simp
    rw [es] at HC
    clear es
    go_enter Tryd.func36, Tryd.ntmps36
    go_wp2_with fail
    refine HC.out.mono ?_
    rintro e w1 ⟨rfl, hb⟩
    have HB1 := hide (below_on (below_on HB0.out (below_alloc _ _)) hb)
    clear hb HC
    go_wp2
    go_ret
    exact ⟨by rw [HX.out]; rfl, HB1.out⟩
  · have HR : Hid (lineT installW [o.vt, o.si] ++ [32] ++ listT o.sn = X) := by rw [Hid, ← HX.out, opT, if_neg (by omega), if_neg (by omega), if_neg (by omega), if_pos hk]
    have HC := hide (listC installW (HY.out.later (below_alloc _ (.cells #[.int .i64 o.vt, .int .i64 o.si] 2))) (rdI_new2 _ o.vt o.si 2) (by simp) (by simp) (smN_nums2 HO.out.nv HO.out.ns) (by have := HO.out.sn.2; omega) HO.out.sn.1 (HT.out.later (below_alloc _ _)) (by simp))
    rw [HR.out] at HC
    clear HO HY HZ HT HR
    generalize o.tm = a at *
    generalize o.vt = b at *
    generalize o.si = c at *
    generalize o.st = d at *
    generalize o.sn.length = l at *
    generalize o.lg.length = m at *
    subst hk
    have es : (w.alloc (.cells #[.int .i64 4, .int .i64 b, .int .i64 c, .int .i64 d, .slice ay l cy, .slice az m cz] 39)).heap.size = w.heap.size + 1 := by simp
    rw [es] at HC
    clear es
    go_enter Tryd.func36, Tryd.ntmps36
    go_wp2_with fail
    refine HC.out.mono ?_
    rintro e w1 ⟨rfl, hb⟩
    have HB1 := hide (below_on (below_on HB0.out (below_alloc _ _)) hb)
    clear hb HC
    go_wp2
    go_ret
    exact ⟨by rw [HX.out]; rfl, HB1.out⟩
  · have HR : Hid (lineT readW [o.vt] = X) := by rw [Hid, ← HX.out, opT, if_neg (by omega), if_neg (by omega), if_neg (by omega), if_neg (by omega)]
    have HC := hide (numbersC readW (rdI_new1 (w.alloc (.cells #[.int .i64 o.tm, .int .i64 o.vt, .int .i64 o.si, .int .i64 o.st, .slice ay o.sn.length cy, .slice az o.lg.length cz] 39)) o.vt 2) (by simp) (by simp) (nums1 HO.out.nv) (HT.out.later (below_alloc _ _)) (by simp))
    rw [HR.out] at HC
    clear HO HY HZ HT HR
    generalize o.tm = a at *
    generalize o.vt = b at *
    generalize o.si = c at *
    generalize o.st = d at *
    generalize o.sn.length = l at *
    generalize o.lg.length = m at *
    subst hk
    have es : (w.alloc (.cells #[.int .i64 5, .int .i64 b, .int .i64 c, .int .i64 d, .slice ay l cy, .slice az m cz] 39)).heap.size = w.heap.size + 1 := by simp
    rw [es] at HC
    clear es
    go_enter Tryd.func36, Tryd.ntmps36
    go_wp2_with fail
    refine HC.out.mono ?_
    rintro e w1 ⟨rfl, hb⟩
    have HB1 := hide (below_on (below_on HB0.out (below_alloc _ _)) hb)
    clear hb HC
    go_wp2
    go_ret
    exact ⟨by rw [HX.out]; rfl, HB1.out⟩
end Go.Proofs.YtcbapclpopbjbaaDoor
