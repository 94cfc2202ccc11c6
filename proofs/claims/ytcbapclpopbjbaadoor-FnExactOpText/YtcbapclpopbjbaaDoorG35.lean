/- TxL in one text: what each says stands at its head below. -/
import Derived.Test.YtcbapclpopbjbaaDoorG30
/- The text of an operation: the model ('spec.l16Text'). Made by program (gentxo.py). -/
namespace Go.Proofs.YtcbapclpopbjbaaDoor
open Go.RowKit

set_option maxRecDepth 4000 in
set_option maxHeartbeats 4000000 in
/-- 'spec.l16Text' of an operation that has a text. -/
theorem l16Text {S T : Nat → Prop} {w : World} {bk : Nat} {y z : Value} (o : Rf) (hv : Var6 w bk (.int .i64 o.tm) (.int .i64 o.vt) (.int .i64 o.si) (.int .i64 o.st) y z) (hy : RdI S w y o.sn) (hz : RdJ T w z o.lg) (hok : OtOk o) :
    Calls Tryd.prog 32 #[.pointer (some ⟨bk, 0, none⟩)] w fun e w' => e = .returned (.string (str (opT o))) ∧ Below w.heap.size w w' := by
  have HV := hide hv
  have HY := hide hy
  have HZ := hide hz
  obtain ⟨ay, cy, rfl⟩ := hy.shape
  obtain ⟨az, cz, rfl, hzm⟩ := hz.shape
  have HO := hide hok
  obtain ⟨X, hX⟩ : ∃ X, opT o = X := ⟨_, rfl⟩
  have HX := hide hX
  have hkd := hok.kd
  clear hX hv hy hz hok
  obtain ⟨v0, v1, v2, v3, v4, v5⟩ := HV.out
  rcases hkd with hk | hk | hk | hk | hk
  · have HR : Hid (lineT hardW [o.si, o.st] = X) := by rw [Hid, ← HX.out, opT, if_pos hk]
    have H1 := hide (fun (w' : World) (v : Value) (h : RdI (fun _ => True) w' v [o.si, o.st]) => specLine hardW h (by simp) (smN_nums2 HO.out.ns HO.out.nt) (by simp))
    simp only [HR.out] at H1
    clear HO HY HZ HV
    generalize o.tm = a at *
    generalize o.vt = b at *
    generalize o.si = c at *
    generalize o.st = d at *
    generalize o.sn.length = l at *
    generalize o.lg.length = m at *
    subst hk
    go_enter Tryd.func32, Tryd.ntmps32
    go_wp2_with fail
    refine wp_region_held_drew (S := fun w' => Below w.heap.size w w') (by kernel_rfl) (below_drewN w 1) (fun hHeld => ?_)
    refine forgetH (fun wx => Below w.heap.size w wx) hHeld ?_
    clear hHeld
    rintro w0 hHeld
    refine wpAnyH_take (i := 0) (v := ?vc1x0) rfl (by kernel_rfl) (by kernel_rfl) (by kernel_rfl) (fun _ _ _ h => h) (Or.inl ⟨by rfl, ?hc1x0⟩) hHeld ?rc1x0
    case hc1x0 => intro w9 hSw; (try dsimp only at hSw); have q0 := cell_later hSw v0; have q1 := cell_later hSw v1; have q2 := cell_later hSw v2; have q3 := cell_later hSw v3; have q4 := cell_later hSw v4; have q5 := cell_later hSw v5; first | (go_simp; done) | (go_simp; with_reducible rfl)
    try simp only [Act.put, List.setIfInBounds_toArray, List.set_cons_zero, List.set_cons_succ, List.getElem_toArray, List.getElem_cons_zero]
    refine wpAnyH_take (i := 1) (v := ?vc2x1) rfl (by kernel_rfl) (by kernel_rfl) (by kernel_rfl) (fun _ _ _ h => h) (Or.inl ⟨by rfl, ?hc2x1⟩) hHeld ?rc2x1
    case hc2x1 => intro w9 hSw; (try dsimp only at hSw); have q0 := cell_later hSw v0; have q1 := cell_later hSw v1; have q2 := cell_later hSw v2; have q3 := cell_later hSw v3; have q4 := cell_later hSw v4; have q5 := cell_later hSw v5; first | (go_simp; done) | (go_simp; with_reducible rfl)
    try simp only [Act.put, List.setIfInBounds_toArray, List.set_cons_zero, List.set_cons_succ, List.getElem_toArray, List.getElem_cons_zero, List.getElem_cons_succ]
    refine wpAnyH_take (i := 2) (v := ?vc3x2) rfl (by kernel_rfl) (by kernel_rfl) (by kernel_rfl) (fun _ _ _ h => h) (Or.inl ⟨by rfl, ?hc3x2⟩) hHeld ?rc3x2
    case hc3x2 => intro w9 hSw; (try dsimp only at hSw); have q0 := cell_later hSw v0; have q1 := cell_later hSw v1; have q2 := cell_later hSw v2; have q3 := cell_later hSw v3; have q4 := cell_later hSw v4; have q5 := cell_later hSw v5; first | (go_simp; done) | (go_simp; with_reducible rfl)
    try simp only [Act.put, List.setIfInBounds_toArray, List.set_cons_zero, List.set_cons_succ, List.getElem_toArray, List.getElem_cons_zero, List.getElem_cons_succ]
    refine wpAnyH_take (i := 3) (v := ?vc4x3) rfl (by kernel_rfl) (by kernel_rfl) (by kernel_rfl) (fun _ _ _ h => h) (Or.inl ⟨by rfl, ?hc4x3⟩) hHeld ?rc4x3
    case hc4x3 => intro w9 hSw; (try dsimp only at hSw); have q0 := cell_later hSw v0; have q1 := cell_later hSw v1; have q2 := cell_later hSw v2; have q3 := cell_later hSw v3; have q4 := cell_later hSw v4; have q5 := cell_later hSw v5; first | (go_simp; done) | (go_simp; with_reducible rfl)
    try simp only [Act.put, List.setIfInBounds_toArray, List.set_cons_zero, List.set_cons_succ, List.getElem_toArray, List.getElem_cons_zero, List.getElem_cons_succ]
    refine wpAnyH_take (i := 4) (v := ?vc5x4) rfl (by kernel_rfl) (by kernel_rfl) (by kernel_rfl) (fun _ _ _ h => h) (Or.inl ⟨by rfl, ?hc5x4⟩) hHeld ?rc5x4
    case hc5x4 => intro w9 hSw; (try dsimp only at hSw); have q0 := cell_later hSw v0; have q1 := cell_later hSw v1; have q2 := cell_later hSw v2; have q3 := cell_later hSw v3; have q4 := cell_later hSw v4; have q5 := cell_later hSw v5; first | (go_simp; done) | (go_simp; with_reducible rfl)
    try simp only [Act.put, List.setIfInBounds_toArray, List.set_cons_zero, List.set_cons_succ, List.getElem_toArray, List.getElem_cons_zero, List.getElem_cons_succ]
    refine wpAnyH_take (i := 5) (v := ?vc6x5) rfl (by kernel_rfl) (by kernel_rfl) (by kernel_rfl) (fun _ _ _ h => h) (Or.inl ⟨by rfl, ?hc6x5⟩) hHeld ?rc6x5
    case hc6x5 => intro w9 hSw; (try dsimp only at hSw); have q0 := cell_later hSw v0; have q1 := cell_later hSw v1; have q2 := cell_later hSw v2; have q3 := cell_later hSw v3; have q4 := cell_later hSw v4; have q5 := cell_later hSw v5; first | (go_simp; done) | (go_simp; with_reducible rfl)
    try simp only [Act.put, List.setIfInBounds_toArray, List.set_cons_zero, List.set_cons_succ, List.getElem_toArray, List.getElem_cons_zero, List.getElem_cons_succ]
    refine wpAnyH_take (i := 6) (v := ?vc7x6) rfl (by kernel_rfl) (by kernel_rfl) (by kernel_rfl) (fun _ _ _ h => h) (Or.inl ⟨by rfl, ?hc7x6⟩) hHeld ?rc7x6
    case hc7x6 => intro w9 hSw; (try dsimp only at hSw); have q0 := cell_later hSw v0; have q1 := cell_later hSw v1; have q2 := cell_later hSw v2; have q3 := cell_later hSw v3; have q4 := cell_later hSw v4; have q5 := cell_later hSw v5; first | (go_simp; done) | (go_simp; with_reducible rfl)
    try simp only [Act.put, List.setIfInBounds_toArray, List.set_cons_zero, List.set_cons_succ, List.getElem_toArray, List.getElem_cons_zero, List.getElem_cons_succ]
    refine wpAnyH_take (i := 7) (v := ?vc8x7) rfl (by kernel_rfl) (by kernel_rfl) (by kernel_rfl) (fun _ _ _ h => h) (Or.inl ⟨by rfl, ?hc8x7⟩) hHeld ?rc8x7
    case hc8x7 => intro w9 hSw; (try dsimp only at hSw); have q0 := cell_later hSw v0; have q1 := cell_later hSw v1; have q2 := cell_later hSw v2; have q3 := cell_later hSw v3; have q4 := cell_later hSw v4; have q5 := cell_later hSw v5; first | (go_simp; done) | (go_simp; with_reducible rfl)
    try simp only [Act.put, List.setIfInBounds_toArray, List.set_cons_zero, List.set_cons_succ, List.getElem_toArray, List.getElem_cons_zero, List.getElem_cons_succ]
    refine wpAnyH_ready (rs := [8]) (by kernel_rfl) (by simp) (AllReadyH.cons rfl (fun K hK => ?_) AllReadyH.nil)
    go_simp
    refine hK.out _ _ (below_on hHeld (below_alloc w0 (.cells #[.int .i64 c, .int .i64 d] 2))) (fun hHeldx => ?_)
    clear hK K
    try simp only [Act.put, List.setIfInBounds_toArray, List.set_cons_zero, List.set_cons_succ, List.getElem_toArray, List.getElem_cons_zero, List.getElem_cons_succ]
    refine forgetH (fun wx => Below w.heap.size w wx ∧ RdI (fun _ => True) wx (.slice (some ⟨w0.heap.size, 0, none⟩) 2 2) [c, d]) ⟨hHeldx, rdI_new2 w0 _ _ _⟩ ?_
    clear hHeldx
    rintro w9 ⟨hHeld9, qX⟩
    have Q9X := hide qX
    clear qX
    refine wpAnyH_ready (rs := [9]) (by kernel_rfl) (by simp) (AllReadyH.cons rfl (fun K hK => ?_) AllReadyH.nil)
    go_simp
    go_at_call 54
    refine (H1.out w9 _ Q9X.out).mono ?_
    rintro e w10 ⟨rfl, hb⟩
    refine hK.out _ _ (below_on hHeld9 hb) (fun hHeld10 => ?_)
    clear hK K
    try simp only [Act.put, List.setIfInBounds_toArray, List.set_cons_zero, List.set_cons_succ, List.getElem_toArray, List.getElem_cons_zero, List.getElem_cons_succ]
    have Q10X := hide (Q9X.out.later hb)
    clear hb
    refine wpAnyH_take (i := 10) (v := ?vc11x10) rfl (by kernel_rfl) (by kernel_rfl) (by kernel_rfl) (fun _ _ _ h => h) (Or.inl ⟨by rfl, ?hc11x10⟩) hHeld10 ?rc11x10
    case hc11x10 => intro w9 hSw; (try dsimp only at hSw); have q0 := cell_later hSw v0; have q1 := cell_later hSw v1; have q2 := cell_later hSw v2; have q3 := cell_later hSw v3; have q4 := cell_later hSw v4; have q5 := cell_later hSw v5; first | (go_simp; done) | (go_simp; with_reducible rfl)
    try simp only [Act.put, List.setIfInBounds_toArray, List.set_cons_zero, List.set_cons_succ, List.getElem_toArray, List.getElem_cons_zero, List.getElem_cons_succ]
    refine wpAnyH_done (by kernel_rfl) ?_ _
    go_wp2
    go_ret
    exact ⟨by rw [HX.out]; rfl, hHeld10⟩
  · obtain ⟨hm, hx, hd, hdl⟩ := HO.out.ap hk
    obtain ⟨eb, eo, V, he1, e0, e1, e2, e3⟩ := HZ.out.atT (k := 0) (by omega)
    subst he1
    obtain ⟨av, cv, rfl⟩ := e3.shape
    simp only [Nat.zero_mul, Nat.add_zero] at e0 e1 e2
    have HR : Hid (lineT appendW [o.vt, o.si, (o.lg.getD 0 oj0).2.1] ++ [32] ++ listT (o.lg.getD 0 oj0).2.2 = X) := by rw [Hid, ← HX.out, opT, if_neg (by omega), if_pos hk]
    have hn := nums3 HO.out.nv HO.out.ns hx
    have hl1 := lineT_len (word := appendW) hn
    have hl2 := listT_len hd
    have H1 := hide (fun (w' : World) (v : Value) (h : RdI (fun _ => True) w' v [o.vt, o.si, (o.lg.getD 0 oj0).2.1]) => specLine appendW h (by simp) hn (by simp))
    have H2 := hide (fun (w' : World) (hb : Below w.heap.size w w') => specList (e3.later hb) (by omega) hd)
    simp only [List.length_cons, List.length_nil] at hl1
    have cat1 := catR (lineT appendW [o.vt, o.si, (o.lg.getD 0 oj0).2.1]) [32] _ rfl (by simp only [List.length_append, List.length_cons, List.length_nil]; omega)
    have cat2 := catR (lineT appendW [o.vt, o.si, (o.lg.getD 0 oj0).2.1] ++ [32]) (listT (o.lg.getD 0 oj0).2.2) X HR.out (by rw [← HR.out]; simp only [List.length_append, List.length_cons, List.length_nil]; omega)
    clear hx hd hdl e3 hl1 hl2 hn HR
    generalize listT (o.lg.getD 0 oj0).2.2 = A2 at *
    generalize (o.lg.getD 0 oj0).2.2.length = dl at *
    generalize lineT appendW [o.vt, o.si, (o.lg.getD 0 oj0).2.1] = A1 at *
    generalize (o.lg.getD 0 oj0).1 = x at *
    generalize (o.lg.getD 0 oj0).2.1 = t at *
    obtain ⟨A3, hA3⟩ : ∃ A, A1 ++ [32] = A := ⟨_, rfl⟩
    rw [hA3] at cat1 cat2
    clear hA3
    clear HO HY HZ HV
    generalize o.tm = a at *
    generalize o.vt = b at *
    generalize o.si = c at *
    generalize o.st = d at *
    generalize o.sn.length = l at *
    generalize o.lg.length = m at *
    subst hk
    subst hm
    go_enter Tryd.func32, Tryd.ntmps32
    go_wp2_with fail
    refine wp_region_held_drew (S := fun w' => Below w.heap.size w w') (by kernel_rfl) (below_drewN w 1) (fun hHeld => ?_)
    refine forgetH (fun wx => Below w.heap.size w wx) hHeld ?_
    clear hHeld
    rintro w0 hHeld
    refine wpAnyH_take (i := 0) (v := ?vd1x0) rfl (by kernel_rfl) (by kernel_rfl) (by kernel_rfl) (fun _ _ _ h => h) (Or.inl ⟨by rfl, ?hd1x0⟩) hHeld ?rd1x0
    case hd1x0 => intro w9 hSw; (try dsimp only at hSw); have q0 := cell_later hSw v0; have q1 := cell_later hSw v1; have q2 := cell_later hSw v2; have q3 := cell_later hSw v3; have q4 := cell_later hSw v4; have q5 := cell_later hSw v5; have q6 := cell_later hSw e0; have q7 := cell_later hSw e1; have q8 := cell_later hSw e2; first | (go_simp; done) | (go_simp; with_reducible rfl)
    try simp only [Act.put, List.setIfInBounds_toArray, List.set_cons_zero, List.set_cons_succ, List.getElem_toArray, List.getElem_cons_zero]
    refine wpAnyH_take (i := 1) (v := ?vd2x1) rfl (by kernel_rfl) (by kernel_rfl) (by kernel_rfl) (fun _ _ _ h => h) (Or.inl ⟨by rfl, ?hd2x1⟩) hHeld ?rd2x1
    case hd2x1 => intro w9 hSw; (try dsimp only at hSw); have q0 := cell_later hSw v0; have q1 := cell_later hSw v1; have q2 := cell_later hSw v2; have q3 := cell_later hSw v3; have q4 := cell_later hSw v4; have q5 := cell_later hSw v5; have q6 := cell_later hSw e0; have q7 := cell_later hSw e1; have q8 := cell_later hSw e2; first | (go_simp; done) | (go_simp; with_reducible rfl)
    try simp only [Act.put, List.setIfInBounds_toArray, List.set_cons_zero, List.set_cons_succ, List.getElem_toArray, List.getElem_cons_zero, List.getElem_cons_succ]
    refine wpAnyH_take (i := 2) (v := ?vd3x2) rfl (by kernel_rfl) (by kernel_rfl) (by kernel_rfl) (fun _ _ _ h => h) (Or.inl ⟨by rfl, ?hd3x2⟩) hHeld ?rd3x2
    case hd3x2 => intro w9 hSw; (try dsimp only at hSw); have q0 := cell_later hSw v0; have q1 := cell_later hSw v1; have q2 := cell_later hSw v2; have q3 := cell_later hSw v3; have q4 := cell_later hSw v4; have q5 := cell_later hSw v5; have q6 := cell_later hSw e0; have q7 := cell_later hSw e1; have q8 := cell_later hSw e2; first | (go_simp; done) | (go_simp; with_reducible rfl)
    try simp only [Act.put, List.setIfInBounds_toArray, List.set_cons_zero, List.set_cons_succ, List.getElem_toArray, List.getElem_cons_zero, List.getElem_cons_succ]
    refine wpAnyH_take (i := 3) (v := ?vd4x3) rfl (by kernel_rfl) (by kernel_rfl) (by kernel_rfl) (fun _ _ _ h => h) (Or.inl ⟨by rfl, ?hd4x3⟩) hHeld ?rd4x3
    case hd4x3 => intro w9 hSw; (try dsimp only at hSw); have q0 := cell_later hSw v0; have q1 := cell_later hSw v1; have q2 := cell_later hSw v2; have q3 := cell_later hSw v3; have q4 := cell_later hSw v4; have q5 := cell_later hSw v5; have q6 := cell_later hSw e0; have q7 := cell_later hSw e1; have q8 := cell_later hSw e2; first | (go_simp; done) | (go_simp; with_reducible rfl)
    try simp only [Act.put, List.setIfInBounds_toArray, List.set_cons_zero, List.set_cons_succ, List.getElem_toArray, List.getElem_cons_zero, List.getElem_cons_succ]
    refine wpAnyH_take (i := 4) (v := ?vd5x4) rfl (by kernel_rfl) (by kernel_rfl) (by kernel_rfl) (fun _ _ _ h => h) (Or.inl ⟨by rfl, ?hd5x4⟩) hHeld ?rd5x4
    case hd5x4 => intro w9 hSw; (try dsimp only at hSw); have q0 := cell_later hSw v0; have q1 := cell_later hSw v1; have q2 := cell_later hSw v2; have q3 := cell_later hSw v3; have q4 := cell_later hSw v4; have q5 := cell_later hSw v5; have q6 := cell_later hSw e0; have q7 := cell_later hSw e1; have q8 := cell_later hSw e2; first | (go_simp; done) | (go_simp; with_reducible rfl)
    try simp only [Act.put, List.setIfInBounds_toArray, List.set_cons_zero, List.set_cons_succ, List.getElem_toArray, List.getElem_cons_zero, List.getElem_cons_succ]
    refine wpAnyH_take (i := 5) (v := ?vd6x5) rfl (by kernel_rfl) (by kernel_rfl) (by kernel_rfl) (fun _ _ _ h => h) (Or.inl ⟨by rfl, ?hd6x5⟩) hHeld ?rd6x5
    case hd6x5 => intro w9 hSw; (try dsimp only at hSw); have q0 := cell_later hSw v0; have q1 := cell_later hSw v1; have q2 := cell_later hSw v2; have q3 := cell_later hSw v3; have q4 := cell_later hSw v4; have q5 := cell_later hSw v5; have q6 := cell_later hSw e0; have q7 := cell_later hSw e1; have q8 := cell_later hSw e2; first | (go_simp; done) | (go_simp; with_reducible rfl)
    try simp only [Act.put, List.setIfInBounds_toArray, List.set_cons_zero, List.set_cons_succ, List.getElem_toArray, List.getElem_cons_zero, List.getElem_cons_succ]
    refine wpAnyH_take (i := 6) (v := ?vd7x6) rfl (by kernel_rfl) (by kernel_rfl) (by kernel_rfl) (fun _ _ _ h => h) (Or.inl ⟨by rfl, ?hd7x6⟩) hHeld ?rd7x6
    case hd7x6 => intro w9 hSw; (try dsimp only at hSw); have q0 := cell_later hSw v0; have q1 := cell_later hSw v1; have q2 := cell_later hSw v2; have q3 := cell_later hSw v3; have q4 := cell_later hSw v4; have q5 := cell_later hSw v5; have q6 := cell_later hSw e0; have q7 := cell_later hSw e1; have q8 := cell_later hSw e2; first | (go_simp; done) | (go_simp; with_reducible rfl)
    try simp only [Act.put, List.setIfInBounds_toArray, List.set_cons_zero, List.set_cons_succ, List.getElem_toArray, List.getElem_cons_zero, List.getElem_cons_succ]
    refine wpAnyH_take (i := 7) (v := ?vd8x7) rfl (by kernel_rfl) (by kernel_rfl) (by kernel_rfl) (fun _ _ _ h => h) (Or.inl ⟨by rfl, ?hd8x7⟩) hHeld ?rd8x7
    case hd8x7 => intro w9 hSw; (try dsimp only at hSw); have q0 := cell_later hSw v0; have q1 := cell_later hSw v1; have q2 := cell_later hSw v2; have q3 := cell_later hSw v3; have q4 := cell_later hSw v4; have q5 := cell_later hSw v5; have q6 := cell_later hSw e0; have q7 := cell_later hSw e1; have q8 := cell_later hSw e2; first | (go_simp; done) | (go_simp; with_reducible rfl)
    try simp only [Act.put, List.setIfInBounds_toArray, List.set_cons_zero, List.set_cons_succ, List.getElem_toArray, List.getElem_cons_zero, List.getElem_cons_succ]
    refine wpAnyH_take (i := 8) (v := ?vd9x8) rfl (by kernel_rfl) (by kernel_rfl) (by kernel_rfl) (fun _ _ _ h => h) (Or.inl ⟨by rfl, ?hd9x8⟩) hHeld ?rd9x8
    case hd9x8 => intro w9 hSw; (try dsimp only at hSw); have q0 := cell_later hSw v0; have q1 := cell_later hSw v1; have q2 := cell_later hSw v2; have q3 := cell_later hSw v3; have q4 := cell_later hSw v4; have q5 := cell_later hSw v5; have q6 := cell_later hSw e0; have q7 := cell_later hSw e1; have q8 := cell_later hSw e2; first | (go_simp; done) | (go_simp; with_reducible rfl)
    try simp only [Act.put, List.setIfInBounds_toArray, List.set_cons_zero, List.set_cons_succ, List.getElem_toArray, List.getElem_cons_zero, List.getElem_cons_succ]
    refine wpAnyH_take (i := 9) (v := ?vd10x9) rfl (by kernel_rfl) (by kernel_rfl) (by kernel_rfl) (fun _ _ _ h => h) (Or.inl ⟨by rfl, ?hd10x9⟩) hHeld ?rd10x9
    case hd10x9 => intro w9 hSw; (try dsimp only at hSw); have q0 := cell_later hSw v0; have q1 := cell_later hSw v1; have q2 := cell_later hSw v2; have q3 := cell_later hSw v3; have q4 := cell_later hSw v4; have q5 := cell_later hSw v5; have q6 := cell_later hSw e0; have q7 := cell_later hSw e1; have q8 := cell_later hSw e2; first | (go_simp; done) | (go_simp; with_reducible rfl)
    try simp only [Act.put, List.setIfInBounds_toArray, List.set_cons_zero, List.set_cons_succ, List.getElem_toArray, List.getElem_cons_zero, List.getElem_cons_succ]
    refine wpAnyH_take (i := 10) (v := ?vd11x10) rfl (by kernel_rfl) (by kernel_rfl) (by kernel_rfl) (fun _ _ _ h => h) (Or.inl ⟨by rfl, ?hd11x10⟩) hHeld ?rd11x10
    case hd11x10 => intro w9 hSw; (try dsimp only at hSw); have q0 := cell_later hSw v0; have q1 := cell_later hSw v1; have q2 := cell_later hSw v2; have q3 := cell_later hSw v3; have q4 := cell_later hSw v4; have q5 := cell_later hSw v5; have q6 := cell_later hSw e0; have q7 := cell_later hSw e1; have q8 := cell_later hSw e2; first | (go_simp; done) | (go_simp; with_reducible rfl)
    try simp only [Act.put, List.setIfInBounds_toArray, List.set_cons_zero, List.set_cons_succ, List.getElem_toArray, List.getElem_cons_zero, List.getElem_cons_succ]
    refine wpAnyH_take (i := 11) (v := ?vd12x11) rfl (by kernel_rfl) (by kernel_rfl) (by kernel_rfl) (fun _ _ _ h => h) (Or.inl ⟨by rfl, ?hd12x11⟩) hHeld ?rd12x11
    case hd12x11 => intro w9 hSw; (try dsimp only at hSw); have q0 := cell_later hSw v0; have q1 := cell_later hSw v1; have q2 := cell_later hSw v2; have q3 := cell_later hSw v3; have q4 := cell_later hSw v4; have q5 := cell_later hSw v5; have q6 := cell_later hSw e0; have q7 := cell_later hSw e1; have q8 := cell_later hSw e2; first | (go_simp; done) | (go_simp; with_reducible rfl)
    try simp only [Act.put, List.setIfInBounds_toArray, List.set_cons_zero, List.set_cons_succ, List.getElem_toArray, List.getElem_cons_zero, List.getElem_cons_succ]
    refine wpAnyH_take (i := 12) (v := ?vd13x12) rfl (by kernel_rfl) (by kernel_rfl) (by kernel_rfl) (fun _ _ _ h => h) (Or.inl ⟨by rfl, ?hd13x12⟩) hHeld ?rd13x12
    case hd13x12 => intro w9 hSw; (try dsimp only at hSw); have q0 := cell_later hSw v0; have q1 := cell_later hSw v1; have q2 := cell_later hSw v2; have q3 := cell_later hSw v3; have q4 := cell_later hSw v4; have q5 := cell_later hSw v5; have q6 := cell_later hSw e0; have q7 := cell_later hSw e1; have q8 := cell_later hSw e2; first | (go_simp; done) | (go_simp; with_reducible rfl)
    try simp only [Act.put, List.setIfInBounds_toArray, List.set_cons_zero, List.set_cons_succ, List.getElem_toArray, List.getElem_cons_zero, List.getElem_cons_succ]
    refine wpAnyH_take (i := 13) (v := ?vd14x13) rfl (by kernel_rfl) (by kernel_rfl) (by kernel_rfl) (fun _ _ _ h => h) (Or.inl ⟨by rfl, ?hd14x13⟩) hHeld ?rd14x13
    case hd14x13 => intro w9 hSw; (try dsimp only at hSw); have q0 := cell_later hSw v0; have q1 := cell_later hSw v1; have q2 := cell_later hSw v2; have q3 := cell_later hSw v3; have q4 := cell_later hSw v4; have q5 := cell_later hSw v5; have q6 := cell_later hSw e0; have q7 := cell_later hSw e1; have q8 := cell_later hSw e2; first | (go_simp; done) | (go_simp; with_reducible rfl)
    try simp only [Act.put, List.setIfInBounds_toArray, List.set_cons_zero, List.set_cons_succ, List.getElem_toArray, List.getElem_cons_zero, List.getElem_cons_succ]
    refine wpAnyH_take (i := 14) (v := ?vd15x14) rfl (by kernel_rfl) (by kernel_rfl) (by kernel_rfl) (fun _ _ _ h => h) (Or.inl ⟨by rfl, ?hd15x14⟩) hHeld ?rd15x14
    case hd15x14 => intro w9 hSw; (try dsimp only at hSw); have q0 := cell_later hSw v0; have q1 := cell_later hSw v1; have q2 := cell_later hSw v2; have q3 := cell_later hSw v3; have q4 := cell_later hSw v4; have q5 := cell_later hSw v5; have q6 := cell_later hSw e0; have q7 := cell_later hSw e1; have q8 := cell_later hSw e2; first | (go_simp; done) | (go_simp; with_reducible rfl)
    try simp only [Act.put, List.setIfInBounds_toArray, List.set_cons_zero, List.set_cons_succ, List.getElem_toArray, List.getElem_cons_zero, List.getElem_cons_succ]
    refine wpAnyH_take (i := 18) (v := ?vd16x18) rfl (by kernel_rfl) (by kernel_rfl) (by kernel_rfl) (fun _ _ _ h => h) (Or.inl ⟨by rfl, ?hd16x18⟩) hHeld ?rd16x18
    case hd16x18 => intro w9 hSw; (try dsimp only at hSw); have q0 := cell_later hSw v0; have q1 := cell_later hSw v1; have q2 := cell_later hSw v2; have q3 := cell_later hSw v3; have q4 := cell_later hSw v4; have q5 := cell_later hSw v5; have q6 := cell_later hSw e0; have q7 := cell_later hSw e1; have q8 := cell_later hSw e2; first | (go_simp; done) | (go_simp; with_reducible rfl)
    try simp only [Act.put, List.setIfInBounds_toArray, List.set_cons_zero, List.set_cons_succ, List.getElem_toArray, List.getElem_cons_zero, List.getElem_cons_succ]
    refine wpAnyH_take (i := 19) (v := ?vd17x19) rfl (by kernel_rfl) (by kernel_rfl) (by kernel_rfl) (fun _ _ _ h => h) (Or.inl ⟨by rfl, ?hd17x19⟩) hHeld ?rd17x19
    case hd17x19 => intro w9 hSw; (try dsimp only at hSw); have q0 := cell_later hSw v0; have q1 := cell_later hSw v1; have q2 := cell_later hSw v2; have q3 := cell_later hSw v3; have q4 := cell_later hSw v4; have q5 := cell_later hSw v5; have q6 := cell_later hSw e0; have q7 := cell_later hSw e1; have q8 := cell_later hSw e2; first | (go_simp; done) | (go_simp; with_reducible rfl)
    try simp only [Act.put, List.setIfInBounds_toArray, List.set_cons_zero, List.set_cons_succ, List.getElem_toArray, List.getElem_cons_zero, List.getElem_cons_succ]
    refine wpAnyH_take (i := 20) (v := ?vd18x20) rfl (by kernel_rfl) (by kernel_rfl) (by kernel_rfl) (fun _ _ _ h => h) (Or.inl ⟨by rfl, ?hd18x20⟩) hHeld ?rd18x20
    case hd18x20 => intro w9 hSw; (try dsimp only at hSw); have q0 := cell_later hSw v0; have q1 := cell_later hSw v1; have q2 := cell_later hSw v2; have q3 := cell_later hSw v3; have q4 := cell_later hSw v4; have q5 := cell_later hSw v5; have q6 := cell_later hSw e0; have q7 := cell_later hSw e1; have q8 := cell_later hSw e2; first | (go_simp; done) | (go_simp; with_reducible rfl)
    try simp only [Act.put, List.setIfInBounds_toArray, List.set_cons_zero, List.set_cons_succ, List.getElem_toArray, List.getElem_cons_zero, List.getElem_cons_succ]
    refine wpAnyH_take (i := 21) (v := ?vd19x21) rfl (by kernel_rfl) (by kernel_rfl) (by kernel_rfl) (fun _ _ _ h => h) (Or.inl ⟨by rfl, ?hd19x21⟩) hHeld ?rd19x21
    case hd19x21 => intro w9 hSw; (try dsimp only at hSw); have q0 := cell_later hSw v0; have q1 := cell_later hSw v1; have q2 := cell_later hSw v2; have q3 := cell_later hSw v3; have q4 := cell_later hSw v4; have q5 := cell_later hSw v5; have q6 := cell_later hSw e0; have q7 := cell_later hSw e1; have q8 := cell_later hSw e2; first | (go_simp; done) | (go_simp; with_reducible rfl)
    try simp only [Act.put, List.setIfInBounds_toArray, List.set_cons_zero, List.set_cons_succ, List.getElem_toArray, List.getElem_cons_zero, List.getElem_cons_succ]
    refine wpAnyH_take (i := 22) (v := ?vd20x22) rfl (by kernel_rfl) (by kernel_rfl) (by kernel_rfl) (fun _ _ _ h => h) (Or.inl ⟨by rfl, ?hd20x22⟩) hHeld ?rd20x22
    case hd20x22 => intro w9 hSw; (try dsimp only at hSw); have q0 := cell_later hSw v0; have q1 := cell_later hSw v1; have q2 := cell_later hSw v2; have q3 := cell_later hSw v3; have q4 := cell_later hSw v4; have q5 := cell_later hSw v5; have q6 := cell_later hSw e0; have q7 := cell_later hSw e1; have q8 := cell_later hSw e2; first | (go_simp; done) | (go_simp; with_reducible rfl)
    try simp only [Act.put, List.setIfInBounds_toArray, List.set_cons_zero, List.set_cons_succ, List.getElem_toArray, List.getElem_cons_zero, List.getElem_cons_succ]
    refine wpAnyH_take (i := 23) (v := ?vd21x23) rfl (by kernel_rfl) (by kernel_rfl) (by kernel_rfl) (fun _ _ _ h => h) (Or.inl ⟨by rfl, ?hd21x23⟩) hHeld ?rd21x23
    case hd21x23 => intro w9 hSw; (try dsimp only at hSw); have q0 := cell_later hSw v0; have q1 := cell_later hSw v1; have q2 := cell_later hSw v2; have q3 := cell_later hSw v3; have q4 := cell_later hSw v4; have q5 := cell_later hSw v5; have q6 := cell_later hSw e0; have q7 := cell_later hSw e1; have q8 := cell_later hSw e2; first | (go_simp; done) | (go_simp; with_reducible rfl)
    try simp only [Act.put, List.setIfInBounds_toArray, List.set_cons_zero, List.set_cons_succ, List.getElem_toArray, List.getElem_cons_zero, List.getElem_cons_succ]
    refine wpAnyH_take (i := 24) (v := ?vd22x24) rfl (by kernel_rfl) (by kernel_rfl) (by kernel_rfl) (fun _ _ _ h => h) (Or.inl ⟨by rfl, ?hd22x24⟩) hHeld ?rd22x24
    case hd22x24 => intro w9 hSw; (try dsimp only at hSw); have q0 := cell_later hSw v0; have q1 := cell_later hSw v1; have q2 := cell_later hSw v2; have q3 := cell_later hSw v3; have q4 := cell_later hSw v4; have q5 := cell_later hSw v5; have q6 := cell_later hSw e0; have q7 := cell_later hSw e1; have q8 := cell_later hSw e2; first | (go_simp; done) | (go_simp; with_reducible rfl)
    try simp only [Act.put, List.setIfInBounds_toArray, List.set_cons_zero, List.set_cons_succ, List.getElem_toArray, List.getElem_cons_zero, List.getElem_cons_succ]
    refine wpAnyH_ready (rs := [15]) (by kernel_rfl) (by simp) (AllReadyH.cons rfl (fun K hK => ?_) AllReadyH.nil)
    go_simp
    refine hK.out _ _ (below_on hHeld (below_alloc w0 (.cells #[.int .i64 b, .int .i64 c, .int .i64 t] 2))) (fun hHeldx => ?_)
    clear hK K
    try simp only [Act.put, List.setIfInBounds_toArray, List.set_cons_zero, List.set_cons_succ, List.getElem_toArray, List.getElem_cons_zero, List.getElem_cons_succ]
    refine forgetH (fun wx => Below w.heap.size w wx ∧ RdI (fun _ => True) wx (.slice (some ⟨w0.heap.size, 0, none⟩) 3 3) [b, c, t]) ⟨hHeldx, rdI_new3 w0 _ _ _ _⟩ ?_
    clear hHeldx
    rintro w23 ⟨hHeld23, qX⟩
    have Q23X := hide qX
    clear qX
    refine wpAnyH_ready (rs := [16]) (by kernel_rfl) (by simp) (AllReadyH.cons rfl (fun K hK => ?_) AllReadyH.nil)
    go_simp
    go_at_call 54
    refine (H1.out w23 _ Q23X.out).mono ?_
    rintro e w24 ⟨rfl, hb⟩
    refine hK.out _ _ (below_on hHeld23 hb) (fun hHeld24 => ?_)
    clear hK K
    try simp only [Act.put, List.setIfInBounds_toArray, List.set_cons_zero, List.set_cons_succ, List.getElem_toArray, List.getElem_cons_zero, List.getElem_cons_succ]
    have Q24X := hide (Q23X.out.later hb)
    clear hb
    refine wpAnyH_take (i := 17) (v := ?vd25x17) rfl (by kernel_rfl) (by kernel_rfl) (by kernel_rfl) (fun _ _ _ h => h) (Or.inl ⟨by rfl, ?hd25x17⟩) hHeld24 ?rd25x17
    case hd25x17 => intro w9 hSw; (try dsimp only at hSw); have q0 := cell_later hSw v0; have q1 := cell_later hSw v1; have q2 := cell_later hSw v2; have q3 := cell_later hSw v3; have q4 := cell_later hSw v4; have q5 := cell_later hSw v5; have q6 := cell_later hSw e0; have q7 := cell_later hSw e1; have q8 := cell_later hSw e2; first | (go_simp; done) | (go_simp; with_reducible rfl)
    try simp only [Act.put, List.setIfInBounds_toArray, List.set_cons_zero, List.set_cons_succ, List.getElem_toArray, List.getElem_cons_zero, List.getElem_cons_succ]
    refine wpAnyH_ready (rs := [25]) (by kernel_rfl) (by simp) (AllReadyH.cons rfl (fun K hK => ?_) AllReadyH.nil)
    go_simp
    go_at_call 55
    refine (H2.out w24 hHeld24).mono ?_
    rintro e w26 ⟨rfl, hb⟩
    refine hK.out _ _ (below_on hHeld24 hb) (fun hHeld26 => ?_)
    clear hK K
    try simp only [Act.put, List.setIfInBounds_toArray, List.set_cons_zero, List.set_cons_succ, List.getElem_toArray, List.getElem_cons_zero, List.getElem_cons_succ]
    have Q26X := hide (Q24X.out.later hb)
    clear hb
    refine wpAnyH_take (i := 26) (v := ?vd27x26) rfl (by kernel_rfl) (by kernel_rfl) (by kernel_rfl) (fun _ _ _ h => h) (Or.inl ⟨by rfl, ?hd27x26⟩) hHeld26 ?rd27x26
    case hd27x26 => intro w9 hSw; (try dsimp only at hSw); have q0 := cell_later hSw v0; have q1 := cell_later hSw v1; have q2 := cell_later hSw v2; have q3 := cell_later hSw v3; have q4 := cell_later hSw v4; have q5 := cell_later hSw v5; have q6 := cell_later hSw e0; have q7 := cell_later hSw e1; have q8 := cell_later hSw e2; first | (go_simp; done) | (go_simp; with_reducible rfl)
    try simp only [Act.put, List.setIfInBounds_toArray, List.set_cons_zero, List.set_cons_succ, List.getElem_toArray, List.getElem_cons_zero, List.getElem_cons_succ]
    refine wpAnyH_take (i := 27) (v := ?vd28x27) rfl (by kernel_rfl) (by kernel_rfl) (by kernel_rfl) (fun _ _ _ h => h) (Or.inl ⟨by rfl, ?hd28x27⟩) hHeld26 ?rd28x27
    case hd28x27 => intro w9 hSw; (try dsimp only at hSw); have q0 := cell_later hSw v0; have q1 := cell_later hSw v1; have q2 := cell_later hSw v2; have q3 := cell_later hSw v3; have q4 := cell_later hSw v4; have q5 := cell_later hSw v5; have q6 := cell_later hSw e0; have q7 := cell_later hSw e1; have q8 := cell_later hSw e2; first | (go_simp; done) | (go_simp; with_reducible rfl)
    try simp only [Act.put, List.setIfInBounds_toArray, List.set_cons_zero, List.set_cons_succ, List.getElem_toArray, List.getElem_cons_zero, List.getElem_cons_succ]
    refine wpAnyH_done (by kernel_rfl) ?_ _
    go_wp2
    go_ret
    exact ⟨by rw [HX.out]; rfl, hHeld26⟩
  · have HR : Hid (lineT compactW [o.vt] ++ [32] ++ listT o.sn = X) := by rw [Hid, ← HX.out, opT, if_neg (by omega), if_neg (by omega), if_pos hk]
    have hn := nums1 HO.out.nv
    have hl2 := listT_len HO.out.sn.1
    have hls := HO.out.sn.2
    have H2 := hide (fun (w' : World) (hb : Below w.heap.size w w') => specList (HY.out.later hb) (by have := HO.out.sn.2; omega) HO.out.sn.1)
    have H1 := hide (fun (w' : World) (v : Value) (h : RdI (fun _ => True) w' v [o.vt]) => specLine compactW h (by simp) hn (by simp))
    have cat1 := catR (lineT compactW [o.vt]) [32] _ rfl (by have := lineT_len (word := compactW) hn; simp at this ⊢; omega)
    have cat2 := catR (lineT compactW [o.vt] ++ [32]) (listT o.sn) X HR.out (by have := lineT_len (word := compactW) hn; rw [← HR.out]; simp at this ⊢; omega)
    generalize lineT compactW [o.vt] = A1 at *
    clear hl2 hls hn HR
    generalize listT o.sn = A2 at *
    obtain ⟨A3, hA3⟩ : ∃ A, A1 ++ [32] = A := ⟨_, rfl⟩
    rw [hA3] at cat1 cat2
    clear hA3
    clear HO HY HZ HV
    generalize o.tm = a at *
    generalize o.vt = b at *
    generalize o.si = c at *
    generalize o.st = d at *
    generalize o.sn.length = l at *
    generalize o.lg.length = m at *
    subst hk
    go_enter Tryd.func32, Tryd.ntmps32
    go_wp2_with fail
    refine wp_region_held_drew (S := fun w' => Below w.heap.size w w') (by kernel_rfl) (below_drewN w 1) (fun hHeld => ?_)
    refine forgetH (fun wx => Below w.heap.size w wx) hHeld ?_
    clear hHeld
    rintro w0 hHeld
    refine wpAnyH_take (i := 0) (v := ?ve1x0) rfl (by kernel_rfl) (by kernel_rfl) (by kernel_rfl) (fun _ _ _ h => h) (Or.inl ⟨by rfl, ?he1x0⟩) hHeld ?re1x0
    case he1x0 => intro w9 hSw; (try dsimp only at hSw); have q0 := cell_later hSw v0; have q1 := cell_later hSw v1; have q2 := cell_later hSw v2; have q3 := cell_later hSw v3; have q4 := cell_later hSw v4; have q5 := cell_later hSw v5; first | (go_simp; done) | (go_simp; with_reducible rfl)
    try simp only [Act.put, List.setIfInBounds_toArray, List.set_cons_zero, List.set_cons_succ, List.getElem_toArray, List.getElem_cons_zero]
    refine wpAnyH_take (i := 1) (v := ?ve2x1) rfl (by kernel_rfl) (by kernel_rfl) (by kernel_rfl) (fun _ _ _ h => h) (Or.inl ⟨by rfl, ?he2x1⟩) hHeld ?re2x1
    case he2x1 => intro w9 hSw; (try dsimp only at hSw); have q0 := cell_later hSw v0; have q1 := cell_later hSw v1; have q2 := cell_later hSw v2; have q3 := cell_later hSw v3; have q4 := cell_later hSw v4; have q5 := cell_later hSw v5; first | (go_simp; done) | (go_simp; with_reducible rfl)
    try simp only [Act.put, List.setIfInBounds_toArray, List.set_cons_zero, List.set_cons_succ, List.getElem_toArray, List.getElem_cons_zero, List.getElem_cons_succ]
    refine wpAnyH_take (i := 2) (v := ?ve3x2) rfl (by kernel_rfl) (by kernel_rfl) (by kernel_rfl) (fun _ _ _ h => h) (Or.inl ⟨by rfl, ?he3x2⟩) hHeld ?re3x2
    case he3x2 => intro w9 hSw; (try dsimp only at hSw); have q0 := cell_later hSw v0; have q1 := cell_later hSw v1; have q2 := cell_later hSw v2; have q3 := cell_later hSw v3; have q4 := cell_later hSw v4; have q5 := cell_later hSw v5; first | (go_simp; done) | (go_simp; with_reducible rfl)
    try simp only [Act.put, List.setIfInBounds_toArray, List.set_cons_zero, List.set_cons_succ, List.getElem_toArray, List.getElem_cons_zero, List.getElem_cons_succ]
    refine wpAnyH_take (i := 3) (v := ?ve4x3) rfl (by kernel_rfl) (by kernel_rfl) (by kernel_rfl) (fun _ _ _ h => h) (Or.inl ⟨by rfl, ?he4x3⟩) hHeld ?re4x3
    case he4x3 => intro w9 hSw; (try dsimp only at hSw); have q0 := cell_later hSw v0; have q1 := cell_later hSw v1; have q2 := cell_later hSw v2; have q3 := cell_later hSw v3; have q4 := cell_later hSw v4; have q5 := cell_later hSw v5; first | (go_simp; done) | (go_simp; with_reducible rfl)
    try simp only [Act.put, List.setIfInBounds_toArray, List.set_cons_zero, List.set_cons_succ, List.getElem_toArray, List.getElem_cons_zero, List.getElem_cons_succ]
    refine wpAnyH_take (i := 7) (v := ?ve5x7) rfl (by kernel_rfl) (by kernel_rfl) (by kernel_rfl) (fun _ _ _ h => h) (Or.inl ⟨by rfl, ?he5x7⟩) hHeld ?re5x7
    case he5x7 => intro w9 hSw; (try dsimp only at hSw); have q0 := cell_later hSw v0; have q1 := cell_later hSw v1; have q2 := cell_later hSw v2; have q3 := cell_later hSw v3; have q4 := cell_later hSw v4; have q5 := cell_later hSw v5; first | (go_simp; done) | (go_simp; with_reducible rfl)
    try simp only [Act.put, List.setIfInBounds_toArray, List.set_cons_zero, List.set_cons_succ, List.getElem_toArray, List.getElem_cons_zero, List.getElem_cons_succ]
    refine wpAnyH_take (i := 8) (v := ?ve6x8) rfl (by kernel_rfl) (by kernel_rfl) (by kernel_rfl) (fun _ _ _ h => h) (Or.inl ⟨by rfl, ?he6x8⟩) hHeld ?re6x8
    case he6x8 => intro w9 hSw; (try dsimp only at hSw); have q0 := cell_later hSw v0; have q1 := cell_later hSw v1; have q2 := cell_later hSw v2; have q3 := cell_later hSw v3; have q4 := cell_later hSw v4; have q5 := cell_later hSw v5; first | (go_simp; done) | (go_simp; with_reducible rfl)
    try simp only [Act.put, List.setIfInBounds_toArray, List.set_cons_zero, List.set_cons_succ, List.getElem_toArray, List.getElem_cons_zero, List.getElem_cons_succ]
    refine wpAnyH_take (i := 9) (v := ?ve7x9) rfl (by kernel_rfl) (by kernel_rfl) (by kernel_rfl) (fun _ _ _ h => h) (Or.inl ⟨by rfl, ?he7x9⟩) hHeld ?re7x9
    case he7x9 => intro w9 hSw; (try dsimp only at hSw); have q0 := cell_later hSw v0; have q1 := cell_later hSw v1; have q2 := cell_later hSw v2; have q3 := cell_later hSw v3; have q4 := cell_later hSw v4; have q5 := cell_later hSw v5; first | (go_simp; done) | (go_simp; with_reducible rfl)
    try simp only [Act.put, List.setIfInBounds_toArray, List.set_cons_zero, List.set_cons_succ, List.getElem_toArray, List.getElem_cons_zero, List.getElem_cons_succ]
    refine wpAnyH_take (i := 10) (v := ?ve8x10) rfl (by kernel_rfl) (by kernel_rfl) (by kernel_rfl) (fun _ _ _ h => h) (Or.inl ⟨by rfl, ?he8x10⟩) hHeld ?re8x10
    case he8x10 => intro w9 hSw; (try dsimp only at hSw); have q0 := cell_later hSw v0; have q1 := cell_later hSw v1; have q2 := cell_later hSw v2; have q3 := cell_later hSw v3; have q4 := cell_later hSw v4; have q5 := cell_later hSw v5; first | (go_simp; done) | (go_simp; with_reducible rfl)
    try simp only [Act.put, List.setIfInBounds_toArray, List.set_cons_zero, List.set_cons_succ, List.getElem_toArray, List.getElem_cons_zero, List.getElem_cons_succ]
    refine wpAnyH_ready (rs := [4]) (by kernel_rfl) (by simp) (AllReadyH.cons rfl (fun K hK => ?_) AllReadyH.nil)
    go_simp
    refine hK.out _ _ (below_on hHeld (below_alloc w0 (.cells #[.int .i64 b] 2))) (fun hHeldx => ?_)
    clear hK K
    try simp only [Act.put, List.setIfInBounds_toArray, List.set_cons_zero, List.set_cons_succ, List.getElem_toArray, List.getElem_cons_zero, List.getElem_cons_succ]
    refine forgetH (fun wx => Below w.heap.size w wx ∧ RdI (fun _ => True) wx (.slice (some ⟨w0.heap.size, 0, none⟩) 1 1) [b]) ⟨hHeldx, rdI_new1 w0 _ _⟩ ?_
    clear hHeldx
    rintro w9 ⟨hHeld9, qX⟩
    have Q9X := hide qX
    clear qX
    refine wpAnyH_ready (rs := [5]) (by kernel_rfl) (by simp) (AllReadyH.cons rfl (fun K hK => ?_) AllReadyH.nil)
    go_simp
    go_at_call 54
    refine (H1.out w9 _ Q9X.out).mono ?_
    rintro e w10 ⟨rfl, hb⟩
    refine hK.out _ _ (below_on hHeld9 hb) (fun hHeld10 => ?_)
    clear hK K
    try simp only [Act.put, List.setIfInBounds_toArray, List.set_cons_zero, List.set_cons_succ, List.getElem_toArray, List.getElem_cons_zero, List.getElem_cons_succ]
    have Q10X := hide (Q9X.out.later hb)
    clear hb
    refine wpAnyH_take (i := 6) (v := ?ve11x6) rfl (by kernel_rfl) (by kernel_rfl) (by kernel_rfl) (fun _ _ _ h => h) (Or.inl ⟨by rfl, ?he11x6⟩) hHeld10 ?re11x6
    case he11x6 => intro w9 hSw; (try dsimp only at hSw); have q0 := cell_later hSw v0; have q1 := cell_later hSw v1; have q2 := cell_later hSw v2; have q3 := cell_later hSw v3; have q4 := cell_later hSw v4; have q5 := cell_later hSw v5; first | (go_simp; done) | (go_simp; with_reducible rfl)
    try simp only [Act.put, List.setIfInBounds_toArray, List.set_cons_zero, List.set_cons_succ, List.getElem_toArray, List.getElem_cons_zero, List.getElem_cons_succ]
    refine wpAnyH_ready (rs := [11]) (by kernel_rfl) (by simp) (AllReadyH.cons rfl (fun K hK => ?_) AllReadyH.nil)
    go_simp
    go_at_call 55
    refine (H2.out w10 hHeld10).mono ?_
    rintro e w12 ⟨rfl, hb⟩
    refine hK.out _ _ (below_on hHeld10 hb) (fun hHeld12 => ?_)
    clear hK K
    try simp only [Act.put, List.setIfInBounds_toArray, List.set_cons_zero, List.set_cons_succ, List.getElem_toArray, List.getElem_cons_zero, List.getElem_cons_succ]
    have Q12X := hide (Q10X.out.later hb)
    clear hb
    refine wpAnyH_take (i := 12) (v := ?ve13x12) rfl (by kernel_rfl) (by kernel_rfl) (by kernel_rfl) (fun _ _ _ h => h) (Or.inl ⟨by rfl, ?he13x12⟩) hHeld12 ?re13x12
    case he13x12 => intro w9 hSw; (try dsimp only at hSw); have q0 := cell_later hSw v0; have q1 := cell_later hSw v1; have q2 := cell_later hSw v2; have q3 := cell_later hSw v3; have q4 := cell_later hSw v4; have q5 := cell_later hSw v5; first | (go_simp; done) | (go_simp; with_reducible rfl)
    try simp only [Act.put, List.setIfInBounds_toArray, List.set_cons_zero, List.set_cons_succ, List.getElem_toArray, List.getElem_cons_zero, List.getElem_cons_succ]
    refine wpAnyH_take (i := 13) (v := ?ve14x13) rfl (by kernel_rfl) (by kernel_rfl) (by kernel_rfl) (fun _ _ _ h => h) (Or.inl ⟨by rfl, ?he14x13⟩) hHeld12 ?re14x13
    case he14x13 => intro w9 hSw; (try dsimp only at hSw); have q0 := cell_later hSw v0; have q1 := cell_later hSw v1; have q2 := cell_later hSw v2; have q3 := cell_later hSw v3; have q4 := cell_later hSw v4; have q5 := cell_later hSw v5; first | (go_simp; done) | (go_simp; with_reducible rfl)
    try simp only [Act.put, List.setIfInBounds_toArray, List.set_cons_zero, List.set_cons_succ, List.getElem_toArray, List.getElem_cons_zero, List.getElem_cons_succ]
    refine wpAnyH_done (by kernel_rfl) ?_ _
    go_wp2
    go_ret
    exact ⟨by rw [HX.out]; rfl, hHeld12⟩
  · have HR : Hid (lineT installW [o.vt, o.si] ++ [32] ++ listT o.sn = X) := by rw [Hid, ← HX.out, opT, if_neg (by omega), if_neg (by omega), if_neg (by omega), if_pos hk]
    have hn := smN_nums2 HO.out.nv HO.out.ns
    have hl2 := listT_len HO.out.sn.1
    have hls := HO.out.sn.2
    have H2 := hide (fun (w' : World) (hb : Below w.heap.size w w') => specList (HY.out.later hb) (by have := HO.out.sn.2; omega) HO.out.sn.1)
    have H1 := hide (fun (w' : World) (v : Value) (h : RdI (fun _ => True) w' v [o.vt, o.si]) => specLine installW h (by simp) hn (by simp))
    have cat1 := catR (lineT installW [o.vt, o.si]) [32] _ rfl (by have := lineT_len (word := installW) hn; simp at this ⊢; omega)
    have cat2 := catR (lineT installW [o.vt, o.si] ++ [32]) (listT o.sn) X HR.out (by have := lineT_len (word := installW) hn; rw [← HR.out]; simp at this ⊢; omega)
    generalize lineT installW [o.vt, o.si] = A1 at *
    clear hl2 hls hn HR
    generalize listT o.sn = A2 at *
    obtain ⟨A3, hA3⟩ : ∃ A, A1 ++ [32] = A := ⟨_, rfl⟩
    rw [hA3] at cat1 cat2
    clear hA3
    clear HO HY HZ HV
    generalize o.tm = a at *
    generalize o.vt = b at *
    generalize o.si = c at *
    generalize o.st = d at *
    generalize o.sn.length = l at *
    generalize o.lg.length = m at *
    subst hk
    go_enter Tryd.func32, Tryd.ntmps32
    go_wp2_with fail
    refine wp_region_held_drew (S := fun w' => Below w.heap.size w w') (by kernel_rfl) (below_drewN w 1) (fun hHeld => ?_)
    refine forgetH (fun wx => Below w.heap.size w wx) hHeld ?_
    clear hHeld
    rintro w0 hHeld
    refine wpAnyH_take (i := 0) (v := ?vf1x0) rfl (by kernel_rfl) (by kernel_rfl) (by kernel_rfl) (fun _ _ _ h => h) (Or.inl ⟨by rfl, ?hf1x0⟩) hHeld ?rf1x0
    case hf1x0 => intro w9 hSw; (try dsimp only at hSw); have q0 := cell_later hSw v0; have q1 := cell_later hSw v1; have q2 := cell_later hSw v2; have q3 := cell_later hSw v3; have q4 := cell_later hSw v4; have q5 := cell_later hSw v5; first | (go_simp; done) | (go_simp; with_reducible rfl)
    try simp only [Act.put, List.setIfInBounds_toArray, List.set_cons_zero, List.set_cons_succ, List.getElem_toArray, List.getElem_cons_zero]
    refine wpAnyH_take (i := 1) (v := ?vf2x1) rfl (by kernel_rfl) (by kernel_rfl) (by kernel_rfl) (fun _ _ _ h => h) (Or.inl ⟨by rfl, ?hf2x1⟩) hHeld ?rf2x1
    case hf2x1 => intro w9 hSw; (try dsimp only at hSw); have q0 := cell_later hSw v0; have q1 := cell_later hSw v1; have q2 := cell_later hSw v2; have q3 := cell_later hSw v3; have q4 := cell_later hSw v4; have q5 := cell_later hSw v5; first | (go_simp; done) | (go_simp; with_reducible rfl)
    try simp only [Act.put, List.setIfInBounds_toArray, List.set_cons_zero, List.set_cons_succ, List.getElem_toArray, List.getElem_cons_zero, List.getElem_cons_succ]
    refine wpAnyH_take (i := 2) (v := ?vf3x2) rfl (by kernel_rfl) (by kernel_rfl) (by kernel_rfl) (fun _ _ _ h => h) (Or.inl ⟨by rfl, ?hf3x2⟩) hHeld ?rf3x2
    case hf3x2 => intro w9 hSw; (try dsimp only at hSw); have q0 := cell_later hSw v0; have q1 := cell_later hSw v1; have q2 := cell_later hSw v2; have q3 := cell_later hSw v3; have q4 := cell_later hSw v4; have q5 := cell_later hSw v5; first | (go_simp; done) | (go_simp; with_reducible rfl)
    try simp only [Act.put, List.setIfInBounds_toArray, List.set_cons_zero, List.set_cons_succ, List.getElem_toArray, List.getElem_cons_zero, List.getElem_cons_succ]
    refine wpAnyH_take (i := 3) (v := ?vf4x3) rfl (by kernel_rfl) (by kernel_rfl) (by kernel_rfl) (fun _ _ _ h => h) (Or.inl ⟨by rfl, ?hf4x3⟩) hHeld ?rf4x3
    case hf4x3 => intro w9 hSw; (try dsimp only at hSw); have q0 := cell_later hSw v0; have q1 := cell_later hSw v1; have q2 := cell_later hSw v2; have q3 := cell_later hSw v3; have q4 := cell_later hSw v4; have q5 := cell_later hSw v5; first | (go_simp; done) | (go_simp; with_reducible rfl)
    try simp only [Act.put, List.setIfInBounds_toArray, List.set_cons_zero, List.set_cons_succ, List.getElem_toArray, List.getElem_cons_zero, List.getElem_cons_succ]
    refine wpAnyH_take (i := 4) (v := ?vf5x4) rfl (by kernel_rfl) (by kernel_rfl) (by kernel_rfl) (fun _ _ _ h => h) (Or.inl ⟨by rfl, ?hf5x4⟩) hHeld ?rf5x4
    case hf5x4 => intro w9 hSw; (try dsimp only at hSw); have q0 := cell_later hSw v0; have q1 := cell_later hSw v1; have q2 := cell_later hSw v2; have q3 := cell_later hSw v3; have q4 := cell_later hSw v4; have q5 := cell_later hSw v5; first | (go_simp; done) | (go_simp; with_reducible rfl)
    try simp only [Act.put, List.setIfInBounds_toArray, List.set_cons_zero, List.set_cons_succ, List.getElem_toArray, List.getElem_cons_zero, List.getElem_cons_succ]
    refine wpAnyH_take (i := 5) (v := ?vf6x5) rfl (by kernel_rfl) (by kernel_rfl) (by kernel_rfl) (fun _ _ _ h => h) (Or.inl ⟨by rfl, ?hf6x5⟩) hHeld ?rf6x5
    case hf6x5 => intro w9 hSw; (try dsimp only at hSw); have q0 := cell_later hSw v0; have q1 := cell_later hSw v1; have q2 := cell_later hSw v2; have q3 := cell_later hSw v3; have q4 := cell_later hSw v4; have q5 := cell_later hSw v5; first | (go_simp; done) | (go_simp; with_reducible rfl)
    try simp only [Act.put, List.setIfInBounds_toArray, List.set_cons_zero, List.set_cons_succ, List.getElem_toArray, List.getElem_cons_zero, List.getElem_cons_succ]
    refine wpAnyH_take (i := 6) (v := ?vf7x6) rfl (by kernel_rfl) (by kernel_rfl) (by kernel_rfl) (fun _ _ _ h => h) (Or.inl ⟨by rfl, ?hf7x6⟩) hHeld ?rf7x6
    case hf7x6 => intro w9 hSw; (try dsimp only at hSw); have q0 := cell_later hSw v0; have q1 := cell_later hSw v1; have q2 := cell_later hSw v2; have q3 := cell_later hSw v3; have q4 := cell_later hSw v4; have q5 := cell_later hSw v5; first | (go_simp; done) | (go_simp; with_reducible rfl)
    try simp only [Act.put, List.setIfInBounds_toArray, List.set_cons_zero, List.set_cons_succ, List.getElem_toArray, List.getElem_cons_zero, List.getElem_cons_succ]
    refine wpAnyH_take (i := 7) (v := ?vf8x7) rfl (by kernel_rfl) (by kernel_rfl) (by kernel_rfl) (fun _ _ _ h => h) (Or.inl ⟨by rfl, ?hf8x7⟩) hHeld ?rf8x7
    case hf8x7 => intro w9 hSw; (try dsimp only at hSw); have q0 := cell_later hSw v0; have q1 := cell_later hSw v1; have q2 := cell_later hSw v2; have q3 := cell_later hSw v3; have q4 := cell_later hSw v4; have q5 := cell_later hSw v5; first | (go_simp; done) | (go_simp; with_reducible rfl)
    try simp only [Act.put, List.setIfInBounds_toArray, List.set_cons_zero, List.set_cons_succ, List.getElem_toArray, List.getElem_cons_zero, List.getElem_cons_succ]
    refine wpAnyH_take (i := 11) (v := ?vf9x11) rfl (by kernel_rfl) (by kernel_rfl) (by kernel_rfl) (fun _ _ _ h => h) (Or.inl ⟨by rfl, ?hf9x11⟩) hHeld ?rf9x11
    case hf9x11 => intro w9 hSw; (try dsimp only at hSw); have q0 := cell_later hSw v0; have q1 := cell_later hSw v1; have q2 := cell_later hSw v2; have q3 := cell_later hSw v3; have q4 := cell_later hSw v4; have q5 := cell_later hSw v5; first | (go_simp; done) | (go_simp; with_reducible rfl)
    try simp only [Act.put, List.setIfInBounds_toArray, List.set_cons_zero, List.set_cons_succ, List.getElem_toArray, List.getElem_cons_zero, List.getElem_cons_succ]
    refine wpAnyH_take (i := 12) (v := ?vf10x12) rfl (by kernel_rfl) (by kernel_rfl) (by kernel_rfl) (fun _ _ _ h => h) (Or.inl ⟨by rfl, ?hf10x12⟩) hHeld ?rf10x12
    case hf10x12 => intro w9 hSw; (try dsimp only at hSw); have q0 := cell_later hSw v0; have q1 := cell_later hSw v1; have q2 := cell_later hSw v2; have q3 := cell_later hSw v3; have q4 := cell_later hSw v4; have q5 := cell_later hSw v5; first | (go_simp; done) | (go_simp; with_reducible rfl)
    try simp only [Act.put, List.setIfInBounds_toArray, List.set_cons_zero, List.set_cons_succ, List.getElem_toArray, List.getElem_cons_zero, List.getElem_cons_succ]
    refine wpAnyH_take (i := 13) (v := ?vf11x13) rfl (by kernel_rfl) (by kernel_rfl) (by kernel_rfl) (fun _ _ _ h => h) (Or.inl ⟨by rfl, ?hf11x13⟩) hHeld ?rf11x13
    case hf11x13 => intro w9 hSw; (try dsimp only at hSw); have q0 := cell_later hSw v0; have q1 := cell_later hSw v1; have q2 := cell_later hSw v2; have q3 := cell_later hSw v3; have q4 := cell_later hSw v4; have q5 := cell_later hSw v5; first | (go_simp; done) | (go_simp; with_reducible rfl)
    try simp only [Act.put, List.setIfInBounds_toArray, List.set_cons_zero, List.set_cons_succ, List.getElem_toArray, List.getElem_cons_zero, List.getElem_cons_succ]
    refine wpAnyH_take (i := 14) (v := ?vf12x14) rfl (by kernel_rfl) (by kernel_rfl) (by kernel_rfl) (fun _ _ _ h => h) (Or.inl ⟨by rfl, ?hf12x14⟩) hHeld ?rf12x14
    case hf12x14 => intro w9 hSw; (try dsimp only at hSw); have q0 := cell_later hSw v0; have q1 := cell_later hSw v1; have q2 := cell_later hSw v2; have q3 := cell_later hSw v3; have q4 := cell_later hSw v4; have q5 := cell_later hSw v5; first | (go_simp; done) | (go_simp; with_reducible rfl)
    try simp only [Act.put, List.setIfInBounds_toArray, List.set_cons_zero, List.set_cons_succ, List.getElem_toArray, List.getElem_cons_zero, List.getElem_cons_succ]
    refine wpAnyH_ready (rs := [8]) (by kernel_rfl) (by simp) (AllReadyH.cons rfl (fun K hK => ?_) AllReadyH.nil)
    go_simp
    refine hK.out _ _ (below_on hHeld (below_alloc w0 (.cells #[.int .i64 b, .int .i64 c] 2))) (fun hHeldx => ?_)
    clear hK K
    try simp only [Act.put, List.setIfInBounds_toArray, List.set_cons_zero, List.set_cons_succ, List.getElem_toArray, List.getElem_cons_zero, List.getElem_cons_succ]
    refine forgetH (fun wx => Below w.heap.size w wx ∧ RdI (fun _ => True) wx (.slice (some ⟨w0.heap.size, 0, none⟩) 2 2) [b, c]) ⟨hHeldx, rdI_new2 w0 _ _ _⟩ ?_
    clear hHeldx
    rintro w13 ⟨hHeld13, qX⟩
    have Q13X := hide qX
    clear qX
    refine wpAnyH_ready (rs := [9]) (by kernel_rfl) (by simp) (AllReadyH.cons rfl (fun K hK => ?_) AllReadyH.nil)
    go_simp
    go_at_call 54
    refine (H1.out w13 _ Q13X.out).mono ?_
    rintro e w14 ⟨rfl, hb⟩
    refine hK.out _ _ (below_on hHeld13 hb) (fun hHeld14 => ?_)
    clear hK K
    try simp only [Act.put, List.setIfInBounds_toArray, List.set_cons_zero, List.set_cons_succ, List.getElem_toArray, List.getElem_cons_zero, List.getElem_cons_succ]
    have Q14X := hide (Q13X.out.later hb)
    clear hb
    refine wpAnyH_take (i := 10) (v := ?vf15x10) rfl (by kernel_rfl) (by kernel_rfl) (by kernel_rfl) (fun _ _ _ h => h) (Or.inl ⟨by rfl, ?hf15x10⟩) hHeld14 ?rf15x10
    case hf15x10 => intro w9 hSw; (try dsimp only at hSw); have q0 := cell_later hSw v0; have q1 := cell_later hSw v1; have q2 := cell_later hSw v2; have q3 := cell_later hSw v3; have q4 := cell_later hSw v4; have q5 := cell_later hSw v5; first | (go_simp; done) | (go_simp; with_reducible rfl)
    try simp only [Act.put, List.setIfInBounds_toArray, List.set_cons_zero, List.set_cons_succ, List.getElem_toArray, List.getElem_cons_zero, List.getElem_cons_succ]
    refine wpAnyH_ready (rs := [15]) (by kernel_rfl) (by simp) (AllReadyH.cons rfl (fun K hK => ?_) AllReadyH.nil)
    go_simp
    go_at_call 55
    refine (H2.out w14 hHeld14).mono ?_
    rintro e w16 ⟨rfl, hb⟩
    refine hK.out _ _ (below_on hHeld14 hb) (fun hHeld16 => ?_)
    clear hK K
    try simp only [Act.put, List.setIfInBounds_toArray, List.set_cons_zero, List.set_cons_succ, List.getElem_toArray, List.getElem_cons_zero, List.getElem_cons_succ]
    have Q16X := hide (Q14X.out.later hb)
    clear hb
    refine wpAnyH_take (i := 16) (v := ?vf17x16) rfl (by kernel_rfl) (by kernel_rfl) (by kernel_rfl) (fun _ _ _ h => h) (Or.inl ⟨by rfl, ?hf17x16⟩) hHeld16 ?rf17x16
    case hf17x16 => intro w9 hSw; (try dsimp only at hSw); have q0 := cell_later hSw v0; have q1 := cell_later hSw v1; have q2 := cell_later hSw v2; have q3 := cell_later hSw v3; have q4 := cell_later hSw v4; have q5 := cell_later hSw v5; first | (go_simp; done) | (go_simp; with_reducible rfl)
    try simp only [Act.put, List.setIfInBounds_toArray, List.set_cons_zero, List.set_cons_succ, List.getElem_toArray, List.getElem_cons_zero, List.getElem_cons_succ]
    refine wpAnyH_take (i := 17) (v := ?vf18x17) rfl (by kernel_rfl) (by kernel_rfl) (by kernel_rfl) (fun _ _ _ h => h) (Or.inl ⟨by rfl, ?hf18x17⟩) hHeld16 ?rf18x17
    case hf18x17 => intro w9 hSw; (try dsimp only at hSw); have q0 := cell_later hSw v0; have q1 := cell_later hSw v1; have q2 := cell_later hSw v2; have q3 := cell_later hSw v3; have q4 := cell_later hSw v4; have q5 := cell_later hSw v5; first | (go_simp; done) | (go_simp; with_reducible rfl)
    try simp only [Act.put, List.setIfInBounds_toArray, List.set_cons_zero, List.set_cons_succ, List.getElem_toArray, List.getElem_cons_zero, List.getElem_cons_succ]
    refine wpAnyH_done (by kernel_rfl) ?_ _
    go_wp2
    go_ret
    exact ⟨by rw [HX.out]; rfl, hHeld16⟩
  · have HR : Hid (lineT readW [o.vt] = X) := by rw [Hid, ← HX.out, opT, if_neg (by omega), if_neg (by omega), if_neg (by omega), if_neg (by omega)]
    have H1 := hide (specLine readW (rdI_new1 w o.vt 2) (by simp) (nums1 HO.out.nv) (by simp))
    rw [HR.out] at H1
    clear HO HY HZ HV
    generalize o.tm = a at *
    generalize o.vt = b at *
    generalize o.si = c at *
    generalize o.st = d at *
    generalize o.sn.length = l at *
    generalize o.lg.length = m at *
    subst hk
    go_enter Tryd.func32, Tryd.ntmps32
    go_wp2_with fail
    refine H1.out.mono ?_
    rintro e w1 ⟨rfl, hb⟩
    have HB1 := hide (below_on (below_alloc _ _) hb)
    clear hb H1
    go_wp2
    go_ret
    exact ⟨by rw [HX.out]; rfl, HB1.out⟩
end Go.Proofs.YtcbapclpopbjbaaDoor
