/- TxI in one text: what each says stands at its head below. -/
import Derived.Test.YtcbapclpopbjbaaDoorG30
import Derived.Test.YtcbapclpopbjbaaDoorG38
import Derived.Test.YtcbapclpopbjbaaDoorG35
/- The text of a store: 'impl.RaftText'. Made by program (gentxi.py). -/
namespace Go.Proofs.YtcbapclpopbjbaaDoor
open Go.RowKit

theorem rowOf2 (w : World) (a b : Value) (e : TypeId) : (w.alloc (.cells #[a, b] e)).ownsRow w.heap.size e 1 (.slice (some ⟨w.heap.size, 0, none⟩) 2 2) 2 [a, b] :=
  ⟨by simp, .inr ⟨w.heap.size, 2, #[a, b], rfl, Nat.le_refl _, heap_alloc_new w _, Nat.le_refl _, by unfold maxLen; omega, by simp, by simp⟩⟩
theorem own_upT {w : World} {base base' size n : Nat} {e : TypeId} {v : Value} {xs : List Value} (h : w.ownsRow base e size v n xs) (hb : base' ≤ base) : w.ownsRow base' e size v n xs :=
  ⟨h.1, h.2.elim Or.inl fun ⟨g, cap, cur, hv, hg, r⟩ => Or.inr ⟨g, cap, cur, hv, Nat.le_trans hb hg, r⟩⟩
/-- The lines of a store up to its k-th entry. -/
def rlT (r : Rf) (k : Nat) : List (List UInt8) := lineT termW [r.tm, r.vt] :: snapT r :: (r.lg.take k).map entT
theorem rlT_lines (r : Rf) : linesT (rlT r r.lg.length) = raftT r := by
  rw [rlT, List.take_of_length_le (Nat.le_refl _)]
  simp [linesT, raftT, headT, entsT, List.flatMap_map]
theorem rlT_next (r : Rf) (k : Nat) (h : k < r.lg.length) : rlT r (k + 1) = rlT r k ++ [entT (r.lg.getD k oj0)] := by
  have e : r.lg.getD k oj0 = r.lg[k] := by simp [List.getD, h]
  unfold rlT
  rw [List.take_succ_eq_append_getElem h, List.map_append, e]
  rfl
theorem rlT_len (r : Rf) (k : Nat) (h : k ≤ r.lg.length) : (rlT r k).length = k + 2 := by
  simp [rlT]; omega

set_option maxRecDepth 4000 in
set_option maxHeartbeats 4000000 in
theorem implRaftText {S T : Nat → Prop} {w : World} {y z : Value} (r : Rf) (hy : RdI S w y r.sn) (hz : RdJ T w z r.lg) (htb : TabP w) :
    Calls Tryd.prog 20 #[.agg #[.int .i64 r.tm, .int .i64 r.vt, .int .i64 r.si, .int .i64 r.st, y, z]] w fun e w' => e = .returned (.agg #[.int .i64 (rfF r), .string (txV r)]) ∧ Below w.heap.size w w' := by
  obtain ⟨i0, hi, hz0, hz1, hz2⟩ := info_parts Tryd.infoStr
  have b0 := below_alloc w (.cells #[.int .i64 r.tm, .int .i64 r.vt, .int .i64 r.si, .int .i64 r.st, y, z] 49)
  have b1 := below_alloc (w.alloc (.cells #[.int .i64 r.tm, .int .i64 r.vt, .int .i64 r.si, .int .i64 r.st, y, z] 49)) (.cells #[.int .i64 0, .string { data := #[] }] 35)
  have V := (Var6_new w (.int .i64 r.tm) (.int .i64 r.vt) (.int .i64 r.si) (.int .i64 r.st) y z 49).later b1
  have HF := hide (implRaftFault r (hy.later (below_on b0 b1)) (hz.later (below_on b0 b1)))
  obtain ⟨ay, cy, rfl⟩ := hy.shape
  obtain ⟨az, cz, rfl, hzm⟩ := hz.shape
  have k0 : ((w.alloc (.cells #[.int .i64 r.tm, .int .i64 r.vt, .int .i64 r.si, .int .i64 r.st, .slice ay r.sn.length cy, .slice az r.lg.length cz] 49)).alloc (.cells #[.int .i64 0, .string { data := #[] }] 35)).cell? ⟨w.heap.size + 1, 0, none⟩ = some (.int .i64 0) := by simp [go_sem]
  have k1 : ((w.alloc (.cells #[.int .i64 r.tm, .int .i64 r.vt, .int .i64 r.si, .int .i64 r.st, .slice ay r.sn.length cy, .slice az r.lg.length cz] 49)).alloc (.cells #[.int .i64 0, .string { data := #[] }] 35)).cell? ⟨w.heap.size + 1, 1, none⟩ = some (.string { data := #[] }) := by simp [go_sem]
  have k2 : ∀ o, ((w.alloc (.cells #[.int .i64 r.tm, .int .i64 r.vt, .int .i64 r.si, .int .i64 r.st, .slice ay r.sn.length cy, .slice az r.lg.length cz] 49)).alloc (.cells #[.int .i64 0, .string { data := #[] }] 35)).frozen? ⟨w.heap.size + 1, o, none⟩ = false := fun o => by simp [go_sem]
  have HBo := hide (below_on b0 b1)
  have HVo := hide V
  have HYo := hide hy
  have HZo := hide hz
  have HTo := hide htb
  have HX := hide (show txV r = if rfF r = 0 then str (raftT r) else { data := #[] } from rfl)
  have HOK := hide (@txOk r)
  have HJl := hide (rlT_lines r)
  have HNx := hide (rlT_next r)
  have HLn := hide (rlT_len r)
  generalize txV r = X at *
  generalize rfF r = f at *
  have HR0 := hide (show (raftT r) = raftT r from rfl)
  clear V b0 b1 hy hz htb HR0
  obtain ⟨v0, v1, v2, v3, v4, v5⟩ := HVo.out
  go_enter Tryd.func20, Tryd.ntmps20
  go_wp2_with fail
  refine HF.out.mono ?_
  rintro e w1 ⟨rfl, hb⟩
  have hs1 : w.heap.size + 2 ≤ w1.heap.size := by have := hb.size; simpa using this
  have HBw := hide hb
  have HB1 := hide (below_on HBo.out hb)
  have j0 := cell_later hb k0
  have j1 := cell_later hb k1
  have j2 : ∀ o, w1.frozen? ⟨w.heap.size + 1, o, none⟩ = false := fun o => ((bcell hb).2 _ _ (by simp)).trans (k2 o)
  have HV1 := hide (HVo.out.later hb)
  have HY1 := hide (HYo.out.later HB1.out)
  have HZ1 := hide (HZo.out.later HB1.out)
  have HT1 := hide (HTo.out.later HB1.out)
  clear hb HF HBo HVo HYo HZo HTo k0 k1 k2 v0 v1 v2 v3 v4 v5 HBw
  by_cases h0 : f = 0
  · have hok : TxOk r := HOK.out h0
    subst h0
    have HX' : Hid (X = str (raftT r)) := by rw [Hid, HX.out, if_pos rfl]
    have hll := hok.ll
    have HLb := hide (headT_len hok)
    have HLe := hide (entsT_len hok)
    have H1 := hide (fun (w' : World) (v : Value) (hb : Below w1.heap.size w1 w') (h : RdI (fun _ => True) w' v [r.tm, r.vt]) => numbersC termW h (by simp) (by simp) hok.hd (HT1.out.later hb) (by simp))
    have H2 := hide (fun (w' : World) (v : Value) (hb : Below w1.heap.size w1 w') (h : RdI (fun _ => True) w' v [r.si, r.st]) => listC snapW (HY1.out.later hb) h (by simp) (by simp) hok.sp (by have := hok.sn.2; omega) hok.sn.1 (HT1.out.later hb) (by simp))
    have HE := hide (fun (S' : Nat → Prop) (w' : World) (u v : Value) (k : Nat) (hk : k < r.lg.length) (ht : TabP w') (hu : RdI S' w' u (r.lg.getD k oj0).2.2) (h : RdI (fun _ => True) w' v [(r.lg.getD k oj0).1, (r.lg.getD k oj0).2.1]) => listC entryW hu h (by simp) (by simp) (hok.en k hk).1 (by have := (hok.en k hk).2.2; omega) (hok.en k hk).2.1 ht (by simp))
    have HL2 : Hid ([Value.string (str (lineT termW [r.tm, r.vt])), Value.string (str (snapT r))] = ((rlT r 0).map str).map Value.string) := by show _ = _; simp [rlT]
    have HS : Hid (lineT snapW [r.si, r.st] ++ [32] ++ listT r.sn = snapT r) := rfl
    simp only [HS.out] at H2
    obtain ⟨A1, hA1⟩ : ∃ A, lineT termW [r.tm, r.vt] = A := ⟨_, rfl⟩
    simp only [hA1] at H1 HL2
    obtain ⟨A2, hA2⟩ : ∃ A, snapT r = A := ⟨_, rfl⟩
    simp only [hA2] at H2 HL2
    obtain ⟨n, hn⟩ : ∃ n, r.lg.length = n := ⟨_, rfl⟩
    have HN := hide hn
    rw [hn] at hll hzm HZ1 HV1
    generalize r.sn.length = l at *
    generalize r.tm = a at *
    generalize r.vt = b at *
    generalize r.si = c at *
    generalize r.st = d at *
    clear hok hA1 hA2 hn HS HOK HX
    obtain ⟨v0, v1, v2, v3, v4, v5⟩ := HV1.out
    go_upto_region 4 with fail
    go_cut [4] from 13 to 27 (fun v wx => Hid (wx.ownsRow w1.heap.size 9 1 v 2 [Value.string (str A1), Value.string (str A2)]) ∧ Hid (Below w1.heap.size w1 wx))
    case first =>
      refine wp_region_held_drew (S := fun w' => Below w1.heap.size w1 w') (by kernel_rfl) (below_drewN w1 1) (fun hHeld => ?_)
      refine forgetH (fun wx => Below w1.heap.size w1 wx) hHeld ?_
      clear hHeld
      rintro w10 hHeld
      refine wpAnyH_take (i := 0) (v := ?va1x0) rfl (by kernel_rfl) (by kernel_rfl) (by kernel_rfl) (fun _ _ _ h => h) (Or.inl ⟨by rfl, ?ha1x0⟩) hHeld ?ra1x0
      case ha1x0 => intro w9 hSw; (try dsimp only at hSw); have q0 := cell_later hSw v0; have q1 := cell_later hSw v1; have q2 := cell_later hSw v2; have q3 := cell_later hSw v3; have q4 := cell_later hSw v4; have q5 := cell_later hSw v5; first | (go_simp; done) | (go_simp; with_reducible rfl)
      try simp only [Act.put, List.setIfInBounds_toArray, List.set_cons_zero, List.set_cons_succ, List.getElem_toArray, List.getElem_cons_zero]
      refine wpAnyH_take (i := 1) (v := ?va2x1) rfl (by kernel_rfl) (by kernel_rfl) (by kernel_rfl) (fun _ _ _ h => h) (Or.inl ⟨by rfl, ?ha2x1⟩) hHeld ?ra2x1
      case ha2x1 => intro w9 hSw; (try dsimp only at hSw); have q0 := cell_later hSw v0; have q1 := cell_later hSw v1; have q2 := cell_later hSw v2; have q3 := cell_later hSw v3; have q4 := cell_later hSw v4; have q5 := cell_later hSw v5; first | (go_simp; done) | (go_simp; with_reducible rfl)
      try simp only [Act.put, List.setIfInBounds_toArray, List.set_cons_zero, List.set_cons_succ, List.getElem_toArray, List.getElem_cons_zero, List.getElem_cons_succ]
      refine wpAnyH_take (i := 2) (v := ?va3x2) rfl (by kernel_rfl) (by kernel_rfl) (by kernel_rfl) (fun _ _ _ h => h) (Or.inl ⟨by rfl, ?ha3x2⟩) hHeld ?ra3x2
      case ha3x2 => intro w9 hSw; (try dsimp only at hSw); have q0 := cell_later hSw v0; have q1 := cell_later hSw v1; have q2 := cell_later hSw v2; have q3 := cell_later hSw v3; have q4 := cell_later hSw v4; have q5 := cell_later hSw v5; first | (go_simp; done) | (go_simp; with_reducible rfl)
      try simp only [Act.put, List.setIfInBounds_toArray, List.set_cons_zero, List.set_cons_succ, List.getElem_toArray, List.getElem_cons_zero, List.getElem_cons_succ]
      refine wpAnyH_take (i := 3) (v := ?va4x3) rfl (by kernel_rfl) (by kernel_rfl) (by kernel_rfl) (fun _ _ _ h => h) (Or.inl ⟨by rfl, ?ha4x3⟩) hHeld ?ra4x3
      case ha4x3 => intro w9 hSw; (try dsimp only at hSw); have q0 := cell_later hSw v0; have q1 := cell_later hSw v1; have q2 := cell_later hSw v2; have q3 := cell_later hSw v3; have q4 := cell_later hSw v4; have q5 := cell_later hSw v5; first | (go_simp; done) | (go_simp; with_reducible rfl)
      try simp only [Act.put, List.setIfInBounds_toArray, List.set_cons_zero, List.set_cons_succ, List.getElem_toArray, List.getElem_cons_zero, List.getElem_cons_succ]
      refine wpAnyH_take (i := 6) (v := ?va5x6) rfl (by kernel_rfl) (by kernel_rfl) (by kernel_rfl) (fun _ _ _ h => h) (Or.inl ⟨by rfl, ?ha5x6⟩) hHeld ?ra5x6
      case ha5x6 => intro w9 hSw; (try dsimp only at hSw); have q0 := cell_later hSw v0; have q1 := cell_later hSw v1; have q2 := cell_later hSw v2; have q3 := cell_later hSw v3; have q4 := cell_later hSw v4; have q5 := cell_later hSw v5; first | (go_simp; done) | (go_simp; with_reducible rfl)
      try simp only [Act.put, List.setIfInBounds_toArray, List.set_cons_zero, List.set_cons_succ, List.getElem_toArray, List.getElem_cons_zero, List.getElem_cons_succ]
      refine wpAnyH_take (i := 7) (v := ?va6x7) rfl (by kernel_rfl) (by kernel_rfl) (by kernel_rfl) (fun _ _ _ h => h) (Or.inl ⟨by rfl, ?ha6x7⟩) hHeld ?ra6x7
      case ha6x7 => intro w9 hSw; (try dsimp only at hSw); have q0 := cell_later hSw v0; have q1 := cell_later hSw v1; have q2 := cell_later hSw v2; have q3 := cell_later hSw v3; have q4 := cell_later hSw v4; have q5 := cell_later hSw v5; first | (go_simp; done) | (go_simp; with_reducible rfl)
      try simp only [Act.put, List.setIfInBounds_toArray, List.set_cons_zero, List.set_cons_succ, List.getElem_toArray, List.getElem_cons_zero, List.getElem_cons_succ]
      refine wpAnyH_take (i := 8) (v := ?va7x8) rfl (by kernel_rfl) (by kernel_rfl) (by kernel_rfl) (fun _ _ _ h => h) (Or.inl ⟨by rfl, ?ha7x8⟩) hHeld ?ra7x8
      case ha7x8 => intro w9 hSw; (try dsimp only at hSw); have q0 := cell_later hSw v0; have q1 := cell_later hSw v1; have q2 := cell_later hSw v2; have q3 := cell_later hSw v3; have q4 := cell_later hSw v4; have q5 := cell_later hSw v5; first | (go_simp; done) | (go_simp; with_reducible rfl)
      try simp only [Act.put, List.setIfInBounds_toArray, List.set_cons_zero, List.set_cons_succ, List.getElem_toArray, List.getElem_cons_zero, List.getElem_cons_succ]
      refine wpAnyH_take (i := 9) (v := ?va8x9) rfl (by kernel_rfl) (by kernel_rfl) (by kernel_rfl) (fun _ _ _ h => h) (Or.inl ⟨by rfl, ?ha8x9⟩) hHeld ?ra8x9
      case ha8x9 => intro w9 hSw; (try dsimp only at hSw); have q0 := cell_later hSw v0; have q1 := cell_later hSw v1; have q2 := cell_later hSw v2; have q3 := cell_later hSw v3; have q4 := cell_later hSw v4; have q5 := cell_later hSw v5; first | (go_simp; done) | (go_simp; with_reducible rfl)
      try simp only [Act.put, List.setIfInBounds_toArray, List.set_cons_zero, List.set_cons_succ, List.getElem_toArray, List.getElem_cons_zero, List.getElem_cons_succ]
      refine wpAnyH_take (i := 10) (v := ?va9x10) rfl (by kernel_rfl) (by kernel_rfl) (by kernel_rfl) (fun _ _ _ h => h) (Or.inl ⟨by rfl, ?ha9x10⟩) hHeld ?ra9x10
      case ha9x10 => intro w9 hSw; (try dsimp only at hSw); have q0 := cell_later hSw v0; have q1 := cell_later hSw v1; have q2 := cell_later hSw v2; have q3 := cell_later hSw v3; have q4 := cell_later hSw v4; have q5 := cell_later hSw v5; first | (go_simp; done) | (go_simp; with_reducible rfl)
      try simp only [Act.put, List.setIfInBounds_toArray, List.set_cons_zero, List.set_cons_succ, List.getElem_toArray, List.getElem_cons_zero, List.getElem_cons_succ]
      refine wpAnyH_take (i := 11) (v := ?va10x11) rfl (by kernel_rfl) (by kernel_rfl) (by kernel_rfl) (fun _ _ _ h => h) (Or.inl ⟨by rfl, ?ha10x11⟩) hHeld ?ra10x11
      case ha10x11 => intro w9 hSw; (try dsimp only at hSw); have q0 := cell_later hSw v0; have q1 := cell_later hSw v1; have q2 := cell_later hSw v2; have q3 := cell_later hSw v3; have q4 := cell_later hSw v4; have q5 := cell_later hSw v5; first | (go_simp; done) | (go_simp; with_reducible rfl)
      try simp only [Act.put, List.setIfInBounds_toArray, List.set_cons_zero, List.set_cons_succ, List.getElem_toArray, List.getElem_cons_zero, List.getElem_cons_succ]
      refine wpAnyH_ready (rs := [4, 12]) (by kernel_rfl) (by simp) (AllReadyH.cons rfl (fun K hK => ?_) (AllReadyH.cons rfl (fun K hK => ?_) AllReadyH.nil))
      · go_simp
        refine hK.out _ _ (below_on hHeld (below_alloc w10 (.cells #[.int .i64 a, .int .i64 b] 2))) (fun hHeldx => ?_)
        clear hK K
        try simp only [Act.put, List.setIfInBounds_toArray, List.set_cons_zero, List.set_cons_succ, List.getElem_toArray, List.getElem_cons_zero, List.getElem_cons_succ]
        refine forgetH (fun wx => Below w1.heap.size w1 wx ∧ RdI (fun _ => True) wx (.slice (some ⟨w10.heap.size, 0, none⟩) 2 2) [a, b]) ⟨hHeldx, rdI_new2 w10 _ _ _⟩ ?_
        clear hHeldx
        rintro w111 ⟨hHeld11, qX⟩
        have Q11X := hide qX
        clear qX
        refine wpAnyH_ready (rs := [5, 12]) (by kernel_rfl) (by simp) (AllReadyH.cons rfl (fun K hK => ?_) (AllReadyH.cons rfl (fun K hK => ?_) AllReadyH.nil))
        · go_simp
          go_at_call 42
          refine (H1.out w111 _ hHeld11 Q11X.out).mono ?_
          rintro e w112 ⟨rfl, hb⟩
          refine hK.out _ _ (below_on hHeld11 hb) (fun hHeld12 => ?_)
          clear hK K
          try simp only [Act.put, List.setIfInBounds_toArray, List.set_cons_zero, List.set_cons_succ, List.getElem_toArray, List.getElem_cons_zero, List.getElem_cons_succ]
          have Q12X := hide (Q11X.out.later hb)
          clear hb
          refine wpAnyH_ready (rs := [12]) (by kernel_rfl) (by simp) (AllReadyH.cons rfl (fun K hK => ?_) AllReadyH.nil)
          go_simp
          refine hK.out _ _ (below_on hHeld12 (below_alloc w112 (.cells #[.int .i64 c, .int .i64 d] 2))) (fun hHeldx => ?_)
          clear hK K
          try simp only [Act.put, List.setIfInBounds_toArray, List.set_cons_zero, List.set_cons_succ, List.getElem_toArray, List.getElem_cons_zero, List.getElem_cons_succ]
          refine forgetH (fun wx => Below w1.heap.size w1 wx ∧ RdI (fun _ => True) wx (.slice (some ⟨w112.heap.size, 0, none⟩) 2 2) [c, d] ∧ RdI (fun _ => True) wx (.slice (some ⟨w10.heap.size, 0, none⟩) 2 2) [a, b]) ⟨hHeldx, rdI_new2 w112 _ _ _, Q12X.out.later (below_alloc w112 (.cells #[.int .i64 c, .int .i64 d] 2))⟩ ?_
          clear hHeldx
          rintro w113 ⟨hHeld13, qY, qX⟩
          have Q13Y := hide qY
          clear qY
          have Q13X := hide qX
          clear qX
          refine wpAnyH_ready (rs := [13]) (by kernel_rfl) (by simp) (AllReadyH.cons rfl (fun K hK => ?_) AllReadyH.nil)
          go_simp
          go_at_call 43
          refine (H2.out w113 _ hHeld13 Q13Y.out).mono ?_
          rintro e w114 ⟨rfl, hb⟩
          refine hK.out _ _ (below_on hHeld13 hb) (fun hHeld14 => ?_)
          clear hK K
          try simp only [Act.put, List.setIfInBounds_toArray, List.set_cons_zero, List.set_cons_succ, List.getElem_toArray, List.getElem_cons_zero, List.getElem_cons_succ]
          have Q14X := hide (Q13X.out.later hb)
          have Q14Y := hide (Q13Y.out.later hb)
          clear hb
          refine wpAnyH_ready (rs := [14]) (by kernel_rfl) (by simp) (AllReadyH.cons rfl (fun K hK => ?_) AllReadyH.nil)
          go_simp
          refine hK.out _ _ (below_on hHeld14 (below_alloc w114 (.cells #[Value.string (str A1), Value.string (str A2)] 9))) (fun hHeldx => ?_)
          clear hK K
          try simp only [Act.put, List.setIfInBounds_toArray, List.set_cons_zero, List.set_cons_succ, List.getElem_toArray, List.getElem_cons_zero, List.getElem_cons_succ]
          refine forgetH (fun wx => Below w1.heap.size w1 wx ∧ wx.ownsRow w1.heap.size 9 1 (.slice (some ⟨w114.heap.size, 0, none⟩) 2 2) 2 [Value.string (str A1), Value.string (str A2)]) ⟨hHeldx, own_upT (rowOf2 w114 _ _ 9) hHeld14.size⟩ ?_
          clear hHeldx
          rintro w115 ⟨hHeld15, qZ⟩
          have Q15Z := hide qZ
          clear qZ
          refine wpAnyH_take (i := 15) (v := ?va16x15) rfl (by kernel_rfl) (by kernel_rfl) (by kernel_rfl) (fun _ _ _ h => h) (Or.inl ⟨by rfl, ?ha16x15⟩) hHeld15 ?ra16x15
          case ha16x15 => intro w9 hSw; (try dsimp only at hSw); have q0 := cell_later hSw v0; have q1 := cell_later hSw v1; have q2 := cell_later hSw v2; have q3 := cell_later hSw v3; have q4 := cell_later hSw v4; have q5 := cell_later hSw v5; first | (go_simp; done) | (go_simp; with_reducible rfl)
          try simp only [Act.put, List.setIfInBounds_toArray, List.set_cons_zero, List.set_cons_succ, List.getElem_toArray, List.getElem_cons_zero, List.getElem_cons_succ]
          refine wpAnyH_done (by kernel_rfl) ?_ _
          go_wp2_with fail
          go_meet
          case rel => exact ⟨unhide Q15Z, unhide (hide hHeld15)⟩
        · go_simp
          refine hK.out _ _ (below_on hHeld11 (below_alloc w111 (.cells #[.int .i64 c, .int .i64 d] 2))) (fun hHeldx => ?_)
          clear hK K
          try simp only [Act.put, List.setIfInBounds_toArray, List.set_cons_zero, List.set_cons_succ, List.getElem_toArray, List.getElem_cons_zero, List.getElem_cons_succ]
          refine forgetH (fun wx => Below w1.heap.size w1 wx ∧ RdI (fun _ => True) wx (.slice (some ⟨w111.heap.size, 0, none⟩) 2 2) [c, d] ∧ RdI (fun _ => True) wx (.slice (some ⟨w10.heap.size, 0, none⟩) 2 2) [a, b]) ⟨hHeldx, rdI_new2 w111 _ _ _, Q11X.out.later (below_alloc w111 (.cells #[.int .i64 c, .int .i64 d] 2))⟩ ?_
          clear hHeldx
          rintro w117 ⟨hHeld17, qY, qX⟩
          have Q17Y := hide qY
          clear qY
          have Q17X := hide qX
          clear qX
          refine wpAnyH_ready (rs := [5]) (by kernel_rfl) (by simp) (AllReadyH.cons rfl (fun K hK => ?_) AllReadyH.nil)
          go_simp
          go_at_call 42
          refine (H1.out w117 _ hHeld17 Q17X.out).mono ?_
          rintro e w118 ⟨rfl, hb⟩
          refine hK.out _ _ (below_on hHeld17 hb) (fun hHeld18 => ?_)
          clear hK K
          try simp only [Act.put, List.setIfInBounds_toArray, List.set_cons_zero, List.set_cons_succ, List.getElem_toArray, List.getElem_cons_zero, List.getElem_cons_succ]
          have Q18X := hide (Q17X.out.later hb)
          have Q18Y := hide (Q17Y.out.later hb)
          clear hb
          refine wpAnyH_ready (rs := [13]) (by kernel_rfl) (by simp) (AllReadyH.cons rfl (fun K hK => ?_) AllReadyH.nil)
          go_simp
          go_at_call 43
          refine (H2.out w118 _ hHeld18 Q18Y.out).mono ?_
          rintro e w119 ⟨rfl, hb⟩
          refine hK.out _ _ (below_on hHeld18 hb) (fun hHeld19 => ?_)
          clear hK K
          try simp only [Act.put, List.setIfInBounds_toArray, List.set_cons_zero, List.set_cons_succ, List.getElem_toArray, List.getElem_cons_zero, List.getElem_cons_succ]
          have Q19X := hide (Q18X.out.later hb)
          have Q19Y := hide (Q18Y.out.later hb)
          clear hb
          refine wpAnyH_ready (rs := [14]) (by kernel_rfl) (by simp) (AllReadyH.cons rfl (fun K hK => ?_) AllReadyH.nil)
          go_simp
          refine hK.out _ _ (below_on hHeld19 (below_alloc w119 (.cells #[Value.string (str A1), Value.string (str A2)] 9))) (fun hHeldx => ?_)
          clear hK K
          try simp only [Act.put, List.setIfInBounds_toArray, List.set_cons_zero, List.set_cons_succ, List.getElem_toArray, List.getElem_cons_zero, List.getElem_cons_succ]
          refine forgetH (fun wx => Below w1.heap.size w1 wx ∧ wx.ownsRow w1.heap.size 9 1 (.slice (some ⟨w119.heap.size, 0, none⟩) 2 2) 2 [Value.string (str A1), Value.string (str A2)]) ⟨hHeldx, own_upT (rowOf2 w119 _ _ 9) hHeld19.size⟩ ?_
          clear hHeldx
          rintro w120 ⟨hHeld20, qZ⟩
          have Q20Z := hide qZ
          clear qZ
          refine wpAnyH_take (i := 15) (v := ?va21x15) rfl (by kernel_rfl) (by kernel_rfl) (by kernel_rfl) (fun _ _ _ h => h) (Or.inl ⟨by rfl, ?ha21x15⟩) hHeld20 ?ra21x15
          case ha21x15 => intro w9 hSw; (try dsimp only at hSw); have q0 := cell_later hSw v0; have q1 := cell_later hSw v1; have q2 := cell_later hSw v2; have q3 := cell_later hSw v3; have q4 := cell_later hSw v4; have q5 := cell_later hSw v5; first | (go_simp; done) | (go_simp; with_reducible rfl)
          try simp only [Act.put, List.setIfInBounds_toArray, List.set_cons_zero, List.set_cons_succ, List.getElem_toArray, List.getElem_cons_zero, List.getElem_cons_succ]
          refine wpAnyH_done (by kernel_rfl) ?_ _
          go_wp2_with fail
          go_meet
          case rel => exact ⟨unhide Q20Z, unhide (hide hHeld20)⟩
      · go_simp
        refine hK.out _ _ (below_on hHeld (below_alloc w10 (.cells #[.int .i64 c, .int .i64 d] 2))) (fun hHeldx => ?_)
        clear hK K
        try simp only [Act.put, List.setIfInBounds_toArray, List.set_cons_zero, List.set_cons_succ, List.getElem_toArray, List.getElem_cons_zero, List.getElem_cons_succ]
        refine forgetH (fun wx => Below w1.heap.size w1 wx ∧ RdI (fun _ => True) wx (.slice (some ⟨w10.heap.size, 0, none⟩) 2 2) [c, d]) ⟨hHeldx, rdI_new2 w10 _ _ _⟩ ?_
        clear hHeldx
        rintro w122 ⟨hHeld22, qY⟩
        have Q22Y := hide qY
        clear qY
        refine wpAnyH_ready (rs := [4]) (by kernel_rfl) (by simp) (AllReadyH.cons rfl (fun K hK => ?_) AllReadyH.nil)
        go_simp
        refine hK.out _ _ (below_on hHeld22 (below_alloc w122 (.cells #[.int .i64 a, .int .i64 b] 2))) (fun hHeldx => ?_)
        clear hK K
        try simp only [Act.put, List.setIfInBounds_toArray, List.set_cons_zero, List.set_cons_succ, List.getElem_toArray, List.getElem_cons_zero, List.getElem_cons_succ]
        refine forgetH (fun wx => Below w1.heap.size w1 wx ∧ RdI (fun _ => True) wx (.slice (some ⟨w122.heap.size, 0, none⟩) 2 2) [a, b] ∧ RdI (fun _ => True) wx (.slice (some ⟨w10.heap.size, 0, none⟩) 2 2) [c, d]) ⟨hHeldx, rdI_new2 w122 _ _ _, Q22Y.out.later (below_alloc w122 (.cells #[.int .i64 a, .int .i64 b] 2))⟩ ?_
        clear hHeldx
        rintro w123 ⟨hHeld23, qX, qY⟩
        have Q23X := hide qX
        clear qX
        have Q23Y := hide qY
        clear qY
        refine wpAnyH_ready (rs := [5]) (by kernel_rfl) (by simp) (AllReadyH.cons rfl (fun K hK => ?_) AllReadyH.nil)
        go_simp
        go_at_call 42
        refine (H1.out w123 _ hHeld23 Q23X.out).mono ?_
        rintro e w124 ⟨rfl, hb⟩
        refine hK.out _ _ (below_on hHeld23 hb) (fun hHeld24 => ?_)
        clear hK K
        try simp only [Act.put, List.setIfInBounds_toArray, List.set_cons_zero, List.set_cons_succ, List.getElem_toArray, List.getElem_cons_zero, List.getElem_cons_succ]
        have Q24Y := hide (Q23Y.out.later hb)
        have Q24X := hide (Q23X.out.later hb)
        clear hb
        refine wpAnyH_ready (rs := [13]) (by kernel_rfl) (by simp) (AllReadyH.cons rfl (fun K hK => ?_) AllReadyH.nil)
        go_simp
        go_at_call 43
        refine (H2.out w124 _ hHeld24 Q24Y.out).mono ?_
        rintro e w125 ⟨rfl, hb⟩
        refine hK.out _ _ (below_on hHeld24 hb) (fun hHeld25 => ?_)
        clear hK K
        try simp only [Act.put, List.setIfInBounds_toArray, List.set_cons_zero, List.set_cons_succ, List.getElem_toArray, List.getElem_cons_zero, List.getElem_cons_succ]
        have Q25Y := hide (Q24Y.out.later hb)
        have Q25X := hide (Q24X.out.later hb)
        clear hb
        refine wpAnyH_ready (rs := [14]) (by kernel_rfl) (by simp) (AllReadyH.cons rfl (fun K hK => ?_) AllReadyH.nil)
        go_simp
        refine hK.out _ _ (below_on hHeld25 (below_alloc w125 (.cells #[Value.string (str A1), Value.string (str A2)] 9))) (fun hHeldx => ?_)
        clear hK K
        try simp only [Act.put, List.setIfInBounds_toArray, List.set_cons_zero, List.set_cons_succ, List.getElem_toArray, List.getElem_cons_zero, List.getElem_cons_succ]
        refine forgetH (fun wx => Below w1.heap.size w1 wx ∧ wx.ownsRow w1.heap.size 9 1 (.slice (some ⟨w125.heap.size, 0, none⟩) 2 2) 2 [Value.string (str A1), Value.string (str A2)]) ⟨hHeldx, own_upT (rowOf2 w125 _ _ 9) hHeld25.size⟩ ?_
        clear hHeldx
        rintro w126 ⟨hHeld26, qZ⟩
        have Q26Z := hide qZ
        clear qZ
        refine wpAnyH_take (i := 15) (v := ?va27x15) rfl (by kernel_rfl) (by kernel_rfl) (by kernel_rfl) (fun _ _ _ h => h) (Or.inl ⟨by rfl, ?ha27x15⟩) hHeld26 ?ra27x15
        case ha27x15 => intro w9 hSw; (try dsimp only at hSw); have q0 := cell_later hSw v0; have q1 := cell_later hSw v1; have q2 := cell_later hSw v2; have q3 := cell_later hSw v3; have q4 := cell_later hSw v4; have q5 := cell_later hSw v5; first | (go_simp; done) | (go_simp; with_reducible rfl)
        try simp only [Act.put, List.setIfInBounds_toArray, List.set_cons_zero, List.set_cons_succ, List.getElem_toArray, List.getElem_cons_zero, List.getElem_cons_succ]
        refine wpAnyH_done (by kernel_rfl) ?_ _
        go_wp2_with fail
        go_meet
        case rel => exact ⟨unhide Q26Z, unhide (hide hHeld26)⟩
    case rest =>
      obtain ⟨HO0, HBc⟩ := hcut
      have u5 := cell_later HBc.out v5
      have hsc := HBc.out.size
      have X0 := hide j0
      have X1h := hide j1
      have X2 := hide j2
      clear v0 v1 v2 v3 v4 v5 H1 H2 j0 j1 j2
      go_wp2
      go_loopw [4, 6, 31] (fun v _ i wr => ∃ (k : Nat) (L : List Value), k ≤ n ∧ i = .int .i64 k ∧ Hid (L = ((rlT r k).map str).map Value.string) ∧ Hid (wr.ownsRow w1.heap.size 9 1 v (k + 2) L) ∧ Hid (Below w1.heap.size w1 wr)) (fun _ _ i _ => n - (intOf i).toNat)
      case atStart => exact ⟨0, _, Nat.zero_le _, rfl, HL2, HO0, HBc⟩
      case round =>
        obtain ⟨k, L, hk, rfl, HL, HO, HB⟩ := hrel
        have hBs := HB.out.size
        clear u5
        by_cases hlt : k < n
        · have hkl : k < r.lg.length := by rw [HN.out]; exact hlt
          obtain ⟨eb, eo, V, rfl, e0, e1, e2, e3⟩ := HZ1.out.atT (k := k) hkl
          obtain ⟨av, cv, rfl⟩ := e3.shape
          have g0 := cell_later HB.out e0
          have g1 := cell_later HB.out e1
          have g2 := cell_later HB.out e2
          have G3 := hide (e3.later HB.out)
          have HK : Hid (L ++ [Value.string (str (lineT entryW [(r.lg.getD k oj0).1, (r.lg.getD k oj0).2.1] ++ [32] ++ listT (r.lg.getD k oj0).2.2))] = ((rlT r (k + 1)).map str).map Value.string) := by
            show _ = _
            rw [HNx.out k hkl, HL.out, List.map_append, List.map_append]
            rfl
          have HEk := hide (fun (S' : Nat → Prop) (w' : World) (u v : Value) => HE.out S' w' u v k hkl)
          generalize (r.lg.getD k oj0).2.2.length = dl at *
          obtain ⟨E, hE⟩ : ∃ A, lineT entryW [(r.lg.getD k oj0).1, (r.lg.getD k oj0).2.1] ++ [32] ++ listT (r.lg.getD k oj0).2.2 = A := ⟨_, rfl⟩
          simp only [hE] at HK HEk
          generalize (r.lg.getD k oj0).1 = x at *
          generalize (r.lg.getD k oj0).2.1 = t at *
          clear hE e0 e1 e2 e3
          have HBd := hide (below_on (below_alloc wr (.cells #[.int .i64 x, .int .i64 t, .slice av dl cv] 64)) (below_alloc (wr.alloc (.cells #[.int .i64 x, .int .i64 t, .slice av dl cv] 64)) (.cells #[.int .i64 x, .int .i64 t] 2)))
          have HCl := hide (HEk.out _ _ _ _ ((HT1.out.later HB.out).later HBd.out) (G3.out.later HBd.out) (rdI_new2 (wr.alloc (.cells #[.int .i64 x, .int .i64 t, .slice av dl cv] 64)) x t 2))
          have ez : (wr.alloc (.cells #[.int .i64 x, .int .i64 t, .slice av dl cv] 64)).heap.size = wr.heap.size + 1 := by simp
          rw [ez] at HCl
          clear ez
          go_wp2_with fail
          refine HCl.out.mono ?_
          rintro e wd ⟨rfl, hbc⟩
          have hcs := hbc.size
          simp only [World.size_alloc] at hcs
          have HBe := hide (below_on HBd.out hbc)
          clear hbc HCl HBd g0 g1 g2 HEk
          obtain ⟨X1, hX1⟩ : ∃ X1, str E = X1 := ⟨_, rfl⟩
          rw [hX1] at HK ⊢
          clear hX1
          go_wp2_with (at_builtin; refine wpList_append_lies _ rfl _ _ _ rfl w1.heap.size 9 i0 (.string ByteArray.empty) 1 16 Tryd.underlying22 hi hz0 hz1 hz2 rfl (by omega) _ (k + 2) _ (by rfl) (ownsRow_later (ownsRow_later HO.out HBe.out) (below_alloc wd (.cells #[.string X1] 9))) ⟨wd.heap.size, 0, none⟩ 1 1 [.string X1] (by rfl) (by rfl) (World.news_of_block (cs := #[.string X1]) (t := 9) (fr := (0, 0)) (heap_alloc_new wd _)) (by simp [Value.oneCell']) (by omega) (by unfold maxLen; omega) (by omega) (by simp; omega) (wd.heap.size + 1) (by simp) ?_)
          intro g cap w3 hown3 hgrow hat hlt3
          have HS3 : Hid (w3.ownsRow w1.heap.size 9 1 (.slice (some ⟨g, 0, none⟩) (k + 1 + 2) cap) (k + 1 + 2) (L ++ [Value.string X1])) := by
            have e : k + 1 + 2 = k + 2 + 1 := by omega
            rw [e]; exact hown3
          have HB3 := hide ((below_on (below_on HB.out HBe.out) (below_alloc wd (.cells #[.string X1] 9))).grown hgrow (by simp; omega) (fun r hr => (HO.out.lt r hr).1))
          have e32 : k + 2 + 1 = k + 1 + 2 := by omega
          rw [e32]
          clear hown3 hgrow hat e32
          go_wp2
          go_roundw
          case rel => exact ⟨k + 1, L ++ [Value.string X1], by omega, by go_num, HK, HS3, HB3⟩
          case measure => simp [intOf]; omega
        · have hkn : k = n := by omega
          subst hkn
          have hLe := HL.out
          subst hLe
          have hlen : (rlT r k).length = k + 2 := HLn.out k (by rw [HN.out]; exact Nat.le_refl _)
          have hR : Lib.join (rlT r k) [10] ++ [10] = raftT r := by
            rw [← HJl.out, HN.out]
            exact join_lines _ _
          have hRl : (raftT r).length ≤ 1000000 := by
            have h1 := HLe.out k (by rw [HN.out]; exact Nat.le_refl _)
            have h2 := HLb.out
            rw [List.take_of_length_le (by rw [HN.out]; exact Nat.le_refl _)] at h1
            rw [raftT, List.length_append]
            omega
          have hJl : (Lib.join (rlT r k) [10]).length ≤ 1000000 := by rw [← hR, List.length_append] at hRl; omega
          have HJ := hide (joinC (rlT r k) [10] hlen HO.out (by omega) (by omega))
          have cat := catR (Lib.join (rlT r k) [10]) [10] (raftT r) hR (by omega)
          obtain ⟨ao2, c2, rfl⟩ := owns_shapeS HO.out
          have s0 := cell_later HB.out X0.out
          have s1 := cell_later HB.out X1h.out
          have s2 : ∀ o, wr.frozen? ⟨w.heap.size + 1, o, none⟩ = false := fun o => ((bcell HB.out).2 _ _ (by omega)).trans (X2.out o)
          generalize Lib.join (rlT r k) [10] = J at HJ cat
          generalize raftT r = R at *
          clear hR hRl hJl hlen HL HO
          go_wp2_with fail
          refine HJ.out.mono ?_
          rintro e w3 ⟨rfl, hb⟩
          have p0 := cell_later hb s0
          have p1 := cell_later hb s1
          have p2 : ∀ o, w3.frozen? ⟨w.heap.size + 1, o, none⟩ = false := fun o => ((bcell hb).2 _ _ (World.block_lt_of_cell? _ _ s0)).trans (s2 o)
          have HB4 := hide (below_on HB1.out (below_on HB.out hb))
          have hr : w.heap.size ≤ w.heap.size + 1 := by omega
          clear hb HJ s0 s1 s2
          go_wp2
          refine bodyPost_ret (v := .agg #[.int .i64 0, .string (str R)]) (by simp [results, Tryd.results20, go_sem, p0, p1]) rfl ⟨by rw [HX'.out], (HB4.out.setCell (by simp) _).setCell (by simp) _⟩
  · have HX' : Hid (X = { data := #[] }) := by rw [Hid, HX.out, if_neg h0]
    go_wp2
    refine bodyPost_ret (v := .agg #[.int .i64 f, .string { data := #[] }]) (by simp [results, Tryd.results20, go_sem, j0, j1]) rfl ⟨by rw [HX'.out], (HB1.out.setCell (by simp) _).setCell (by simp) _⟩
end Go.Proofs.YtcbapclpopbjbaaDoor
