/- 'impl.tornWords', walked: one theorem for each pick. Made by program. -/
import Derived.Test.YtojcjipelgjglaaTorn
import Derived.Test.YtojcjipelgjglaaZero
namespace Go.Proofs.Ytojcjipelgjglaa
open Go.RowKit

theorem listD_one (D : Nat → Option Nat) : ∀ v ∈ listD D, v.oneCell' = true := by
  intro v hv
  simp only [listD, List.mem_map] at hv
  obtain ⟨i, _, rfl⟩ := hv
  exact cellD_one D _

/-- The world in which the two variables hold their cells. -/
def twoVars (w : World) (C E : List Value) : World :=
  (((w.alloc (.cells (List.replicate 64 zc).toArray 126)).alloc (.cells (List.replicate 64 zc).toArray 126)).setCells w.heap.size 0 C).setCells (w.heap.size + 1) 0 E

theorem two_th0 (w : World) (n : Nat) (hn : n = 64) : ((w.alloc (.cells (List.replicate 64 zc).toArray 126)).alloc (.cells (List.replicate 64 zc).toArray 126)).there w.heap.size 0 n := by
  subst hn
  exact World.there_alloc (there_new w (List.replicate 64 zc) _ 64 rfl) _
theorem two_th1 (w : World) (C : List Value) (n : Nat) (hn : n = 64) : (((w.alloc (.cells (List.replicate 64 zc).toArray 126)).alloc (.cells (List.replicate 64 zc).toArray 126)).setCells w.heap.size 0 C).there (w.heap.size + 1) 0 n := by
  subst hn
  have := there_new (w.alloc (.cells (List.replicate 64 zc).toArray 126)) (List.replicate 64 zc) 126 64 rfl
  rw [World.size_alloc] at this
  exact World.there_setCells this _ _ _
theorem two_rg0 (w : World) (C E : List Value) (hC : C.length = 64) : (twoVars w C E).rangeAt w.heap.size 0 C :=
  World.rangeAt_setCells_apart (World.rangeAt_setCells_same _ _ _ _ (two_th0 w _ hC)) _ _ _ (Or.inl (by omega))
theorem two_rg1 (w : World) (C E : List Value) (hE : E.length = 64) : (twoVars w C E).rangeAt (w.heap.size + 1) 0 E :=
  World.rangeAt_setCells_same _ _ _ _ (two_th1 w C _ hE)
theorem two_th2 (w : World) (C E : List Value) (o n : Nat) (hn : o + n ≤ 64) : (twoVars w C E).there w.heap.size o n := by
  have := World.there_setCells (World.there_setCells (two_th0 w 64 rfl) w.heap.size 0 C) (w.heap.size + 1) 0 E
  intro j hj
  have := this (o + j) (by omega)
  rwa [Nat.zero_add] at this
theorem two_below {w0 w : World} (h : Below w0.heap.size w0 w) (C E : List Value) : Below w0.heap.size w0 (twoVars w C E) := by
  have hz := h.size
  exact Below.setCells (Below.setCells (below_on (below_on h (below_alloc _ _)) (below_alloc _ _)) (by omega) _ _) (by omega) _ _

set_option maxHeartbeats 2000000 in
set_option maxRecDepth 4000 in
theorem torn_0 {S T : Nat → Prop} {w : World} {u v : Value} {old next : List Int} (hu : RdI S w u old) (hv : RdI T w v next) (ho : wordsF old = 0) (hn : wordsF next = 0) :
    Calls Try.prog 53 #[u, v, .int .i64 0] w fun e w' => ∃ z, e = .returned z ∧ Below w.heap.size w w' ∧ OwI w.heap.size w' z (tear old next 0) := by
  have HU := hide hu
  have HV := hide hv
  have HO := hide (wordsF_zero ho)
  have HN := hide (wordsF_zero hn)
  obtain ⟨ao, c, rfl⟩ := hu.shape
  obtain ⟨ao', c', rfl⟩ := hv.shape
  clear hu hv ho hn
  go_enter Try.func53, Try.ntmps53
  go_wp2_with fail
  refine (cellsOf HU.out HO.out.1 HO.out.2).mono ?_
  rintro e w1 ⟨he1, hb1⟩
  rw [cellsTo_dOf] at he1
  subst he1
  have HB1 := hide hb1
  clear hb1
  go_wp2_with fail
  refine (cellsOf (HV.out.later HB1.out) HN.out.1 HN.out.2).mono ?_
  rintro e w2 ⟨he2, hb2⟩
  rw [cellsTo_dOf] at he2
  subst he2
  have HB2 := hide (two_below (below_on HB1.out hb2) (listD (dOf old)) (listD (dOf next)))
  have hz2 : w.heap.size ≤ w2.heap.size := Nat.le_trans HB1.out.size hb2.size
  clear hb2
  have LD := hide (fun i x h => dOf_le HO.out.2 i x h)
  have LE := hide (fun i x h => dOf_le HN.out.2 i x h)
  have HT : Hid (tear old next 0 = wordsD (dOf old) 64) := by
    unfold Hid tear
    rw [wordsD_tear (A := old) (B := old) (fun i hi => (HO.out.2 i hi).1) (fun i hi => (HO.out.2 i hi).1) HO.out.1 (fun i _ => rfl) (fun i _ _ => rfl)]
    simp [tearA, tearB]
  have hW := hide (wordsIn (D := dOf old) (LD.out))
  have s1 : Hid ((Try.prog.info? 126).map (·.size) = some (listD (dOf old)).toArray.size) := by rw [List.size_toArray, listD_len]; exact Try.sizeCells
  have s2 : Hid ((Try.prog.info? 126).map (·.size) = some (listD (dOf next)).toArray.size) := by rw [List.size_toArray, listD_len]; exact Try.sizeCells
  have s3 : Hid ((Try.prog.info? 126).map (·.size) = some (listD (dOf old)).length) := by rw [listD_len]; exact Try.sizeCells
  have o1 := hide (all_oneCell_toArray (listD_one (dOf old)))
  have o2 := hide (all_oneCell_toArray (listD_one (dOf next)))
  have t0 := hide (two_th0 w2 (listD (dOf old)).toArray.size (by rw [List.size_toArray, listD_len]))
  have t1 := hide (two_th1 w2 (listD (dOf old)) (listD (dOf next)).toArray.size (by rw [List.size_toArray, listD_len]))
  have r0 := hide (two_rg0 w2 (listD (dOf old)) (listD (dOf next)) (listD_len _))
  have HB3 := HB2
  generalize listD (dOf old) = CO at s1 s2 s3 o1 o2 t0 t1 HB2 HB3 r0 hW ⊢
  generalize listD (dOf next) = CN at s1 s2 s3 o1 o2 t0 t1 HB2 HB3 r0 hW ⊢
  go_wp2_with (first | (refine wpList_store_mid rfl 126 _ _ rfl w2.heap.size 0 CO.toArray (by rfl) (by rfl) t0.out s1.out o1.out ?_) | (refine wpList_store_mid rfl 126 _ _ rfl (w2.heap.size + 1) 0 CN.toArray (by rfl) (by rfl) t1.out s2.out o2.out ?_) | (refine wpList_load_mid rfl 126 _ rfl w2.heap.size 0 (by rfl) CO _ r0.out Try.underlying126 rfl s3.out ?_))
  refine (hW.out _).mono ?_
  rintro e w3 ⟨v3, rfl, hb3, ho3⟩
  have hz3 := HB3.out.size
  have HB4 := hide (HB3.out.trans (hb3.mono hz3))
  have HO3 := hide (ho3.mono hz3)
  clear hb3 ho3
  go_wp2
  go_ret
  exact ⟨v3, rfl, HB4.out, by rw [HT.out]; exact HO3.out⟩

set_option maxHeartbeats 2000000 in
set_option maxRecDepth 4000 in
theorem torn_1 {S T : Nat → Prop} {w : World} {u v : Value} {old next : List Int} (hu : RdI S w u old) (hv : RdI T w v next) (ho : wordsF old = 0) (hn : wordsF next = 0) :
    Calls Try.prog 53 #[u, v, .int .i64 1] w fun e w' => ∃ z, e = .returned z ∧ Below w.heap.size w w' ∧ OwI w.heap.size w' z (tear old next 1) := by
  have HU := hide hu
  have HV := hide hv
  have HO := hide (wordsF_zero ho)
  have HN := hide (wordsF_zero hn)
  obtain ⟨ao, c, rfl⟩ := hu.shape
  obtain ⟨ao', c', rfl⟩ := hv.shape
  clear hu hv ho hn
  go_enter Try.func53, Try.ntmps53
  go_wp2_with fail
  refine (cellsOf HU.out HO.out.1 HO.out.2).mono ?_
  rintro e w1 ⟨he1, hb1⟩
  rw [cellsTo_dOf] at he1
  subst he1
  have HB1 := hide hb1
  clear hb1
  go_wp2_with fail
  refine (cellsOf (HV.out.later HB1.out) HN.out.1 HN.out.2).mono ?_
  rintro e w2 ⟨he2, hb2⟩
  rw [cellsTo_dOf] at he2
  subst he2
  have HB2 := hide (two_below (below_on HB1.out hb2) (listD (dOf old)) (listD (dOf next)))
  have hz2 : w.heap.size ≤ w2.heap.size := Nat.le_trans HB1.out.size hb2.size
  clear hb2
  have LD := hide (fun i x h => dOf_le HO.out.2 i x h)
  have LE := hide (fun i x h => dOf_le HN.out.2 i x h)
  have HT : Hid (tear old next 1 = wordsD (dOf next) 64) := by
    unfold Hid tear
    rw [wordsD_tear (A := next) (B := next) (fun i hi => (HN.out.2 i hi).1) (fun i hi => (HN.out.2 i hi).1) HN.out.1 (fun i _ => rfl) (fun i _ _ => rfl)]
    simp [tearA, tearB]
  have hW := hide (wordsIn (D := dOf next) (LE.out))
  have s1 : Hid ((Try.prog.info? 126).map (·.size) = some (listD (dOf old)).toArray.size) := by rw [List.size_toArray, listD_len]; exact Try.sizeCells
  have s2 : Hid ((Try.prog.info? 126).map (·.size) = some (listD (dOf next)).toArray.size) := by rw [List.size_toArray, listD_len]; exact Try.sizeCells
  have s3 : Hid ((Try.prog.info? 126).map (·.size) = some (listD (dOf next)).length) := by rw [listD_len]; exact Try.sizeCells
  have o1 := hide (all_oneCell_toArray (listD_one (dOf old)))
  have o2 := hide (all_oneCell_toArray (listD_one (dOf next)))
  have t0 := hide (two_th0 w2 (listD (dOf old)).toArray.size (by rw [List.size_toArray, listD_len]))
  have t1 := hide (two_th1 w2 (listD (dOf old)) (listD (dOf next)).toArray.size (by rw [List.size_toArray, listD_len]))
  have r1 := hide (two_rg1 w2 (listD (dOf old)) (listD (dOf next)) (listD_len _))
  have t2 := hide (two_th2 w2 (listD (dOf old)) (listD (dOf next)) 0 (listD (dOf next)).toArray.size (by rw [List.size_toArray, listD_len]; omega))
  have r3 := hide (World.rangeAt_setCells_same (twoVars w2 (listD (dOf old)) (listD (dOf next))) w2.heap.size 0 (listD (dOf next)) (by simpa using t2.out))
  have HB3 := hide (Below.setCells (b := w2.heap.size) HB2.out hz2 0 (listD (dOf next)))
  generalize listD (dOf old) = CO at s1 s2 s3 o1 o2 t0 t1 HB2 HB3 r1 t2 r3 hW ⊢
  generalize listD (dOf next) = CN at s1 s2 s3 o1 o2 t0 t1 HB2 HB3 r1 t2 r3 hW ⊢
  go_wp2_with (first | (refine wpList_store_mid rfl 126 _ _ rfl w2.heap.size 0 CO.toArray (by rfl) (by rfl) t0.out s1.out o1.out ?_) | (refine wpList_store_mid rfl 126 _ _ rfl (w2.heap.size + 1) 0 CN.toArray (by rfl) (by rfl) t1.out s2.out o2.out ?_) | (refine wpList_load_mid rfl 126 _ rfl (w2.heap.size + 1) 0 (by rfl) CN _ r1.out Try.underlying126 rfl s3.out ?_) | (refine wpList_store_mid rfl 126 _ _ rfl w2.heap.size 0 CN.toArray (by rfl) (by rfl) t2.out s2.out o2.out ?_) | (refine wpList_load_mid rfl 126 _ rfl w2.heap.size 0 (by rfl) CN _ r3.out Try.underlying126 rfl s3.out ?_))
  refine (hW.out _).mono ?_
  rintro e w3 ⟨v3, rfl, hb3, ho3⟩
  have hz3 := HB3.out.size
  have HB4 := hide (HB3.out.trans (hb3.mono hz3))
  have HO3 := hide (ho3.mono hz3)
  clear hb3 ho3
  go_wp2
  go_ret
  exact ⟨v3, rfl, HB4.out, by rw [HT.out]; exact HO3.out⟩

set_option maxHeartbeats 2000000 in
set_option maxRecDepth 4000 in
theorem torn_2 {S T : Nat → Prop} {w : World} {u v : Value} {old next : List Int} (hu : RdI S w u old) (hv : RdI T w v next) (ho : wordsF old = 0) (hn : wordsF next = 0) :
    Calls Try.prog 53 #[u, v, .int .i64 2] w fun e w' => ∃ z, e = .returned z ∧ Below w.heap.size w w' ∧ OwI w.heap.size w' z (tear old next 2) := by
  have HU := hide hu
  have HV := hide hv
  have HO := hide (wordsF_zero ho)
  have HN := hide (wordsF_zero hn)
  obtain ⟨ao, c, rfl⟩ := hu.shape
  obtain ⟨ao', c', rfl⟩ := hv.shape
  clear hu hv ho hn
  go_enter Try.func53, Try.ntmps53
  go_wp2_with fail
  refine (cellsOf HU.out HO.out.1 HO.out.2).mono ?_
  rintro e w1 ⟨he1, hb1⟩
  rw [cellsTo_dOf] at he1
  subst he1
  have HB1 := hide hb1
  clear hb1
  go_wp2_with fail
  refine (cellsOf (HV.out.later HB1.out) HN.out.1 HN.out.2).mono ?_
  rintro e w2 ⟨he2, hb2⟩
  rw [cellsTo_dOf] at he2
  subst he2
  have HB2 := hide (two_below (below_on HB1.out hb2) (listD (dOf old)) (listD (dOf next)))
  have hz2 : w.heap.size ≤ w2.heap.size := Nat.le_trans HB1.out.size hb2.size
  clear hb2
  have LD := hide (fun i x h => dOf_le HO.out.2 i x h)
  have LE := hide (fun i x h => dOf_le HN.out.2 i x h)
  have HT : Hid (tear old next 2 = wordsD (overD (dOf old) (dOf next) 0) 64) := by
    unfold Hid tear
    rw [wordsD_tear (A := next) (B := old) (fun i hi => (HN.out.2 i hi).1) (fun i hi => (HO.out.2 i hi).1) HO.out.1 (fun i hi => by unfold overD; rw [if_pos (by omega)]) (fun i hi hi2 => by unfold overD; rw [if_neg (by omega)])]
    simp [tearA, tearB]
  have hW := hide (wordsIn (D := overD (dOf old) (dOf next) 0) (fun i x hx => by unfold overD at hx; split at hx; exact LE.out i x hx; exact LD.out i x hx))
  have s1 : Hid ((Try.prog.info? 126).map (·.size) = some (listD (dOf old)).toArray.size) := by rw [List.size_toArray, listD_len]; exact Try.sizeCells
  have s2 : Hid ((Try.prog.info? 126).map (·.size) = some (listD (dOf next)).toArray.size) := by rw [List.size_toArray, listD_len]; exact Try.sizeCells
  have s3 : Hid ((Try.prog.info? 126).map (·.size) = some (listD (overD (dOf old) (dOf next) 0)).length) := by rw [listD_len]; exact Try.sizeCells
  have o1 := hide (all_oneCell_toArray (listD_one (dOf old)))
  have o2 := hide (all_oneCell_toArray (listD_one (dOf next)))
  have t0 := hide (two_th0 w2 (listD (dOf old)).toArray.size (by rw [List.size_toArray, listD_len]))
  have t1 := hide (two_th1 w2 (listD (dOf old)) (listD (dOf next)).toArray.size (by rw [List.size_toArray, listD_len]))
  have sh : Hid ((Try.prog.info? 124).map (·.size) = some (halfD (dOf next) 0).length) := by rw [halfD_len]; exact Try.sizeHalf
  have sh2 : Hid ((Try.prog.info? 124).map (·.size) = some (halfD (dOf next) 0).toArray.size) := by rw [List.size_toArray, halfD_len]; exact Try.sizeHalf
  have oh := hide (all_oneCell_toArray (halfD_one (dOf next) 0))
  have r1 : Hid ((twoVars w2 (listD (dOf old)) (listD (dOf next))).rangeAt (w2.heap.size + 1) 0 (halfD (dOf next) 0)) := range_half (two_rg1 w2 (listD (dOf old)) (listD (dOf next)) (listD_len _)) 0 (by omega)
  have t2 := hide (two_th2 w2 (listD (dOf old)) (listD (dOf next)) 0 (halfD (dOf next) 0).toArray.size (by rw [List.size_toArray, halfD_len]; omega))
  have r3 : Hid (((twoVars w2 (listD (dOf old)) (listD (dOf next))).setCells w2.heap.size 0 (halfD (dOf next) 0)).rangeAt w2.heap.size 0 (listD (overD (dOf old) (dOf next) 0))) := range_over (two_rg0 w2 (listD (dOf old)) (listD (dOf next)) (listD_len _)) 0 (by omega)
  have HB3 := hide (Below.setCells (b := w2.heap.size) HB2.out hz2 0 (halfD (dOf next) 0))
  generalize listD (overD (dOf old) (dOf next) 0) = CT at s3 r3 hW
  generalize halfD (dOf next) 0 = CH at sh sh2 oh r1 t2 r3 HB3
  generalize listD (dOf old) = CO at s1 s2 s3 o1 o2 t0 t1 HB2 HB3 r1 t2 r3 hW ⊢
  generalize listD (dOf next) = CN at s1 s2 s3 o1 o2 t0 t1 HB2 HB3 r1 t2 r3 hW ⊢
  go_wp2_with (first | (refine wpList_store_mid rfl 126 _ _ rfl w2.heap.size 0 CO.toArray (by rfl) (by rfl) t0.out s1.out o1.out ?_) | (refine wpList_store_mid rfl 126 _ _ rfl (w2.heap.size + 1) 0 CN.toArray (by rfl) (by rfl) t1.out s2.out o2.out ?_) | (refine wpList_load_mid rfl 124 _ rfl (w2.heap.size + 1) 0 (by rfl) CH _ r1.out Try.underlying124 rfl sh.out ?_) | (refine wpList_store_mid rfl 124 _ _ rfl w2.heap.size 0 CH.toArray (by rfl) (by rfl) t2.out sh2.out oh.out ?_) | (refine wpList_load_mid rfl 126 _ rfl w2.heap.size 0 (by rfl) CT _ r3.out Try.underlying126 rfl s3.out ?_))
  refine (hW.out _).mono ?_
  rintro e w3 ⟨v3, rfl, hb3, ho3⟩
  have hz3 := HB3.out.size
  have HB4 := hide (HB3.out.trans (hb3.mono hz3))
  have HO3 := hide (ho3.mono hz3)
  clear hb3 ho3
  go_wp2
  go_ret
  exact ⟨v3, rfl, HB4.out, by rw [HT.out]; exact HO3.out⟩

set_option maxHeartbeats 2000000 in
set_option maxRecDepth 4000 in
theorem torn_3 {S T : Nat → Prop} {w : World} {u v : Value} {old next : List Int} (hu : RdI S w u old) (hv : RdI T w v next) (ho : wordsF old = 0) (hn : wordsF next = 0) :
    Calls Try.prog 53 #[u, v, .int .i64 3] w fun e w' => ∃ z, e = .returned z ∧ Below w.heap.size w w' ∧ OwI w.heap.size w' z (tear old next 3) := by
  have HU := hide hu
  have HV := hide hv
  have HO := hide (wordsF_zero ho)
  have HN := hide (wordsF_zero hn)
  obtain ⟨ao, c, rfl⟩ := hu.shape
  obtain ⟨ao', c', rfl⟩ := hv.shape
  clear hu hv ho hn
  go_enter Try.func53, Try.ntmps53
  go_wp2_with fail
  refine (cellsOf HU.out HO.out.1 HO.out.2).mono ?_
  rintro e w1 ⟨he1, hb1⟩
  rw [cellsTo_dOf] at he1
  subst he1
  have HB1 := hide hb1
  clear hb1
  go_wp2_with fail
  refine (cellsOf (HV.out.later HB1.out) HN.out.1 HN.out.2).mono ?_
  rintro e w2 ⟨he2, hb2⟩
  rw [cellsTo_dOf] at he2
  subst he2
  have HB2 := hide (two_below (below_on HB1.out hb2) (listD (dOf old)) (listD (dOf next)))
  have hz2 : w.heap.size ≤ w2.heap.size := Nat.le_trans HB1.out.size hb2.size
  clear hb2
  have LD := hide (fun i x h => dOf_le HO.out.2 i x h)
  have LE := hide (fun i x h => dOf_le HN.out.2 i x h)
  have HT : Hid (tear old next 3 = wordsD (overD (dOf old) (dOf next) 1) 64) := by
    unfold Hid tear
    rw [wordsD_tear (A := old) (B := next) (fun i hi => (HO.out.2 i hi).1) (fun i hi => (HN.out.2 i hi).1) HN.out.1 (fun i hi => by unfold overD; rw [if_neg (by omega)]) (fun i hi hi2 => by unfold overD; rw [if_pos (by omega)])]
    simp [tearA, tearB]
  have hW := hide (wordsIn (D := overD (dOf old) (dOf next) 1) (fun i x hx => by unfold overD at hx; split at hx; exact LE.out i x hx; exact LD.out i x hx))
  have s1 : Hid ((Try.prog.info? 126).map (·.size) = some (listD (dOf old)).toArray.size) := by rw [List.size_toArray, listD_len]; exact Try.sizeCells
  have s2 : Hid ((Try.prog.info? 126).map (·.size) = some (listD (dOf next)).toArray.size) := by rw [List.size_toArray, listD_len]; exact Try.sizeCells
  have s3 : Hid ((Try.prog.info? 126).map (·.size) = some (listD (overD (dOf old) (dOf next) 1)).length) := by rw [listD_len]; exact Try.sizeCells
  have o1 := hide (all_oneCell_toArray (listD_one (dOf old)))
  have o2 := hide (all_oneCell_toArray (listD_one (dOf next)))
  have t0 := hide (two_th0 w2 (listD (dOf old)).toArray.size (by rw [List.size_toArray, listD_len]))
  have t1 := hide (two_th1 w2 (listD (dOf old)) (listD (dOf next)).toArray.size (by rw [List.size_toArray, listD_len]))
  have sh : Hid ((Try.prog.info? 124).map (·.size) = some (halfD (dOf next) 1).length) := by rw [halfD_len]; exact Try.sizeHalf
  have sh2 : Hid ((Try.prog.info? 124).map (·.size) = some (halfD (dOf next) 1).toArray.size) := by rw [List.size_toArray, halfD_len]; exact Try.sizeHalf
  have oh := hide (all_oneCell_toArray (halfD_one (dOf next) 1))
  have r1 : Hid ((twoVars w2 (listD (dOf old)) (listD (dOf next))).rangeAt (w2.heap.size + 1) 32 (halfD (dOf next) 1)) := range_half (two_rg1 w2 (listD (dOf old)) (listD (dOf next)) (listD_len _)) 1 (by omega)
  have t2 := hide (two_th2 w2 (listD (dOf old)) (listD (dOf next)) 32 (halfD (dOf next) 1).toArray.size (by rw [List.size_toArray, halfD_len]; omega))
  have r3 : Hid (((twoVars w2 (listD (dOf old)) (listD (dOf next))).setCells w2.heap.size 32 (halfD (dOf next) 1)).rangeAt w2.heap.size 0 (listD (overD (dOf old) (dOf next) 1))) := range_over (two_rg0 w2 (listD (dOf old)) (listD (dOf next)) (listD_len _)) 1 (by omega)
  have HB3 := hide (Below.setCells (b := w2.heap.size) HB2.out hz2 32 (halfD (dOf next) 1))
  generalize listD (overD (dOf old) (dOf next) 1) = CT at s3 r3 hW
  generalize halfD (dOf next) 1 = CH at sh sh2 oh r1 t2 r3 HB3
  generalize listD (dOf old) = CO at s1 s2 s3 o1 o2 t0 t1 HB2 HB3 r1 t2 r3 hW ⊢
  generalize listD (dOf next) = CN at s1 s2 s3 o1 o2 t0 t1 HB2 HB3 r1 t2 r3 hW ⊢
  go_wp2_with (first | (refine wpList_store_mid rfl 126 _ _ rfl w2.heap.size 0 CO.toArray (by rfl) (by rfl) t0.out s1.out o1.out ?_) | (refine wpList_store_mid rfl 126 _ _ rfl (w2.heap.size + 1) 0 CN.toArray (by rfl) (by rfl) t1.out s2.out o2.out ?_) | (refine wpList_load_mid rfl 124 _ rfl (w2.heap.size + 1) 32 (by rfl) CH _ r1.out Try.underlying124 rfl sh.out ?_) | (refine wpList_store_mid rfl 124 _ _ rfl w2.heap.size 32 CH.toArray (by rfl) (by rfl) t2.out sh2.out oh.out ?_) | (refine wpList_load_mid rfl 126 _ rfl w2.heap.size 0 (by rfl) CT _ r3.out Try.underlying126 rfl s3.out ?_))
  refine (hW.out _).mono ?_
  rintro e w3 ⟨v3, rfl, hb3, ho3⟩
  have hz3 := HB3.out.size
  have HB4 := hide (HB3.out.trans (hb3.mono hz3))
  have HO3 := hide (ho3.mono hz3)
  clear hb3 ho3
  go_wp2
  go_ret
  exact ⟨v3, rfl, HB4.out, by rw [HT.out]; exact HO3.out⟩

theorem tornWords {S T : Nat → Prop} {w : World} {u v : Value} {old next : List Int} {p : Int} (hu : RdI S w u old) (hv : RdI T w v next) (ho : wordsF old = 0) (hn : wordsF next = 0) (h0 : 0 ≤ p) (h3 : p ≤ 3) :
    Calls Try.prog 53 #[u, v, .int .i64 p] w fun e w' => ∃ z, e = .returned z ∧ Below w.heap.size w w' ∧ OwI w.heap.size w' z (tear old next p) := by
  have : p = 0 ∨ p = 1 ∨ p = 2 ∨ p = 3 := by omega
  rcases this with rfl | rfl | rfl | rfl
  · exact torn_0 hu hv ho hn
  · exact torn_1 hu hv ho hn
  · exact torn_2 hu hv ho hn
  · exact torn_3 hu hv ho hn
end Go.Proofs.Ytojcjipelgjglaa
