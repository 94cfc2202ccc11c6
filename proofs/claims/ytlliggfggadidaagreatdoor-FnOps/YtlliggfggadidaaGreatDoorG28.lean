/- Bo2 in one text: what each says stands at its head below. -/
import Derived.Test.YtlliggfggadidaaGreatDoorG26
import Derived.Test.YtlliggfggadidaaGreatDoorG27
namespace Go.Proofs.YtlliggfggadidaaGreatDoor
open Go.RowKit
theorem OpD.mem {w0 w' : World} {O : Rf} {y z : Value} {B : Nat} (h : OpD w0 w' O y z) (hB : B ≤ w0.heap.size) : MemG B w'.heap.size w' y z O.sn O.lg := by
  rcases h.one with ⟨e1, e2⟩ | ⟨e1, e2⟩
  · have hl := h.lst
    rw [e1, e2]
    exact ⟨0, _, ⟨none, 0, rfl, by simp, fun h => absurd rfl h⟩, fun hn => absurd rfl hn, fun x hx => by have hx : w0.heap.size < x ∧ x < w'.heap.size := hx; omega, hl⟩
  · obtain ⟨b, h1, h2⟩ := ow_of_owns rfl h.row (by have := h.ln; omega)
    rw [e1, e2]
    exact ⟨b, fun _ => False, h1, fun hn => ⟨by have := (h2 hn).1; omega, (h2 hn).2.1, by have := (h2 hn).2.1; omega, fun e => e, (h2 hn).2.2⟩, fun x hx => hx.elim, OwJ_nil _ _⟩
structure LnO (Q : Rf) : Prop where
  sn : Q.sn.length ≤ 21
  lg : Q.lg.length ≤ 4
  da : ∀ p ∈ Q.lg, p.2.2.length ≤ 8
set_option linter.unusedSimpArgs false in
set_option maxHeartbeats 8000000 in
set_option maxRecDepth 4000 in
theorem l12Bent {s : Nat} {v : Value} {bs : List Nat} {w : World} {t : Nat} (hS : Src s v bs w t) (ht : t ≤ 200000000) {rr : Nat} {ayr azr : Option Addr} {ly cyr czr : Nat} (R : Rf) (hr : rfF R = 0) (hv : Var6 w rr (.int .i64 R.tm) (.int .i64 R.vt) (.int .i64 R.si) (.int .i64 R.st) (.slice ayr ly cyr) (.slice azr R.lg.length czr)) (hne : rr ≠ s) (hz : RdJ (· ≠ s) w (.slice azr R.lg.length czr) R.lg) :
    Calls Tryz.prog 21 #[.pointer (some ⟨s, 0, none⟩), .pointer (some ⟨rr, 0, none⟩)] w fun e w' => ∃ (Q : Rf) (y z : Value), e = .returned (.agg #[.int .i64 Q.tm, .int .i64 Q.vt, .int .i64 Q.si, .int .i64 Q.st, y, z]) ∧ LnO Q ∧ IvR w.heap.size w'.heap.size w' y z Q.sn Q.lg ∧ ∃ t', Drawn 500 s v bs t t' w w' := by
  have HS := hide hS
  have hsl := hS.lt
  clear hS
  obtain ⟨j0, hj, jz0, jz1, jz2⟩ := info_parts Tryz.infoInt
  have bA := below_alloc w (.cells #[.int .i64 0, .int .i64 0, .int .i64 0, .int .i64 0, .slice none 0 0, .slice none 0 0] 29)
  have D0 := hide ((Drawn.refl HS.out).later bA)
  have R0 := hide (Var6_new w (.int .i64 0) (.int .i64 0) (.int .i64 0) (.int .i64 0) (.slice none 0 0) (.slice none 0 0) 29)
  have F0 : Hid (∀ o, (w.alloc (.cells #[.int .i64 0, .int .i64 0, .int .i64 0, .int .i64 0, .slice none 0 0, .slice none 0 0] 29)).frozen? ⟨w.heap.size, o, none⟩ = false) := fun o => by simp [go_sem]
  have hs0 : (w.alloc (.cells #[.int .i64 0, .int .i64 0, .int .i64 0, .int .i64 0, .slice none 0 0, .slice none 0 0] 29)).heap.size = w.heap.size + 1 := by simp
  have V0 := hide (hv.later bA)
  have Zr := hide (hz.later bA)
  clear bA hv hz
  obtain ⟨W0, hW0⟩ : ∃ x, w.alloc (.cells #[.int .i64 0, .int .i64 0, .int .i64 0, .int .i64 0, .slice none 0 0, .slice none 0 0] 29) = x := ⟨_, rfl⟩
  rw [hW0] at D0 R0 F0 hs0 V0 Zr
  go_enter Tryz.func21, Tryz.ntmps21
  go_upto_region 1 with fail
  (try rw [hW0])
  clear hW0
  go_wp2_with fail
  refine (l12Draw D0.out.1 (by omega) R hr V0.out hne Zr.out).mono ?_
  rintro e w1 ⟨Q, y, z, rfl, hop, t1, hd1⟩
  have HOp := hide hop
  have hmem := hop.mem (B := w.heap.size) (by omega)
  obtain ⟨ay, cy, az, cz, ey, ez⟩ := hmem.shape
  subst ey
  subst ez
  have HQ : Hid (LnO Q) := ⟨by have := hop.ln; omega, by have := hop.ll; omega, fun p hp => by have := hop.da p hp; omega⟩
  have hln := hop.ln
  have hll := hop.ll
  have hsz1 := hd1.2.1.size
  have hb1 := below_alloc w1 (.cells #[.int .i64 Q.tm, .int .i64 Q.vt, .int .i64 Q.si, .int .i64 Q.st, .slice ay Q.sn.length cy, .slice az Q.lg.length cz] 29)
  have hwl : w.heap.size < w1.heap.size := by omega
  have I1 : Hid (BgI w s v bs t (0 + 200) w1.heap.size Q (.slice ay Q.sn.length cy) (.slice az Q.lg.length cz) t1 (w1.alloc (.cells #[.int .i64 Q.tm, .int .i64 Q.vt, .int .i64 Q.si, .int .i64 Q.st, .slice ay Q.sn.length cy, .slice az Q.lg.length cz] 29))) := ⟨(D0.out.on hd1).later hb1, (R0.out.wr hd1.2.1 (by show ¬ w.heap.size = s; omega)).later hb1, fun o => ((bcell hb1).2 _ _ hwl).trans ((hd1.2.1.frz _ _ (by omega)).trans (F0.out o)), Var6_new w1 (.int .i64 Q.tm) (.int .i64 Q.vt) (.int .i64 Q.si) (.int .i64 Q.st) (.slice ay Q.sn.length cy) (.slice az Q.lg.length cz) 29, fun o => by simp [go_sem], hmem.later hb1, hwl, hsl⟩
  have W1r : Hid ((w1.alloc (.cells #[.int .i64 Q.tm, .int .i64 Q.vt, .int .i64 Q.si, .int .i64 Q.st, .slice ay Q.sn.length cy, .slice az Q.lg.length cz] 29)).ownsRow (w.heap.size + 1) 2 1 (.slice ay Q.sn.length cy) Q.sn.length (Q.sn.map (Value.int .i64))) := ownsRow_later (own_upB hop.row (by omega)) hb1
  have HOb : Hid (∀ r, (.slice ay Q.sn.length cy : Value).ownBlock = some r → s < r ∧ r < w1.heap.size) := fun r e => by have := OwnsIn hop.row r e; omega
  have HOne := hide hop.one
  clear hd1 D0 R0 F0 hb1 hmem hop HOp V0 Zr
  go_upto_region 2 with fail
  obtain ⟨W1, hW1⟩ : ∃ x, w1.alloc (.cells #[.int .i64 Q.tm, .int .i64 Q.vt, .int .i64 Q.si, .int .i64 Q.st, .slice ay Q.sn.length cy, .slice az Q.lg.length cz] 29) = x := ⟨_, rfl⟩
  rw [hW1] at I1 W1r
  (try rw [hW1])
  clear hW1
  obtain ⟨RR, hRR⟩ : ∃ x, w1.heap.size = x := ⟨_, rfl⟩
  rw [hRR] at I1 HOb
  (try rw [hRR])
  clear hRR hwl hs0 hsz1
  go_wp2_with fail
  refine (l1Next 12 I1.out.dr.1 (by have := I1.out.dr.2.2; omega) (by omega) (by omega)).mono ?_
  rintro e w2 ⟨k, rfl, k0, k1, t2, hd2⟩
  have k2 := k1 (by omega)
  have I2 := hide (I1.out.on hd2)
  have W2r : Hid (w2.ownsRow (w.heap.size + 1) 2 1 (.slice ay Q.sn.length cy) Q.sn.length (Q.sn.map (Value.int .i64))) := ownsRow_wr W1r.out hd2.2.1 (fun e => by have := (HOb.out _ e).1; omega)
  clear hd2 I1 k1 W1r
  have hs2 : s < w2.heap.size := by have := I2.out.old; have := I2.out.res.lt; omega
  have hdt := I2.out.dr.2.2
  go_upto_block 0 with fail
  go_cut [10] from 11 to 41 (fun _ wx => ∃ (X : Rf) (yx zx : Value) (t7 : Nat), Hid (BgI w s v bs t 500 RR X yx zx t7 wx) ∧ Hid (LnO X))
  case first =>
    go_upto_if 11 with fail
    by_cases h0 : k = 0
    · subst h0
      have H3 := hide (I2.out.later (below_alloc w2 (.cells #[.int .i64 0, .int .i64 6, .int .i64 1, .int .i64 2] 2)))
      go_wp2_with fail
      refine (l1Pick (xs := [0, 6, 1, 2]) H3.out.dr.1 (by omega) (RdI_new s w2 [0, 6, 1, 2] 2 hs2 (by simp)) (by simp) (by simp)).mono ?_
      rintro e w3 ⟨i, hi3, rfl, t3, hd3⟩
      obtain ⟨x, hx⟩ : ∃ x : Int, ([0, 6, 1, 2] : List Int).getD i 0 = x := ⟨_, rfl⟩
      rw [hx]
      have H4 := hide (H3.out.on hd3)
      clear hd3 hx hi3 H3
      obtain ⟨r0, r1, r2, r3, r4, r5⟩ := H4.out.var
      have f0 := H4.out.vfz 0
      have HE : Hid (BgI w s v bs t _ RR { Q with tm := x } _ _ t3 (w3.setCell ⟨RR, 0, none⟩ (.int .i64 x))) := H4.out.set HS.out ((Wr.refl (fun x => x = RR) w3).setCell (p := ⟨RR, 0, none⟩) rfl _) ⟨by simp [go_sem, r0], by simp [go_sem, r1], by simp [go_sem, r2], by simp [go_sem, r3], by simp [go_sem, r4], by simp [go_sem, r5]⟩ H4.out.mem
      go_wp2
      go_meet
      exact ⟨_, _, _, t3, hide (HE.out.mono (by omega)), hide ⟨HQ.out.sn, HQ.out.lg, HQ.out.da⟩⟩
    · skip
      go_upto_if 17 with fail
      by_cases h1 : k = 1
      · subst h1
        have H3 := hide (I2.out.later (below_alloc w2 (.cells #[.int .i64 10, .int .i64 3] 2)))
        go_wp2_with fail
        refine (l1Pick (xs := [10, 3]) H3.out.dr.1 (by omega) (RdI_new s w2 [10, 3] 2 hs2 (by simp)) (by simp) (by simp)).mono ?_
        rintro e w3 ⟨i, hi3, rfl, t3, hd3⟩
        obtain ⟨x, hx⟩ : ∃ x : Int, ([10, 3] : List Int).getD i 0 = x := ⟨_, rfl⟩
        rw [hx]
        have H4 := hide (H3.out.on hd3)
        clear hd3 hx hi3 H3
        obtain ⟨r0, r1, r2, r3, r4, r5⟩ := H4.out.var
        have f3 := H4.out.vfz 3
        have HE : Hid (BgI w s v bs t _ RR { Q with st := x } _ _ t3 (w3.setCell ⟨RR, 3, none⟩ (.int .i64 x))) := H4.out.set HS.out ((Wr.refl (fun x => x = RR) w3).setCell (p := ⟨RR, 3, none⟩) rfl _) ⟨by simp [go_sem, r0], by simp [go_sem, r1], by simp [go_sem, r2], by simp [go_sem, r3], by simp [go_sem, r4], by simp [go_sem, r5]⟩ H4.out.mem
        go_wp2
        go_meet
        exact ⟨_, _, _, t3, hide (HE.out.mono (by omega)), hide ⟨HQ.out.sn, HQ.out.lg, HQ.out.da⟩⟩
      · skip
        go_upto_if 23 with fail
        by_cases h2 : k = 2
        · subst h2
          go_upto_region 8 with fail
          refine wp_region_held_drew (S := fun _ => True) (by kernel_rfl) trivial (fun _ => ?_)
          refine forgetH (fun wx => BgI w s v bs t (0 + 200 + 1) RR Q (.slice ay Q.sn.length cy) (.slice az Q.lg.length cz) t2 wx ∧ wx.ownsRow (w.heap.size + 1) 2 1 (.slice ay Q.sn.length cy) Q.sn.length (Q.sn.map (Value.int .i64))) ⟨I2.out.later (below_drewN w2 1), ownsRow_later W2r.out (below_drewN w2 1)⟩ ?_
          rintro Y0 ⟨i3, w3r⟩
          have I3 := hide i3
          have W3r := hide w3r
          clear i3 w3r I2 W2r
          refine wpAnyH_take (i := 0) (v := ?vt1x0) rfl (by kernel_rfl) (by kernel_rfl) (by kernel_rfl) (fun _ _ _ h => h) (Or.inl ⟨by rfl, ?ht1x0⟩) trivial ?rt1x0
          case ht1x0 => intro w9 hSw; (try dsimp only at hSw); first | (go_simp; done) | (go_simp; with_reducible rfl)
          try simp only [Act.put, List.setIfInBounds_toArray, List.set_cons_zero, List.set_cons_succ, List.getElem_toArray, List.getElem_cons_zero]
          refine wpAnyH_take (i := 2) (v := ?vt2x2) rfl (by kernel_rfl) (by kernel_rfl) (by kernel_rfl) (fun _ _ _ h => h) (Or.inl ⟨by rfl, ?ht2x2⟩) trivial ?rt2x2
          case ht2x2 => intro w9 hSw; (try dsimp only at hSw); first | (go_simp; done) | (go_simp; with_reducible rfl)
          try simp only [Act.put, List.setIfInBounds_toArray, List.set_cons_zero, List.set_cons_succ, List.getElem_toArray, List.getElem_cons_zero, List.getElem_cons_succ]
          refine wpAnyH_ready (rs := [1, 3]) (by kernel_rfl) (by simp) (AllReadyH.cons rfl (fun K hK => ?_) (AllReadyH.cons rfl (fun K hK => ?_) AllReadyH.nil))
          · skip
            have c4 := I3.out.var.2.2.2.2.1
            go_simp
            refine hK.out _ _ trivial (fun _ => ?_)
            clear hK K c4
            try simp only [Act.put, List.setIfInBounds_toArray, List.set_cons_zero, List.set_cons_succ, List.getElem_toArray, List.getElem_cons_zero, List.getElem_cons_succ]
            refine wpAnyH_ready (rs := [3]) (by kernel_rfl) (by simp) (AllReadyH.cons rfl (fun K hK => ?_) AllReadyH.nil)
            go_simp
            have I4 := hide (I3.out.later (below_alloc Y0 (.cells #[.int .i64 (-1), .int .i64 5] 2)))
            have W4r := hide (ownsRow_later W3r.out (below_alloc Y0 (.cells #[.int .i64 (-1), .int .i64 5] 2)))
            have hsY : s < Y0.heap.size := by have := I3.out.old; have := I3.out.res.lt; omega
            have HRd := hide (RdI_new s Y0 [-1, 5] 2 hsY (by simp))
            clear I3 W3r
            refine hK.out _ _ trivial (fun _ => ?_)
            clear hK K
            try simp only [Act.put, List.setIfInBounds_toArray, List.set_cons_zero, List.set_cons_succ, List.getElem_toArray, List.getElem_cons_zero, List.getElem_cons_succ]
            refine wpAnyH_ready (rs := [4]) (by kernel_rfl) (by simp) (AllReadyH.cons rfl (fun K hK => ?_) AllReadyH.nil)
            go_simp
            go_at_call 53
            have hts := I4.out.dr.2.2
            refine (l1Pick (xs := [-1, 5]) I4.out.dr.1 (by omega) HRd.out (by simp) (by simp)).mono ?_
            rintro e w4 ⟨i, hi3, rfl, t3, hd3⟩
            obtain ⟨x, hx⟩ : ∃ x : Int, ([-1, 5] : List Int).getD i 0 = x := ⟨_, rfl⟩
            rw [hx]
            have I5 := hide (I4.out.on hd3)
            have W5r : Hid (w4.ownsRow (w.heap.size + 1) 2 1 (.slice ay Q.sn.length cy) Q.sn.length (Q.sn.map (Value.int .i64))) := ownsRow_wr W4r.out hd3.2.1 (fun e => by have := (HOb.out _ e).1; omega)
            clear hd3 hx hi3 hts I4 W4r HRd
            refine hK.out _ _ trivial (fun _ => ?_)
            clear hK K
            try simp only [Act.put, List.setIfInBounds_toArray, List.set_cons_zero, List.set_cons_succ, List.getElem_toArray, List.getElem_cons_zero, List.getElem_cons_succ]
            refine wpAnyH_ready (rs := [5]) (by kernel_rfl) (by simp) (AllReadyH.cons rfl (fun K hK => ?_) AllReadyH.nil)
            go_simp
            refine hK.out _ _ trivial (fun _ => ?_)
            clear hK K
            try simp only [Act.put, List.setIfInBounds_toArray, List.set_cons_zero, List.set_cons_succ, List.getElem_toArray, List.getElem_cons_zero, List.getElem_cons_succ]
            refine wpAnyH_ready (rs := [6]) (by kernel_rfl) (by simp) (AllReadyH.cons rfl (fun K hK => ?_) AllReadyH.nil)
            refine step_append_lies _ (by rfl) _ _ _ (by rfl) (w.heap.size + 1) 2 j0 (.int .i64 0) 1 8 Tryz.underlying24 hj jz0 jz1 jz2 rfl (by omega) (.slice ay Q.sn.length cy) Q.sn.length _ (by rfl) (ownsRow_later W5r.out (below_alloc w4 (.cells #[.int .i64 x] 2))) ⟨w4.heap.size, 0, none⟩ 1 1 [.int .i64 x] (by rfl) (by rfl) (World.news_of_block (cs := #[.int .i64 x]) (t := 2) (fr := (0, 0)) (heap_alloc_new w4 _)) (by simp [Value.oneCell']) (by omega) (by unfold maxLen; omega) (by omega) (by have := I5.out.lt; have := I5.out.ge; simp; omega) (w4.heap.size + 1) (by simp) ?_
            intro g cap w6 hown hgrow hat hlt6
            obtain ⟨hv6, hf6, hI6⟩ := BgI.pushW HS.out I5.out W5r.out (fun r e => (HOb.out r e).2) HOne.out (by omega) hown hgrow hat
            have HI6 := hide hI6
            have HV6 := hide hv6
            have HF6 := hide hf6
            clear hv6 hf6 hI6 hown hgrow hat hlt6 I5 W5r
            refine hK.out _ _ trivial (fun _ => ?_)
            clear hK K
            try simp only [Act.put, List.setIfInBounds_toArray, List.set_cons_zero, List.set_cons_succ, List.getElem_toArray, List.getElem_cons_zero, List.getElem_cons_succ]
            refine wpAnyH_take (i := 7) (v := ?vt3x7) rfl (by kernel_rfl) (by kernel_rfl) (by kernel_rfl) (fun _ _ _ h => h) (Or.inl ⟨by rfl, ?ht3x7⟩) trivial ?rt3x7
            case ht3x7 => intro w9 hSw; (try dsimp only at hSw); first | (go_simp; done) | (go_simp; with_reducible rfl)
            try simp only [Act.put, List.setIfInBounds_toArray, List.set_cons_zero, List.set_cons_succ, List.getElem_toArray, List.getElem_cons_zero, List.getElem_cons_succ]
            have e4 := HF6.out 4
            have c4 := HV6.out.2.2.2.2.1
            refine wpAnyH_ready (rs := [8]) (by kernel_rfl) (by simp) (AllReadyH.cons rfl (fun K hK => ?_) AllReadyH.nil)
            go_simp
            refine hK.out _ _ trivial (fun _ => ?_)
            clear hK K
            try simp only [Act.put, List.setIfInBounds_toArray, List.set_cons_zero, List.set_cons_succ, List.getElem_toArray, List.getElem_cons_zero, List.getElem_cons_succ]
            refine wpAnyH_done (by kernel_rfl) ?_ _
            go_wp2
            go_meet
            exact ⟨_, _, _, t3, hide (HI6.out.mono (by omega)), hide ⟨(by simp; omega), HQ.out.lg, HQ.out.da⟩⟩
          · skip
            go_simp
            have I4 := hide (I3.out.later (below_alloc Y0 (.cells #[.int .i64 (-1), .int .i64 5] 2)))
            have W4r := hide (ownsRow_later W3r.out (below_alloc Y0 (.cells #[.int .i64 (-1), .int .i64 5] 2)))
            have hsY : s < Y0.heap.size := by have := I3.out.old; have := I3.out.res.lt; omega
            have HRd := hide (RdI_new s Y0 [-1, 5] 2 hsY (by simp))
            clear I3 W3r
            refine hK.out _ _ trivial (fun _ => ?_)
            clear hK K
            try simp only [Act.put, List.setIfInBounds_toArray, List.set_cons_zero, List.set_cons_succ, List.getElem_toArray, List.getElem_cons_zero, List.getElem_cons_succ]
            refine wpAnyH_ready (rs := [1, 4]) (by kernel_rfl) (by simp) (AllReadyH.cons rfl (fun K hK => ?_) (AllReadyH.cons rfl (fun K hK => ?_) AllReadyH.nil))
            · skip
              have c4 := I4.out.var.2.2.2.2.1
              go_simp
              refine hK.out _ _ trivial (fun _ => ?_)
              clear hK K c4
              try simp only [Act.put, List.setIfInBounds_toArray, List.set_cons_zero, List.set_cons_succ, List.getElem_toArray, List.getElem_cons_zero, List.getElem_cons_succ]
              refine wpAnyH_ready (rs := [4]) (by kernel_rfl) (by simp) (AllReadyH.cons rfl (fun K hK => ?_) AllReadyH.nil)
              go_simp
              go_at_call 53
              have hts := I4.out.dr.2.2
              refine (l1Pick (xs := [-1, 5]) I4.out.dr.1 (by omega) HRd.out (by simp) (by simp)).mono ?_
              rintro e w4 ⟨i, hi3, rfl, t3, hd3⟩
              obtain ⟨x, hx⟩ : ∃ x : Int, ([-1, 5] : List Int).getD i 0 = x := ⟨_, rfl⟩
              rw [hx]
              have I5 := hide (I4.out.on hd3)
              have W5r : Hid (w4.ownsRow (w.heap.size + 1) 2 1 (.slice ay Q.sn.length cy) Q.sn.length (Q.sn.map (Value.int .i64))) := ownsRow_wr W4r.out hd3.2.1 (fun e => by have := (HOb.out _ e).1; omega)
              clear hd3 hx hi3 hts I4 W4r HRd
              refine hK.out _ _ trivial (fun _ => ?_)
              clear hK K
              try simp only [Act.put, List.setIfInBounds_toArray, List.set_cons_zero, List.set_cons_succ, List.getElem_toArray, List.getElem_cons_zero, List.getElem_cons_succ]
              refine wpAnyH_ready (rs := [5]) (by kernel_rfl) (by simp) (AllReadyH.cons rfl (fun K hK => ?_) AllReadyH.nil)
              go_simp
              refine hK.out _ _ trivial (fun _ => ?_)
              clear hK K
              try simp only [Act.put, List.setIfInBounds_toArray, List.set_cons_zero, List.set_cons_succ, List.getElem_toArray, List.getElem_cons_zero, List.getElem_cons_succ]
              refine wpAnyH_ready (rs := [6]) (by kernel_rfl) (by simp) (AllReadyH.cons rfl (fun K hK => ?_) AllReadyH.nil)
              refine step_append_lies _ (by rfl) _ _ _ (by rfl) (w.heap.size + 1) 2 j0 (.int .i64 0) 1 8 Tryz.underlying24 hj jz0 jz1 jz2 rfl (by omega) (.slice ay Q.sn.length cy) Q.sn.length _ (by rfl) (ownsRow_later W5r.out (below_alloc w4 (.cells #[.int .i64 x] 2))) ⟨w4.heap.size, 0, none⟩ 1 1 [.int .i64 x] (by rfl) (by rfl) (World.news_of_block (cs := #[.int .i64 x]) (t := 2) (fr := (0, 0)) (heap_alloc_new w4 _)) (by simp [Value.oneCell']) (by omega) (by unfold maxLen; omega) (by omega) (by have := I5.out.lt; have := I5.out.ge; simp; omega) (w4.heap.size + 1) (by simp) ?_
              intro g cap w6 hown hgrow hat hlt6
              obtain ⟨hv6, hf6, hI6⟩ := BgI.pushW HS.out I5.out W5r.out (fun r e => (HOb.out r e).2) HOne.out (by omega) hown hgrow hat
              have HI6 := hide hI6
              have HV6 := hide hv6
              have HF6 := hide hf6
              clear hv6 hf6 hI6 hown hgrow hat hlt6 I5 W5r
              refine hK.out _ _ trivial (fun _ => ?_)
              clear hK K
              try simp only [Act.put, List.setIfInBounds_toArray, List.set_cons_zero, List.set_cons_succ, List.getElem_toArray, List.getElem_cons_zero, List.getElem_cons_succ]
              refine wpAnyH_take (i := 7) (v := ?vt4x7) rfl (by kernel_rfl) (by kernel_rfl) (by kernel_rfl) (fun _ _ _ h => h) (Or.inl ⟨by rfl, ?ht4x7⟩) trivial ?rt4x7
              case ht4x7 => intro w9 hSw; (try dsimp only at hSw); first | (go_simp; done) | (go_simp; with_reducible rfl)
              try simp only [Act.put, List.setIfInBounds_toArray, List.set_cons_zero, List.set_cons_succ, List.getElem_toArray, List.getElem_cons_zero, List.getElem_cons_succ]
              have e4 := HF6.out 4
              have c4 := HV6.out.2.2.2.2.1
              refine wpAnyH_ready (rs := [8]) (by kernel_rfl) (by simp) (AllReadyH.cons rfl (fun K hK => ?_) AllReadyH.nil)
              go_simp
              refine hK.out _ _ trivial (fun _ => ?_)
              clear hK K
              try simp only [Act.put, List.setIfInBounds_toArray, List.set_cons_zero, List.set_cons_succ, List.getElem_toArray, List.getElem_cons_zero, List.getElem_cons_succ]
              refine wpAnyH_done (by kernel_rfl) ?_ _
              go_wp2
              go_meet
              exact ⟨_, _, _, t3, hide (HI6.out.mono (by omega)), hide ⟨(by simp; omega), HQ.out.lg, HQ.out.da⟩⟩
            · skip
              go_simp
              go_at_call 53
              have hts := I4.out.dr.2.2
              refine (l1Pick (xs := [-1, 5]) I4.out.dr.1 (by omega) HRd.out (by simp) (by simp)).mono ?_
              rintro e w4 ⟨i, hi3, rfl, t3, hd3⟩
              obtain ⟨x, hx⟩ : ∃ x : Int, ([-1, 5] : List Int).getD i 0 = x := ⟨_, rfl⟩
              rw [hx]
              have I5 := hide (I4.out.on hd3)
              have W5r : Hid (w4.ownsRow (w.heap.size + 1) 2 1 (.slice ay Q.sn.length cy) Q.sn.length (Q.sn.map (Value.int .i64))) := ownsRow_wr W4r.out hd3.2.1 (fun e => by have := (HOb.out _ e).1; omega)
              clear hd3 hx hi3 hts I4 W4r HRd
              refine hK.out _ _ trivial (fun _ => ?_)
              clear hK K
              try simp only [Act.put, List.setIfInBounds_toArray, List.set_cons_zero, List.set_cons_succ, List.getElem_toArray, List.getElem_cons_zero, List.getElem_cons_succ]
              refine wpAnyH_ready (rs := [1, 5]) (by kernel_rfl) (by simp) (AllReadyH.cons rfl (fun K hK => ?_) (AllReadyH.cons rfl (fun K hK => ?_) AllReadyH.nil))
              · skip
                have c4 := I5.out.var.2.2.2.2.1
                go_simp
                refine hK.out _ _ trivial (fun _ => ?_)
                clear hK K c4
                try simp only [Act.put, List.setIfInBounds_toArray, List.set_cons_zero, List.set_cons_succ, List.getElem_toArray, List.getElem_cons_zero, List.getElem_cons_succ]
                refine wpAnyH_ready (rs := [5]) (by kernel_rfl) (by simp) (AllReadyH.cons rfl (fun K hK => ?_) AllReadyH.nil)
                go_simp
                refine hK.out _ _ trivial (fun _ => ?_)
                clear hK K
                try simp only [Act.put, List.setIfInBounds_toArray, List.set_cons_zero, List.set_cons_succ, List.getElem_toArray, List.getElem_cons_zero, List.getElem_cons_succ]
                refine wpAnyH_ready (rs := [6]) (by kernel_rfl) (by simp) (AllReadyH.cons rfl (fun K hK => ?_) AllReadyH.nil)
                refine step_append_lies _ (by rfl) _ _ _ (by rfl) (w.heap.size + 1) 2 j0 (.int .i64 0) 1 8 Tryz.underlying24 hj jz0 jz1 jz2 rfl (by omega) (.slice ay Q.sn.length cy) Q.sn.length _ (by rfl) (ownsRow_later W5r.out (below_alloc w4 (.cells #[.int .i64 x] 2))) ⟨w4.heap.size, 0, none⟩ 1 1 [.int .i64 x] (by rfl) (by rfl) (World.news_of_block (cs := #[.int .i64 x]) (t := 2) (fr := (0, 0)) (heap_alloc_new w4 _)) (by simp [Value.oneCell']) (by omega) (by unfold maxLen; omega) (by omega) (by have := I5.out.lt; have := I5.out.ge; simp; omega) (w4.heap.size + 1) (by simp) ?_
                intro g cap w6 hown hgrow hat hlt6
                obtain ⟨hv6, hf6, hI6⟩ := BgI.pushW HS.out I5.out W5r.out (fun r e => (HOb.out r e).2) HOne.out (by omega) hown hgrow hat
                have HI6 := hide hI6
                have HV6 := hide hv6
                have HF6 := hide hf6
                clear hv6 hf6 hI6 hown hgrow hat hlt6 I5 W5r
                refine hK.out _ _ trivial (fun _ => ?_)
                clear hK K
                try simp only [Act.put, List.setIfInBounds_toArray, List.set_cons_zero, List.set_cons_succ, List.getElem_toArray, List.getElem_cons_zero, List.getElem_cons_succ]
                refine wpAnyH_take (i := 7) (v := ?vt5x7) rfl (by kernel_rfl) (by kernel_rfl) (by kernel_rfl) (fun _ _ _ h => h) (Or.inl ⟨by rfl, ?ht5x7⟩) trivial ?rt5x7
                case ht5x7 => intro w9 hSw; (try dsimp only at hSw); first | (go_simp; done) | (go_simp; with_reducible rfl)
                try simp only [Act.put, List.setIfInBounds_toArray, List.set_cons_zero, List.set_cons_succ, List.getElem_toArray, List.getElem_cons_zero, List.getElem_cons_succ]
                have e4 := HF6.out 4
                have c4 := HV6.out.2.2.2.2.1
                refine wpAnyH_ready (rs := [8]) (by kernel_rfl) (by simp) (AllReadyH.cons rfl (fun K hK => ?_) AllReadyH.nil)
                go_simp
                refine hK.out _ _ trivial (fun _ => ?_)
                clear hK K
                try simp only [Act.put, List.setIfInBounds_toArray, List.set_cons_zero, List.set_cons_succ, List.getElem_toArray, List.getElem_cons_zero, List.getElem_cons_succ]
                refine wpAnyH_done (by kernel_rfl) ?_ _
                go_wp2
                go_meet
                exact ⟨_, _, _, t3, hide (HI6.out.mono (by omega)), hide ⟨(by simp; omega), HQ.out.lg, HQ.out.da⟩⟩
              · skip
                go_simp
                refine hK.out _ _ trivial (fun _ => ?_)
                clear hK K
                try simp only [Act.put, List.setIfInBounds_toArray, List.set_cons_zero, List.set_cons_succ, List.getElem_toArray, List.getElem_cons_zero, List.getElem_cons_succ]
                refine wpAnyH_ready (rs := [1]) (by kernel_rfl) (by simp) (AllReadyH.cons rfl (fun K hK => ?_) AllReadyH.nil)
                have c4 := (I5.out.later (below_alloc w4 (.cells #[.int .i64 x] 2))).var.2.2.2.2.1
                go_simp
                refine hK.out _ _ trivial (fun _ => ?_)
                clear hK K c4
                try simp only [Act.put, List.setIfInBounds_toArray, List.set_cons_zero, List.set_cons_succ, List.getElem_toArray, List.getElem_cons_zero, List.getElem_cons_succ]
                refine wpAnyH_ready (rs := [6]) (by kernel_rfl) (by simp) (AllReadyH.cons rfl (fun K hK => ?_) AllReadyH.nil)
                refine step_append_lies _ (by rfl) _ _ _ (by rfl) (w.heap.size + 1) 2 j0 (.int .i64 0) 1 8 Tryz.underlying24 hj jz0 jz1 jz2 rfl (by omega) (.slice ay Q.sn.length cy) Q.sn.length _ (by rfl) (ownsRow_later W5r.out (below_alloc w4 (.cells #[.int .i64 x] 2))) ⟨w4.heap.size, 0, none⟩ 1 1 [.int .i64 x] (by rfl) (by rfl) (World.news_of_block (cs := #[.int .i64 x]) (t := 2) (fr := (0, 0)) (heap_alloc_new w4 _)) (by simp [Value.oneCell']) (by omega) (by unfold maxLen; omega) (by omega) (by have := I5.out.lt; have := I5.out.ge; simp; omega) (w4.heap.size + 1) (by simp) ?_
                intro g cap w6 hown hgrow hat hlt6
                obtain ⟨hv6, hf6, hI6⟩ := BgI.pushW HS.out I5.out W5r.out (fun r e => (HOb.out r e).2) HOne.out (by omega) hown hgrow hat
                have HI6 := hide hI6
                have HV6 := hide hv6
                have HF6 := hide hf6
                clear hv6 hf6 hI6 hown hgrow hat hlt6 I5 W5r
                refine hK.out _ _ trivial (fun _ => ?_)
                clear hK K
                try simp only [Act.put, List.setIfInBounds_toArray, List.set_cons_zero, List.set_cons_succ, List.getElem_toArray, List.getElem_cons_zero, List.getElem_cons_succ]
                refine wpAnyH_take (i := 7) (v := ?vt6x7) rfl (by kernel_rfl) (by kernel_rfl) (by kernel_rfl) (fun _ _ _ h => h) (Or.inl ⟨by rfl, ?ht6x7⟩) trivial ?rt6x7
                case ht6x7 => intro w9 hSw; (try dsimp only at hSw); first | (go_simp; done) | (go_simp; with_reducible rfl)
                try simp only [Act.put, List.setIfInBounds_toArray, List.set_cons_zero, List.set_cons_succ, List.getElem_toArray, List.getElem_cons_zero, List.getElem_cons_succ]
                have e4 := HF6.out 4
                have c4 := HV6.out.2.2.2.2.1
                refine wpAnyH_ready (rs := [8]) (by kernel_rfl) (by simp) (AllReadyH.cons rfl (fun K hK => ?_) AllReadyH.nil)
                go_simp
                refine hK.out _ _ trivial (fun _ => ?_)
                clear hK K
                try simp only [Act.put, List.setIfInBounds_toArray, List.set_cons_zero, List.set_cons_succ, List.getElem_toArray, List.getElem_cons_zero, List.getElem_cons_succ]
                refine wpAnyH_done (by kernel_rfl) ?_ _
                go_wp2
                go_meet
                exact ⟨_, _, _, t3, hide (HI6.out.mono (by omega)), hide ⟨(by simp; omega), HQ.out.lg, HQ.out.da⟩⟩
        · skip
          go_upto_if 33 with fail
          by_cases h3 : k = 3
          · subst h3
            go_upto_region 10 with fail
            refine wp_region_held_drew (S := fun _ => True) (by kernel_rfl) trivial (fun _ => ?_)
            refine forgetH (fun wx => BgI w s v bs t (0 + 200 + 1) RR Q (.slice ay Q.sn.length cy) (.slice az Q.lg.length cz) t2 wx) (I2.out.later (below_drewN w2 1)) ?_
            rintro Y0 i3
            have I3 := hide i3
            clear i3 I2
            refine wpAnyH_take (i := 0) (v := ?vt7x0) rfl (by kernel_rfl) (by kernel_rfl) (by kernel_rfl) (fun _ _ _ h => h) (Or.inl ⟨by rfl, ?ht7x0⟩) trivial ?rt7x0
            case ht7x0 => intro w9 hSw; (try dsimp only at hSw); first | (go_simp; done) | (go_simp; with_reducible rfl)
            try simp only [Act.put, List.setIfInBounds_toArray, List.set_cons_zero, List.set_cons_succ, List.getElem_toArray, List.getElem_cons_zero]
            refine wpAnyH_take (i := 2) (v := ?vt8x2) rfl (by kernel_rfl) (by kernel_rfl) (by kernel_rfl) (fun _ _ _ h => h) (Or.inl ⟨by rfl, ?ht8x2⟩) trivial ?rt8x2
            case ht8x2 => intro w9 hSw; (try dsimp only at hSw); first | (go_simp; done) | (go_simp; with_reducible rfl)
            try simp only [Act.put, List.setIfInBounds_toArray, List.set_cons_zero, List.set_cons_succ, List.getElem_toArray, List.getElem_cons_zero, List.getElem_cons_succ]
            refine wpAnyH_ready (rs := [1, 3]) (by kernel_rfl) (by simp) (AllReadyH.cons rfl (fun K hK => ?_) (AllReadyH.cons rfl (fun K hK => ?_) AllReadyH.nil))
            · skip
              have c5 := I3.out.var.2.2.2.2.2
              go_simp
              refine hK.out _ _ trivial (fun _ => ?_)
              clear hK K c5
              try simp only [Act.put, List.setIfInBounds_toArray, List.set_cons_zero, List.set_cons_succ, List.getElem_toArray, List.getElem_cons_zero, List.getElem_cons_succ]
              refine wpAnyH_ready (rs := [3]) (by kernel_rfl) (by simp) (AllReadyH.cons rfl (fun K hK => ?_) AllReadyH.nil)
              go_simp
              go_at_call 54
              refine (l9Bent I3.out.dr.1 (by omega)).mono ?_
              rintro e w3 ⟨a, b, ze, xs, rfl, hxl, hze, t3, hd3⟩
              have HP := hide (BgI.push (a := a) (b := b) HS.out I3.out hd3 hze (by omega) 25)
              have I4 := hide (I3.out.on hd3)
              obtain ⟨ae, ce, rfl⟩ := hze.shape
              clear hze hd3 I3
              refine hK.out _ _ trivial (fun _ => ?_)
              clear hK K
              try simp only [Act.put, List.setIfInBounds_toArray, List.set_cons_zero, List.set_cons_succ, List.getElem_toArray, List.getElem_cons_zero, List.getElem_cons_succ]
              refine wpAnyH_ready (rs := [4]) (by kernel_rfl) (by simp) (AllReadyH.cons rfl (fun K hK => ?_) AllReadyH.nil)
              go_simp
              have I5 := hide (I4.out.later (below_alloc w3 (.cells #[.int .i64 a, .int .i64 b, .slice ae xs.length ce] 58)))
              refine hK.out _ _ trivial (fun _ => ?_)
              clear hK K I4
              try simp only [Act.put, List.setIfInBounds_toArray, List.set_cons_zero, List.set_cons_succ, List.getElem_toArray, List.getElem_cons_zero, List.getElem_cons_succ]
              obtain ⟨ag, cg, w5, hrun, hv5, hf5, hI5⟩ := HP.out
              have HI5 := hide hI5
              have HV5 := hide hv5
              have HF5 := hide hf5
              clear HP hI5 hv5 hf5
              refine wpAnyH_ready (rs := [5]) (by kernel_rfl) (by simp) (AllReadyH.cons rfl (fun K hK => ?_) AllReadyH.nil)
              refine step_append_run _ rfl (.tmp 36) (.tmp 39) 25 rfl rfl rfl hrun ?_
              refine hK.out _ _ trivial (fun _ => ?_)
              clear hK K hrun I5
              try simp only [Act.put, List.setIfInBounds_toArray, List.set_cons_zero, List.set_cons_succ, List.getElem_toArray, List.getElem_cons_zero, List.getElem_cons_succ]
              refine wpAnyH_take (i := 6) (v := ?vt9x6) rfl (by kernel_rfl) (by kernel_rfl) (by kernel_rfl) (fun _ _ _ h => h) (Or.inl ⟨by rfl, ?ht9x6⟩) trivial ?rt9x6
              case ht9x6 => intro w9 hSw; (try dsimp only at hSw); first | (go_simp; done) | (go_simp; with_reducible rfl)
              try simp only [Act.put, List.setIfInBounds_toArray, List.set_cons_zero, List.set_cons_succ, List.getElem_toArray, List.getElem_cons_zero, List.getElem_cons_succ]
              have e5 := HF5.out 5
              have c5 := HV5.out.2.2.2.2.2
              refine wpAnyH_ready (rs := [7]) (by kernel_rfl) (by simp) (AllReadyH.cons rfl (fun K hK => ?_) AllReadyH.nil)
              go_simp
              refine hK.out _ _ trivial (fun _ => ?_)
              clear hK K
              try simp only [Act.put, List.setIfInBounds_toArray, List.set_cons_zero, List.set_cons_succ, List.getElem_toArray, List.getElem_cons_zero, List.getElem_cons_succ]
              refine wpAnyH_done (by kernel_rfl) ?_ _
              have hxl15 : ∀ p ∈ Q.lg ++ [(a, b, xs)], p.2.2.length ≤ 8 := fun p hp => by
                rcases List.mem_append.1 hp with hp | hp
                · exact HQ.out.da p hp
                · simp at hp; subst hp; exact hxl
              go_wp2
              go_meet
              exact ⟨_, _, _, t3, hide (HI5.out.mono (by omega)), hide ⟨HQ.out.sn, (by simp; omega), hxl15⟩⟩
            · skip
              go_simp
              go_at_call 54
              refine (l9Bent I3.out.dr.1 (by omega)).mono ?_
              rintro e w3 ⟨a, b, ze, xs, rfl, hxl, hze, t3, hd3⟩
              have HP := hide (BgI.push (a := a) (b := b) HS.out I3.out hd3 hze (by omega) 25)
              have I4 := hide (I3.out.on hd3)
              obtain ⟨ae, ce, rfl⟩ := hze.shape
              clear hze hd3 I3
              refine hK.out _ _ trivial (fun _ => ?_)
              clear hK K
              try simp only [Act.put, List.setIfInBounds_toArray, List.set_cons_zero, List.set_cons_succ, List.getElem_toArray, List.getElem_cons_zero, List.getElem_cons_succ]
              refine wpAnyH_ready (rs := [1, 4]) (by kernel_rfl) (by simp) (AllReadyH.cons rfl (fun K hK => ?_) (AllReadyH.cons rfl (fun K hK => ?_) AllReadyH.nil))
              · skip
                have c5 := I4.out.var.2.2.2.2.2
                go_simp
                refine hK.out _ _ trivial (fun _ => ?_)
                clear hK K c5
                try simp only [Act.put, List.setIfInBounds_toArray, List.set_cons_zero, List.set_cons_succ, List.getElem_toArray, List.getElem_cons_zero, List.getElem_cons_succ]
                refine wpAnyH_ready (rs := [4]) (by kernel_rfl) (by simp) (AllReadyH.cons rfl (fun K hK => ?_) AllReadyH.nil)
                go_simp
                have I5 := hide (I4.out.later (below_alloc w3 (.cells #[.int .i64 a, .int .i64 b, .slice ae xs.length ce] 58)))
                refine hK.out _ _ trivial (fun _ => ?_)
                clear hK K I4
                try simp only [Act.put, List.setIfInBounds_toArray, List.set_cons_zero, List.set_cons_succ, List.getElem_toArray, List.getElem_cons_zero, List.getElem_cons_succ]
                obtain ⟨ag, cg, w5, hrun, hv5, hf5, hI5⟩ := HP.out
                have HI5 := hide hI5
                have HV5 := hide hv5
                have HF5 := hide hf5
                clear HP hI5 hv5 hf5
                refine wpAnyH_ready (rs := [5]) (by kernel_rfl) (by simp) (AllReadyH.cons rfl (fun K hK => ?_) AllReadyH.nil)
                refine step_append_run _ rfl (.tmp 36) (.tmp 39) 25 rfl rfl rfl hrun ?_
                refine hK.out _ _ trivial (fun _ => ?_)
                clear hK K hrun I5
                try simp only [Act.put, List.setIfInBounds_toArray, List.set_cons_zero, List.set_cons_succ, List.getElem_toArray, List.getElem_cons_zero, List.getElem_cons_succ]
                refine wpAnyH_take (i := 6) (v := ?vt10x6) rfl (by kernel_rfl) (by kernel_rfl) (by kernel_rfl) (fun _ _ _ h => h) (Or.inl ⟨by rfl, ?ht10x6⟩) trivial ?rt10x6
                case ht10x6 => intro w9 hSw; (try dsimp only at hSw); first | (go_simp; done) | (go_simp; with_reducible rfl)
                try simp only [Act.put, List.setIfInBounds_toArray, List.set_cons_zero, List.set_cons_succ, List.getElem_toArray, List.getElem_cons_zero, List.getElem_cons_succ]
                have e5 := HF5.out 5
                have c5 := HV5.out.2.2.2.2.2
                refine wpAnyH_ready (rs := [7]) (by kernel_rfl) (by simp) (AllReadyH.cons rfl (fun K hK => ?_) AllReadyH.nil)
                go_simp
                refine hK.out _ _ trivial (fun _ => ?_)
                clear hK K
                try simp only [Act.put, List.setIfInBounds_toArray, List.set_cons_zero, List.set_cons_succ, List.getElem_toArray, List.getElem_cons_zero, List.getElem_cons_succ]
                refine wpAnyH_done (by kernel_rfl) ?_ _
                have hxl15 : ∀ p ∈ Q.lg ++ [(a, b, xs)], p.2.2.length ≤ 8 := fun p hp => by
                  rcases List.mem_append.1 hp with hp | hp
                  · exact HQ.out.da p hp
                  · simp at hp; subst hp; exact hxl
                go_wp2
                go_meet
                exact ⟨_, _, _, t3, hide (HI5.out.mono (by omega)), hide ⟨HQ.out.sn, (by simp; omega), hxl15⟩⟩
              · skip
                go_simp
                have I5 := hide (I4.out.later (below_alloc w3 (.cells #[.int .i64 a, .int .i64 b, .slice ae xs.length ce] 58)))
                refine hK.out _ _ trivial (fun _ => ?_)
                clear hK K I4
                try simp only [Act.put, List.setIfInBounds_toArray, List.set_cons_zero, List.set_cons_succ, List.getElem_toArray, List.getElem_cons_zero, List.getElem_cons_succ]
                refine wpAnyH_ready (rs := [1]) (by kernel_rfl) (by simp) (AllReadyH.cons rfl (fun K hK => ?_) AllReadyH.nil)
                have c5 := I5.out.var.2.2.2.2.2
                go_simp
                refine hK.out _ _ trivial (fun _ => ?_)
                clear hK K c5
                try simp only [Act.put, List.setIfInBounds_toArray, List.set_cons_zero, List.set_cons_succ, List.getElem_toArray, List.getElem_cons_zero, List.getElem_cons_succ]
                obtain ⟨ag, cg, w5, hrun, hv5, hf5, hI5⟩ := HP.out
                have HI5 := hide hI5
                have HV5 := hide hv5
                have HF5 := hide hf5
                clear HP hI5 hv5 hf5
                refine wpAnyH_ready (rs := [5]) (by kernel_rfl) (by simp) (AllReadyH.cons rfl (fun K hK => ?_) AllReadyH.nil)
                refine step_append_run _ rfl (.tmp 36) (.tmp 39) 25 rfl rfl rfl hrun ?_
                refine hK.out _ _ trivial (fun _ => ?_)
                clear hK K hrun I5
                try simp only [Act.put, List.setIfInBounds_toArray, List.set_cons_zero, List.set_cons_succ, List.getElem_toArray, List.getElem_cons_zero, List.getElem_cons_succ]
                refine wpAnyH_take (i := 6) (v := ?vt11x6) rfl (by kernel_rfl) (by kernel_rfl) (by kernel_rfl) (fun _ _ _ h => h) (Or.inl ⟨by rfl, ?ht11x6⟩) trivial ?rt11x6
                case ht11x6 => intro w9 hSw; (try dsimp only at hSw); first | (go_simp; done) | (go_simp; with_reducible rfl)
                try simp only [Act.put, List.setIfInBounds_toArray, List.set_cons_zero, List.set_cons_succ, List.getElem_toArray, List.getElem_cons_zero, List.getElem_cons_succ]
                have e5 := HF5.out 5
                have c5 := HV5.out.2.2.2.2.2
                refine wpAnyH_ready (rs := [7]) (by kernel_rfl) (by simp) (AllReadyH.cons rfl (fun K hK => ?_) AllReadyH.nil)
                go_simp
                refine hK.out _ _ trivial (fun _ => ?_)
                clear hK K
                try simp only [Act.put, List.setIfInBounds_toArray, List.set_cons_zero, List.set_cons_succ, List.getElem_toArray, List.getElem_cons_zero, List.getElem_cons_succ]
                refine wpAnyH_done (by kernel_rfl) ?_ _
                have hxl15 : ∀ p ∈ Q.lg ++ [(a, b, xs)], p.2.2.length ≤ 8 := fun p hp => by
                  rcases List.mem_append.1 hp with hp | hp
                  · exact HQ.out.da p hp
                  · simp at hp; subst hp; exact hxl
                go_wp2
                go_meet
                exact ⟨_, _, _, t3, hide (HI5.out.mono (by omega)), hide ⟨HQ.out.sn, (by simp; omega), hxl15⟩⟩
          · skip
            go_wp2
            go_meet
            exact ⟨_, _, _, t2, hide (I2.out.mono (by omega)), HQ⟩
  case rest =>
    obtain ⟨X, yx, zx, t7, BX, DX⟩ := hcut
    obtain ⟨ax, cx, bx, dx, ey, ez⟩ := BX.out.mem.shape
    subst ey
    subst ez
    obtain ⟨r0, r1, r2, r3, r4, r5⟩ := BX.out.var
    obtain ⟨q0, q1, q2, q3, q4, q5⟩ := BX.out.res
    have f0 := BX.out.rfz 0
    have f1 := BX.out.rfz 1
    have f2 := BX.out.rfz 2
    have f3 := BX.out.rfz 3
    have f4 := BX.out.rfz 4
    have f5 := BX.out.rfz 5
    have hF := BgI.fin HS.out BX.out (show Wr (fun x => x = w.heap.size) wc ((((((wc.setCell ⟨w.heap.size, 0, none⟩ (.int .i64 X.tm)).setCell ⟨w.heap.size, 1, none⟩ (.int .i64 X.vt)).setCell ⟨w.heap.size, 2, none⟩ (.int .i64 X.si)).setCell ⟨w.heap.size, 3, none⟩ (.int .i64 X.st)).setCell ⟨w.heap.size, 4, none⟩ (.slice ax X.sn.length cx)).setCell ⟨w.heap.size, 5, none⟩ (.slice bx X.lg.length dx)) from (Wr.setCell (p := ⟨w.heap.size, 5, none⟩) (Wr.setCell (p := ⟨w.heap.size, 4, none⟩) (Wr.setCell (p := ⟨w.heap.size, 3, none⟩) (Wr.setCell (p := ⟨w.heap.size, 2, none⟩) (Wr.setCell (p := ⟨w.heap.size, 1, none⟩) (Wr.setCell (p := ⟨w.heap.size, 0, none⟩) (Wr.refl (fun x => x = w.heap.size) wc) rfl (.int .i64 X.tm)) rfl (.int .i64 X.vt)) rfl (.int .i64 X.si)) rfl (.int .i64 X.st)) rfl (.slice ax X.sn.length cx)) rfl (.slice bx X.lg.length dx)))
    go_wp2
    refine bodyPost_ret (v := .agg #[.int .i64 X.tm, .int .i64 X.vt, .int .i64 X.si, .int .i64 X.st, .slice ax X.sn.length cx, .slice bx X.lg.length dx]) (by simp [results, Tryz.results21, go_sem, q0, q1, q2, q3, q4, q5]) rfl ⟨X, _, _, rfl, DX.out, hF.1, _, hF.2⟩
end Go.Proofs.YtlliggfggadidaaGreatDoor
