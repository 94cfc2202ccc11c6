/- Bg2 Bh1 Bp1 Bo0 in one text: what each says stands at its head below. -/
import Derived.Test.YtlliggfggadidaaGreatDoorG24
import Derived.Test.YtlliggfggadidaaGreatDoorG12
import Derived.Test.YtlliggfggadidaaGreatDoorG08
import Derived.Test.YtlliggfggadidaaGreatDoorG21
namespace Go.Proofs.YtlliggfggadidaaGreatDoor
open Go.RowKit
set_option linter.unusedSimpArgs false in
set_option maxHeartbeats 4000000 in
set_option maxRecDepth 4000 in
theorem l10Bent {s : Nat} {v : Value} {bs : List Nat} {w : World} {t : Nat} (hS : Src s v bs w t) (ht : t ≤ 400000000) :
    Calls Tryz.prog 23 #[.pointer (some ⟨s, 0, none⟩)] w fun e w' => ∃ (Q : Rf) (y z : Value), e = .returned (.agg #[.int .i64 Q.tm, .int .i64 Q.vt, .int .i64 Q.si, .int .i64 Q.st, y, z]) ∧ BdR Q ∧ IvR w.heap.size w'.heap.size w' y z Q.sn Q.lg ∧ ∃ t', Drawn 2300 s v bs t t' w w' := by
  have HS := hide hS
  have hsl := hS.lt
  clear hS
  have D0 := hide ((Drawn.refl HS.out).later (below_alloc w (.cells #[.int .i64 0, .int .i64 0, .int .i64 0, .int .i64 0, .slice none 0 0, .slice none 0 0] 27)))
  have R0 := hide (Var6_new w (.int .i64 0) (.int .i64 0) (.int .i64 0) (.int .i64 0) (.slice none 0 0) (.slice none 0 0) 27)
  have F0 : Hid (∀ o, (w.alloc (.cells #[.int .i64 0, .int .i64 0, .int .i64 0, .int .i64 0, .slice none 0 0, .slice none 0 0] 27)).frozen? ⟨w.heap.size, o, none⟩ = false) := fun o => by simp [go_sem]
  have hs0 : (w.alloc (.cells #[.int .i64 0, .int .i64 0, .int .i64 0, .int .i64 0, .slice none 0 0, .slice none 0 0] 27)).heap.size = w.heap.size + 1 := by simp
  obtain ⟨W0, hW0⟩ : ∃ x, w.alloc (.cells #[.int .i64 0, .int .i64 0, .int .i64 0, .int .i64 0, .slice none 0 0, .slice none 0 0] 27) = x := ⟨_, rfl⟩
  rw [hW0] at D0 R0 F0 hs0
  go_enter Tryz.func23, Tryz.ntmps23
  go_upto_region 1 with fail
  (try rw [hW0])
  clear hW0
  go_wp2_with fail
  refine (l10Right D0.out.1 (by omega)).mono ?_
  rintro e w1 ⟨Q, y, z, rfl, hQ, hiv, t1, hd1⟩
  obtain ⟨ay, cy, az, cz, ey, ez⟩ := hiv.shape
  subst ey
  subst ez
  have HQ := hide (BdR.of hQ)
  have HL := (rf_nums hQ).2.2.2.2.1
  have hsz1 := hd1.2.1.size
  skip
  have hb1 := below_alloc w1 (.cells #[.int .i64 Q.tm, .int .i64 Q.vt, .int .i64 Q.si, .int .i64 Q.st, .slice ay Q.sn.length cy, .slice az Q.lg.length cz] 27)
  have hwl : w.heap.size < w1.heap.size := by omega
  have I1 : Hid (BgI w s v bs t (0 + 2000) w1.heap.size Q (.slice ay Q.sn.length cy) (.slice az Q.lg.length cz) t1 (w1.alloc (.cells #[.int .i64 Q.tm, .int .i64 Q.vt, .int .i64 Q.si, .int .i64 Q.st, .slice ay Q.sn.length cy, .slice az Q.lg.length cz] 27))) := ⟨(D0.out.on hd1).later hb1, (R0.out.wr hd1.2.1 (by show ¬ w.heap.size = s; omega)).later hb1, fun o => ((bcell hb1).2 _ _ hwl).trans ((hd1.2.1.frz _ _ (by omega)).trans (F0.out o)), Var6_new w1 (.int .i64 Q.tm) (.int .i64 Q.vt) (.int .i64 Q.si) (.int .i64 Q.st) (.slice ay Q.sn.length cy) (.slice az Q.lg.length cz) 27, fun o => by simp [go_sem], (MemG.of (B := w.heap.size) (RR := w1.heap.size) hiv (by omega) (Or.inl (Nat.le_refl _))).later hb1, hwl, hsl⟩
  clear hd1 D0 R0 F0 hQ hiv hb1
  go_upto_region 2 with fail
  obtain ⟨W1, hW1⟩ : ∃ x, w1.alloc (.cells #[.int .i64 Q.tm, .int .i64 Q.vt, .int .i64 Q.si, .int .i64 Q.st, .slice ay Q.sn.length cy, .slice az Q.lg.length cz] 27) = x := ⟨_, rfl⟩
  rw [hW1] at I1
  (try rw [hW1])
  clear hW1
  obtain ⟨RR, hRR⟩ : ∃ x, w1.heap.size = x := ⟨_, rfl⟩
  rw [hRR] at I1
  (try rw [hRR])
  clear hRR hwl hs0 hsz1
  go_wp2_with fail
  refine (l1Next 16 I1.out.dr.1 (by have := I1.out.dr.2.2; omega) (by omega) (by omega)).mono ?_
  rintro e w2 ⟨k, rfl, k0, k1, t2, hd2⟩
  have k2 := k1 (by omega)
  have I2 := hide (I1.out.on hd2)
  clear hd2 I1 k1
  have hs2 : s < w2.heap.size := by have := I2.out.old; have := I2.out.res.lt; omega
  have hdt := I2.out.dr.2.2
  go_upto_block 0 with fail
  go_cut [7] from 8 to 41 (fun _ wx => ∃ (X : Rf) (yx zx : Value) (t7 : Nat), Hid (BgI w s v bs t 2300 RR X yx zx t7 wx) ∧ Hid (BdR X))
  case first =>
    go_upto_if 8 with fail
    by_cases h0 : k = 0
    · subst h0
      have H3 := hide (I2.out.later (below_alloc w2 (.cells #[.int .i64 (-1), .int .i64 0, .int .i64 1000] 2)))
      go_wp2_with fail
      refine (l1Pick (xs := [-1, 0, 1000]) H3.out.dr.1 (by omega) (RdI_new s w2 [-1, 0, 1000] 2 hs2 (by simp)) (by simp) (by simp)).mono ?_
      rintro e w3 ⟨i, hi3, rfl, t3, hd3⟩
      have hxb : -1 ≤ ([-1, 0, 1000] : List Int).getD i 0 ∧ ([-1, 0, 1000] : List Int).getD i 0 ≤ 1000 := by
        rcases i with _ | _ | _ | i <;> simp at hi3 ⊢
      obtain ⟨x, hx⟩ : ∃ x : Int, ([-1, 0, 1000] : List Int).getD i 0 = x := ⟨_, rfl⟩
      rw [hx] at hxb ⊢
      have H4 := hide (H3.out.on hd3)
      clear hd3 hx hi3 H3
      obtain ⟨r0, r1, r2, r3, r4, r5⟩ := H4.out.var
      have f0 := H4.out.vfz 0
      have HE : Hid (BgI w s v bs t _ RR { Q with tm := x } _ _ t3 (w3.setCell ⟨RR, 0, none⟩ (.int .i64 x))) := H4.out.set HS.out ((Wr.refl (fun x => x = RR) w3).setCell (p := ⟨RR, 0, none⟩) rfl _) ⟨by simp [go_sem, r0], by simp [go_sem, r1], by simp [go_sem, r2], by simp [go_sem, r3], by simp [go_sem, r4], by simp [go_sem, r5]⟩ H4.out.mem
      go_wp2
      go_meet
      exact ⟨_, _, _, t3, hide (HE.out.mono (by omega)), hide { HQ.out with tm := hxb }⟩
    · skip
      go_upto_if 14 with fail
      by_cases h1 : k = 1
      · subst h1
        have H3 := hide (I2.out.later (below_alloc w2 (.cells #[.int .i64 0, .int .i64 1, .int .i64 9] 2)))
        go_wp2_with fail
        refine (l1Pick (xs := [0, 1, 9]) H3.out.dr.1 (by omega) (RdI_new s w2 [0, 1, 9] 2 hs2 (by simp)) (by simp) (by simp)).mono ?_
        rintro e w3 ⟨i, hi3, rfl, t3, hd3⟩
        have hxb : 0 ≤ ([0, 1, 9] : List Int).getD i 0 ∧ ([0, 1, 9] : List Int).getD i 0 ≤ 1000 := by
          rcases i with _ | _ | _ | i <;> simp at hi3 ⊢
        obtain ⟨x, hx⟩ : ∃ x : Int, ([0, 1, 9] : List Int).getD i 0 = x := ⟨_, rfl⟩
        rw [hx] at hxb ⊢
        have H4 := hide (H3.out.on hd3)
        clear hd3 hx hi3 H3
        obtain ⟨r0, r1, r2, r3, r4, r5⟩ := H4.out.var
        have f3 := H4.out.vfz 3
        have HE : Hid (BgI w s v bs t _ RR { Q with st := x } _ _ t3 (w3.setCell ⟨RR, 3, none⟩ (.int .i64 x))) := H4.out.set HS.out ((Wr.refl (fun x => x = RR) w3).setCell (p := ⟨RR, 3, none⟩) rfl _) ⟨by simp [go_sem, r0], by simp [go_sem, r1], by simp [go_sem, r2], by simp [go_sem, r3], by simp [go_sem, r4], by simp [go_sem, r5]⟩ H4.out.mem
        go_wp2
        go_meet
        exact ⟨_, _, _, t3, hide (HE.out.mono (by omega)), hide { HQ.out with st := hxb }⟩
      · skip
        go_upto_if 20 with fail
        by_cases h2 : k = 2
        · subst h2
          go_upto_region 8 with fail
          refine wp_region_held_drew (S := fun _ => True) (by kernel_rfl) trivial (fun _ => ?_)
          refine forgetH (fun wx => BgI w s v bs t (0 + 2000 + 1) RR Q (.slice ay Q.sn.length cy) (.slice az Q.lg.length cz) t2 wx) (I2.out.later (below_drewN w2 1)) ?_
          rintro Y0 i3
          have I3 := hide i3
          clear i3 I2
          refine wpAnyH_take (i := 0) (v := ?vt1x0) rfl (by kernel_rfl) (by kernel_rfl) (by kernel_rfl) (fun _ _ _ h => h) (Or.inl ⟨by rfl, ?ht1x0⟩) trivial ?rt1x0
          case ht1x0 => intro w9 hSw; (try dsimp only at hSw); first | (go_simp; done) | (go_simp; with_reducible rfl)
          try simp only [Act.put, List.setIfInBounds_toArray, List.set_cons_zero, List.set_cons_succ, List.getElem_toArray, List.getElem_cons_zero]
          refine wpAnyH_take (i := 2) (v := ?vt2x2) rfl (by kernel_rfl) (by kernel_rfl) (by kernel_rfl) (fun _ _ _ h => h) (Or.inl ⟨by rfl, ?ht2x2⟩) trivial ?rt2x2
          case ht2x2 => intro w9 hSw; (try dsimp only at hSw); first | (go_simp; done) | (go_simp; with_reducible rfl)
          try simp only [Act.put, List.setIfInBounds_toArray, List.set_cons_zero, List.set_cons_succ, List.getElem_toArray, List.getElem_cons_zero, List.getElem_cons_succ]
          refine wpAnyH_ready (rs := [1, 3]) (by kernel_rfl) (by simp) (AllReadyH.cons rfl (fun K hK => ?_) (AllReadyH.cons rfl (fun K hK => ?_) AllReadyH.nil))
          · skip
            have c5 := I3.out.var.2.2.2.2.2
            go_simp
            refine hK.out _ _ trivial (fun _ => ?_)
            clear hK K c5
            try simp only [Act.put, List.setIfInBounds_toArray, List.set_cons_zero, List.set_cons_succ, List.getElem_toArray, List.getElem_cons_zero, List.getElem_cons_succ]
            refine wpAnyH_ready (rs := [3]) (by kernel_rfl) (by simp) (AllReadyH.cons rfl (fun K hK => ?_) AllReadyH.nil)
            go_simp
            go_at_call 54
            refine (l9Bent I3.out.dr.1 (by omega)).mono ?_
            rintro e w3 ⟨a, b, ze, xs, rfl, hxl, hze, t3, hd3⟩
            have HP := hide (BgI.push (a := a) (b := b) HS.out I3.out hd3 hze (by have := HQ.out.lg; omega) 25)
            have I4 := hide (I3.out.on hd3)
            obtain ⟨ae, ce, rfl⟩ := hze.shape
            clear hze hd3 I3
            refine hK.out _ _ trivial (fun _ => ?_)
            clear hK K
            try simp only [Act.put, List.setIfInBounds_toArray, List.set_cons_zero, List.set_cons_succ, List.getElem_toArray, List.getElem_cons_zero, List.getElem_cons_succ]
            refine wpAnyH_ready (rs := [4]) (by kernel_rfl) (by simp) (AllReadyH.cons rfl (fun K hK => ?_) AllReadyH.nil)
            go_simp
            have I5 := hide (I4.out.later (below_alloc w3 (.cells #[.int .i64 a, .int .i64 b, .slice ae xs.length ce] 58)))
            refine hK.out _ _ trivial (fun _ => ?_)
            clear hK K I4
            try simp only [Act.put, List.setIfInBounds_toArray, List.set_cons_zero, List.set_cons_succ, List.getElem_toArray, List.getElem_cons_zero, List.getElem_cons_succ]
            obtain ⟨ag, cg, w5, hrun, hv5, hf5, hI5⟩ := HP.out
            have HI5 := hide hI5
            have HV5 := hide hv5
            have HF5 := hide hf5
            clear HP hI5 hv5 hf5
            refine wpAnyH_ready (rs := [5]) (by kernel_rfl) (by simp) (AllReadyH.cons rfl (fun K hK => ?_) AllReadyH.nil)
            refine step_append_run _ rfl (.tmp 23) (.tmp 26) 25 rfl rfl rfl hrun ?_
            refine hK.out _ _ trivial (fun _ => ?_)
            clear hK K hrun I5
            try simp only [Act.put, List.setIfInBounds_toArray, List.set_cons_zero, List.set_cons_succ, List.getElem_toArray, List.getElem_cons_zero, List.getElem_cons_succ]
            refine wpAnyH_take (i := 6) (v := ?vt3x6) rfl (by kernel_rfl) (by kernel_rfl) (by kernel_rfl) (fun _ _ _ h => h) (Or.inl ⟨by rfl, ?ht3x6⟩) trivial ?rt3x6
            case ht3x6 => intro w9 hSw; (try dsimp only at hSw); first | (go_simp; done) | (go_simp; with_reducible rfl)
            try simp only [Act.put, List.setIfInBounds_toArray, List.set_cons_zero, List.set_cons_succ, List.getElem_toArray, List.getElem_cons_zero, List.getElem_cons_succ]
            have e5 := HF5.out 5
            have c5 := HV5.out.2.2.2.2.2
            refine wpAnyH_ready (rs := [7]) (by kernel_rfl) (by simp) (AllReadyH.cons rfl (fun K hK => ?_) AllReadyH.nil)
            go_simp
            refine hK.out _ _ trivial (fun _ => ?_)
            clear hK K
            try simp only [Act.put, List.setIfInBounds_toArray, List.set_cons_zero, List.set_cons_succ, List.getElem_toArray, List.getElem_cons_zero, List.getElem_cons_succ]
            refine wpAnyH_done (by kernel_rfl) ?_ _
            have hxl15 : ∀ p ∈ Q.lg ++ [(a, b, xs)], p.2.2.length ≤ 8 := fun p hp => by
              rcases List.mem_append.1 hp with hp | hp
              · exact HQ.out.da p hp
              · simp at hp; subst hp; exact hxl
            go_wp2
            go_meet
            exact ⟨_, _, _, t3, hide (HI5.out.mono (by omega)), hide { HQ.out with lg := (by simp; omega), da := hxl15 }⟩
          · skip
            go_simp
            go_at_call 54
            refine (l9Bent I3.out.dr.1 (by omega)).mono ?_
            rintro e w3 ⟨a, b, ze, xs, rfl, hxl, hze, t3, hd3⟩
            have HP := hide (BgI.push (a := a) (b := b) HS.out I3.out hd3 hze (by have := HQ.out.lg; omega) 25)
            have I4 := hide (I3.out.on hd3)
            obtain ⟨ae, ce, rfl⟩ := hze.shape
            clear hze hd3 I3
            refine hK.out _ _ trivial (fun _ => ?_)
            clear hK K
            try simp only [Act.put, List.setIfInBounds_toArray, List.set_cons_zero, List.set_cons_succ, List.getElem_toArray, List.getElem_cons_zero, List.getElem_cons_succ]
            refine wpAnyH_ready (rs := [1, 4]) (by kernel_rfl) (by simp) (AllReadyH.cons rfl (fun K hK => ?_) (AllReadyH.cons rfl (fun K hK => ?_) AllReadyH.nil))
            · skip
              have c5 := I4.out.var.2.2.2.2.2
              go_simp
              refine hK.out _ _ trivial (fun _ => ?_)
              clear hK K c5
              try simp only [Act.put, List.setIfInBounds_toArray, List.set_cons_zero, List.set_cons_succ, List.getElem_toArray, List.getElem_cons_zero, List.getElem_cons_succ]
              refine wpAnyH_ready (rs := [4]) (by kernel_rfl) (by simp) (AllReadyH.cons rfl (fun K hK => ?_) AllReadyH.nil)
              go_simp
              have I5 := hide (I4.out.later (below_alloc w3 (.cells #[.int .i64 a, .int .i64 b, .slice ae xs.length ce] 58)))
              refine hK.out _ _ trivial (fun _ => ?_)
              clear hK K I4
              try simp only [Act.put, List.setIfInBounds_toArray, List.set_cons_zero, List.set_cons_succ, List.getElem_toArray, List.getElem_cons_zero, List.getElem_cons_succ]
              obtain ⟨ag, cg, w5, hrun, hv5, hf5, hI5⟩ := HP.out
              have HI5 := hide hI5
              have HV5 := hide hv5
              have HF5 := hide hf5
              clear HP hI5 hv5 hf5
              refine wpAnyH_ready (rs := [5]) (by kernel_rfl) (by simp) (AllReadyH.cons rfl (fun K hK => ?_) AllReadyH.nil)
              refine step_append_run _ rfl (.tmp 23) (.tmp 26) 25 rfl rfl rfl hrun ?_
              refine hK.out _ _ trivial (fun _ => ?_)
              clear hK K hrun I5
              try simp only [Act.put, List.setIfInBounds_toArray, List.set_cons_zero, List.set_cons_succ, List.getElem_toArray, List.getElem_cons_zero, List.getElem_cons_succ]
              refine wpAnyH_take (i := 6) (v := ?vt4x6) rfl (by kernel_rfl) (by kernel_rfl) (by kernel_rfl) (fun _ _ _ h => h) (Or.inl ⟨by rfl, ?ht4x6⟩) trivial ?rt4x6
              case ht4x6 => intro w9 hSw; (try dsimp only at hSw); first | (go_simp; done) | (go_simp; with_reducible rfl)
              try simp only [Act.put, List.setIfInBounds_toArray, List.set_cons_zero, List.set_cons_succ, List.getElem_toArray, List.getElem_cons_zero, List.getElem_cons_succ]
              have e5 := HF5.out 5
              have c5 := HV5.out.2.2.2.2.2
              refine wpAnyH_ready (rs := [7]) (by kernel_rfl) (by simp) (AllReadyH.cons rfl (fun K hK => ?_) AllReadyH.nil)
              go_simp
              refine hK.out _ _ trivial (fun _ => ?_)
              clear hK K
              try simp only [Act.put, List.setIfInBounds_toArray, List.set_cons_zero, List.set_cons_succ, List.getElem_toArray, List.getElem_cons_zero, List.getElem_cons_succ]
              refine wpAnyH_done (by kernel_rfl) ?_ _
              have hxl15 : ∀ p ∈ Q.lg ++ [(a, b, xs)], p.2.2.length ≤ 8 := fun p hp => by
                rcases List.mem_append.1 hp with hp | hp
                · exact HQ.out.da p hp
                · simp at hp; subst hp; exact hxl
              go_wp2
              go_meet
              exact ⟨_, _, _, t3, hide (HI5.out.mono (by omega)), hide { HQ.out with lg := (by simp; omega), da := hxl15 }⟩
            · skip
              go_simp
              have I5 := hide (I4.out.later (below_alloc w3 (.cells #[.int .i64 a, .int .i64 b, .slice ae xs.length ce] 58)))
              refine hK.out _ _ trivial (fun _ => ?_)
              clear hK K I4
              try simp only [Act.put, List.setIfInBounds_toArray, List.set_cons_zero, List.set_cons_succ, List.getElem_toArray, List.getElem_cons_zero, List.getElem_cons_succ]
              refine wpAnyH_ready (rs := [1]) (by kernel_rfl) (by simp) (AllReadyH.cons rfl (fun K hK => ?_) AllReadyH.nil)
              have c5 := I5.out.var.2.2.2.2.2
              go_simp
              refine hK.out _ _ trivial (fun _ => ?_)
              clear hK K c5
              try simp only [Act.put, List.setIfInBounds_toArray, List.set_cons_zero, List.set_cons_succ, List.getElem_toArray, List.getElem_cons_zero, List.getElem_cons_succ]
              obtain ⟨ag, cg, w5, hrun, hv5, hf5, hI5⟩ := HP.out
              have HI5 := hide hI5
              have HV5 := hide hv5
              have HF5 := hide hf5
              clear HP hI5 hv5 hf5
              refine wpAnyH_ready (rs := [5]) (by kernel_rfl) (by simp) (AllReadyH.cons rfl (fun K hK => ?_) AllReadyH.nil)
              refine step_append_run _ rfl (.tmp 23) (.tmp 26) 25 rfl rfl rfl hrun ?_
              refine hK.out _ _ trivial (fun _ => ?_)
              clear hK K hrun I5
              try simp only [Act.put, List.setIfInBounds_toArray, List.set_cons_zero, List.set_cons_succ, List.getElem_toArray, List.getElem_cons_zero, List.getElem_cons_succ]
              refine wpAnyH_take (i := 6) (v := ?vt5x6) rfl (by kernel_rfl) (by kernel_rfl) (by kernel_rfl) (fun _ _ _ h => h) (Or.inl ⟨by rfl, ?ht5x6⟩) trivial ?rt5x6
              case ht5x6 => intro w9 hSw; (try dsimp only at hSw); first | (go_simp; done) | (go_simp; with_reducible rfl)
              try simp only [Act.put, List.setIfInBounds_toArray, List.set_cons_zero, List.set_cons_succ, List.getElem_toArray, List.getElem_cons_zero, List.getElem_cons_succ]
              have e5 := HF5.out 5
              have c5 := HV5.out.2.2.2.2.2
              refine wpAnyH_ready (rs := [7]) (by kernel_rfl) (by simp) (AllReadyH.cons rfl (fun K hK => ?_) AllReadyH.nil)
              go_simp
              refine hK.out _ _ trivial (fun _ => ?_)
              clear hK K
              try simp only [Act.put, List.setIfInBounds_toArray, List.set_cons_zero, List.set_cons_succ, List.getElem_toArray, List.getElem_cons_zero, List.getElem_cons_succ]
              refine wpAnyH_done (by kernel_rfl) ?_ _
              have hxl15 : ∀ p ∈ Q.lg ++ [(a, b, xs)], p.2.2.length ≤ 8 := fun p hp => by
                rcases List.mem_append.1 hp with hp | hp
                · exact HQ.out.da p hp
                · simp at hp; subst hp; exact hxl
              go_wp2
              go_meet
              exact ⟨_, _, _, t3, hide (HI5.out.mono (by omega)), hide { HQ.out with lg := (by simp; omega), da := hxl15 }⟩
        · skip
          go_upto_if 29 with fail
          by_cases h3 : k = 3
          · subst h3
            go_wp2_with fail
            refine (l1Next 2 I2.out.dr.1 (by omega) (by omega) (by omega)).mono ?_
            rintro e w3 ⟨j, rfl, j0, j1, t3, hd3⟩
            have j2 := j1 (by omega)
            have I3 := hide (I2.out.on hd3)
            clear hd3 j1 I2
            by_cases hj : j = 0
            · subst hj
              have HW := hide (made_ints w3 40 (by omega) 2)
              have hmk : ∀ wz : World, (Instr.makeSlice 24 (.int .i64 40) (.int .i64 40)).run Tryz.prog wz = .ok (.slice (some ⟨wz.heap.size, 0, none⟩) 40 40) (wz.alloc (.cells (madeCells #[.int .i64 0] 40) 2)) := fun wz => run_make_row' (P := Tryz.prog) 24 2 (.int .i64 0) 8 Tryz.underlying24 Tryz.infoInt rfl .i64 .i64 40 (by omega) (by omega) wz
              generalize madeCells #[.int .i64 0] 40 = MC at hmk HW
              have I4 := hide (I3.out.later (below_alloc w3 (.cells MC 2)))
              obtain ⟨r0, r1, r2, r3, r4, r5⟩ := I4.out.var
              have f4 := I4.out.vfz 4
              have HE : Hid (BgI w s v bs t _ RR { Q with sn := List.replicate 40 0 } (.slice (some ⟨w3.heap.size, 0, none⟩) 40 40) _ t3 ((w3.alloc (.cells MC 2)).setCell ⟨RR, 4, none⟩ (.slice (some ⟨w3.heap.size, 0, none⟩) 40 40))) := I4.out.set HS.out ((Wr.refl (fun x => x = RR) _).setCell (p := ⟨RR, 4, none⟩) rfl _) ⟨by simp [go_sem, r0], by simp [go_sem, r1], by simp [go_sem, r2], by simp [go_sem, r3], by simp [go_sem, r4], by simp [go_sem, r5]⟩ (I3.out.mem.words (below_alloc w3 _) HW.out (Nat.le_refl _) (by have := I3.out.res.lt; omega) I3.out.lt)
              go_wp2
              go_meet
              exact ⟨_, _, _, t3, hide (HE.out.mono (by omega)), hide { HQ.out with sn := by simp }⟩
            · obtain rfl : j = 1 := by omega
              have HW := hide (made_ints w3 41 (by omega) 2)
              have hmk : ∀ wz : World, (Instr.makeSlice 24 (.int .i64 41) (.int .i64 41)).run Tryz.prog wz = .ok (.slice (some ⟨wz.heap.size, 0, none⟩) 41 41) (wz.alloc (.cells (madeCells #[.int .i64 0] 41) 2)) := fun wz => run_make_row' (P := Tryz.prog) 24 2 (.int .i64 0) 8 Tryz.underlying24 Tryz.infoInt rfl .i64 .i64 41 (by omega) (by omega) wz
              generalize madeCells #[.int .i64 0] 41 = MC at hmk HW
              have I4 := hide (I3.out.later (below_alloc w3 (.cells MC 2)))
              obtain ⟨r0, r1, r2, r3, r4, r5⟩ := I4.out.var
              have f4 := I4.out.vfz 4
              have HE : Hid (BgI w s v bs t _ RR { Q with sn := List.replicate 41 0 } (.slice (some ⟨w3.heap.size, 0, none⟩) 41 41) _ t3 ((w3.alloc (.cells MC 2)).setCell ⟨RR, 4, none⟩ (.slice (some ⟨w3.heap.size, 0, none⟩) 41 41))) := I4.out.set HS.out ((Wr.refl (fun x => x = RR) _).setCell (p := ⟨RR, 4, none⟩) rfl _) ⟨by simp [go_sem, r0], by simp [go_sem, r1], by simp [go_sem, r2], by simp [go_sem, r3], by simp [go_sem, r4], by simp [go_sem, r5]⟩ (I3.out.mem.words (below_alloc w3 _) HW.out (Nat.le_refl _) (by have := I3.out.res.lt; omega) I3.out.lt)
              go_wp2
              go_meet
              exact ⟨_, _, _, t3, hide (HE.out.mono (by omega)), hide { HQ.out with sn := by simp }⟩
          · skip
            go_upto_if 36 with fail
            by_cases h4 : k = 4
            · subst h4
              have H3 := hide (I2.out.later (below_alloc w2 (.cells #[.int .i64 (-1), .int .i64 10] 2)))
              go_wp2_with fail
              refine (l1Pick (xs := [-1, 10]) H3.out.dr.1 (by omega) (RdI_new s w2 [-1, 10] 2 hs2 (by simp)) (by simp) (by simp)).mono ?_
              rintro e w3 ⟨i, hi3, rfl, t3, hd3⟩
              have hxb : -1 ≤ ([-1, 10] : List Int).getD i 0 ∧ ([-1, 10] : List Int).getD i 0 ≤ 10 := by
                rcases i with _ | _ | i <;> simp at hi3 ⊢
              obtain ⟨x, hx⟩ : ∃ x : Int, ([-1, 10] : List Int).getD i 0 = x := ⟨_, rfl⟩
              rw [hx] at hxb ⊢
              have H4 := hide (H3.out.on hd3)
              clear hd3 hx hi3 H3
              obtain ⟨r0, r1, r2, r3, r4, r5⟩ := H4.out.var
              have f1 := H4.out.vfz 1
              have HE : Hid (BgI w s v bs t _ RR { Q with vt := x } _ _ t3 (w3.setCell ⟨RR, 1, none⟩ (.int .i64 x))) := H4.out.set HS.out ((Wr.refl (fun x => x = RR) w3).setCell (p := ⟨RR, 1, none⟩) rfl _) ⟨by simp [go_sem, r0], by simp [go_sem, r1], by simp [go_sem, r2], by simp [go_sem, r3], by simp [go_sem, r4], by simp [go_sem, r5]⟩ H4.out.mem
              go_wp2
              go_meet
              exact ⟨_, _, _, t3, hide (HE.out.mono (by omega)), hide { HQ.out with vt := hxb }⟩
            · skip
              go_wp2
              go_meet
              exact ⟨_, _, _, t2, hide (I2.out.mono (by omega)), HQ⟩
  case rest =>
    obtain ⟨X, yx, zx, t7, BX, DX⟩ := hcut
    obtain ⟨ax, cx, bx, dx, ey, ez⟩ := BX.out.mem.shape
    subst ey
    subst ez
    obtain ⟨r0, r1, r2, r3, r4, r5⟩ := BX.out.var
    obtain ⟨q0, q1, q2, q3, q4, q5⟩ := BX.out.res
    have f0 := BX.out.rfz 0
    have f1 := BX.out.rfz 1
    have f2 := BX.out.rfz 2
    have f3 := BX.out.rfz 3
    have f4 := BX.out.rfz 4
    have f5 := BX.out.rfz 5
    have hF := BgI.fin HS.out BX.out (show Wr (fun x => x = w.heap.size) wc ((((((wc.setCell ⟨w.heap.size, 0, none⟩ (.int .i64 X.tm)).setCell ⟨w.heap.size, 1, none⟩ (.int .i64 X.vt)).setCell ⟨w.heap.size, 2, none⟩ (.int .i64 X.si)).setCell ⟨w.heap.size, 3, none⟩ (.int .i64 X.st)).setCell ⟨w.heap.size, 4, none⟩ (.slice ax X.sn.length cx)).setCell ⟨w.heap.size, 5, none⟩ (.slice bx X.lg.length dx)) from (Wr.setCell (p := ⟨w.heap.size, 5, none⟩) (Wr.setCell (p := ⟨w.heap.size, 4, none⟩) (Wr.setCell (p := ⟨w.heap.size, 3, none⟩) (Wr.setCell (p := ⟨w.heap.size, 2, none⟩) (Wr.setCell (p := ⟨w.heap.size, 1, none⟩) (Wr.setCell (p := ⟨w.heap.size, 0, none⟩) (Wr.refl (fun x => x = w.heap.size) wc) rfl (.int .i64 X.tm)) rfl (.int .i64 X.vt)) rfl (.int .i64 X.si)) rfl (.int .i64 X.st)) rfl (.slice ax X.sn.length cx)) rfl (.slice bx X.lg.length dx)))
    go_wp2
    refine bodyPost_ret (v := .agg #[.int .i64 X.tm, .int .i64 X.vt, .int .i64 X.si, .int .i64 X.st, .slice ax X.sn.length cx, .slice bx X.lg.length dx]) (by simp [results, Tryz.results23, go_sem, q0, q1, q2, q3, q4, q5]) rfl ⟨X, _, _, rfl, DX.out, hF.1, _, hF.2⟩
end Go.Proofs.YtlliggfggadidaaGreatDoor
namespace Go.Proofs.YtlliggfggadidaaGreatDoor
open Go.RowKit
theorem RdB.laterH {s : Nat} {w w' : World} {v : Value} {bs : List Nat} (h : RdB s w v bs) (hb : Below w.heap.size w w') : RdB w'.heap.size w' v bs := by
  obtain ⟨ao, c, e1, e2, e3⟩ := h
  refine ⟨ao, c, e1, e2, fun hne => ?_⟩
  obtain ⟨b, off, f1, f2, f3⟩ := e3 hne
  have h1 := cell_later hb (f3 0 (List.length_pos_iff.2 hne)).1
  have := World.block_lt_of_cell? _ _ h1
  exact ⟨b, off, f1, by simp at this; omega, fun i hi => ⟨cell_later hb (f3 i hi).1, (f3 i hi).2⟩⟩
end Go.Proofs.YtlliggfggadidaaGreatDoor
namespace Go.Proofs.YtlliggfggadidaaGreatDoor
open Go.RowKit
theorem tmV_nn {r : Rf} {i : Int} (h : rfF r = 0) : 0 ≤ tmV r i := by
  have h1 := rfF_iff.1 h
  obtain ⟨⟨⟨a1, a2⟩, _⟩, _, b1, b2⟩ := h1.rg
  unfold tmV
  by_cases hc : tmC r i = 0
  · rw [if_pos hc]
    by_cases hi : i = r.si
    · rw [if_pos hi]; omega
    · rw [if_neg hi]
      have hlt : (i - r.si - 1).toNat < r.lg.length := by
        unfold tmC at hc
        by_cases k1 : i < r.si
        · rw [if_pos k1] at hc; exact absurd hc (by decide)
        · rw [if_neg k1] at hc
          by_cases k2 : lastR r < i
          · rw [if_pos k2] at hc; exact absurd hc (by decide)
          · unfold lastR at k2; omega
      have := (entF_zero ((logF_iff.1 h1.lo).2.1 _ hlt)).1.2
      omega
  · rw [if_neg hc]; omega
theorem RdB.at {w w1 : World} {v : Value} {bs : List Nat} {s : Nat} (h : RdB w.heap.size w v bs) (hb : Below w.heap.size w w1) (hs : w.heap.size ≤ s) : RdB s w1 v bs := by
  obtain ⟨ao, c, e1, e2, e3⟩ := h
  refine ⟨ao, c, e1, e2, fun hne => ?_⟩
  obtain ⟨b, off, f1, f2, f3⟩ := e3 hne
  have h1 := (f3 0 (List.length_pos_iff.2 hne)).1
  have := World.block_lt_of_cell? _ _ h1
  exact ⟨b, off, f1, by simp at this; omega, fun i hi => ⟨cell_later hb (f3 i hi).1, (f3 i hi).2⟩⟩
theorem owns_rdI {w : World} {v : Value} {xs : List Int} (h : w.ownsRow 0 2 1 v xs.length (xs.map (Value.int .i64))) (hm : xs.length ≤ 1048576) : RdI (fun x => v.ownBlock = some x) w v xs := by
  rcases h.2 with ⟨e1, e2⟩ | ⟨g, cap, cur, e1, _⟩
  · rw [e1]; exact ⟨none, 0, by rw [e2], by rw [e2]; omega, fun hne => absurd (List.eq_nil_of_length_eq_zero e2) hne⟩
  · obtain ⟨b, q1, q2⟩ := ow_of_owns rfl h (by omega)
    refine q1.narrow fun hne x hxb => ?_
    subst hxb
    obtain ⟨ao', c', f1, f2, f3⟩ := q1
    obtain ⟨b', off', f4, f5, f6⟩ := f3 hne
    rw [e1] at f1
    injection f1 with f1 _ _
    rw [f4] at f1
    injection f1 with f1
    injection f1 with f1 _
    rw [e1, ← f5, ← f1]
    rfl
theorem RdI.lowB {M b : Nat} {w w1 : World} {u : Value} {xs : List Int} (h : RdI (· = b) w u xs) (hb : Below M w w1) (hl : xs ≠ [] → b < M) : RdI (· = b) w1 u xs := by
  obtain ⟨ao, c, h1, h2, h3⟩ := h
  refine ⟨ao, c, h1, h2, fun hne => ?_⟩
  obtain ⟨x, off, e, rfl, hc⟩ := h3 hne
  exact ⟨x, off, e, rfl, fun i hi => (hb.cell (p := ⟨x, off + i, none⟩) (hl hne)).trans (hc i hi)⟩
theorem OwJ.lowB {S : Nat → Prop} {M : Nat} {w w1 : World} {u : Value} {ts : List Oj} (h : OwJ S w u ts) (hb : Below M w w1) (hS : ∀ b, S b → b < M) : OwJ S w1 u ts := by
  obtain ⟨ao, c, b, off, V, B, h1, ⟨h2, h2c, hroom⟩, h3, h4⟩ := h
  refine ⟨ao, c, b, off, V, B, h1, ⟨h2, h2c, fun o ho => ?_⟩, fun hne => ⟨(h3 hne).1, (h3 hne).2.1, fun o => (hb.frozen (p := ⟨b, o, none⟩) (hS _ (h3 hne).2.1)).trans ((h3 hne).2.2 o)⟩, fun i hi => ?_⟩
  · obtain ⟨k1, k2, k3, x, k4⟩ := hroom o ho
    exact ⟨k1, k2, fun q => (hb.frozen (p := ⟨b, q, none⟩) (hS _ k2)).trans (k3 q), x, (hb.cell (p := ⟨b, off + o, none⟩) (hS _ k2)).trans k4⟩
  · obtain ⟨f0, f1, f2, f3, f4⟩ := h4 i hi
    have hne : ts ≠ [] := by rintro rfl; exact absurd hi (Nat.not_lt_zero _)
    have hbM := hS _ (h3 hne).2.1
    exact ⟨(hb.cell (p := ⟨b, off + i * 3, none⟩) hbM).trans f0, (hb.cell (p := ⟨b, off + i * 3 + 1, none⟩) hbM).trans f1, (hb.cell (p := ⟨b, off + i * 3 + 2, none⟩) hbM).trans f2, f3.lowB hb (fun hn => hS _ (f4 hn).1), fun hn => ⟨(f4 hn).1, (f4 hn).2.1, fun o => (hb.frozen (p := ⟨B i, o, none⟩) (hS _ (f4 hn).1)).trans ((f4 hn).2.2.1 o), (f4 hn).2.2.2⟩⟩
theorem IvR.lowB {lo hi M : Nat} {w w1 : World} {y z : Value} {xs : List Int} {ps : List Oj} (h : IvR lo hi w y z xs ps) (hb : Below M w w1) (hM : hi ≤ M) : IvR lo hi w1 y z xs ps := by
  obtain ⟨b, S, h1, h2, h3, h4, h5⟩ := h
  exact ⟨b, S, h1.lowB hb (fun hn => by have := (h2 hn).2.1; omega), fun hn => ⟨(h2 hn).1, (h2 hn).2.1, (h2 hn).2.2.1, fun o => (hb.frozen (p := ⟨b, o, none⟩) (by have := (h2 hn).2.1; show b < M; omega)).trans ((h2 hn).2.2.2 o)⟩, Nat.le_trans h3 hb.size, h4, h5.lowB hb (fun x hx => by have := h4 x hx; omega)⟩
theorem Var6.lowB {M b : Nat} {w w1 : World} {x0 x1 x2 x3 x4 x5 : Value} (h : Var6 w b x0 x1 x2 x3 x4 x5) (hb : Below M w w1) (hM : b < M) : Var6 w1 b x0 x1 x2 x3 x4 x5 :=
  ⟨(hb.cell (p := ⟨b, 0, none⟩) hM).trans h.1, (hb.cell (p := ⟨b, 1, none⟩) hM).trans h.2.1, (hb.cell (p := ⟨b, 2, none⟩) hM).trans h.2.2.1, (hb.cell (p := ⟨b, 3, none⟩) hM).trans h.2.2.2.1, (hb.cell (p := ⟨b, 4, none⟩) hM).trans h.2.2.2.2.1, (hb.cell (p := ⟨b, 5, none⟩) hM).trans h.2.2.2.2.2⟩
end Go.Proofs.YtlliggfggadidaaGreatDoor
namespace Go.Proofs.YtlliggfggadidaaGreatDoor
open Go.RowKit
theorem EoRow.ow {P : Nat → Prop} {w : World} {v : Value} {k : Nat} {gs : List Oj} (h : EoRow P w v k gs) (hk : gs.length = k) (hm : k ≤ 1048576) (hl : ∀ i, i < gs.length → (gs.getD i oj0).2.2.length ≤ 1048576) : OwJ (fun b => P b ∧ b < w.heap.size) w v gs := by
  obtain ⟨V, h1, hpr, h3⟩ := h
  subst hk
  rcases h1.2 with ⟨rfl, e⟩ | ⟨g, cap, cur, rfl, hg, hh, hnc, _, hcs, _⟩
  · have : gs = [] := List.eq_nil_of_length_eq_zero e
    subst this
    exact OwJ_nil _ _
  · have hB : ∀ i, i < gs.length → (gs.getD i oj0).2.2 ≠ [] → ∃ g2, (V i).ownBlock = some g2 ∧ g2 < w.heap.size ∧ ∀ o, w.frozen? ⟨g2, o, none⟩ = false := fun i hi hn => by
      have hr := h3.1 i hi
      rcases hr.1.2 with ⟨e1, e2⟩ | ⟨g2, cap2, cur2, e1, _, hh2, _⟩
      · exact absurd (List.eq_nil_of_length_eq_zero e2) hn
      · have hf := hr.1
        rw [e1] at hf
        exact ⟨g2, by rw [e1]; rfl, (Array.getElem?_eq_some_iff.1 hh2).1, fun o => hf.frozenAt o⟩
    refine ⟨_, cap, g, 0, V, fun i => ((V i).ownBlock).getD 0, rfl, ⟨by omega, hnc, RoomJ_row ⟨hpr g rfl, (Array.getElem?_eq_some_iff.1 hh).1⟩ hh hcs⟩, fun _ => ⟨rfl, ⟨hpr g rfl, (Array.getElem?_eq_some_iff.1 hh).1⟩, fun o => h1.frozenAt o⟩, fun i hi => ⟨?_, ?_, ?_, ?_, fun hn => ?_⟩⟩
    · rw [Nat.zero_add, h1.cellAt (i * 3) (by omega)]
      exact cellsEn_flg _ _ _ _ hi
    · rw [Nat.zero_add, h1.cellAt (i * 3 + 1) (by omega)]
      exact cellsEn_num _ _ _ _ hi
    · rw [Nat.zero_add, h1.cellAt (i * 3 + 2) (by omega)]
      exact cellsEn_words _ _ _ _ hi
    · exact (owns_rdI (h3.1 i hi).1 (hl i hi)).narrow fun _ x hx => by have hx : (V i).ownBlock = some x := hx; show x = ((V i).ownBlock).getD 0; rw [hx]; rfl
    · obtain ⟨g2, e3, hg2, hf2⟩ := hB i hi hn
      have hr := (h3.1 i hi).2 g2 e3
      simp only [e3, Option.getD_some]
      refine ⟨⟨hr.1, hg2⟩, fun e => hr.2 (by rw [e]; rfl), hf2, fun j hj hnj hBj => ?_⟩
      obtain ⟨g4, e4, _, _⟩ := hB j hj hnj
      simp only [e4, Option.getD_some] at hBj
      subst hBj
      by_cases hij : i = j
      · exact hij.symm
      · exact absurd e4 (h3.2 i j hi hj hij g4 e3)
end Go.Proofs.YtlliggfggadidaaGreatDoor
