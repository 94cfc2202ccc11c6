/- Bg2 in one text: what each says stands at its head below. -/
import Derived.Test.YtncgpfapepminaaDoorG35
/- Chapter 10, draws: 'spec.l10Bent', walked. Made by program (genbg.py). -/
namespace Go.Proofs.YtncgpfapepminaaDoor
open Go.RowKit

set_option linter.unusedSimpArgs false in
set_option maxHeartbeats 4000000 in
set_option maxRecDepth 4000 in
/-- 'l10Bent': a right store, bent here or there or not at all, of new memory. -/
theorem l10Bent {s : Nat} {v : Value} {bs : List Nat} {w : World} {t : Nat} (hS : Src s v bs w t) (ht : t ≤ 400000000) :
    Calls Tryd.prog 24 #[.pointer (some ⟨s, 0, none⟩)] w fun e w' => ∃ (Q : Rf) (y z : Value), e = .returned (.agg #[.int .i64 Q.tm, .int .i64 Q.vt, .int .i64 Q.si, .int .i64 Q.st, y, z]) ∧ BdR Q ∧ IvR w.heap.size w'.heap.size w' y z Q.sn Q.lg ∧ ∃ t', Drawn 2300 s v bs t t' w w' := by
  have HS := hide hS
  have hsl := hS.lt
  clear hS
  have D0 := hide ((Drawn.refl HS.out).later (below_alloc w (.cells #[.int .i64 0, .int .i64 0, .int .i64 0, .int .i64 0, .slice none 0 0, .slice none 0 0] 27)))
  have R0 := hide (Var6_new w (.int .i64 0) (.int .i64 0) (.int .i64 0) (.int .i64 0) (.slice none 0 0) (.slice none 0 0) 27)
  have F0 : Hid (∀ o, (w.alloc (.cells #[.int .i64 0, .int .i64 0, .int .i64 0, .int .i64 0, .slice none 0 0, .slice none 0 0] 27)).frozen? ⟨w.heap.size, o, none⟩ = false) := fun o => by simp [go_sem]
  have hs0 : (w.alloc (.cells #[.int .i64 0, .int .i64 0, .int .i64 0, .int .i64 0, .slice none 0 0, .slice none 0 0] 27)).heap.size = w.heap.size + 1 := by simp
  obtain ⟨W0, hW0⟩ : ∃ x, w.alloc (.cells #[.int .i64 0, .int .i64 0, .int .i64 0, .int .i64 0, .slice none 0 0, .slice none 0 0] 27) = x := ⟨_, rfl⟩
  rw [hW0] at D0 R0 F0 hs0
  go_enter Tryd.func24, Tryd.ntmps24
  go_upto_region 1 with fail
  (try rw [hW0])
  clear hW0
  go_wp2_with fail
  refine (l10Right D0.out.1 (by omega)).mono ?_
  rintro e w1 ⟨Q, y, z, rfl, hQ, hiv, t1, hd1⟩
  obtain ⟨ay, cy, az, cz, ey, ez⟩ := hiv.shape
  subst ey
  subst ez
  have HQ := hide (BdR.of hQ)
  have HL := (rf_nums hQ).2.2.2.2.1
  have hsz1 := hd1.2.1.size
  skip
  have hb1 := below_alloc w1 (.cells #[.int .i64 Q.tm, .int .i64 Q.vt, .int .i64 Q.si, .int .i64 Q.st, .slice ay Q.sn.length cy, .slice az Q.lg.length cz] 27)
  have hwl : w.heap.size < w1.heap.size := by omega
  have I1 : Hid (BgI w s v bs t (0 + 2000) w1.heap.size Q (.slice ay Q.sn.length cy) (.slice az Q.lg.length cz) t1 (w1.alloc (.cells #[.int .i64 Q.tm, .int .i64 Q.vt, .int .i64 Q.si, .int .i64 Q.st, .slice ay Q.sn.length cy, .slice az Q.lg.length cz] 27))) := ⟨(D0.out.on hd1).later hb1, (R0.out.wr hd1.2.1 (by show ¬ w.heap.size = s; omega)).later hb1, fun o => ((bcell hb1).2 _ _ hwl).trans ((hd1.2.1.frz _ _ (by omega)).trans (F0.out o)), Var6_new w1 (.int .i64 Q.tm) (.int .i64 Q.vt) (.int .i64 Q.si) (.int .i64 Q.st) (.slice ay Q.sn.length cy) (.slice az Q.lg.length cz) 27, fun o => by simp [go_sem], (MemG.of (B := w.heap.size) (RR := w1.heap.size) hiv (by omega) (Or.inl (Nat.le_refl _))).later hb1, hwl, hsl⟩
  clear hd1 D0 R0 F0 hQ hiv hb1
  go_upto_region 2 with fail
  obtain ⟨W1, hW1⟩ : ∃ x, w1.alloc (.cells #[.int .i64 Q.tm, .int .i64 Q.vt, .int .i64 Q.si, .int .i64 Q.st, .slice ay Q.sn.length cy, .slice az Q.lg.length cz] 27) = x := ⟨_, rfl⟩
  rw [hW1] at I1
  (try rw [hW1])
  clear hW1
  obtain ⟨RR, hRR⟩ : ∃ x, w1.heap.size = x := ⟨_, rfl⟩
  rw [hRR] at I1
  (try rw [hRR])
  clear hRR hwl hs0 hsz1
  go_wp2_with fail
  refine (l1Next 16 I1.out.dr.1 (by have := I1.out.dr.2.2; omega) (by omega) (by omega)).mono ?_
  rintro e w2 ⟨k, rfl, k0, k1, t2, hd2⟩
  have k2 := k1 (by omega)
  have I2 := hide (I1.out.on hd2)
  clear hd2 I1 k1
  have hs2 : s < w2.heap.size := by have := I2.out.old; have := I2.out.res.lt; omega
  have hdt := I2.out.dr.2.2
  go_upto_block 0 with fail
  go_cut [7] from 8 to 41 (fun _ wx => ∃ (X : Rf) (yx zx : Value) (t7 : Nat), Hid (BgI w s v bs t 2300 RR X yx zx t7 wx) ∧ Hid (BdR X))
  case first =>
    go_upto_if 8 with fail
    by_cases h0 : k = 0
    · subst h0
      have H3 := hide (I2.out.later (below_alloc w2 (.cells #[.int .i64 (-1), .int .i64 0, .int .i64 1000] 2)))
      go_wp2_with fail
      refine (l1Pick (xs := [-1, 0, 1000]) H3.out.dr.1 (by omega) (RdI_new s w2 [-1, 0, 1000] 2 hs2 (by simp)) (by simp) (by simp)).mono ?_
      rintro e w3 ⟨i, hi3, rfl, t3, hd3⟩
      have hxb : -1 ≤ ([-1, 0, 1000] : List Int).getD i 0 ∧ ([-1, 0, 1000] : List Int).getD i 0 ≤ 1000 := by
        rcases i with _ | _ | _ | i <;> simp at hi3 ⊢
      obtain ⟨x, hx⟩ : ∃ x : Int, ([-1, 0, 1000] : List Int).getD i 0 = x := ⟨_, rfl⟩
      rw [hx] at hxb ⊢
      have H4 := hide (H3.out.on hd3)
      clear hd3 hx hi3 H3
      obtain ⟨r0, r1, r2, r3, r4, r5⟩ := H4.out.var
      have f0 := H4.out.vfz 0
      have HE : Hid (BgI w s v bs t _ RR { Q with tm := x } _ _ t3 (w3.setCell ⟨RR, 0, none⟩ (.int .i64 x))) := H4.out.set HS.out ((Wr.refl (fun x => x = RR) w3).setCell (p := ⟨RR, 0, none⟩) rfl _) ⟨by simp [go_sem, r0], by simp [go_sem, r1], by simp [go_sem, r2], by simp [go_sem, r3], by simp [go_sem, r4], by simp [go_sem, r5]⟩ H4.out.mem
      go_wp2
      go_meet
      exact ⟨_, _, _, t3, hide (HE.out.mono (by omega)), hide { HQ.out with tm := hxb }⟩
    · skip
      go_upto_if 14 with fail
      by_cases h1 : k = 1
      · subst h1
        have H3 := hide (I2.out.later (below_alloc w2 (.cells #[.int .i64 0, .int .i64 1, .int .i64 9] 2)))
        go_wp2_with fail
        refine (l1Pick (xs := [0, 1, 9]) H3.out.dr.1 (by omega) (RdI_new s w2 [0, 1, 9] 2 hs2 (by simp)) (by simp) (by simp)).mono ?_
        rintro e w3 ⟨i, hi3, rfl, t3, hd3⟩
        have hxb : 0 ≤ ([0, 1, 9] : List Int).getD i 0 ∧ ([0, 1, 9] : List Int).getD i 0 ≤ 1000 := by
          rcases i with _ | _ | _ | i <;> simp at hi3 ⊢
        obtain ⟨x, hx⟩ : ∃ x : Int, ([0, 1, 9] : List Int).getD i 0 = x := ⟨_, rfl⟩
        rw [hx] at hxb ⊢
        have H4 := hide (H3.out.on hd3)
        clear hd3 hx hi3 H3
        obtain ⟨r0, r1, r2, r3, r4, r5⟩ := H4.out.var
        have f3 := H4.out.vfz 3
        have HE : Hid (BgI w s v bs t _ RR { Q with st := x } _ _ t3 (w3.setCell ⟨RR, 3, none⟩ (.int .i64 x))) := H4.out.set HS.out ((Wr.refl (fun x => x = RR) w3).setCell (p := ⟨RR, 3, none⟩) rfl _) ⟨by simp [go_sem, r0], by simp [go_sem, r1], by simp [go_sem, r2], by simp [go_sem, r3], by simp [go_sem, r4], by simp [go_sem, r5]⟩ H4.out.mem
        go_wp2
        go_meet
        exact ⟨_, _, _, t3, hide (HE.out.mono (by omega)), hide { HQ.out with st := hxb }⟩
      · skip
        go_upto_if 20 with fail
        by_cases h2 : k = 2
        · subst h2
          go_upto_region 8 with fail
          refine wp_region_held_drew (S := fun _ => True) (by kernel_rfl) trivial (fun _ => ?_)
          refine forgetH (fun wx => BgI w s v bs t (0 + 2000 + 1) RR Q (.slice ay Q.sn.length cy) (.slice az Q.lg.length cz) t2 wx) (I2.out.later (below_drewN w2 1)) ?_
          rintro Y0 i3
          have I3 := hide i3
          clear i3 I2
          refine wpAnyH_take (i := 0) (v := ?vt1x0) rfl (by kernel_rfl) (by kernel_rfl) (by kernel_rfl) (fun _ _ _ h => h) (Or.inl ⟨by rfl, ?ht1x0⟩) trivial ?rt1x0
          case ht1x0 => intro w9 hSw; (try dsimp only at hSw); first | (go_simp; done) | (go_simp; with_reducible rfl)
          try simp only [Act.put, List.setIfInBounds_toArray, List.set_cons_zero, List.set_cons_succ, List.getElem_toArray, List.getElem_cons_zero]
          refine wpAnyH_take (i := 2) (v := ?vt2x2) rfl (by kernel_rfl) (by kernel_rfl) (by kernel_rfl) (fun _ _ _ h => h) (Or.inl ⟨by rfl, ?ht2x2⟩) trivial ?rt2x2
          case ht2x2 => intro w9 hSw; (try dsimp only at hSw); first | (go_simp; done) | (go_simp; with_reducible rfl)
          try simp only [Act.put, List.setIfInBounds_toArray, List.set_cons_zero, List.set_cons_succ, List.getElem_toArray, List.getElem_cons_zero, List.getElem_cons_succ]
          refine wpAnyH_ready (rs := [1, 3]) (by kernel_rfl) (by simp) (AllReadyH.cons rfl (fun K hK => ?_) (AllReadyH.cons rfl (fun K hK => ?_) AllReadyH.nil))
          · skip
            have c5 := I3.out.var.2.2.2.2.2
            go_simp
            refine hK.out _ _ trivial (fun _ => ?_)
            clear hK K c5
            try simp only [Act.put, List.setIfInBounds_toArray, List.set_cons_zero, List.set_cons_succ, List.getElem_toArray, List.getElem_cons_zero, List.getElem_cons_succ]
            refine wpAnyH_ready (rs := [3]) (by kernel_rfl) (by simp) (AllReadyH.cons rfl (fun K hK => ?_) AllReadyH.nil)
            go_simp
            go_at_call 67
            refine (l9Bent I3.out.dr.1 (by omega)).mono ?_
            rintro e w3 ⟨a, b, ze, xs, rfl, hxl, hze, t3, hd3⟩
            have HP := hide (BgI.push (a := a) (b := b) HS.out I3.out hd3 hze (by have := HQ.out.lg; omega) 25)
            have I4 := hide (I3.out.on hd3)
            obtain ⟨ae, ce, rfl⟩ := hze.shape
            clear hze hd3 I3
            refine hK.out _ _ trivial (fun _ => ?_)
            clear hK K
            try simp only [Act.put, List.setIfInBounds_toArray, List.set_cons_zero, List.set_cons_succ, List.getElem_toArray, List.getElem_cons_zero, List.getElem_cons_succ]
            refine wpAnyH_ready (rs := [4]) (by kernel_rfl) (by simp) (AllReadyH.cons rfl (fun K hK => ?_) AllReadyH.nil)
            go_simp
            have I5 := hide (I4.out.later (below_alloc w3 (.cells #[.int .i64 a, .int .i64 b, .slice ae xs.length ce] 43)))
            refine hK.out _ _ trivial (fun _ => ?_)
            clear hK K I4
            try simp only [Act.put, List.setIfInBounds_toArray, List.set_cons_zero, List.set_cons_succ, List.getElem_toArray, List.getElem_cons_zero, List.getElem_cons_succ]
            obtain ⟨ag, cg, w5, hrun, hv5, hf5, hI5⟩ := HP.out
            have HI5 := hide hI5
            have HV5 := hide hv5
            have HF5 := hide hf5
            clear HP hI5 hv5 hf5
            refine wpAnyH_ready (rs := [5]) (by kernel_rfl) (by simp) (AllReadyH.cons rfl (fun K hK => ?_) AllReadyH.nil)
            refine step_append_run _ rfl (.tmp 23) (.tmp 26) 25 rfl rfl rfl hrun ?_
            refine hK.out _ _ trivial (fun _ => ?_)
            clear hK K hrun I5
            try simp only [Act.put, List.setIfInBounds_toArray, List.set_cons_zero, List.set_cons_succ, List.getElem_toArray, List.getElem_cons_zero, List.getElem_cons_succ]
            refine wpAnyH_take (i := 6) (v := ?vt3x6) rfl (by kernel_rfl) (by kernel_rfl) (by kernel_rfl) (fun _ _ _ h => h) (Or.inl ⟨by rfl, ?ht3x6⟩) trivial ?rt3x6
            case ht3x6 => intro w9 hSw; (try dsimp only at hSw); first | (go_simp; done) | (go_simp; with_reducible rfl)
            try simp only [Act.put, List.setIfInBounds_toArray, List.set_cons_zero, List.set_cons_succ, List.getElem_toArray, List.getElem_cons_zero, List.getElem_cons_succ]
            have e5 := HF5.out 5
            have c5 := HV5.out.2.2.2.2.2
            refine wpAnyH_ready (rs := [7]) (by kernel_rfl) (by simp) (AllReadyH.cons rfl (fun K hK => ?_) AllReadyH.nil)
            go_simp
            refine hK.out _ _ trivial (fun _ => ?_)
            clear hK K
            try simp only [Act.put, List.setIfInBounds_toArray, List.set_cons_zero, List.set_cons_succ, List.getElem_toArray, List.getElem_cons_zero, List.getElem_cons_succ]
            refine wpAnyH_done (by kernel_rfl) ?_ _
            have hxl15 : ∀ p ∈ Q.lg ++ [(a, b, xs)], p.2.2.length ≤ 8 := fun p hp => by
              rcases List.mem_append.1 hp with hp | hp
              · exact HQ.out.da p hp
              · simp at hp; subst hp; exact hxl
            go_wp2
            go_meet
            exact ⟨_, _, _, t3, hide (HI5.out.mono (by omega)), hide { HQ.out with lg := (by simp; omega), da := hxl15 }⟩
          · skip
            go_simp
            go_at_call 67
            refine (l9Bent I3.out.dr.1 (by omega)).mono ?_
            rintro e w3 ⟨a, b, ze, xs, rfl, hxl, hze, t3, hd3⟩
            have HP := hide (BgI.push (a := a) (b := b) HS.out I3.out hd3 hze (by have := HQ.out.lg; omega) 25)
            have I4 := hide (I3.out.on hd3)
            obtain ⟨ae, ce, rfl⟩ := hze.shape
            clear hze hd3 I3
            refine hK.out _ _ trivial (fun _ => ?_)
            clear hK K
            try simp only [Act.put, List.setIfInBounds_toArray, List.set_cons_zero, List.set_cons_succ, List.getElem_toArray, List.getElem_cons_zero, List.getElem_cons_succ]
            refine wpAnyH_ready (rs := [1, 4]) (by kernel_rfl) (by simp) (AllReadyH.cons rfl (fun K hK => ?_) (AllReadyH.cons rfl (fun K hK => ?_) AllReadyH.nil))
            · skip
              have c5 := I4.out.var.2.2.2.2.2
              go_simp
              refine hK.out _ _ trivial (fun _ => ?_)
              clear hK K c5
              try simp only [Act.put, List.setIfInBounds_toArray, List.set_cons_zero, List.set_cons_succ, List.getElem_toArray, List.getElem_cons_zero, List.getElem_cons_succ]
              refine wpAnyH_ready (rs := [4]) (by kernel_rfl) (by simp) (AllReadyH.cons rfl (fun K hK => ?_) AllReadyH.nil)
              go_simp
              have I5 := hide (I4.out.later (below_alloc w3 (.cells #[.int .i64 a, .int .i64 b, .slice ae xs.length ce] 43)))
              refine hK.out _ _ trivial (fun _ => ?_)
              clear hK K I4
              try simp only [Act.put, List.setIfInBounds_toArray, List.set_cons_zero, List.set_cons_succ, List.getElem_toArray, List.getElem_cons_zero, List.getElem_cons_succ]
              obtain ⟨ag, cg, w5, hrun, hv5, hf5, hI5⟩ := HP.out
              have HI5 := hide hI5
              have HV5 := hide hv5
              have HF5 := hide hf5
              clear HP hI5 hv5 hf5
              refine wpAnyH_ready (rs := [5]) (by kernel_rfl) (by simp) (AllReadyH.cons rfl (fun K hK => ?_) AllReadyH.nil)
              refine step_append_run _ rfl (.tmp 23) (.tmp 26) 25 rfl rfl rfl hrun ?_
              refine hK.out _ _ trivial (fun _ => ?_)
              clear hK K hrun I5
              try simp only [Act.put, List.setIfInBounds_toArray, List.set_cons_zero, List.set_cons_succ, List.getElem_toArray, List.getElem_cons_zero, List.getElem_cons_succ]
              refine wpAnyH_take (i := 6) (v := ?vt4x6) rfl (by kernel_rfl) (by kernel_rfl) (by kernel_rfl) (fun _ _ _ h => h) (Or.inl ⟨by rfl, ?ht4x6⟩) trivial ?rt4x6
              case ht4x6 => intro w9 hSw; (try dsimp only at hSw); first | (go_simp; done) | (go_simp; with_reducible rfl)
              try simp only [Act.put, List.setIfInBounds_toArray, List.set_cons_zero, List.set_cons_succ, List.getElem_toArray, List.getElem_cons_zero, List.getElem_cons_succ]
              have e5 := HF5.out 5
              have c5 := HV5.out.2.2.2.2.2
              refine wpAnyH_ready (rs := [7]) (by kernel_rfl) (by simp) (AllReadyH.cons rfl (fun K hK => ?_) AllReadyH.nil)
              go_simp
              refine hK.out _ _ trivial (fun _ => ?_)
              clear hK K
              try simp only [Act.put, List.setIfInBounds_toArray, List.set_cons_zero, List.set_cons_succ, List.getElem_toArray, List.getElem_cons_zero, List.getElem_cons_succ]
              refine wpAnyH_done (by kernel_rfl) ?_ _
              have hxl15 : ∀ p ∈ Q.lg ++ [(a, b, xs)], p.2.2.length ≤ 8 := fun p hp => by
                rcases List.mem_append.1 hp with hp | hp
                · exact HQ.out.da p hp
                · simp at hp; subst hp; exact hxl
              go_wp2
              go_meet
              exact ⟨_, _, _, t3, hide (HI5.out.mono (by omega)), hide { HQ.out with lg := (by simp; omega), da := hxl15 }⟩
            · skip
              go_simp
              have I5 := hide (I4.out.later (below_alloc w3 (.cells #[.int .i64 a, .int .i64 b, .slice ae xs.length ce] 43)))
              refine hK.out _ _ trivial (fun _ => ?_)
              clear hK K I4
              try simp only [Act.put, List.setIfInBounds_toArray, List.set_cons_zero, List.set_cons_succ, List.getElem_toArray, List.getElem_cons_zero, List.getElem_cons_succ]
              refine wpAnyH_ready (rs := [1]) (by kernel_rfl) (by simp) (AllReadyH.cons rfl (fun K hK => ?_) AllReadyH.nil)
              have c5 := I5.out.var.2.2.2.2.2
              go_simp
              refine hK.out _ _ trivial (fun _ => ?_)
              clear hK K c5
              try simp only [Act.put, List.setIfInBounds_toArray, List.set_cons_zero, List.set_cons_succ, List.getElem_toArray, List.getElem_cons_zero, List.getElem_cons_succ]
              obtain ⟨ag, cg, w5, hrun, hv5, hf5, hI5⟩ := HP.out
              have HI5 := hide hI5
              have HV5 := hide hv5
              have HF5 := hide hf5
              clear HP hI5 hv5 hf5
              refine wpAnyH_ready (rs := [5]) (by kernel_rfl) (by simp) (AllReadyH.cons rfl (fun K hK => ?_) AllReadyH.nil)
              refine step_append_run _ rfl (.tmp 23) (.tmp 26) 25 rfl rfl rfl hrun ?_
              refine hK.out _ _ trivial (fun _ => ?_)
              clear hK K hrun I5
              try simp only [Act.put, List.setIfInBounds_toArray, List.set_cons_zero, List.set_cons_succ, List.getElem_toArray, List.getElem_cons_zero, List.getElem_cons_succ]
              refine wpAnyH_take (i := 6) (v := ?vt5x6) rfl (by kernel_rfl) (by kernel_rfl) (by kernel_rfl) (fun _ _ _ h => h) (Or.inl ⟨by rfl, ?ht5x6⟩) trivial ?rt5x6
              case ht5x6 => intro w9 hSw; (try dsimp only at hSw); first | (go_simp; done) | (go_simp; with_reducible rfl)
              try simp only [Act.put, List.setIfInBounds_toArray, List.set_cons_zero, List.set_cons_succ, List.getElem_toArray, List.getElem_cons_zero, List.getElem_cons_succ]
              have e5 := HF5.out 5
              have c5 := HV5.out.2.2.2.2.2
              refine wpAnyH_ready (rs := [7]) (by kernel_rfl) (by simp) (AllReadyH.cons rfl (fun K hK => ?_) AllReadyH.nil)
              go_simp
              refine hK.out _ _ trivial (fun _ => ?_)
              clear hK K
              try simp only [Act.put, List.setIfInBounds_toArray, List.set_cons_zero, List.set_cons_succ, List.getElem_toArray, List.getElem_cons_zero, List.getElem_cons_succ]
              refine wpAnyH_done (by kernel_rfl) ?_ _
              have hxl15 : ∀ p ∈ Q.lg ++ [(a, b, xs)], p.2.2.length ≤ 8 := fun p hp => by
                rcases List.mem_append.1 hp with hp | hp
                · exact HQ.out.da p hp
                · simp at hp; subst hp; exact hxl
              go_wp2
              go_meet
              exact ⟨_, _, _, t3, hide (HI5.out.mono (by omega)), hide { HQ.out with lg := (by simp; omega), da := hxl15 }⟩
        · skip
          go_upto_if 29 with fail
          by_cases h3 : k = 3
          · subst h3
            go_wp2_with fail
            refine (l1Next 2 I2.out.dr.1 (by omega) (by omega) (by omega)).mono ?_
            rintro e w3 ⟨j, rfl, j0, j1, t3, hd3⟩
            have j2 := j1 (by omega)
            have I3 := hide (I2.out.on hd3)
            clear hd3 j1 I2
            by_cases hj : j = 0
            · subst hj
              have HW := hide (made_ints w3 40 (by omega) 2)
              have hmk : ∀ wz : World, (Instr.makeSlice 24 (.int .i64 40) (.int .i64 40)).run Tryd.prog wz = .ok (.slice (some ⟨wz.heap.size, 0, none⟩) 40 40) (wz.alloc (.cells (madeCells #[.int .i64 0] 40) 2)) := fun wz => run_make_row' (P := Tryd.prog) 24 2 (.int .i64 0) 8 Tryd.underlying24 Tryd.infoInt rfl .i64 .i64 40 (by omega) (by omega) wz
              generalize madeCells #[.int .i64 0] 40 = MC at hmk HW
              have I4 := hide (I3.out.later (below_alloc w3 (.cells MC 2)))
              obtain ⟨r0, r1, r2, r3, r4, r5⟩ := I4.out.var
              have f4 := I4.out.vfz 4
              have HE : Hid (BgI w s v bs t _ RR { Q with sn := List.replicate 40 0 } (.slice (some ⟨w3.heap.size, 0, none⟩) 40 40) _ t3 ((w3.alloc (.cells MC 2)).setCell ⟨RR, 4, none⟩ (.slice (some ⟨w3.heap.size, 0, none⟩) 40 40))) := I4.out.set HS.out ((Wr.refl (fun x => x = RR) _).setCell (p := ⟨RR, 4, none⟩) rfl _) ⟨by simp [go_sem, r0], by simp [go_sem, r1], by simp [go_sem, r2], by simp [go_sem, r3], by simp [go_sem, r4], by simp [go_sem, r5]⟩ (I3.out.mem.words (below_alloc w3 _) HW.out (Nat.le_refl _) (by have := I3.out.res.lt; omega) I3.out.lt)
              go_wp2
              go_meet
              exact ⟨_, _, _, t3, hide (HE.out.mono (by omega)), hide { HQ.out with sn := by simp }⟩
            · obtain rfl : j = 1 := by omega
              have HW := hide (made_ints w3 41 (by omega) 2)
              have hmk : ∀ wz : World, (Instr.makeSlice 24 (.int .i64 41) (.int .i64 41)).run Tryd.prog wz = .ok (.slice (some ⟨wz.heap.size, 0, none⟩) 41 41) (wz.alloc (.cells (madeCells #[.int .i64 0] 41) 2)) := fun wz => run_make_row' (P := Tryd.prog) 24 2 (.int .i64 0) 8 Tryd.underlying24 Tryd.infoInt rfl .i64 .i64 41 (by omega) (by omega) wz
              generalize madeCells #[.int .i64 0] 41 = MC at hmk HW
              have I4 := hide (I3.out.later (below_alloc w3 (.cells MC 2)))
              obtain ⟨r0, r1, r2, r3, r4, r5⟩ := I4.out.var
              have f4 := I4.out.vfz 4
              have HE : Hid (BgI w s v bs t _ RR { Q with sn := List.replicate 41 0 } (.slice (some ⟨w3.heap.size, 0, none⟩) 41 41) _ t3 ((w3.alloc (.cells MC 2)).setCell ⟨RR, 4, none⟩ (.slice (some ⟨w3.heap.size, 0, none⟩) 41 41))) := I4.out.set HS.out ((Wr.refl (fun x => x = RR) _).setCell (p := ⟨RR, 4, none⟩) rfl _) ⟨by simp [go_sem, r0], by simp [go_sem, r1], by simp [go_sem, r2], by simp [go_sem, r3], by simp [go_sem, r4], by simp [go_sem, r5]⟩ (I3.out.mem.words (below_alloc w3 _) HW.out (Nat.le_refl _) (by have := I3.out.res.lt; omega) I3.out.lt)
              go_wp2
              go_meet
              exact ⟨_, _, _, t3, hide (HE.out.mono (by omega)), hide { HQ.out with sn := by simp }⟩
          · skip
            go_upto_if 36 with fail
            by_cases h4 : k = 4
            · subst h4
              have H3 := hide (I2.out.later (below_alloc w2 (.cells #[.int .i64 (-1), .int .i64 10] 2)))
              go_wp2_with fail
              refine (l1Pick (xs := [-1, 10]) H3.out.dr.1 (by omega) (RdI_new s w2 [-1, 10] 2 hs2 (by simp)) (by simp) (by simp)).mono ?_
              rintro e w3 ⟨i, hi3, rfl, t3, hd3⟩
              have hxb : -1 ≤ ([-1, 10] : List Int).getD i 0 ∧ ([-1, 10] : List Int).getD i 0 ≤ 10 := by
                rcases i with _ | _ | i <;> simp at hi3 ⊢
              obtain ⟨x, hx⟩ : ∃ x : Int, ([-1, 10] : List Int).getD i 0 = x := ⟨_, rfl⟩
              rw [hx] at hxb ⊢
              have H4 := hide (H3.out.on hd3)
              clear hd3 hx hi3 H3
              obtain ⟨r0, r1, r2, r3, r4, r5⟩ := H4.out.var
              have f1 := H4.out.vfz 1
              have HE : Hid (BgI w s v bs t _ RR { Q with vt := x } _ _ t3 (w3.setCell ⟨RR, 1, none⟩ (.int .i64 x))) := H4.out.set HS.out ((Wr.refl (fun x => x = RR) w3).setCell (p := ⟨RR, 1, none⟩) rfl _) ⟨by simp [go_sem, r0], by simp [go_sem, r1], by simp [go_sem, r2], by simp [go_sem, r3], by simp [go_sem, r4], by simp [go_sem, r5]⟩ H4.out.mem
              go_wp2
              go_meet
              exact ⟨_, _, _, t3, hide (HE.out.mono (by omega)), hide { HQ.out with vt := hxb }⟩
            · skip
              go_wp2
              go_meet
              exact ⟨_, _, _, t2, hide (I2.out.mono (by omega)), HQ⟩
  case rest =>
    obtain ⟨X, yx, zx, t7, BX, DX⟩ := hcut
    obtain ⟨ax, cx, bx, dx, ey, ez⟩ := BX.out.mem.shape
    subst ey
    subst ez
    obtain ⟨r0, r1, r2, r3, r4, r5⟩ := BX.out.var
    obtain ⟨q0, q1, q2, q3, q4, q5⟩ := BX.out.res
    have f0 := BX.out.rfz 0
    have f1 := BX.out.rfz 1
    have f2 := BX.out.rfz 2
    have f3 := BX.out.rfz 3
    have f4 := BX.out.rfz 4
    have f5 := BX.out.rfz 5
    have hF := BgI.fin HS.out BX.out (show Wr (fun x => x = w.heap.size) wc ((((((wc.setCell ⟨w.heap.size, 0, none⟩ (.int .i64 X.tm)).setCell ⟨w.heap.size, 1, none⟩ (.int .i64 X.vt)).setCell ⟨w.heap.size, 2, none⟩ (.int .i64 X.si)).setCell ⟨w.heap.size, 3, none⟩ (.int .i64 X.st)).setCell ⟨w.heap.size, 4, none⟩ (.slice ax X.sn.length cx)).setCell ⟨w.heap.size, 5, none⟩ (.slice bx X.lg.length dx)) from (Wr.setCell (p := ⟨w.heap.size, 5, none⟩) (Wr.setCell (p := ⟨w.heap.size, 4, none⟩) (Wr.setCell (p := ⟨w.heap.size, 3, none⟩) (Wr.setCell (p := ⟨w.heap.size, 2, none⟩) (Wr.setCell (p := ⟨w.heap.size, 1, none⟩) (Wr.setCell (p := ⟨w.heap.size, 0, none⟩) (Wr.refl (fun x => x = w.heap.size) wc) rfl (.int .i64 X.tm)) rfl (.int .i64 X.vt)) rfl (.int .i64 X.si)) rfl (.int .i64 X.st)) rfl (.slice ax X.sn.length cx)) rfl (.slice bx X.lg.length dx)))
    go_wp2
    refine bodyPost_ret (v := .agg #[.int .i64 X.tm, .int .i64 X.vt, .int .i64 X.si, .int .i64 X.st, .slice ax X.sn.length cx, .slice bx X.lg.length dx]) (by simp [results, Tryd.results24, go_sem, q0, q1, q2, q3, q4, q5]) rfl ⟨X, _, _, rfl, DX.out, hF.1, _, hF.2⟩
end Go.Proofs.YtncgpfapepminaaDoor
