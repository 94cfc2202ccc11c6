/- The law 'FnHeaders', walked. -/
import Derived.Test.YtojcjipelgjglaaDraw7
import Derived.Test.YtojcjipelgjglaaLawTorn
import Derived.Test.YtojcjipelgjglaaImpl2g
namespace Go.Proofs.Ytojcjipelgjglaa
open Go.RowKit

theorem unp_pack {ws : List Int} (h : unpF ws = 0) : headF (unpS ws) (unpT ws) (unpA ws) = 0 ∧ packL (unpS ws) (unpT ws) (unpA ws) = ws := by
  have hok : okU ws := by
    have h' := h
    unfold unpF at h'
    split at h'
    · split at h'
      · rename_i h2; exact (okUb_iff ws).1 h2
      · exact absurd h' (by decide)
    · rename_i h1; exact absurd h' h1
  have e1 : unpS ws = ws.getD 0 0 := by unfold unpS; rw [if_pos h]
  have e2 : unpT ws = ws.getD 1 0 := by unfold unpT; rw [if_pos h]
  have e3 : unpA ws = addrsOf ws := by unfold unpA; rw [if_pos h]
  rw [e1, e2, e3]
  exact ⟨hok.2.2.1, hok.2.2.2⟩
theorem right_yes {s t : Int} {xs : List Int} (h : headF s t xs = 0) : rightB 0 s t xs = true := by unfold rightB; rw [h]; rfl
theorem headF_seq {s t s' : Int} {xs : List Int} (h : headF s t xs = 0) (h1 : 1 ≤ s') (h2 : s' ≤ 65000) : headF s' t xs = 0 := by
  obtain ⟨⟨_, _, k1, k2⟩, k3, k4⟩ := headF_zero h
  exact headF_ok ⟨h1, h2, k1, k2⟩ (by omega) k4
/-- Of two that are right the newer one counts, the first one where they are alike. -/
theorem nw_two {s t s' : Int} {xs : List Int} (h : headF s t xs = 0) (h1 : 1 ≤ s') (h2 : s' ≤ 65000) : nwF (nwP 0 s t xs 0 s' t xs) = 0 ∧ nwI (nwP 0 s t xs 0 s' t xs) s s' = if s < s' then s' else s := by
  unfold nwP
  rw [right_yes h, right_yes (headF_seq h h1 h2)]
  by_cases hs : s' ≤ s
  · rw [if_pos ⟨rfl, Or.inr hs⟩, if_neg (by omega)]
    exact ⟨rfl, rfl⟩
  · rw [if_neg (by intro hh; rcases hh.2 with h3 | h3; exact absurd h3 (by decide); exact hs h3), if_pos rfl, if_pos (by omega)]
    exact ⟨rfl, rfl⟩
theorem nw_five {s t : Int} {xs : List Int} (h : headF s t xs = 0) : nwI (nwP 5 0 0 [] 0 s t xs) 0 s = s := by
  unfold nwP
  have h5 : rightB 5 0 0 [] = false := rfl
  rw [right_yes h, h5, if_neg (by intro hh; exact absurd hh.1 (by decide)), if_pos rfl]
  rfl

set_option linter.unusedSimpArgs false in
set_option maxHeartbeats 16000000 in
set_option maxRecDepth 4000 in
theorem lawHeaders {w : World} {v : Value} {bs : List Nat} (hv : RdB w.heap.size w v bs) (hsm : bs.length ≤ 1048576) :
    Calls Try.prog 3 #[v] w fun e w' => e = .returned (.bool true) ∧ Below w.heap.size w w' := by
  have HV := hide hv
  obtain ⟨ao, c, rfl, h2, h3⟩ := hv
  clear h3 h2
  obtain ⟨n, hn⟩ : ∃ n, bs.length = n := ⟨_, rfl⟩
  have HN := hide hn
  rw [hn] at HV hsm ⊢
  clear hn
  go_enter Try.func3, Try.ntmps3
  go_wp2_with fail
  refine (lwBig ao n c w (by omega)).mono ?_
  rintro e wx ⟨he, hwx⟩
  rw [decide_eq_false (by omega : ¬ 1048576 < n)] at he
  rw [he, hwx]
  clear he hwx
  go_wp2_with fail
  refine (drawUnpack HV.out).mono ?_
  rintro e w1 ⟨z1, ws, rfl, hb1, hl1, hr1⟩
  obtain ⟨a1, k1, rfl⟩ := hr1.shape
  obtain ⟨n1, hn1⟩ : ∃ n, ws.length = n := ⟨_, rfl⟩
  rw [hn1] at hr1 hl1 ⊢
  have HN1 := hide hn1
  have HB1 := hide hb1
  have HR1 := hide hr1
  clear hb1 hr1 hn1
  have HUn := hide (fun (S : Nat → Prop) (w : World) (y : Value) (h : RdI S w y ws) => implUnpack h)
  have HUs := hide (fun (S : Nat → Prop) (w : World) (y : Value) (h : RdI S w y ws) => specUnpack h)
  obtain ⟨uf, huf⟩ : ∃ x, unpF ws = x := ⟨_, rfl⟩
  obtain ⟨us, hus⟩ : ∃ x, unpS ws = x := ⟨_, rfl⟩
  obtain ⟨ut, hut⟩ : ∃ x, unpT ws = x := ⟨_, rfl⟩
  obtain ⟨ua, hua⟩ : ∃ x, unpA ws = x := ⟨_, rfl⟩
  have HUf := hide huf
  have HUS := hide hus
  have HUT := hide hut
  have HUA := hide hua
  rw [huf, hus, hut, hua] at HUn HUs
  obtain ⟨nu, hnu⟩ : ∃ x, ua.length = x := ⟨_, rfl⟩
  have HNu := hide hnu
  clear huf hus hut hua hnu
  go_wp2_with fail
  refine (HUn.out _ _ _ HR1.out).mono ?_
  rintro e w2 ⟨z2, rfl, hb2, ho2⟩
  obtain ⟨a2, k2, hz2⟩ := ho2.shape
  rw [HNu.out] at hz2
  subst hz2
  have BU := below_alloc w2 (.cells #[.int .i64 uf, .int .i64 us, .int .i64 ut, .slice a2 nu k2] 29)
  have HW : Hid (Below w.heap.size w (w2.alloc (.cells #[.int .i64 uf, .int .i64 us, .int .i64 ut, .slice a2 nu k2] 29)) ∧ Var4 (w2.alloc (.cells #[.int .i64 uf, .int .i64 us, .int .i64 ut, .slice a2 nu k2] 29)) w2.heap.size (.int .i64 uf) (.int .i64 us) (.int .i64 ut) (.slice a2 nu k2) ∧ RdI (fun b => w.heap.size ≤ b) (w2.alloc (.cells #[.int .i64 uf, .int .i64 us, .int .i64 ut, .slice a2 nu k2] 29)) (.slice a1 n1 k1) ws ∧ ∃ S, RdI S (w2.alloc (.cells #[.int .i64 uf, .int .i64 us, .int .i64 ut, .slice a2 nu k2] 29)) (.slice a2 nu k2) ua) :=
    ⟨below_on HB1.out (below_on hb2 BU), Var4_new _ _ _ _ _ _, HR1.out.later (below_on hb2 BU), _, ho2.rd.later BU⟩
  clear hb2 ho2 BU HB1 HR1
  go_upto_region 5 with fail
  refine forget (fun wx => Below w.heap.size w wx ∧ Var4 wx w2.heap.size (.int .i64 uf) (.int .i64 us) (.int .i64 ut) (.slice a2 nu k2) ∧ RdI (fun b => w.heap.size ≤ b) wx (.slice a1 n1 k1) ws ∧ ∃ S, RdI S wx (.slice a2 nu k2) ua) HW.out ?_
  clear HW
  generalize w2.heap.size = U
  rintro W ⟨hbW, ⟨u0, u1, u2, u3⟩, hrw, Su, hru⟩
  have HBW := hide hbW
  have HRw := hide hrw
  have HRu := hide hru
  clear hbW hrw hru
  have fdI0 := Try.fldI0
  have fdI1 := Try.fldI1
  have fdR0 := Try.fldR0
  have fdR1 := Try.fldR1
  have fdH0 := Try.fldH0
  go_cut [41] from 17 to 40 (fun r wx => r = .bool false ∧ Hid (Below w.heap.size w wx))
  case first =>
    by_cases huf : uf = 0
    · subst huf
      have HPk : Hid (∀ (S : Nat → Prop) (w : World), RdI S w (.slice a2 nu k2) ua → Calls Try.prog 11 #[.agg #[.int .i64 us, .int .i64 ut, .slice a2 nu k2]] w (EndsI 0 ws w)) := fun S w h => by
        have := implPackHeader us ut h
        have hp := unp_pack HUf.out
        rw [HUS.out, HUT.out, HUA.out] at hp
        rw [hp.1, if_pos rfl, hp.2] at this
        exact this
      refine wp_region_held_drew (S := fun w' => w'.cell? ⟨U, 0, none⟩ = some (.int .i64 0) ∧ w'.cell? ⟨U, 1, none⟩ = some (.int .i64 us) ∧ w'.cell? ⟨U, 2, none⟩ = some (.int .i64 ut) ∧ w'.cell? ⟨U, 3, none⟩ = some (.slice a2 nu k2)) (by kernel_rfl) ⟨u0, u1, u2, u3⟩ (fun hHeld => ?_)
      refine wpAnyH_take (i := 0) (v := ?v1) rfl (by kernel_rfl) (by kernel_rfl) (by kernel_rfl) (fun _ _ _ h => h) (Or.inl ⟨by rfl, ?h1⟩) hHeld ?r1
      case h1 => intro w9 hSw; (try dsimp only at hSw); first | (go_simp; done) | (go_simp; with_reducible rfl)
      try simp only [List.getElem_toArray, List.getElem_cons_zero, List.getElem_cons_succ, Act.put, List.setIfInBounds_toArray, List.set_cons_zero, List.set_cons_succ]
      refine wpAnyH_take (i := 1) (v := ?v2) rfl (by kernel_rfl) (by kernel_rfl) (by kernel_rfl) (fun _ _ _ h => h) (Or.inl ⟨by rfl, ?h2⟩) hHeld ?r2
      case h2 => intro w9 hSw; (try dsimp only at hSw); first | (go_simp; done) | (go_simp; with_reducible rfl)
      try simp only [List.getElem_toArray, List.getElem_cons_zero, List.getElem_cons_succ, Act.put, List.setIfInBounds_toArray, List.set_cons_zero, List.set_cons_succ]
      refine wpAnyH_take (i := 2) (v := ?v3) rfl (by kernel_rfl) (by kernel_rfl) (by kernel_rfl) (fun _ _ _ h => h) (Or.inl ⟨by rfl, ?h3⟩) hHeld ?r3
      case h3 => intro w9 hSw; (try dsimp only at hSw); first | (go_simp; done) | (go_simp; with_reducible rfl)
      try simp only [List.getElem_toArray, List.getElem_cons_zero, List.getElem_cons_succ, Act.put, List.setIfInBounds_toArray, List.set_cons_zero, List.set_cons_succ]
      refine wpAnyH_take (i := 3) (v := ?v4) rfl (by kernel_rfl) (by kernel_rfl) (by kernel_rfl) (fun _ _ _ h => h) (Or.inl ⟨by rfl, ?h4⟩) hHeld ?r4
      case h4 => intro w9 hSw; (try dsimp only at hSw); first | (go_simp; done) | (go_simp; with_reducible rfl)
      try simp only [List.getElem_toArray, List.getElem_cons_zero, List.getElem_cons_succ, Act.put, List.setIfInBounds_toArray, List.set_cons_zero, List.set_cons_succ]
      refine wpAnyH_take (i := 4) (v := ?v5) rfl (by kernel_rfl) (by kernel_rfl) (by kernel_rfl) (fun _ _ _ h => h) (Or.inl ⟨by rfl, ?h5⟩) hHeld ?r5
      case h5 => intro w9 hSw; (try dsimp only at hSw); first | (go_simp; done) | (go_simp; with_reducible rfl)
      try simp only [List.getElem_toArray, List.getElem_cons_zero, List.getElem_cons_succ, Act.put, List.setIfInBounds_toArray, List.set_cons_zero, List.set_cons_succ]
      refine wpAnyH_take (i := 5) (v := ?v6) rfl (by kernel_rfl) (by kernel_rfl) (by kernel_rfl) (fun _ _ _ h => h) (Or.inl ⟨by rfl, ?h6⟩) hHeld ?r6
      case h6 => intro w9 hSw; (try dsimp only at hSw); first | (go_simp; done) | (go_simp; with_reducible rfl)
      try simp only [List.getElem_toArray, List.getElem_cons_zero, List.getElem_cons_succ, Act.put, List.setIfInBounds_toArray, List.set_cons_zero, List.set_cons_succ]
      refine wpAnyH_take (i := 8) (v := ?v7) rfl (by kernel_rfl) (by kernel_rfl) (by kernel_rfl) (fun _ _ _ h => h) (Or.inl ⟨by rfl, ?h7⟩) hHeld ?r7
      case h7 => intro w9 hSw; (try dsimp only at hSw); first | (go_simp; done) | (go_simp; with_reducible rfl)
      try simp only [List.getElem_toArray, List.getElem_cons_zero, List.getElem_cons_succ, Act.put, List.setIfInBounds_toArray, List.set_cons_zero, List.set_cons_succ]
      refine wpAnyH_ready (rs := [6]) (by kernel_rfl) (by simp) (AllReadyH.cons rfl (fun K hK => ?_) AllReadyH.nil)
      go_simp
      go_at_call 11
      refine (HPk.out _ _ (HRu.out.drewN 1)).mono ?_
      rintro e w4 ⟨z4, rfl, hb4, ho4⟩
      obtain ⟨a4, k4, hz4⟩ := ho4.shape
      rw [HN1.out] at hz4
      subst hz4
      have e0 := cell_later hb4 u0
      have e1 := cell_later hb4 u1
      have e2 := cell_later hb4 u2
      have e3 := cell_later hb4 u3
      have HB4 := hide (below_on HBW.out (below_on (below_drewN W 1) hb4))
      have HR4 := hide ho4.rd
      have HRw4 := hide (HRw.out.later (below_on (below_drewN W 1) hb4))
      clear hb4 ho4
      refine hK.out _ _ ⟨e0, e1, e2, e3⟩ (fun hHeld4 => ?_)
      clear hK K
      try simp only [List.getElem_toArray, List.getElem_cons_zero, List.getElem_cons_succ, Act.put, List.setIfInBounds_toArray, List.set_cons_zero, List.set_cons_succ]
      refine wpAnyH_take (i := 7) (v := ?v8) rfl (by kernel_rfl) (by kernel_rfl) (by kernel_rfl) (fun _ _ _ h => h) (Or.inl ⟨by rfl, ?h8⟩) hHeld4 ?r8
      case h8 => intro w9 hSw; (try dsimp only at hSw); first | (go_simp; done) | (go_simp; with_reducible rfl)
      try simp only [List.getElem_toArray, List.getElem_cons_zero, List.getElem_cons_succ, Act.put, List.setIfInBounds_toArray, List.set_cons_zero, List.set_cons_succ]
      refine wpAnyH_ready (rs := [9]) (by kernel_rfl) (by simp) (AllReadyH.cons rfl (fun K hK => ?_) AllReadyH.nil)
      go_simp
      go_at_call 10
      refine (lwNums HR4.out HRw4.out).mono ?_
      rintro e w5 ⟨he, q5, rfl⟩
      rw [decide_eq_true rfl] at he
      subst he
      refine hK.out _ _ ⟨e0, e1, e2, e3⟩ (fun hHeld5 => ?_)
      clear hK K
      try simp only [List.getElem_toArray, List.getElem_cons_zero, List.getElem_cons_succ, Act.put, List.setIfInBounds_toArray, List.set_cons_zero, List.set_cons_succ]
      refine wpAnyH_take (i := 10) (v := ?v9) rfl (by kernel_rfl) (by kernel_rfl) (by kernel_rfl) (fun _ _ _ h => h) (Or.inl ⟨by rfl, ?h9⟩) hHeld5 ?r9
      case h9 => intro w9 hSw; (try dsimp only at hSw); first | (go_simp; done) | (go_simp; with_reducible rfl)
      try simp only [List.getElem_toArray, List.getElem_cons_zero, List.getElem_cons_succ, Act.put, List.setIfInBounds_toArray, List.set_cons_zero, List.set_cons_succ]
      refine wpAnyH_take (i := 11) (v := ?v10) rfl (by kernel_rfl) (by kernel_rfl) (by kernel_rfl) (fun _ _ _ h => h) (Or.inl ⟨by rfl, ?h10⟩) hHeld5 ?r10
      case h10 => intro w9 hSw; (try dsimp only at hSw); first | (go_simp; done) | (go_simp; with_reducible rfl)
      try simp only [List.getElem_toArray, List.getElem_cons_zero, List.getElem_cons_succ, Act.put, List.setIfInBounds_toArray, List.set_cons_zero, List.set_cons_succ]
      refine wpAnyH_take (i := 12) (v := ?v11) rfl (by kernel_rfl) (by kernel_rfl) (by kernel_rfl) (fun _ _ _ h => h) (Or.inl ⟨by rfl, ?h11⟩) hHeld5 ?r11
      case h11 => intro w9 hSw; (try dsimp only at hSw); first | (go_simp; done) | (go_simp; with_reducible rfl)
      try simp only [List.getElem_toArray, List.getElem_cons_zero, List.getElem_cons_succ, Act.put, List.setIfInBounds_toArray, List.set_cons_zero, List.set_cons_succ]
      refine wpAnyH_take (i := 13) (v := ?v12) rfl (by kernel_rfl) (by kernel_rfl) (by kernel_rfl) (fun _ _ _ h => h) (Or.inl ⟨by rfl, ?h12⟩) hHeld5 ?r12
      case h12 => intro w9 hSw; (try dsimp only at hSw); first | (go_simp; done) | (go_simp; with_reducible rfl)
      try simp only [List.getElem_toArray, List.getElem_cons_zero, List.getElem_cons_succ, Act.put, List.setIfInBounds_toArray, List.set_cons_zero, List.set_cons_succ]
      refine wpAnyH_take (i := 14) (v := ?v13) rfl (by kernel_rfl) (by kernel_rfl) (by kernel_rfl) (fun _ _ _ h => h) (Or.inl ⟨by rfl, ?h13⟩) hHeld5 ?r13
      case h13 => intro w9 hSw; (try dsimp only at hSw); first | (go_simp; done) | (go_simp; with_reducible rfl)
      try simp only [List.getElem_toArray, List.getElem_cons_zero, List.getElem_cons_succ, Act.put, List.setIfInBounds_toArray, List.set_cons_zero, List.set_cons_succ]
      refine wpAnyH_take (i := 15) (v := ?v14) rfl (by kernel_rfl) (by kernel_rfl) (by kernel_rfl) (fun _ _ _ h => h) (Or.inl ⟨by rfl, ?h14⟩) hHeld5 ?r14
      case h14 => intro w9 hSw; (try dsimp only at hSw); first | (go_simp; done) | (go_simp; with_reducible rfl)
      try simp only [List.getElem_toArray, List.getElem_cons_zero, List.getElem_cons_succ, Act.put, List.setIfInBounds_toArray, List.set_cons_zero, List.set_cons_succ]
      refine wpAnyH_take (i := 16) (v := ?v15) rfl (by kernel_rfl) (by kernel_rfl) (by kernel_rfl) (fun _ _ _ h => h) (Or.inl ⟨by rfl, ?h15⟩) hHeld5 ?r15
      case h15 => intro w9 hSw; (try dsimp only at hSw); first | (go_simp; done) | (go_simp; with_reducible rfl)
      try simp only [List.getElem_toArray, List.getElem_cons_zero, List.getElem_cons_succ, Act.put, List.setIfInBounds_toArray, List.set_cons_zero, List.set_cons_succ]
      refine wpAnyH_take (i := 17) (v := undef) rfl (by kernel_rfl) (by kernel_rfl) (by kernel_rfl) (fun _ _ _ h => h) (Or.inr ⟨by rfl, rfl⟩) hHeld5 ?_
      try simp only [List.getElem_toArray, List.getElem_cons_zero, List.getElem_cons_succ, Act.put, List.setIfInBounds_toArray, List.set_cons_zero, List.set_cons_succ]
      refine wpAnyH_take (i := 20) (v := undef) rfl (by kernel_rfl) (by kernel_rfl) (by kernel_rfl) (fun _ _ _ h => h) (Or.inr ⟨by rfl, rfl⟩) hHeld5 ?_
      try simp only [List.getElem_toArray, List.getElem_cons_zero, List.getElem_cons_succ, Act.put, List.setIfInBounds_toArray, List.set_cons_zero, List.set_cons_succ]
      refine wpAnyH_take (i := 21) (v := undef) rfl (by kernel_rfl) (by kernel_rfl) (by kernel_rfl) (fun _ _ _ h => h) (Or.inr ⟨by rfl, rfl⟩) hHeld5 ?_
      try simp only [List.getElem_toArray, List.getElem_cons_zero, List.getElem_cons_succ, Act.put, List.setIfInBounds_toArray, List.set_cons_zero, List.set_cons_succ]
      refine wpAnyH_take (i := 18) (v := undef) rfl (by kernel_rfl) (by kernel_rfl) (by kernel_rfl) (fun _ _ _ h => h) (Or.inr ⟨by rfl, rfl⟩) hHeld5 ?_
      try simp only [List.getElem_toArray, List.getElem_cons_zero, List.getElem_cons_succ, Act.put, List.setIfInBounds_toArray, List.set_cons_zero, List.set_cons_succ]
      refine wpAnyH_take (i := 19) (v := undef) rfl (by kernel_rfl) (by kernel_rfl) (by kernel_rfl) (fun _ _ _ h => h) (Or.inr ⟨by rfl, rfl⟩) hHeld5 ?_
      try simp only [List.getElem_toArray, List.getElem_cons_zero, List.getElem_cons_succ, Act.put, List.setIfInBounds_toArray, List.set_cons_zero, List.set_cons_succ]
      refine wpAnyH_take (i := 22) (v := undef) rfl (by kernel_rfl) (by kernel_rfl) (by kernel_rfl) (fun _ _ _ h => h) (Or.inr ⟨by rfl, rfl⟩) hHeld5 ?_
      try simp only [List.getElem_toArray, List.getElem_cons_zero, List.getElem_cons_succ, Act.put, List.setIfInBounds_toArray, List.set_cons_zero, List.set_cons_succ]
      refine wpAnyH_take (i := 23) (v := ?v16) rfl (by kernel_rfl) (by kernel_rfl) (by kernel_rfl) (fun _ _ _ h => h) (Or.inl ⟨by rfl, ?h16⟩) hHeld5 ?r16
      case h16 => intro w9 hSw; (try dsimp only at hSw); first | (go_simp; done) | (go_simp; with_reducible rfl)
      try simp only [List.getElem_toArray, List.getElem_cons_zero, List.getElem_cons_succ, Act.put, List.setIfInBounds_toArray, List.set_cons_zero, List.set_cons_succ]
      refine wpAnyH_take (i := 24) (v := ?v17) rfl (by kernel_rfl) (by kernel_rfl) (by kernel_rfl) (fun _ _ _ h => h) (Or.inl ⟨by rfl, ?h17⟩) hHeld5 ?r17
      case h17 => intro w9 hSw; (try dsimp only at hSw); first | (go_simp; done) | (go_simp; with_reducible rfl)
      try simp only [List.getElem_toArray, List.getElem_cons_zero, List.getElem_cons_succ, Act.put, List.setIfInBounds_toArray, List.set_cons_zero, List.set_cons_succ]
      refine wpAnyH_done (by kernel_rfl) ?_ _
      go_wp2_with fail
      go_meet
      case rel => exact ⟨rfl, below_on HB4.out (below_drewN _ _)⟩
    · have hub : (uf == 0) = false := by simpa using huf
      have hub2 : (uf != 0) = true := by simpa using huf
      have hub3 : (uf != uf) = false := by simp
      refine wp_region_held_drew (S := fun w' => w'.cell? ⟨U, 0, none⟩ = some (.int .i64 uf) ∧ w'.cell? ⟨U, 1, none⟩ = some (.int .i64 us) ∧ w'.cell? ⟨U, 2, none⟩ = some (.int .i64 ut) ∧ w'.cell? ⟨U, 3, none⟩ = some (.slice a2 nu k2)) (by kernel_rfl) ⟨u0, u1, u2, u3⟩ (fun hHeld => ?_)
      refine wpAnyH_take (i := 0) (v := ?v18) rfl (by kernel_rfl) (by kernel_rfl) (by kernel_rfl) (fun _ _ _ h => h) (Or.inl ⟨by rfl, ?h18⟩) hHeld ?r18
      case h18 => intro w9 hSw; (try dsimp only at hSw); first | (go_simp; done) | (go_simp; with_reducible rfl)
      try simp only [List.getElem_toArray, List.getElem_cons_zero, List.getElem_cons_succ, Act.put, List.setIfInBounds_toArray, List.set_cons_zero, List.set_cons_succ]
      refine wpAnyH_take (i := 1) (v := ?v19) rfl (by kernel_rfl) (by kernel_rfl) (by kernel_rfl) (fun _ _ _ h => h) (Or.inl ⟨by rfl, ?h19⟩) hHeld ?r19
      case h19 => intro w9 hSw; (try dsimp only at hSw); first | (go_simp; done) | (go_simp; with_reducible rfl)
      try simp only [List.getElem_toArray, List.getElem_cons_zero, List.getElem_cons_succ, Act.put, List.setIfInBounds_toArray, List.set_cons_zero, List.set_cons_succ]
      refine wpAnyH_take (i := 2) (v := ?v20) rfl (by kernel_rfl) (by kernel_rfl) (by kernel_rfl) (fun _ _ _ h => h) (Or.inl ⟨by rfl, ?h20⟩) hHeld ?r20
      case h20 => intro w9 hSw; (try dsimp only at hSw); first | (go_simp; done) | (go_simp; with_reducible rfl)
      try simp only [List.getElem_toArray, List.getElem_cons_zero, List.getElem_cons_succ, Act.put, List.setIfInBounds_toArray, List.set_cons_zero, List.set_cons_succ]
      refine wpAnyH_take (i := 3) (v := ?v21) rfl (by kernel_rfl) (by kernel_rfl) (by kernel_rfl) (fun _ _ _ h => h) (Or.inl ⟨by rfl, ?h21⟩) hHeld ?r21
      case h21 => intro w9 hSw; (try dsimp only at hSw); first | (go_simp; done) | (go_simp; with_reducible rfl)
      try simp only [List.getElem_toArray, List.getElem_cons_zero, List.getElem_cons_succ, Act.put, List.setIfInBounds_toArray, List.set_cons_zero, List.set_cons_succ]
      refine wpAnyH_take (i := 4) (v := undef) rfl (by kernel_rfl) (by kernel_rfl) (by kernel_rfl) (fun _ _ _ h => h) (Or.inr ⟨by rfl, rfl⟩) hHeld ?_
      try simp only [List.getElem_toArray, List.getElem_cons_zero, List.getElem_cons_succ, Act.put, List.setIfInBounds_toArray, List.set_cons_zero, List.set_cons_succ]
      refine wpAnyH_take (i := 5) (v := undef) rfl (by kernel_rfl) (by kernel_rfl) (by kernel_rfl) (fun _ _ _ h => h) (Or.inr ⟨by rfl, rfl⟩) hHeld ?_
      try simp only [List.getElem_toArray, List.getElem_cons_zero, List.getElem_cons_succ, Act.put, List.setIfInBounds_toArray, List.set_cons_zero, List.set_cons_succ]
      refine wpAnyH_take (i := 8) (v := undef) rfl (by kernel_rfl) (by kernel_rfl) (by kernel_rfl) (fun _ _ _ h => h) (Or.inr ⟨by rfl, rfl⟩) hHeld ?_
      try simp only [List.getElem_toArray, List.getElem_cons_zero, List.getElem_cons_succ, Act.put, List.setIfInBounds_toArray, List.set_cons_zero, List.set_cons_succ]
      refine wpAnyH_take (i := 6) (v := undef) rfl (by kernel_rfl) (by kernel_rfl) (by kernel_rfl) (fun _ _ _ h => h) (Or.inr ⟨by rfl, rfl⟩) hHeld ?_
      try simp only [List.getElem_toArray, List.getElem_cons_zero, List.getElem_cons_succ, Act.put, List.setIfInBounds_toArray, List.set_cons_zero, List.set_cons_succ]
      refine wpAnyH_take (i := 7) (v := undef) rfl (by kernel_rfl) (by kernel_rfl) (by kernel_rfl) (fun _ _ _ h => h) (Or.inr ⟨by rfl, rfl⟩) hHeld ?_
      try simp only [List.getElem_toArray, List.getElem_cons_zero, List.getElem_cons_succ, Act.put, List.setIfInBounds_toArray, List.set_cons_zero, List.set_cons_succ]
      refine wpAnyH_take (i := 9) (v := undef) rfl (by kernel_rfl) (by kernel_rfl) (by kernel_rfl) (fun _ _ _ h => h) (Or.inr ⟨by rfl, rfl⟩) hHeld ?_
      try simp only [List.getElem_toArray, List.getElem_cons_zero, List.getElem_cons_succ, Act.put, List.setIfInBounds_toArray, List.set_cons_zero, List.set_cons_succ]
      refine wpAnyH_take (i := 10) (v := undef) rfl (by kernel_rfl) (by kernel_rfl) (by kernel_rfl) (fun _ _ _ h => h) (Or.inr ⟨by rfl, rfl⟩) hHeld ?_
      try simp only [List.getElem_toArray, List.getElem_cons_zero, List.getElem_cons_succ, Act.put, List.setIfInBounds_toArray, List.set_cons_zero, List.set_cons_succ]
      refine wpAnyH_take (i := 11) (v := ?v22) rfl (by kernel_rfl) (by kernel_rfl) (by kernel_rfl) (fun _ _ _ h => h) (Or.inl ⟨by rfl, ?h22⟩) hHeld ?r22
      case h22 => intro w9 hSw; (try dsimp only at hSw); first | (go_simp; done) | (go_simp; with_reducible rfl)
      try simp only [List.getElem_toArray, List.getElem_cons_zero, List.getElem_cons_succ, Act.put, List.setIfInBounds_toArray, List.set_cons_zero, List.set_cons_succ]
      refine wpAnyH_take (i := 12) (v := ?v23) rfl (by kernel_rfl) (by kernel_rfl) (by kernel_rfl) (fun _ _ _ h => h) (Or.inl ⟨by rfl, ?h23⟩) hHeld ?r23
      case h23 => intro w9 hSw; (try dsimp only at hSw); first | (go_simp; done) | (go_simp; with_reducible rfl)
      try simp only [List.getElem_toArray, List.getElem_cons_zero, List.getElem_cons_succ, Act.put, List.setIfInBounds_toArray, List.set_cons_zero, List.set_cons_succ]
      refine wpAnyH_take (i := 13) (v := ?v24) rfl (by kernel_rfl) (by kernel_rfl) (by kernel_rfl) (fun _ _ _ h => h) (Or.inl ⟨by rfl, ?h24⟩) hHeld ?r24
      case h24 => intro w9 hSw; (try dsimp only at hSw); first | (go_simp; done) | (go_simp; with_reducible rfl)
      try simp only [List.getElem_toArray, List.getElem_cons_zero, List.getElem_cons_succ, Act.put, List.setIfInBounds_toArray, List.set_cons_zero, List.set_cons_succ]
      refine wpAnyH_take (i := 14) (v := ?v25) rfl (by kernel_rfl) (by kernel_rfl) (by kernel_rfl) (fun _ _ _ h => h) (Or.inl ⟨by rfl, ?h25⟩) hHeld ?r25
      case h25 => intro w9 hSw; (try dsimp only at hSw); first | (go_simp; done) | (go_simp; with_reducible rfl)
      try simp only [List.getElem_toArray, List.getElem_cons_zero, List.getElem_cons_succ, Act.put, List.setIfInBounds_toArray, List.set_cons_zero, List.set_cons_succ]
      refine wpAnyH_take (i := 15) (v := ?v26) rfl (by kernel_rfl) (by kernel_rfl) (by kernel_rfl) (fun _ _ _ h => h) (Or.inl ⟨by rfl, ?h26⟩) hHeld ?r26
      case h26 => intro w9 hSw; (try dsimp only at hSw); first | (go_simp; done) | (go_simp; with_reducible rfl)
      try simp only [List.getElem_toArray, List.getElem_cons_zero, List.getElem_cons_succ, Act.put, List.setIfInBounds_toArray, List.set_cons_zero, List.set_cons_succ]
      refine wpAnyH_take (i := 16) (v := ?v27) rfl (by kernel_rfl) (by kernel_rfl) (by kernel_rfl) (fun _ _ _ h => h) (Or.inl ⟨by rfl, ?h27⟩) hHeld ?r27
      case h27 => intro w9 hSw; (try dsimp only at hSw); first | (go_simp; done) | (go_simp; with_reducible rfl)
      try simp only [List.getElem_toArray, List.getElem_cons_zero, List.getElem_cons_succ, Act.put, List.setIfInBounds_toArray, List.set_cons_zero, List.set_cons_succ]
      refine wpAnyH_take (i := 17) (v := ?v28) rfl (by kernel_rfl) (by kernel_rfl) (by kernel_rfl) (fun _ _ _ h => h) (Or.inl ⟨by rfl, ?h28⟩) hHeld ?r28
      case h28 => intro w9 hSw; (try dsimp only at hSw); first | (go_simp; done) | (go_simp; with_reducible rfl)
      try simp only [List.getElem_toArray, List.getElem_cons_zero, List.getElem_cons_succ, Act.put, List.setIfInBounds_toArray, List.set_cons_zero, List.set_cons_succ]
      refine wpAnyH_take (i := 20) (v := ?v29) rfl (by kernel_rfl) (by kernel_rfl) (by kernel_rfl) (fun _ _ _ h => h) (Or.inl ⟨by rfl, ?h29⟩) hHeld ?r29
      case h29 => intro w9 hSw; (try dsimp only at hSw); first | (go_simp; done) | (go_simp; with_reducible rfl)
      try simp only [List.getElem_toArray, List.getElem_cons_zero, List.getElem_cons_succ, Act.put, List.setIfInBounds_toArray, List.set_cons_zero, List.set_cons_succ]
      refine wpAnyH_take (i := 21) (v := ?v30) rfl (by kernel_rfl) (by kernel_rfl) (by kernel_rfl) (fun _ _ _ h => h) (Or.inl ⟨by rfl, ?h30⟩) hHeld ?r30
      case h30 => intro w9 hSw; (try dsimp only at hSw); first | (go_simp; done) | (go_simp; with_reducible rfl)
      try simp only [List.getElem_toArray, List.getElem_cons_zero, List.getElem_cons_succ, Act.put, List.setIfInBounds_toArray, List.set_cons_zero, List.set_cons_succ]
      refine wpAnyH_ready (rs := [18]) (by kernel_rfl) (by simp) (AllReadyH.cons rfl (fun K hK => ?_) AllReadyH.nil)
      go_simp
      go_at_call 12
      refine (HUs.out _ _ _ (HRw.out.drewN 1)).mono ?_
      rintro e w4 ⟨z4, rfl, hb4, ho4⟩
      obtain ⟨a4, k4, hz4⟩ := ho4.shape
      rw [HNu.out] at hz4
      subst hz4
      have e0 := cell_later hb4 u0
      have e1 := cell_later hb4 u1
      have e2 := cell_later hb4 u2
      have e3 := cell_later hb4 u3
      have HB4 := hide (below_on HBW.out (below_on (below_drewN W 1) hb4))
      clear hb4 ho4
      refine hK.out _ _ ⟨e0, e1, e2, e3⟩ (fun hHeld4 => ?_)
      clear hK K
      try simp only [List.getElem_toArray, List.getElem_cons_zero, List.getElem_cons_succ, Act.put, List.setIfInBounds_toArray, List.set_cons_zero, List.set_cons_succ]
      refine wpAnyH_take (i := 19) (v := ?v31) rfl (by kernel_rfl) (by kernel_rfl) (by kernel_rfl) (fun _ _ _ h => h) (Or.inl ⟨by rfl, ?h31⟩) hHeld4 ?r31
      case h31 => intro w9 hSw; (try dsimp only at hSw); first | (go_simp; done) | (go_simp; with_reducible rfl)
      try simp only [List.getElem_toArray, List.getElem_cons_zero, List.getElem_cons_succ, Act.put, List.setIfInBounds_toArray, List.set_cons_zero, List.set_cons_succ]
      refine wpAnyH_take (i := 22) (v := ?v32) rfl (by kernel_rfl) (by kernel_rfl) (by kernel_rfl) (fun _ _ _ h => h) (Or.inl ⟨by rfl, ?h32⟩) hHeld4 ?r32
      case h32 => intro w9 hSw; (try dsimp only at hSw); first | (go_simp; done) | (go_simp; with_reducible rfl)
      try simp only [List.getElem_toArray, List.getElem_cons_zero, List.getElem_cons_succ, Act.put, List.setIfInBounds_toArray, List.set_cons_zero, List.set_cons_succ]
      refine wpAnyH_take (i := 23) (v := ?v33) rfl (by kernel_rfl) (by kernel_rfl) (by kernel_rfl) (fun _ _ _ h => h) (Or.inl ⟨by rfl, ?h33⟩) hHeld4 ?r33
      case h33 => intro w9 hSw; (try dsimp only at hSw); first | (go_simp; done) | (go_simp; with_reducible rfl)
      try simp only [List.getElem_toArray, List.getElem_cons_zero, List.getElem_cons_succ, Act.put, List.setIfInBounds_toArray, List.set_cons_zero, List.set_cons_succ]
      refine wpAnyH_take (i := 24) (v := ?v34) rfl (by kernel_rfl) (by kernel_rfl) (by kernel_rfl) (fun _ _ _ h => h) (Or.inl ⟨by rfl, ?h34⟩) hHeld4 ?r34
      case h34 => intro w9 hSw; (try dsimp only at hSw); first | (go_simp; done) | (go_simp; with_reducible rfl)
      try simp only [List.getElem_toArray, List.getElem_cons_zero, List.getElem_cons_succ, Act.put, List.setIfInBounds_toArray, List.set_cons_zero, List.set_cons_succ]
      refine wpAnyH_done (by kernel_rfl) ?_ _
      go_wp2_with fail
      go_meet
      case rel => exact ⟨rfl, HB4.out⟩
  case rest =>
    obtain ⟨rfl, HBc⟩ := hcut
    clear u0 u1 u2 u3 HRw HRu HBW HUn HUs HUf HUS HUT HUA HNu HN1
    have HVc := hide ((HV.out.later HBc.out).up (Nat.le_succ wc.heap.size))
    go_wp2_with fail
    refine (drawPack HVc.out).mono ?_
    rintro e w3 ⟨s, t, z3, xs, rfl, hb3, hl3, ho3⟩
    obtain ⟨a3, k3, rfl⟩ := ho3.shape
    obtain ⟨n3, hn3⟩ : ∃ n, xs.length = n := ⟨_, rfl⟩
    rw [hn3] at ho3 hl3 ⊢
    have HN3 := hide hn3
    have BH := below_alloc w3 (.cells #[.int .i64 s, .int .i64 t, .slice a3 n3 k3] 27)
    have HB3 := hide (below_on HBc.out (below_on hb3 BH))
    have HR3 := hide (ho3.rd.later BH)
    have HVH := hide (Var3_new w3 (.int .i64 s) (.int .i64 t) (.slice a3 n3 k3) 27)
    clear hb3 ho3 BH hn3 HVc
    obtain ⟨f, hf⟩ : ∃ f, headF s t xs = f := ⟨_, rfl⟩
    have HF := hide hf
    obtain ⟨l, hl⟩ : ∃ l, (if headF s t xs = 0 then packL s t xs else []) = l := ⟨_, rfl⟩
    have HL := hide hl
    have HP := hide (fun (S : Nat → Prop) (w : World) (h : RdI S w (.slice a3 n3 k3) xs) => implPackHeader s t h)
    have HFs := hide (fun (S : Nat → Prop) (w : World) (h : RdI S w (.slice a3 n3 k3) xs) => specHeaderFault s t h)
    have HFi := hide (fun (S : Nat → Prop) (w : World) (h : RdI S w (.slice a3 n3 k3) xs) => implHeaderFault s t h)
    rw [hl, hf] at HP
    rw [hf] at HFs HFi
    obtain ⟨m, hm⟩ : ∃ m, l.length = m := ⟨_, rfl⟩
    have HM := hide hm
    clear hf hl hm
    go_wp2_with fail
    refine (HP.out _ _ HR3.out).mono ?_
    rintro e w4 ⟨z4, rfl, hb4, ho4⟩
    obtain ⟨a4, k4, hz4⟩ := ho4.shape
    rw [HM.out] at hz4
    subst hz4
    have BP := below_alloc w4 (.cells #[.int .i64 f, .slice a4 m k4] 33)
    have HW : Hid (Below w.heap.size w (w4.alloc (.cells #[.int .i64 f, .slice a4 m k4] 33)) ∧ Var3 (w4.alloc (.cells #[.int .i64 f, .slice a4 m k4] 33)) w3.heap.size (.int .i64 s) (.int .i64 t) (.slice a3 n3 k3) ∧ Var2 (w4.alloc (.cells #[.int .i64 f, .slice a4 m k4] 33)) w4.heap.size (.int .i64 f) (.slice a4 m k4) ∧ (∃ S, RdI S (w4.alloc (.cells #[.int .i64 f, .slice a4 m k4] 33)) (.slice a3 n3 k3) xs) ∧ ∃ S, RdI S (w4.alloc (.cells #[.int .i64 f, .slice a4 m k4] 33)) (.slice a4 m k4) l) :=
      ⟨below_on HB3.out (below_on hb4 BP), HVH.out.later (below_on hb4 BP), Var2_new _ _ _ _, ⟨_, HR3.out.later (below_on hb4 BP)⟩, _, ho4.rd.later BP⟩
    clear hb4 ho4 BP HB3 HR3 HVH HP
    go_upto_region 9 with fail
    refine forget (fun wx => Below w.heap.size w wx ∧ Var3 wx w3.heap.size (.int .i64 s) (.int .i64 t) (.slice a3 n3 k3) ∧ Var2 wx w4.heap.size (.int .i64 f) (.slice a4 m k4) ∧ (∃ S, RdI S wx (.slice a3 n3 k3) xs) ∧ ∃ S, RdI S wx (.slice a4 m k4) l) HW.out ?_
    clear HW
    generalize w3.heap.size = H
    generalize w4.heap.size = P
    rintro V ⟨hbV, hVH, hVP, ⟨Sx, hrx⟩, Sl, hrl⟩
    have HBV := hide hbV
    have HVH := hide hVH
    have HVP := hide hVP
    have HRx := hide hrx
    have HRl := hide hrl
    clear hbV hVH hVP hrx hrl
    obtain ⟨c0, c1, c2⟩ := HVH.out
    obtain ⟨p0, p1⟩ := HVP.out
    by_cases hf0 : f = 0
    · subst hf0
      have hl : l = packL s t xs := by rw [← HL.out, if_pos HF.out]
      have hm : m = 64 := by rw [← HM.out, hl, packL_len (by have := (headF_zero HF.out).2.1; omega)]
      have HLL := hide hl
      subst hm
      clear hl
      obtain ⟨⟨hs1, hs2, _, _⟩, _, _⟩ := headF_zero HF.out
      have HUn : Hid (∀ (S : Nat → Prop) (w : World) (y : Value), RdI S w y l → Calls Try.prog 9 #[y] w (EndsH 0 s t xs w)) := fun S w y h => by
        have := implUnpack h
        obtain ⟨q1, q2, q3, q4⟩ := packL_unp HF.out
        rw [HLL.out, q1, q2, q3, q4] at this
        exact this
      obtain ⟨s', hs'⟩ : ∃ x, s % 65000 + 1 = x := ⟨_, rfl⟩
      have hs'1 : 1 ≤ s' ∧ s' ≤ 65000 := by omega
      have htm : Int.tmod s 65000 = s % 65000 := Int.tmod_eq_emod_of_nonneg (by omega)
      go_wp2_with fail
      refine (HUn.out _ _ _ HRl.out).mono ?_
      rintro e w5 ⟨z5, rfl, hb5, ho5⟩
      obtain ⟨a5, k5, hz5⟩ := ho5.shape
      rw [HN3.out] at hz5
      subst hz5
      have BR := below_on (below_alloc w5 (.cells #[.int .i64 0, .int .i64 s, .int .i64 t, .slice a5 n3 k5] 29)) (below_alloc _ (.cells #[.int .i64 0, .int .i64 s', .int .i64 t, .slice a5 n3 k5] 29))
      have HW : Hid (Below w.heap.size w ((w5.alloc (.cells #[.int .i64 0, .int .i64 s, .int .i64 t, .slice a5 n3 k5] 29)).alloc (.cells #[.int .i64 0, .int .i64 s', .int .i64 t, .slice a5 n3 k5] 29)) ∧ Var3 ((w5.alloc (.cells #[.int .i64 0, .int .i64 s, .int .i64 t, .slice a5 n3 k5] 29)).alloc (.cells #[.int .i64 0, .int .i64 s', .int .i64 t, .slice a5 n3 k5] 29)) H (.int .i64 s) (.int .i64 t) (.slice a3 n3 k3) ∧ Var2 ((w5.alloc (.cells #[.int .i64 0, .int .i64 s, .int .i64 t, .slice a5 n3 k5] 29)).alloc (.cells #[.int .i64 0, .int .i64 s', .int .i64 t, .slice a5 n3 k5] 29)) P (.int .i64 0) (.slice a4 64 k4) ∧ Var4 ((w5.alloc (.cells #[.int .i64 0, .int .i64 s, .int .i64 t, .slice a5 n3 k5] 29)).alloc (.cells #[.int .i64 0, .int .i64 s', .int .i64 t, .slice a5 n3 k5] 29)) w5.heap.size (.int .i64 0) (.int .i64 s) (.int .i64 t) (.slice a5 n3 k5) ∧ Var4 ((w5.alloc (.cells #[.int .i64 0, .int .i64 s, .int .i64 t, .slice a5 n3 k5] 29)).alloc (.cells #[.int .i64 0, .int .i64 s', .int .i64 t, .slice a5 n3 k5] 29)) (w5.heap.size + 1) (.int .i64 0) (.int .i64 s') (.int .i64 t) (.slice a5 n3 k5) ∧ (∃ S, RdI S ((w5.alloc (.cells #[.int .i64 0, .int .i64 s, .int .i64 t, .slice a5 n3 k5] 29)).alloc (.cells #[.int .i64 0, .int .i64 s', .int .i64 t, .slice a5 n3 k5] 29)) (.slice a3 n3 k3) xs) ∧ ∃ S, RdI S ((w5.alloc (.cells #[.int .i64 0, .int .i64 s, .int .i64 t, .slice a5 n3 k5] 29)).alloc (.cells #[.int .i64 0, .int .i64 s', .int .i64 t, .slice a5 n3 k5] 29)) (.slice a5 n3 k5) xs) := by
        have hv4 := Var4_new (w5.alloc (.cells #[.int .i64 0, .int .i64 s, .int .i64 t, .slice a5 n3 k5] 29)) (.int .i64 0) (.int .i64 s') (.int .i64 t) (.slice a5 n3 k5) 29
        rw [World.size_alloc] at hv4
        exact ⟨below_on HBV.out (below_on hb5 BR), HVH.out.later (below_on hb5 BR), HVP.out.later (below_on hb5 BR), (Var4_new _ _ _ _ _ _).later (below_alloc _ _), hv4, ⟨_, HRx.out.later (below_on hb5 BR)⟩, _, ho5.rd.later BR⟩
      have q0 := cell_later hb5 c0
      have q1 := cell_later hb5 c1
      have q2 := cell_later hb5 c2
      have hHl : H < w5.heap.size := World.block_lt_of_cell? _ _ q0
      clear hb5 ho5 BR HBV HVH HVP HRx HRl c0 c1 c2 p0 p1
      go_upto_region 14 with fail
      try rw [hs']
      refine forget (fun wx => Below w.heap.size w wx ∧ Var3 wx H (.int .i64 s) (.int .i64 t) (.slice a3 n3 k3) ∧ Var2 wx P (.int .i64 0) (.slice a4 64 k4) ∧ Var4 wx w5.heap.size (.int .i64 0) (.int .i64 s) (.int .i64 t) (.slice a5 n3 k5) ∧ Var4 wx (w5.heap.size + 1) (.int .i64 0) (.int .i64 s') (.int .i64 t) (.slice a5 n3 k5) ∧ (∃ S, RdI S wx (.slice a3 n3 k3) xs) ∧ ∃ S, RdI S wx (.slice a5 n3 k5) xs) HW.out ?_
      clear HW q0 q1 q2 hHl
      generalize w5.heap.size = R
      rintro V2 ⟨hb2, hVH, hVP, hVR, hVN, ⟨Sx2, hrx2⟩, S5, hr5⟩
      obtain ⟨nwk, hnwk⟩ : ∃ k, nwP 0 s t xs 0 s' t xs = k := ⟨_, rfl⟩
      have hnw := nw_two HF.out hs'1.1 hs'1.2
      have hlen : xs.length ≤ 1048576 := by rw [HN3.out]; omega
      have HNw := hide (fun (S T : Nat → Prop) (w : World) (ya yb : Value) (h1 : RdI S w ya xs) (h2 : RdI T w yb xs) => implNewest 0 s t 0 s' t h1 h2 hlen hlen)
      have HN5 := hide (fun (S : Nat → Prop) (w : World) (yb : Value) (h2 : RdI S w yb xs) => implNewest 5 0 0 0 s t (RdI_nil (fun _ => True) w none 0) h2 (by simp) hlen)
      rw [nw_five HF.out] at HN5
      rw [hnw.1, hnw.2, hnwk] at HNw
      obtain ⟨mx, hmx⟩ : ∃ x, (if s < s' then s' else s) = x := ⟨_, rfl⟩
      rw [hmx] at HNw
      have HMx := hide hmx
      generalize nwI nwk t t = xt at HNw
      generalize nwA nwk xs xs = xa at HNw
      generalize nwF (nwP 5 0 0 [] 0 s t xs) = f5 at HN5
      generalize nwI (nwP 5 0 0 [] 0 s t xs) 0 t = t5 at HN5
      generalize nwA (nwP 5 0 0 [] 0 s t xs) [] xs = xa5 at HN5
      obtain ⟨n6, hn6⟩ : ∃ n, xa.length = n := ⟨_, rfl⟩
      obtain ⟨n7, hn7⟩ : ∃ n, xa5.length = n := ⟨_, rfl⟩
      have HN6 := hide hn6
      have HN7 := hide hn7
      clear hnw hnwk hmx hn6 hn7
      have HB2 := hide hb2
      have HVH := hide hVH
      have HVP := hide hVP
      have HVR := hide hVR
      have HVN := hide hVN
      have HRx := hide hrx2
      have HR5 := hide hr5
      obtain ⟨r0, r1, r2, r3⟩ := hVR
      obtain ⟨m0, m1, m2, m3⟩ := hVN
      clear hb2 hVH hVP hrx2 hr5
      go_wp2_with fail
      refine (HNw.out _ _ _ _ _ HR5.out HR5.out).mono ?_
      rintro e w6 ⟨z6, rfl, hb6, ho6⟩
      obtain ⟨a6, k6, hz6⟩ := ho6.shape
      rw [HN6.out] at hz6
      subst hz6
      have BX := below_on hb6 (below_alloc w6 (.cells #[.int .i64 0, .int .i64 mx, .int .i64 xt, .slice a6 n6 k6] 29))
      have HW : Hid (Below w.heap.size w (w6.alloc (.cells #[.int .i64 0, .int .i64 mx, .int .i64 xt, .slice a6 n6 k6] 29)) ∧ Var3 (w6.alloc (.cells #[.int .i64 0, .int .i64 mx, .int .i64 xt, .slice a6 n6 k6] 29)) H (.int .i64 s) (.int .i64 t) (.slice a3 n3 k3) ∧ Var2 (w6.alloc (.cells #[.int .i64 0, .int .i64 mx, .int .i64 xt, .slice a6 n6 k6] 29)) P (.int .i64 0) (.slice a4 64 k4) ∧ Var4 (w6.alloc (.cells #[.int .i64 0, .int .i64 mx, .int .i64 xt, .slice a6 n6 k6] 29)) R (.int .i64 0) (.int .i64 s) (.int .i64 t) (.slice a5 n3 k5) ∧ Var4 (w6.alloc (.cells #[.int .i64 0, .int .i64 mx, .int .i64 xt, .slice a6 n6 k6] 29)) (R + 1) (.int .i64 0) (.int .i64 s') (.int .i64 t) (.slice a5 n3 k5) ∧ Var4 (w6.alloc (.cells #[.int .i64 0, .int .i64 mx, .int .i64 xt, .slice a6 n6 k6] 29)) w6.heap.size (.int .i64 0) (.int .i64 mx) (.int .i64 xt) (.slice a6 n6 k6) ∧ (∃ S, RdI S (w6.alloc (.cells #[.int .i64 0, .int .i64 mx, .int .i64 xt, .slice a6 n6 k6] 29)) (.slice a3 n3 k3) xs) ∧ ∃ S, RdI S (w6.alloc (.cells #[.int .i64 0, .int .i64 mx, .int .i64 xt, .slice a6 n6 k6] 29)) (.slice a5 n3 k5) xs) :=
        ⟨below_on HB2.out BX, HVH.out.later BX, HVP.out.later BX, HVR.out.later BX, HVN.out.later BX, Var4_new _ _ _ _ _ _, ⟨_, HRx.out.later BX⟩, _, HR5.out.later BX⟩
      clear hb6 ho6 BX HB2 HVH HVP HVR HVN HRx HR5 r0 r1 r2 r3 m0 m1 m2 m3 HNw
      go_upto_region 15 with fail
      refine forget (fun wx => Below w.heap.size w wx ∧ Var3 wx H (.int .i64 s) (.int .i64 t) (.slice a3 n3 k3) ∧ Var2 wx P (.int .i64 0) (.slice a4 64 k4) ∧ Var4 wx R (.int .i64 0) (.int .i64 s) (.int .i64 t) (.slice a5 n3 k5) ∧ Var4 wx (R + 1) (.int .i64 0) (.int .i64 s') (.int .i64 t) (.slice a5 n3 k5) ∧ Var4 wx w6.heap.size (.int .i64 0) (.int .i64 mx) (.int .i64 xt) (.slice a6 n6 k6) ∧ (∃ S, RdI S wx (.slice a3 n3 k3) xs) ∧ ∃ S, RdI S wx (.slice a5 n3 k5) xs) HW.out ?_
      clear HW
      generalize w6.heap.size = X
      rintro V3 ⟨hb3, ⟨c0, c1, c2⟩, ⟨p0, p1⟩, ⟨r0, r1, r2, r3⟩, ⟨m0, m1, m2, m3⟩, ⟨x0, x1, x2, x3⟩, ⟨Sx3, hrx3⟩, S53, hr53⟩
      have HB3 := hide hb3
      have HRx := hide hrx3
      have HR5 := hide hr53
      clear hb3 hrx3 hr53
      go_upto_if 80 with fail
      go_cut [10] from 76 to 83 (fun v wx => v = .int .i64 mx ∧ wx = V3)
      case first =>
        by_cases hlt : s < s'
        · have hmx : mx = s' := by rw [← HMx.out, if_pos hlt]
          subst hmx
          go_wp2_with fail
          go_meet
          case rel => exact ⟨rfl, rfl⟩
        · have hmx : mx = s := by rw [← HMx.out, if_neg hlt]
          subst hmx
          have hlt2 : ¬ (mx < s') := hlt
          go_wp2_with fail
          go_meet
          case rel => exact ⟨rfl, rfl⟩
      case rest =>
        obtain ⟨rfl, rfl⟩ := hcut
        have HLw := hide (fun (w : World) (S T : Nat → Prop) (h1 : RdI S w (.slice a5 n3 k5) xs) (h2 : RdI T w (.slice a3 n3 k3) xs) => lwNums h1 h2)
        rw [decide_eq_true rfl] at HLw
        go_wp2_with fail
        go_region_held3 (fun w' => w'.cell? ⟨P, 1, none⟩ = some (.slice a4 64 k4) ∧ w'.cell? ⟨R, 0, none⟩ = some (.int .i64 0) ∧ w'.cell? ⟨R, 1, none⟩ = some (.int .i64 s) ∧ w'.cell? ⟨R, 2, none⟩ = some (.int .i64 t) ∧ w'.cell? ⟨R, 3, none⟩ = some (.slice a5 n3 k5) ∧ w'.cell? ⟨H, 0, none⟩ = some (.int .i64 s) ∧ w'.cell? ⟨H, 1, none⟩ = some (.int .i64 t) ∧ w'.cell? ⟨H, 2, none⟩ = some (.slice a3 n3 k3) ∧ w'.cell? ⟨X, 0, none⟩ = some (.int .i64 0) ∧ w'.cell? ⟨X, 1, none⟩ = some (.int .i64 mx)) (first | exact ⟨p1, r0, r1, r2, r3, c0, c1, c2, x0, x1⟩ | exact ⟨e0, e1, e2, e3, e4, e5, e6, e7, e8, e9⟩)
          (first | (go_at_call 16; refine (HN5.out _ _ _ HR5b.out).mono ?_; rintro e w8 ⟨z8, rfl, hb8, ho8⟩; obtain ⟨a8, k8, hz8⟩ := ho8.shape; rw [HN7.out] at hz8; subst hz8; have e0 := cell_later hb8 p1; have e1 := cell_later hb8 r0; have e2 := cell_later hb8 r1; have e3 := cell_later hb8 r2; have e4 := cell_later hb8 r3; have e5 := cell_later hb8 c0; have e6 := cell_later hb8 c1; have e7 := cell_later hb8 c2; have e8 := cell_later hb8 x0; have e9 := cell_later hb8 x1; have HB8 := hide (below_on HB7.out hb8); clear hb8 ho8) | (go_at_call 10; refine (HLw.out _ _ _ (HR5.out.drewN 1) (HRx.out.drewN 1)).mono ?_; rintro e w7 ⟨rfl, q7, rfl⟩; have HB7 := hide (below_on HB3.out (below_drewN wc (1 + q7))); have HR5b := hide (HR5.out.drewN (1 + q7))))
        go_wp2
        go_ret
        exact ⟨by simp, HB8.out⟩
    · have hfb : (f != 0) = true := by simpa using hf0
      go_wp2_with fail
      go_region_held3 (fun w' => w'.cell? ⟨H, 0, none⟩ = some (.int .i64 s) ∧ w'.cell? ⟨H, 1, none⟩ = some (.int .i64 t) ∧ w'.cell? ⟨H, 2, none⟩ = some (.slice a3 n3 k3) ∧ w'.cell? ⟨P, 0, none⟩ = some (.int .i64 f)) (first | exact ⟨c0, c1, c2, p0⟩ | exact ⟨e0, e1, e2, e3⟩ | exact ⟨i0, i1, i2, i3⟩)
        (first | (go_at_call 15; refine (HFi.out _ _ HR6.out).mono ?_; rintro e w7 ⟨rfl, hb7⟩; have i0 := cell_later hb7 e0; have i1 := cell_later hb7 e1; have i2 := cell_later hb7 e2; have i3 := cell_later hb7 e3; have HB7 := hide (below_on HB6.out hb7); clear hb7) | (go_at_call 14; refine (HFs.out _ _ (HRx.out.drewN 1)).mono ?_; rintro e w6 ⟨rfl, hb6⟩; have e0 := cell_later hb6 c0; have e1 := cell_later hb6 c1; have e2 := cell_later hb6 c2; have e3 := cell_later hb6 p0; have HB6 := hide (below_on HBV.out (below_on (below_drewN V 1) hb6)); have HR6 := hide ((HRx.out.drewN 1).later hb6); clear hb6))
      go_wp2
      go_ret
      exact ⟨by simp, HB7.out⟩
end Go.Proofs.Ytojcjipelgjglaa
