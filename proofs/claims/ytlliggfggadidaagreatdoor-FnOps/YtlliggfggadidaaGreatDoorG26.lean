/- Bo1 in one text: what each says stands at its head below. -/
import Derived.Test.YtlliggfggadidaaGreatDoorG25
import Derived.Test.YtlliggfggadidaaGreatDoorG02
import Derived.Test.YtlliggfggadidaaGreatDoorG12
import Derived.Test.YtlliggfggadidaaGreatDoorG21
namespace Go.Proofs.YtlliggfggadidaaGreatDoor
open Go.RowKit
structure DwI (w : World) (s : Nat) (v : Value) (bs : List Nat) (t N : Nat) (t5 : Nat) (wr : World) : Prop where
  dr : Drawn N s v bs t t5 w wr
  res : Var6 wr w.heap.size (.int .i64 0) (.int .i64 0) (.int .i64 0) (.int .i64 0) (.slice none 0 0) (.slice none 0 0)
  rfz : ∀ o, wr.frozen? ⟨w.heap.size, o, none⟩ = false
  old : s < w.heap.size
section
variable {w : World} {s : Nat} {v : Value} {bs : List Nat} {t N M : Nat} {t5 t6 : Nat} {wr w1 : World}
theorem DwI.on (h : DwI w s v bs t N t5 wr) (hd : Drawn M s v bs t5 t6 wr w1) : DwI w s v bs t (N + M) t6 w1 := by
  have ho := h.old
  have hr := h.res.lt
  exact ⟨h.dr.on hd, h.res.wr hd.2.1 (by show ¬ w.heap.size = s; omega), fun o => (hd.2.1.frz _ _ hr).trans (h.rfz o), ho⟩
theorem DwI.later (h : DwI w s v bs t N t5 wr) (hb : Below wr.heap.size wr w1) : DwI w s v bs t N t5 w1 :=
  ⟨h.dr.later hb, h.res.later hb, fun o => ((bcell hb).2 _ _ h.res.lt).trans (h.rfz o), h.old⟩
end
structure OpD (w w' : World) (O : Rf) (y z : Value) : Prop where
  row : w'.ownsRow (w.heap.size + 1) 2 1 y O.sn.length (O.sn.map (Value.int .i64))
  lst : OwJ (fun b => w.heap.size < b ∧ b < w'.heap.size) w' z O.lg
  one : (O.sn = [] ∧ y = .slice none 0 0) ∨ (O.lg = [] ∧ z = .slice none 0 0)
  ln : O.sn.length ≤ 20
  ll : O.lg.length ≤ 3
  da : ∀ p ∈ O.lg, p.2.2.length ≤ 4
theorem own_upB {w : World} {base base' size n : Nat} {e : TypeId} {v : Value} {xs : List Value} (h : w.ownsRow base e size v n xs) (hb : base' ≤ base) : w.ownsRow base' e size v n xs :=
  ⟨h.1, h.2.elim Or.inl fun ⟨g, cap, cur, hv, hg, r⟩ => Or.inr ⟨g, cap, cur, hv, Nat.le_trans hb hg, r⟩⟩
set_option linter.unusedSimpArgs false in
set_option maxHeartbeats 8000000 in
set_option maxRecDepth 4000 in
theorem l12Draw {s : Nat} {v : Value} {bs : List Nat} {w : World} {t : Nat} (hS : Src s v bs w t) (ht : t ≤ 300000000) {rr : Nat} {ay az : Option Addr} {ly cy cz : Nat} (Q : Rf) (hr : rfF Q = 0) (hv : Var6 w rr (.int .i64 Q.tm) (.int .i64 Q.vt) (.int .i64 Q.si) (.int .i64 Q.st) (.slice ay ly cy) (.slice az Q.lg.length cz)) (hne : rr ≠ s) (hz : RdJ (· ≠ s) w (.slice az Q.lg.length cz) Q.lg) :
    Calls Tryz.prog 41 #[.pointer (some ⟨s, 0, none⟩), .pointer (some ⟨rr, 0, none⟩)] w fun e w' => ∃ (O : Rf) (y z : Value), e = .returned (.agg #[.int .i64 O.tm, .int .i64 O.vt, .int .i64 O.si, .int .i64 O.st, y, z]) ∧ OpD w w' O y z ∧ ∃ t', Drawn 200 s v bs t t' w w' := by
  have HS := hide hS
  have hsl := hS.lt
  have hrl := hv.lt
  clear hS
  have bA := below_alloc w (.cells #[.int .i64 0, .int .i64 0, .int .i64 0, .int .i64 0, .slice none 0 0, .slice none 0 0] 29)
  have D0 : Hid (DwI w s v bs t 0 t (w.alloc (.cells #[.int .i64 0, .int .i64 0, .int .i64 0, .int .i64 0, .slice none 0 0, .slice none 0 0] 29))) := ⟨(Drawn.refl HS.out).later bA, Var6_new w (.int .i64 0) (.int .i64 0) (.int .i64 0) (.int .i64 0) (.slice none 0 0) (.slice none 0 0) 29, fun o => by simp [go_sem], hsl⟩
  have V0 := hide (hv.later bA)
  have HZ := hide hz
  have hnums := rf_nums hr
  obtain ⟨q1, _, q3, _, q5, _⟩ := hnums
  have HQ := hide hr
  clear hv hz bA hr
  go_enter Tryz.func41, Tryz.ntmps41
  go_upto_region 1 with fail
  obtain ⟨W0, hW0⟩ : ∃ x, (w.alloc (.cells #[.int .i64 0, .int .i64 0, .int .i64 0, .int .i64 0, .slice none 0 0, .slice none 0 0] 29)) = x := ⟨_, rfl⟩
  rw [hW0] at D0 V0
  (try rw [hW0])
  clear hW0
  go_wp2_with fail
  refine (l10LastI V0.out q3.1 q3.2 q5).mono ?_
  rintro e w1 ⟨rfl, nq0, rfl⟩
  have hb0 := below_drewN W0 nq0
  have D1 := hide (D0.out.later hb0)
  have V1 := hide (V0.out.later hb0)
  clear hb0 D0 V0
  obtain ⟨W1, hW1⟩ : ∃ x, W0.drewN nq0 = x := ⟨_, rfl⟩
  rw [hW1] at D1 V1
  (try rw [hW1])
  clear hW1
  obtain ⟨la, hla⟩ : ∃ la, Q.si + (Q.lg.length : Int) = la := ⟨_, rfl⟩
  (try rw [hla])
  have hla0 : 0 ≤ la ∧ la ≤ 10013 := by omega
  have hla1 : Q.si ≤ la := by omega
  have HLa := hide hla
  clear hla
  go_wp2_with fail
  refine (l1Next 8 D1.out.dr.1 (by have := D1.out.dr.2.2; omega) (by omega) (by omega)).mono ?_
  rintro e w2 ⟨k, rfl, k0, k1, t2, hd2⟩
  have k2 := k1 (by omega)
  have D2 := hide (D1.out.on hd2)
  have V2 := hide (V1.out.wr hd2.2.1 hne)
  have hdt := D2.out.dr.2.2
  clear hd2 D1 V1 k1
  have hrw : rr ≠ w.heap.size := by omega
  by_cases hk0 : k = 0
  · subst hk0
    go_upto_region 4 with fail
    obtain ⟨g0, g1, g2, g3, g4, g5⟩ := V2.out
    refine wp_region_held_drew (S := fun w' => w'.cell? ⟨rr, 0, none⟩ = some (.int .i64 Q.tm) ∧ w'.cell? ⟨rr, 1, none⟩ = some (.int .i64 Q.vt) ∧ w'.cell? ⟨rr, 2, none⟩ = some (.int .i64 Q.si) ∧ w'.cell? ⟨rr, 3, none⟩ = some (.int .i64 Q.st) ∧ w'.cell? ⟨rr, 4, none⟩ = some (.slice ay ly cy) ∧ w'.cell? ⟨rr, 5, none⟩ = some (.slice az Q.lg.length cz)) (by kernel_rfl) ⟨g0, g1, g2, g3, g4, g5⟩ (fun _ => ?_)
    clear g0 g1 g2 g3 g4 g5
    refine forgetH (fun wx => (∃ tt, DwI w s v bs t 3 tt wx ∧ tt ≤ 300000010) ∧ Var6 wx rr (.int .i64 Q.tm) (.int .i64 Q.vt) (.int .i64 Q.si) (.int .i64 Q.st) (.slice ay ly cy) (.slice az Q.lg.length cz)) ⟨⟨_, ⟨(D2.out.later (below_drewN w2 1)).dr.mono (by omega), (D2.out.later (below_drewN w2 1)).res, (D2.out.later (below_drewN w2 1)).rfz, D2.out.old⟩, by have := D2.out.dr.2.2; omega⟩, V2.out.later (below_drewN w2 1)⟩ ?_
    rintro Y0 ⟨⟨t4, d4, ht4⟩, v4⟩
    have D4 := hide d4
    have V4 := hide v4
    clear d4 v4 D2 V2
    have hHeld := V4.out
    refine wpAnyH_take (i := 0) (v := ?vt1x0) rfl (by kernel_rfl) (by kernel_rfl) (by kernel_rfl) (fun _ _ _ h => h) (Or.inl ⟨by rfl, ?ht1x0⟩) hHeld ?rt1x0
    case ht1x0 => intro w9 hSw; (try dsimp only at hSw); first | (go_simp; done) | (go_simp; with_reducible rfl)
    try simp only [Act.put, List.setIfInBounds_toArray, List.set_cons_zero, List.set_cons_succ, List.getElem_toArray, List.getElem_cons_zero]
    refine wpAnyH_take (i := 1) (v := ?vt2x1) rfl (by kernel_rfl) (by kernel_rfl) (by kernel_rfl) (fun _ _ _ h => h) (Or.inl ⟨by rfl, ?ht2x1⟩) hHeld ?rt2x1
    case ht2x1 => intro w9 hSw; (try dsimp only at hSw); first | (go_simp; done) | (go_simp; with_reducible rfl)
    try simp only [Act.put, List.setIfInBounds_toArray, List.set_cons_zero, List.set_cons_succ, List.getElem_toArray, List.getElem_cons_zero, List.getElem_cons_succ]
    refine wpAnyH_take (i := 2) (v := ?vt3x2) rfl (by kernel_rfl) (by kernel_rfl) (by kernel_rfl) (fun _ _ _ h => h) (Or.inl ⟨by rfl, ?ht3x2⟩) hHeld ?rt3x2
    case ht3x2 => intro w9 hSw; (try dsimp only at hSw); first | (go_simp; done) | (go_simp; with_reducible rfl)
    try simp only [Act.put, List.setIfInBounds_toArray, List.set_cons_zero, List.set_cons_succ, List.getElem_toArray, List.getElem_cons_zero, List.getElem_cons_succ]
    refine wpAnyH_take (i := 3) (v := ?vt4x3) rfl (by kernel_rfl) (by kernel_rfl) (by kernel_rfl) (fun _ _ _ h => h) (Or.inl ⟨by rfl, ?ht4x3⟩) hHeld ?rt4x3
    case ht4x3 => intro w9 hSw; (try dsimp only at hSw); first | (go_simp; done) | (go_simp; with_reducible rfl)
    try simp only [Act.put, List.setIfInBounds_toArray, List.set_cons_zero, List.set_cons_succ, List.getElem_toArray, List.getElem_cons_zero, List.getElem_cons_succ]
    refine wpAnyH_take (i := 4) (v := ?vt5x4) rfl (by kernel_rfl) (by kernel_rfl) (by kernel_rfl) (fun _ _ _ h => h) (Or.inl ⟨by rfl, ?ht5x4⟩) hHeld ?rt5x4
    case ht5x4 => intro w9 hSw; (try dsimp only at hSw); first | (go_simp; done) | (go_simp; with_reducible rfl)
    try simp only [Act.put, List.setIfInBounds_toArray, List.set_cons_zero, List.set_cons_succ, List.getElem_toArray, List.getElem_cons_zero, List.getElem_cons_succ]
    refine wpAnyH_take (i := 7) (v := ?vt6x7) rfl (by kernel_rfl) (by kernel_rfl) (by kernel_rfl) (fun _ _ _ h => h) (Or.inl ⟨by rfl, ?ht6x7⟩) hHeld ?rt6x7
    case ht6x7 => intro w9 hSw; (try dsimp only at hSw); first | (go_simp; done) | (go_simp; with_reducible rfl)
    try simp only [Act.put, List.setIfInBounds_toArray, List.set_cons_zero, List.set_cons_succ, List.getElem_toArray, List.getElem_cons_zero, List.getElem_cons_succ]
    refine wpAnyH_ready (rs := [5]) (by kernel_rfl) (by simp) (AllReadyH.cons rfl (fun K hK => ?_) AllReadyH.nil)
    go_simp
    go_at_call 40
    have hts := D4.out.dr.2.2
    refine (l1Next 2 D4.out.dr.1 (by omega) (by omega) (by omega)).mono ?_
    rintro e Y1 ⟨a, rfl, a0, a1, t5, hd⟩
    have a2 := a1 (by omega)
    have D5 := hide (D4.out.on hd)
    have V5 := hide (V4.out.wr hd.2.1 hne)
    clear hd hHeld D4 V4 a1 hts
    refine hK.out _ _ V5.out (fun hHeld => ?_)
    clear hK K
    try simp only [Act.put, List.setIfInBounds_toArray, List.set_cons_zero, List.set_cons_succ, List.getElem_toArray, List.getElem_cons_zero, List.getElem_cons_succ]
    refine wpAnyH_take (i := 6) (v := ?vt7x6) rfl (by kernel_rfl) (by kernel_rfl) (by kernel_rfl) (fun _ _ _ h => h) (Or.inl ⟨by rfl, ?ht7x6⟩) hHeld ?rt7x6
    case ht7x6 => intro w9 hSw; (try dsimp only at hSw); first | (go_simp; done) | (go_simp; with_reducible rfl)
    try simp only [Act.put, List.setIfInBounds_toArray, List.set_cons_zero, List.set_cons_succ, List.getElem_toArray, List.getElem_cons_zero, List.getElem_cons_succ]
    have ew : IntKind.i64.wrap (Q.tm + a) = Q.tm + a := by simp [IntKind.wrap, IntKind.bits, IntKind.signed]; omega
    (try rw [ew])
    clear ew
    refine wpAnyH_ready (rs := [8]) (by kernel_rfl) (by simp) (AllReadyH.cons rfl (fun K hK => ?_) AllReadyH.nil)
    go_simp
    go_at_call 40
    have hts := D5.out.dr.2.2
    refine (l1Next 4 D5.out.dr.1 (by omega) (by omega) (by omega)).mono ?_
    rintro e Y2 ⟨b, rfl, b0, b1, t6, hd⟩
    have b2 := b1 (by omega)
    have D6 := hide (D5.out.on hd)
    have V6 := hide (V5.out.wr hd.2.1 hne)
    clear hd hHeld D5 V5 b1 hts
    refine hK.out _ _ V6.out (fun hHeld => ?_)
    clear hK K
    try simp only [Act.put, List.setIfInBounds_toArray, List.set_cons_zero, List.set_cons_succ, List.getElem_toArray, List.getElem_cons_zero, List.getElem_cons_succ]
    refine wpAnyH_take (i := 9) (v := ?vt8x9) rfl (by kernel_rfl) (by kernel_rfl) (by kernel_rfl) (fun _ _ _ h => h) (Or.inl ⟨by rfl, ?ht8x9⟩) hHeld ?rt8x9
    case ht8x9 => intro w9 hSw; (try dsimp only at hSw); first | (go_simp; done) | (go_simp; with_reducible rfl)
    try simp only [Act.put, List.setIfInBounds_toArray, List.set_cons_zero, List.set_cons_succ, List.getElem_toArray, List.getElem_cons_zero, List.getElem_cons_succ]
    have hq1s := q1
    have hq3s := q3
    have hq5s := q5
    clear q1 q3 q5
    obtain ⟨q0, q1, q2, q3, q4, q5⟩ := D6.out.res
    have f0 := D6.out.rfz 0
    have f1 := D6.out.rfz 1
    have f2 := D6.out.rfz 2
    have f3 := D6.out.rfz 3
    have f4 := D6.out.rfz 4
    have f5 := D6.out.rfz 5
    have hw6 : Wr (fun x => x = w.heap.size) Y2 ((((((Y2.setCell ⟨w.heap.size, 0, none⟩ (.int .i64 1)).setCell ⟨w.heap.size, 1, none⟩ (.int .i64 0)).setCell ⟨w.heap.size, 2, none⟩ (.int .i64 (Q.tm + a))).setCell ⟨w.heap.size, 3, none⟩ (.int .i64 b)).setCell ⟨w.heap.size, 4, none⟩ (.slice none 0 0)).setCell ⟨w.heap.size, 5, none⟩ (.slice none 0 0)) := (Wr.setCell (p := ⟨w.heap.size, 5, none⟩) (Wr.setCell (p := ⟨w.heap.size, 4, none⟩) (Wr.setCell (p := ⟨w.heap.size, 3, none⟩) (Wr.setCell (p := ⟨w.heap.size, 2, none⟩) (Wr.setCell (p := ⟨w.heap.size, 1, none⟩) (Wr.setCell (p := ⟨w.heap.size, 0, none⟩) (Wr.refl (fun x => x = w.heap.size) Y2) rfl (.int .i64 1)) rfl (.int .i64 0)) rfl (.int .i64 (Q.tm + a))) rfl (.int .i64 b)) rfl (.slice none 0 0)) rfl (.slice none 0 0))
    have hDn : Drawn _ s v bs t _ w ((((((Y2.setCell ⟨w.heap.size, 0, none⟩ (.int .i64 1)).setCell ⟨w.heap.size, 1, none⟩ (.int .i64 0)).setCell ⟨w.heap.size, 2, none⟩ (.int .i64 (Q.tm + a))).setCell ⟨w.heap.size, 3, none⟩ (.int .i64 b)).setCell ⟨w.heap.size, 4, none⟩ (.slice none 0 0)).setCell ⟨w.heap.size, 5, none⟩ (.slice none 0 0)) := Drawn.onBelow HS.out D6.out.dr (hw6.below (by have := D6.out.res.lt; omega) (fun b e => by omega))
    have hOp : OpD w ((((((Y2.setCell ⟨w.heap.size, 0, none⟩ (.int .i64 1)).setCell ⟨w.heap.size, 1, none⟩ (.int .i64 0)).setCell ⟨w.heap.size, 2, none⟩ (.int .i64 (Q.tm + a))).setCell ⟨w.heap.size, 3, none⟩ (.int .i64 b)).setCell ⟨w.heap.size, 4, none⟩ (.slice none 0 0)).setCell ⟨w.heap.size, 5, none⟩ (.slice none 0 0)) ⟨1, 0, Q.tm + a, b, [], []⟩ (.slice none 0 0) (.slice none 0 0) := ⟨World.ownsRow_nil _ _ _ _, OwJ_nil _ _, Or.inl ⟨rfl, rfl⟩, by simp, by simp, fun p hp => absurd hp (by simp)⟩
    refine wpAnyH_ready (rs := [10]) (by kernel_rfl) (by simp) (AllReadyH.cons rfl (fun K hK => ?_) AllReadyH.nil)
    go_simp
    refine hK.out _ _ (V6.out.wr hw6 (by show ¬ rr = w.heap.size; have := hrw; omega)) (fun hHeldx => ?_)
    clear hK K
    try simp only [Act.put, List.setIfInBounds_toArray, List.set_cons_zero, List.set_cons_succ, List.getElem_toArray, List.getElem_cons_zero, List.getElem_cons_succ]
    refine wpAnyH_done (by kernel_rfl) ?_ _
    go_wp2
    refine bodyPost_ret (v := .agg #[.int .i64 1, .int .i64 0, .int .i64 (Q.tm + a), .int .i64 b, .slice none 0 0, .slice none 0 0]) (by simp [results, Tryz.results41, go_sem, q0, q1, q2, q3, q4, q5]) rfl ⟨⟨1, 0, Q.tm + a, b, [], []⟩, _, _, rfl, hOp, _, hDn.mono (by omega)⟩
  · skip
    by_cases hk1 : k = 1
    · subst hk1
      go_upto_region 6 with fail
      obtain ⟨g0, g1, g2, g3, g4, g5⟩ := V2.out
      refine wp_region_held_drew (S := fun w' => w'.cell? ⟨rr, 0, none⟩ = some (.int .i64 Q.tm) ∧ w'.cell? ⟨rr, 1, none⟩ = some (.int .i64 Q.vt) ∧ w'.cell? ⟨rr, 2, none⟩ = some (.int .i64 Q.si) ∧ w'.cell? ⟨rr, 3, none⟩ = some (.int .i64 Q.st) ∧ w'.cell? ⟨rr, 4, none⟩ = some (.slice ay ly cy) ∧ w'.cell? ⟨rr, 5, none⟩ = some (.slice az Q.lg.length cz)) (by kernel_rfl) ⟨g0, g1, g2, g3, g4, g5⟩ (fun _ => ?_)
      clear g0 g1 g2 g3 g4 g5
      refine forgetH (fun wx => (∃ tt, DwI w s v bs t 3 tt wx ∧ tt ≤ 300000010) ∧ Var6 wx rr (.int .i64 Q.tm) (.int .i64 Q.vt) (.int .i64 Q.si) (.int .i64 Q.st) (.slice ay ly cy) (.slice az Q.lg.length cz)) ⟨⟨_, ⟨(D2.out.later (below_drewN w2 1)).dr.mono (by omega), (D2.out.later (below_drewN w2 1)).res, (D2.out.later (below_drewN w2 1)).rfz, D2.out.old⟩, by have := D2.out.dr.2.2; omega⟩, V2.out.later (below_drewN w2 1)⟩ ?_
      rintro Y0 ⟨⟨t4, d4, ht4⟩, v4⟩
      have D4 := hide d4
      have V4 := hide v4
      clear d4 v4 D2 V2
      have hHeld := V4.out
      refine wpAnyH_take (i := 0) (v := ?vt9x0) rfl (by kernel_rfl) (by kernel_rfl) (by kernel_rfl) (fun _ _ _ h => h) (Or.inl ⟨by rfl, ?ht9x0⟩) hHeld ?rt9x0
      case ht9x0 => intro w9 hSw; (try dsimp only at hSw); first | (go_simp; done) | (go_simp; with_reducible rfl)
      try simp only [Act.put, List.setIfInBounds_toArray, List.set_cons_zero, List.set_cons_succ, List.getElem_toArray, List.getElem_cons_zero]
      refine wpAnyH_take (i := 1) (v := ?vt10x1) rfl (by kernel_rfl) (by kernel_rfl) (by kernel_rfl) (fun _ _ _ h => h) (Or.inl ⟨by rfl, ?ht10x1⟩) hHeld ?rt10x1
      case ht10x1 => intro w9 hSw; (try dsimp only at hSw); first | (go_simp; done) | (go_simp; with_reducible rfl)
      try simp only [Act.put, List.setIfInBounds_toArray, List.set_cons_zero, List.set_cons_succ, List.getElem_toArray, List.getElem_cons_zero, List.getElem_cons_succ]
      refine wpAnyH_take (i := 2) (v := ?vt11x2) rfl (by kernel_rfl) (by kernel_rfl) (by kernel_rfl) (fun _ _ _ h => h) (Or.inl ⟨by rfl, ?ht11x2⟩) hHeld ?rt11x2
      case ht11x2 => intro w9 hSw; (try dsimp only at hSw); first | (go_simp; done) | (go_simp; with_reducible rfl)
      try simp only [Act.put, List.setIfInBounds_toArray, List.set_cons_zero, List.set_cons_succ, List.getElem_toArray, List.getElem_cons_zero, List.getElem_cons_succ]
      refine wpAnyH_take (i := 3) (v := ?vt12x3) rfl (by kernel_rfl) (by kernel_rfl) (by kernel_rfl) (fun _ _ _ h => h) (Or.inl ⟨by rfl, ?ht12x3⟩) hHeld ?rt12x3
      case ht12x3 => intro w9 hSw; (try dsimp only at hSw); first | (go_simp; done) | (go_simp; with_reducible rfl)
      try simp only [Act.put, List.setIfInBounds_toArray, List.set_cons_zero, List.set_cons_succ, List.getElem_toArray, List.getElem_cons_zero, List.getElem_cons_succ]
      refine wpAnyH_take (i := 4) (v := ?vt13x4) rfl (by kernel_rfl) (by kernel_rfl) (by kernel_rfl) (fun _ _ _ h => h) (Or.inl ⟨by rfl, ?ht13x4⟩) hHeld ?rt13x4
      case ht13x4 => intro w9 hSw; (try dsimp only at hSw); first | (go_simp; done) | (go_simp; with_reducible rfl)
      try simp only [Act.put, List.setIfInBounds_toArray, List.set_cons_zero, List.set_cons_succ, List.getElem_toArray, List.getElem_cons_zero, List.getElem_cons_succ]
      refine wpAnyH_take (i := 7) (v := ?vt14x7) rfl (by kernel_rfl) (by kernel_rfl) (by kernel_rfl) (fun _ _ _ h => h) (Or.inl ⟨by rfl, ?ht14x7⟩) hHeld ?rt14x7
      case ht14x7 => intro w9 hSw; (try dsimp only at hSw); first | (go_simp; done) | (go_simp; with_reducible rfl)
      try simp only [Act.put, List.setIfInBounds_toArray, List.set_cons_zero, List.set_cons_succ, List.getElem_toArray, List.getElem_cons_zero, List.getElem_cons_succ]
      refine wpAnyH_ready (rs := [5]) (by kernel_rfl) (by simp) (AllReadyH.cons rfl (fun K hK => ?_) AllReadyH.nil)
      go_simp
      go_at_call 40
      have hts := D4.out.dr.2.2
      refine (l1Next 4 D4.out.dr.1 (by omega) (by omega) (by omega)).mono ?_
      rintro e Y1 ⟨a, rfl, a0, a1, t5, hd⟩
      have a2 := a1 (by omega)
      have D5 := hide (D4.out.on hd)
      have V5 := hide (V4.out.wr hd.2.1 hne)
      clear hd hHeld D4 V4 a1 hts
      refine hK.out _ _ V5.out (fun hHeld => ?_)
      clear hK K
      try simp only [Act.put, List.setIfInBounds_toArray, List.set_cons_zero, List.set_cons_succ, List.getElem_toArray, List.getElem_cons_zero, List.getElem_cons_succ]
      refine wpAnyH_take (i := 6) (v := ?vt15x6) rfl (by kernel_rfl) (by kernel_rfl) (by kernel_rfl) (fun _ _ _ h => h) (Or.inl ⟨by rfl, ?ht15x6⟩) hHeld ?rt15x6
      case ht15x6 => intro w9 hSw; (try dsimp only at hSw); first | (go_simp; done) | (go_simp; with_reducible rfl)
      try simp only [Act.put, List.setIfInBounds_toArray, List.set_cons_zero, List.set_cons_succ, List.getElem_toArray, List.getElem_cons_zero, List.getElem_cons_succ]
      have ew : IntKind.i64.wrap (Q.si + a) = Q.si + a := by simp [IntKind.wrap, IntKind.bits, IntKind.signed]; omega
      (try rw [ew])
      clear ew
      refine wpAnyH_ready (rs := [8]) (by kernel_rfl) (by simp) (AllReadyH.cons rfl (fun K hK => ?_) AllReadyH.nil)
      go_simp
      go_at_call 47
      have hts := D5.out.dr.2.2
      have hYs : w.heap.size + 1 ≤ Y1.heap.size := by have := D5.out.res.lt; omega
      refine (l10DrawDataW D5.out.dr.1 (by omega)).mono ?_
      rintro e Y2 ⟨ad, n, cd, xs, rfl, hxn, hn, hown, t6, hd⟩
      have D6 := hide (D5.out.on hd)
      have V6 := hide (V5.out.wr hd.2.1 hne)
      have HO := hide hown
      clear hd hHeld D5 V5 hts hown
      refine hK.out _ _ V6.out (fun hHeld => ?_)
      clear hK K
      try simp only [Act.put, List.setIfInBounds_toArray, List.set_cons_zero, List.set_cons_succ, List.getElem_toArray, List.getElem_cons_zero, List.getElem_cons_succ]
      refine wpAnyH_take (i := 9) (v := ?vt16x9) rfl (by kernel_rfl) (by kernel_rfl) (by kernel_rfl) (fun _ _ _ h => h) (Or.inl ⟨by rfl, ?ht16x9⟩) hHeld ?rt16x9
      case ht16x9 => intro w9 hSw; (try dsimp only at hSw); first | (go_simp; done) | (go_simp; with_reducible rfl)
      try simp only [Act.put, List.setIfInBounds_toArray, List.set_cons_zero, List.set_cons_succ, List.getElem_toArray, List.getElem_cons_zero, List.getElem_cons_succ]
      have hOwn : ∀ r, (Value.slice ad n cd).ownBlock = some r → w.heap.size < r := fun r e => by have := (HO.out.lt r e).1; omega
      subst hxn
      have hq1s := q1
      have hq3s := q3
      have hq5s := q5
      clear q1 q3 q5
      obtain ⟨q0, q1, q2, q3, q4, q5⟩ := D6.out.res
      have f0 := D6.out.rfz 0
      have f1 := D6.out.rfz 1
      have f2 := D6.out.rfz 2
      have f3 := D6.out.rfz 3
      have f4 := D6.out.rfz 4
      have f5 := D6.out.rfz 5
      have hw6 : Wr (fun x => x = w.heap.size) Y2 ((((((Y2.setCell ⟨w.heap.size, 0, none⟩ (.int .i64 3)).setCell ⟨w.heap.size, 1, none⟩ (.int .i64 (Q.si + a))).setCell ⟨w.heap.size, 2, none⟩ (.int .i64 0)).setCell ⟨w.heap.size, 3, none⟩ (.int .i64 0)).setCell ⟨w.heap.size, 4, none⟩ (.slice ad xs.length cd)).setCell ⟨w.heap.size, 5, none⟩ (.slice none 0 0)) := (Wr.setCell (p := ⟨w.heap.size, 5, none⟩) (Wr.setCell (p := ⟨w.heap.size, 4, none⟩) (Wr.setCell (p := ⟨w.heap.size, 3, none⟩) (Wr.setCell (p := ⟨w.heap.size, 2, none⟩) (Wr.setCell (p := ⟨w.heap.size, 1, none⟩) (Wr.setCell (p := ⟨w.heap.size, 0, none⟩) (Wr.refl (fun x => x = w.heap.size) Y2) rfl (.int .i64 3)) rfl (.int .i64 (Q.si + a))) rfl (.int .i64 0)) rfl (.int .i64 0)) rfl (.slice ad xs.length cd)) rfl (.slice none 0 0))
      have hDn : Drawn _ s v bs t _ w ((((((Y2.setCell ⟨w.heap.size, 0, none⟩ (.int .i64 3)).setCell ⟨w.heap.size, 1, none⟩ (.int .i64 (Q.si + a))).setCell ⟨w.heap.size, 2, none⟩ (.int .i64 0)).setCell ⟨w.heap.size, 3, none⟩ (.int .i64 0)).setCell ⟨w.heap.size, 4, none⟩ (.slice ad xs.length cd)).setCell ⟨w.heap.size, 5, none⟩ (.slice none 0 0)) := Drawn.onBelow HS.out D6.out.dr (hw6.below (by have := D6.out.res.lt; omega) (fun b e => by omega))
      have hOp : OpD w ((((((Y2.setCell ⟨w.heap.size, 0, none⟩ (.int .i64 3)).setCell ⟨w.heap.size, 1, none⟩ (.int .i64 (Q.si + a))).setCell ⟨w.heap.size, 2, none⟩ (.int .i64 0)).setCell ⟨w.heap.size, 3, none⟩ (.int .i64 0)).setCell ⟨w.heap.size, 4, none⟩ (.slice ad xs.length cd)).setCell ⟨w.heap.size, 5, none⟩ (.slice none 0 0)) ⟨3, Q.si + a, 0, 0, xs, []⟩ (.slice ad xs.length cd) (.slice none 0 0) := ⟨ownsRow_wr (own_upB HO.out hYs) hw6 (fun e => by have := hOwn _ e; omega), OwJ_nil _ _, Or.inr ⟨rfl, rfl⟩, by show xs.length ≤ 20; omega, by simp, fun p hp => absurd hp (by simp)⟩
      refine wpAnyH_ready (rs := [10]) (by kernel_rfl) (by simp) (AllReadyH.cons rfl (fun K hK => ?_) AllReadyH.nil)
      go_simp
      refine hK.out _ _ (V6.out.wr hw6 (by show ¬ rr = w.heap.size; have := hrw; omega)) (fun hHeldx => ?_)
      clear hK K
      try simp only [Act.put, List.setIfInBounds_toArray, List.set_cons_zero, List.set_cons_succ, List.getElem_toArray, List.getElem_cons_zero, List.getElem_cons_succ]
      refine wpAnyH_done (by kernel_rfl) ?_ _
      go_wp2
      refine bodyPost_ret (v := .agg #[.int .i64 3, .int .i64 (Q.si + a), .int .i64 0, .int .i64 0, .slice ad xs.length cd, .slice none 0 0]) (by simp [results, Tryz.results41, go_sem, q0, q1, q2, q3, q4, q5]) rfl ⟨⟨3, Q.si + a, 0, 0, xs, []⟩, _, _, rfl, hOp, _, hDn.mono (by omega)⟩
    · skip
      by_cases hk2 : k = 2
      · subst hk2
        go_upto_region 8 with fail
        obtain ⟨g0, g1, g2, g3, g4, g5⟩ := V2.out
        refine wp_region_held_drew (S := fun w' => w'.cell? ⟨rr, 0, none⟩ = some (.int .i64 Q.tm) ∧ w'.cell? ⟨rr, 1, none⟩ = some (.int .i64 Q.vt) ∧ w'.cell? ⟨rr, 2, none⟩ = some (.int .i64 Q.si) ∧ w'.cell? ⟨rr, 3, none⟩ = some (.int .i64 Q.st) ∧ w'.cell? ⟨rr, 4, none⟩ = some (.slice ay ly cy) ∧ w'.cell? ⟨rr, 5, none⟩ = some (.slice az Q.lg.length cz)) (by kernel_rfl) ⟨g0, g1, g2, g3, g4, g5⟩ (fun _ => ?_)
        clear g0 g1 g2 g3 g4 g5
        refine forgetH (fun wx => (∃ tt, DwI w s v bs t 3 tt wx ∧ tt ≤ 300000010) ∧ Var6 wx rr (.int .i64 Q.tm) (.int .i64 Q.vt) (.int .i64 Q.si) (.int .i64 Q.st) (.slice ay ly cy) (.slice az Q.lg.length cz)) ⟨⟨_, ⟨(D2.out.later (below_drewN w2 1)).dr.mono (by omega), (D2.out.later (below_drewN w2 1)).res, (D2.out.later (below_drewN w2 1)).rfz, D2.out.old⟩, by have := D2.out.dr.2.2; omega⟩, V2.out.later (below_drewN w2 1)⟩ ?_
        rintro Y0 ⟨⟨t4, d4, ht4⟩, v4⟩
        have D4 := hide d4
        have V4 := hide v4
        clear d4 v4 D2 V2
        have hHeld := V4.out
        refine wpAnyH_take (i := 0) (v := ?vt17x0) rfl (by kernel_rfl) (by kernel_rfl) (by kernel_rfl) (fun _ _ _ h => h) (Or.inl ⟨by rfl, ?ht17x0⟩) hHeld ?rt17x0
        case ht17x0 => intro w9 hSw; (try dsimp only at hSw); first | (go_simp; done) | (go_simp; with_reducible rfl)
        try simp only [Act.put, List.setIfInBounds_toArray, List.set_cons_zero, List.set_cons_succ, List.getElem_toArray, List.getElem_cons_zero]
        refine wpAnyH_take (i := 1) (v := ?vt18x1) rfl (by kernel_rfl) (by kernel_rfl) (by kernel_rfl) (fun _ _ _ h => h) (Or.inl ⟨by rfl, ?ht18x1⟩) hHeld ?rt18x1
        case ht18x1 => intro w9 hSw; (try dsimp only at hSw); first | (go_simp; done) | (go_simp; with_reducible rfl)
        try simp only [Act.put, List.setIfInBounds_toArray, List.set_cons_zero, List.set_cons_succ, List.getElem_toArray, List.getElem_cons_zero, List.getElem_cons_succ]
        refine wpAnyH_take (i := 6) (v := ?vt19x6) rfl (by kernel_rfl) (by kernel_rfl) (by kernel_rfl) (fun _ _ _ h => h) (Or.inl ⟨by rfl, ?ht19x6⟩) hHeld ?rt19x6
        case ht19x6 => intro w9 hSw; (try dsimp only at hSw); first | (go_simp; done) | (go_simp; with_reducible rfl)
        try simp only [Act.put, List.setIfInBounds_toArray, List.set_cons_zero, List.set_cons_succ, List.getElem_toArray, List.getElem_cons_zero, List.getElem_cons_succ]
        refine wpAnyH_take (i := 7) (v := ?vt20x7) rfl (by kernel_rfl) (by kernel_rfl) (by kernel_rfl) (fun _ _ _ h => h) (Or.inl ⟨by rfl, ?ht20x7⟩) hHeld ?rt20x7
        case ht20x7 => intro w9 hSw; (try dsimp only at hSw); first | (go_simp; done) | (go_simp; with_reducible rfl)
        try simp only [Act.put, List.setIfInBounds_toArray, List.set_cons_zero, List.set_cons_succ, List.getElem_toArray, List.getElem_cons_zero, List.getElem_cons_succ]
        refine wpAnyH_take (i := 8) (v := ?vt21x8) rfl (by kernel_rfl) (by kernel_rfl) (by kernel_rfl) (fun _ _ _ h => h) (Or.inl ⟨by rfl, ?ht21x8⟩) hHeld ?rt21x8
        case ht21x8 => intro w9 hSw; (try dsimp only at hSw); first | (go_simp; done) | (go_simp; with_reducible rfl)
        try simp only [Act.put, List.setIfInBounds_toArray, List.set_cons_zero, List.set_cons_succ, List.getElem_toArray, List.getElem_cons_zero, List.getElem_cons_succ]
        refine wpAnyH_take (i := 9) (v := ?vt22x9) rfl (by kernel_rfl) (by kernel_rfl) (by kernel_rfl) (fun _ _ _ h => h) (Or.inl ⟨by rfl, ?ht22x9⟩) hHeld ?rt22x9
        case ht22x9 => intro w9 hSw; (try dsimp only at hSw); first | (go_simp; done) | (go_simp; with_reducible rfl)
        try simp only [Act.put, List.setIfInBounds_toArray, List.set_cons_zero, List.set_cons_succ, List.getElem_toArray, List.getElem_cons_zero, List.getElem_cons_succ]
        refine wpAnyH_take (i := 10) (v := ?vt23x10) rfl (by kernel_rfl) (by kernel_rfl) (by kernel_rfl) (fun _ _ _ h => h) (Or.inl ⟨by rfl, ?ht23x10⟩) hHeld ?rt23x10
        case ht23x10 => intro w9 hSw; (try dsimp only at hSw); first | (go_simp; done) | (go_simp; with_reducible rfl)
        try simp only [Act.put, List.setIfInBounds_toArray, List.set_cons_zero, List.set_cons_succ, List.getElem_toArray, List.getElem_cons_zero, List.getElem_cons_succ]
        refine wpAnyH_ready (rs := [2]) (by kernel_rfl) (by simp) (AllReadyH.cons rfl (fun K hK => ?_) AllReadyH.nil)
        go_simp
        go_at_call 40
        have hts := D4.out.dr.2.2
        refine (l1Next 5 D4.out.dr.1 (by omega) (by omega) (by omega)).mono ?_
        rintro e Y1 ⟨a, rfl, a0, a1, t5, hd⟩
        have a2 := a1 (by omega)
        have D5 := hide (D4.out.on hd)
        have V5 := hide (V4.out.wr hd.2.1 hne)
        clear hd hHeld D4 V4 a1 hts
        refine hK.out _ _ V5.out (fun hHeld => ?_)
        clear hK K
        try simp only [Act.put, List.setIfInBounds_toArray, List.set_cons_zero, List.set_cons_succ, List.getElem_toArray, List.getElem_cons_zero, List.getElem_cons_succ]
        refine wpAnyH_take (i := 3) (v := ?vt24x3) rfl (by kernel_rfl) (by kernel_rfl) (by kernel_rfl) (fun _ _ _ h => h) (Or.inl ⟨by rfl, ?ht24x3⟩) hHeld ?rt24x3
        case ht24x3 => intro w9 hSw; (try dsimp only at hSw); first | (go_simp; done) | (go_simp; with_reducible rfl)
        try simp only [Act.put, List.setIfInBounds_toArray, List.set_cons_zero, List.set_cons_succ, List.getElem_toArray, List.getElem_cons_zero, List.getElem_cons_succ]
        have ew : IntKind.i64.wrap (la + a) = la + a := by simp [IntKind.wrap, IntKind.bits, IntKind.signed]; omega
        (try rw [ew])
        clear ew
        refine wpAnyH_take (i := 4) (v := ?vt25x4) rfl (by kernel_rfl) (by kernel_rfl) (by kernel_rfl) (fun _ _ _ h => h) (Or.inl ⟨by rfl, ?ht25x4⟩) hHeld ?rt25x4
        case ht25x4 => intro w9 hSw; (try dsimp only at hSw); first | (go_simp; done) | (go_simp; with_reducible rfl)
        try simp only [Act.put, List.setIfInBounds_toArray, List.set_cons_zero, List.set_cons_succ, List.getElem_toArray, List.getElem_cons_zero, List.getElem_cons_succ]
        have ew : IntKind.i64.wrap (la + a - 2) = la + a - 2 := by simp [IntKind.wrap, IntKind.bits, IntKind.signed]; omega
        (try rw [ew])
        clear ew
        refine wpAnyH_ready (rs := [5]) (by kernel_rfl) (by simp) (AllReadyH.cons rfl (fun K hK => ?_) AllReadyH.nil)
        go_simp
        go_at_call 49
        refine (l1Max_any (0) (la + a - 2) _).mono ?_
        rintro e w9 ⟨rfl, hw9⟩
        have hw9 := hw9.symm
        subst hw9
        obtain ⟨mx, hmx⟩ : ∃ x, (if la + a - 2 < 0 then 0 else la + a - 2) = x := ⟨_, rfl⟩
        have hmxb : (0) ≤ mx ∧ (la + a - 2) ≤ mx ∧ (mx = 0 ∨ mx = la + a - 2) := by
          rw [← hmx]
          by_cases e : la + a - 2 < 0
          · rw [if_pos e]; omega
          · rw [if_neg e]; omega
        rw [hmx]
        clear hmx
        refine hK.out _ _ hHeld (fun hHeld => ?_)
        clear hK K
        try simp only [Act.put, List.setIfInBounds_toArray, List.set_cons_zero, List.set_cons_succ, List.getElem_toArray, List.getElem_cons_zero, List.getElem_cons_succ]
        refine wpAnyH_ready (rs := [11]) (by kernel_rfl) (by simp) (AllReadyH.cons rfl (fun K hK => ?_) AllReadyH.nil)
        go_simp
        go_at_call 47
        have hts := D5.out.dr.2.2
        have hYs : w.heap.size + 1 ≤ Y1.heap.size := by have := D5.out.res.lt; omega
        refine (l10DrawDataW D5.out.dr.1 (by omega)).mono ?_
        rintro e Y2 ⟨ad, n, cd, xs, rfl, hxn, hn, hown, t6, hd⟩
        have D6 := hide (D5.out.on hd)
        have V6 := hide (V5.out.wr hd.2.1 hne)
        have HO := hide hown
        clear hd hHeld D5 V5 hts hown
        refine hK.out _ _ V6.out (fun hHeld => ?_)
        clear hK K
        try simp only [Act.put, List.setIfInBounds_toArray, List.set_cons_zero, List.set_cons_succ, List.getElem_toArray, List.getElem_cons_zero, List.getElem_cons_succ]
        refine wpAnyH_take (i := 12) (v := ?vt26x12) rfl (by kernel_rfl) (by kernel_rfl) (by kernel_rfl) (fun _ _ _ h => h) (Or.inl ⟨by rfl, ?ht26x12⟩) hHeld ?rt26x12
        case ht26x12 => intro w9 hSw; (try dsimp only at hSw); first | (go_simp; done) | (go_simp; with_reducible rfl)
        try simp only [Act.put, List.setIfInBounds_toArray, List.set_cons_zero, List.set_cons_succ, List.getElem_toArray, List.getElem_cons_zero, List.getElem_cons_succ]
        have hOwn : ∀ r, (Value.slice ad n cd).ownBlock = some r → w.heap.size < r := fun r e => by have := (HO.out.lt r e).1; omega
        subst hxn
        have hq1s := q1
        have hq3s := q3
        have hq5s := q5
        clear q1 q3 q5
        obtain ⟨q0, q1, q2, q3, q4, q5⟩ := D6.out.res
        have f0 := D6.out.rfz 0
        have f1 := D6.out.rfz 1
        have f2 := D6.out.rfz 2
        have f3 := D6.out.rfz 3
        have f4 := D6.out.rfz 4
        have f5 := D6.out.rfz 5
        have hw6 : Wr (fun x => x = w.heap.size) Y2 ((((((Y2.setCell ⟨w.heap.size, 0, none⟩ (.int .i64 4)).setCell ⟨w.heap.size, 1, none⟩ (.int .i64 mx)).setCell ⟨w.heap.size, 2, none⟩ (.int .i64 Q.tm)).setCell ⟨w.heap.size, 3, none⟩ (.int .i64 0)).setCell ⟨w.heap.size, 4, none⟩ (.slice ad xs.length cd)).setCell ⟨w.heap.size, 5, none⟩ (.slice none 0 0)) := (Wr.setCell (p := ⟨w.heap.size, 5, none⟩) (Wr.setCell (p := ⟨w.heap.size, 4, none⟩) (Wr.setCell (p := ⟨w.heap.size, 3, none⟩) (Wr.setCell (p := ⟨w.heap.size, 2, none⟩) (Wr.setCell (p := ⟨w.heap.size, 1, none⟩) (Wr.setCell (p := ⟨w.heap.size, 0, none⟩) (Wr.refl (fun x => x = w.heap.size) Y2) rfl (.int .i64 4)) rfl (.int .i64 mx)) rfl (.int .i64 Q.tm)) rfl (.int .i64 0)) rfl (.slice ad xs.length cd)) rfl (.slice none 0 0))
        have hDn : Drawn _ s v bs t _ w ((((((Y2.setCell ⟨w.heap.size, 0, none⟩ (.int .i64 4)).setCell ⟨w.heap.size, 1, none⟩ (.int .i64 mx)).setCell ⟨w.heap.size, 2, none⟩ (.int .i64 Q.tm)).setCell ⟨w.heap.size, 3, none⟩ (.int .i64 0)).setCell ⟨w.heap.size, 4, none⟩ (.slice ad xs.length cd)).setCell ⟨w.heap.size, 5, none⟩ (.slice none 0 0)) := Drawn.onBelow HS.out D6.out.dr (hw6.below (by have := D6.out.res.lt; omega) (fun b e => by omega))
        have hOp : OpD w ((((((Y2.setCell ⟨w.heap.size, 0, none⟩ (.int .i64 4)).setCell ⟨w.heap.size, 1, none⟩ (.int .i64 mx)).setCell ⟨w.heap.size, 2, none⟩ (.int .i64 Q.tm)).setCell ⟨w.heap.size, 3, none⟩ (.int .i64 0)).setCell ⟨w.heap.size, 4, none⟩ (.slice ad xs.length cd)).setCell ⟨w.heap.size, 5, none⟩ (.slice none 0 0)) ⟨4, mx, Q.tm, 0, xs, []⟩ (.slice ad xs.length cd) (.slice none 0 0) := ⟨ownsRow_wr (own_upB HO.out hYs) hw6 (fun e => by have := hOwn _ e; omega), OwJ_nil _ _, Or.inr ⟨rfl, rfl⟩, by show xs.length ≤ 20; omega, by simp, fun p hp => absurd hp (by simp)⟩
        refine wpAnyH_ready (rs := [13]) (by kernel_rfl) (by simp) (AllReadyH.cons rfl (fun K hK => ?_) AllReadyH.nil)
        go_simp
        refine hK.out _ _ (V6.out.wr hw6 (by show ¬ rr = w.heap.size; have := hrw; omega)) (fun hHeldx => ?_)
        clear hK K
        try simp only [Act.put, List.setIfInBounds_toArray, List.set_cons_zero, List.set_cons_succ, List.getElem_toArray, List.getElem_cons_zero, List.getElem_cons_succ]
        refine wpAnyH_done (by kernel_rfl) ?_ _
        go_wp2
        refine bodyPost_ret (v := .agg #[.int .i64 4, .int .i64 mx, .int .i64 Q.tm, .int .i64 0, .slice ad xs.length cd, .slice none 0 0]) (by simp [results, Tryz.results41, go_sem, q0, q1, q2, q3, q4, q5]) rfl ⟨⟨4, mx, Q.tm, 0, xs, []⟩, _, _, rfl, hOp, _, hDn.mono (by omega)⟩
      · skip
        by_cases hk3 : k = 3
        · subst hk3
          go_wp2_with fail
          refine (l1Next 4 D2.out.dr.1 (by omega) (by omega) (by omega)).mono ?_
          rintro e w3 ⟨a, rfl, a0, a1, t5, hd⟩
          have a2 := a1 (by omega)
          have D3 := hide (D2.out.on hd)
          clear hd D2 V2 a1
          have hwa : IntKind.i64.wrap (la - a) = la - a := by simp [IntKind.wrap, IntKind.bits, IntKind.signed]; omega
          go_wp2_with fail
          refine (l1Max_any (0) (la - a) _).mono ?_
          rintro e w9 ⟨rfl, hw9⟩
          have hw9 := hw9.symm
          subst hw9
          obtain ⟨mx, hmx⟩ : ∃ x, (if la - a < 0 then 0 else la - a) = x := ⟨_, rfl⟩
          have hmxb : (0) ≤ mx ∧ (la - a) ≤ mx ∧ (mx = 0 ∨ mx = la - a) := by
            rw [← hmx]
            by_cases e : la - a < 0
            · rw [if_pos e]; omega
            · rw [if_neg e]; omega
          rw [hmx]
          clear hmx
          have hq1s := q1
          have hq3s := q3
          have hq5s := q5
          clear q1 q3 q5
          obtain ⟨q0, q1, q2, q3, q4, q5⟩ := D3.out.res
          have f0 := D3.out.rfz 0
          have f1 := D3.out.rfz 1
          have f2 := D3.out.rfz 2
          have f3 := D3.out.rfz 3
          have f4 := D3.out.rfz 4
          have f5 := D3.out.rfz 5
          have hw6 : Wr (fun x => x = w.heap.size) w3 ((((((w3.setCell ⟨w.heap.size, 0, none⟩ (.int .i64 5)).setCell ⟨w.heap.size, 1, none⟩ (.int .i64 mx)).setCell ⟨w.heap.size, 2, none⟩ (.int .i64 0)).setCell ⟨w.heap.size, 3, none⟩ (.int .i64 0)).setCell ⟨w.heap.size, 4, none⟩ (.slice none 0 0)).setCell ⟨w.heap.size, 5, none⟩ (.slice none 0 0)) := (Wr.setCell (p := ⟨w.heap.size, 5, none⟩) (Wr.setCell (p := ⟨w.heap.size, 4, none⟩) (Wr.setCell (p := ⟨w.heap.size, 3, none⟩) (Wr.setCell (p := ⟨w.heap.size, 2, none⟩) (Wr.setCell (p := ⟨w.heap.size, 1, none⟩) (Wr.setCell (p := ⟨w.heap.size, 0, none⟩) (Wr.refl (fun x => x = w.heap.size) w3) rfl (.int .i64 5)) rfl (.int .i64 mx)) rfl (.int .i64 0)) rfl (.int .i64 0)) rfl (.slice none 0 0)) rfl (.slice none 0 0))
          have hDn : Drawn _ s v bs t _ w ((((((w3.setCell ⟨w.heap.size, 0, none⟩ (.int .i64 5)).setCell ⟨w.heap.size, 1, none⟩ (.int .i64 mx)).setCell ⟨w.heap.size, 2, none⟩ (.int .i64 0)).setCell ⟨w.heap.size, 3, none⟩ (.int .i64 0)).setCell ⟨w.heap.size, 4, none⟩ (.slice none 0 0)).setCell ⟨w.heap.size, 5, none⟩ (.slice none 0 0)) := Drawn.onBelow HS.out D3.out.dr (hw6.below (by have := D3.out.res.lt; omega) (fun b e => by omega))
          have hOp : OpD w ((((((w3.setCell ⟨w.heap.size, 0, none⟩ (.int .i64 5)).setCell ⟨w.heap.size, 1, none⟩ (.int .i64 mx)).setCell ⟨w.heap.size, 2, none⟩ (.int .i64 0)).setCell ⟨w.heap.size, 3, none⟩ (.int .i64 0)).setCell ⟨w.heap.size, 4, none⟩ (.slice none 0 0)).setCell ⟨w.heap.size, 5, none⟩ (.slice none 0 0)) ⟨5, mx, 0, 0, [], []⟩ (.slice none 0 0) (.slice none 0 0) := ⟨World.ownsRow_nil _ _ _ _, OwJ_nil _ _, Or.inl ⟨rfl, rfl⟩, by simp, by simp, fun p hp => absurd hp (by simp)⟩
          go_wp2
          refine bodyPost_ret (v := .agg #[.int .i64 5, .int .i64 mx, .int .i64 0, .int .i64 0, .slice none 0 0, .slice none 0 0]) (by simp [results, Tryz.results41, go_sem, q0, q1, q2, q3, q4, q5]) rfl ⟨⟨5, mx, 0, 0, [], []⟩, _, _, rfl, hOp, _, hDn.mono (by omega)⟩
        · skip
          have hkb0 : (k == 0) = false := by simpa using hk0
          have hkb1 : (k == 1) = false := by simpa using hk1
          have hkb2 : (k == 2) = false := by simpa using hk2
          have hkb3 : (k == 3) = false := by simpa using hk3
          go_upto_region 11 with fail
          obtain ⟨g0, g1, g2, g3, g4, g5⟩ := V2.out
          refine wp_region_held_drew (S := fun w' => w'.cell? ⟨rr, 0, none⟩ = some (.int .i64 Q.tm) ∧ w'.cell? ⟨rr, 1, none⟩ = some (.int .i64 Q.vt) ∧ w'.cell? ⟨rr, 2, none⟩ = some (.int .i64 Q.si) ∧ w'.cell? ⟨rr, 3, none⟩ = some (.int .i64 Q.st) ∧ w'.cell? ⟨rr, 4, none⟩ = some (.slice ay ly cy) ∧ w'.cell? ⟨rr, 5, none⟩ = some (.slice az Q.lg.length cz)) (by kernel_rfl) ⟨g0, g1, g2, g3, g4, g5⟩ (fun _ => ?_)
          clear g0 g1 g2 g3 g4 g5
          refine forgetH (fun wx => (∃ tt, DwI w s v bs t 3 tt wx ∧ tt ≤ 300000010) ∧ Var6 wx rr (.int .i64 Q.tm) (.int .i64 Q.vt) (.int .i64 Q.si) (.int .i64 Q.st) (.slice ay ly cy) (.slice az Q.lg.length cz)) ⟨⟨_, ⟨(D2.out.later (below_drewN w2 1)).dr.mono (by omega), (D2.out.later (below_drewN w2 1)).res, (D2.out.later (below_drewN w2 1)).rfz, D2.out.old⟩, by have := D2.out.dr.2.2; omega⟩, V2.out.later (below_drewN w2 1)⟩ ?_
          rintro Y0 ⟨⟨t4, d4, ht4⟩, v4⟩
          have D4 := hide d4
          have V4 := hide v4
          clear d4 v4 D2 V2
          have hHeld := V4.out
          refine wpAnyH_take (i := 0) (v := ?vt27x0) rfl (by kernel_rfl) (by kernel_rfl) (by kernel_rfl) (fun _ _ _ h => h) (Or.inl ⟨by rfl, ?ht27x0⟩) hHeld ?rt27x0
          case ht27x0 => intro w9 hSw; (try dsimp only at hSw); first | (go_simp; done) | (go_simp; with_reducible rfl)
          try simp only [Act.put, List.setIfInBounds_toArray, List.set_cons_zero, List.set_cons_succ, List.getElem_toArray, List.getElem_cons_zero]
          refine wpAnyH_take (i := 1) (v := ?vt28x1) rfl (by kernel_rfl) (by kernel_rfl) (by kernel_rfl) (fun _ _ _ h => h) (Or.inl ⟨by rfl, ?ht28x1⟩) hHeld ?rt28x1
          case ht28x1 => intro w9 hSw; (try dsimp only at hSw); first | (go_simp; done) | (go_simp; with_reducible rfl)
          try simp only [Act.put, List.setIfInBounds_toArray, List.set_cons_zero, List.set_cons_succ, List.getElem_toArray, List.getElem_cons_zero, List.getElem_cons_succ]
          refine wpAnyH_take (i := 2) (v := ?vt29x2) rfl (by kernel_rfl) (by kernel_rfl) (by kernel_rfl) (fun _ _ _ h => h) (Or.inl ⟨by rfl, ?ht29x2⟩) hHeld ?rt29x2
          case ht29x2 => intro w9 hSw; (try dsimp only at hSw); first | (go_simp; done) | (go_simp; with_reducible rfl)
          try simp only [Act.put, List.setIfInBounds_toArray, List.set_cons_zero, List.set_cons_succ, List.getElem_toArray, List.getElem_cons_zero, List.getElem_cons_succ]
          refine wpAnyH_take (i := 3) (v := ?vt30x3) rfl (by kernel_rfl) (by kernel_rfl) (by kernel_rfl) (fun _ _ _ h => h) (Or.inl ⟨by rfl, ?ht30x3⟩) hHeld ?rt30x3
          case ht30x3 => intro w9 hSw; (try dsimp only at hSw); first | (go_simp; done) | (go_simp; with_reducible rfl)
          try simp only [Act.put, List.setIfInBounds_toArray, List.set_cons_zero, List.set_cons_succ, List.getElem_toArray, List.getElem_cons_zero, List.getElem_cons_succ]
          refine wpAnyH_take (i := 4) (v := ?vt31x4) rfl (by kernel_rfl) (by kernel_rfl) (by kernel_rfl) (fun _ _ _ h => h) (Or.inl ⟨by rfl, ?ht31x4⟩) hHeld ?rt31x4
          case ht31x4 => intro w9 hSw; (try dsimp only at hSw); first | (go_simp; done) | (go_simp; with_reducible rfl)
          try simp only [Act.put, List.setIfInBounds_toArray, List.set_cons_zero, List.set_cons_succ, List.getElem_toArray, List.getElem_cons_zero, List.getElem_cons_succ]
          refine wpAnyH_take (i := 5) (v := ?vt32x5) rfl (by kernel_rfl) (by kernel_rfl) (by kernel_rfl) (fun _ _ _ h => h) (Or.inl ⟨by rfl, ?ht32x5⟩) hHeld ?rt32x5
          case ht32x5 => intro w9 hSw; (try dsimp only at hSw); first | (go_simp; done) | (go_simp; with_reducible rfl)
          try simp only [Act.put, List.setIfInBounds_toArray, List.set_cons_zero, List.set_cons_succ, List.getElem_toArray, List.getElem_cons_zero, List.getElem_cons_succ]
          refine wpAnyH_ready (rs := [6]) (by kernel_rfl) (by simp) (AllReadyH.cons rfl (fun K hK => ?_) AllReadyH.nil)
          go_simp
          go_at_call 40
          have hts := D4.out.dr.2.2
          refine (l1Next 3 D4.out.dr.1 (by omega) (by omega) (by omega)).mono ?_
          rintro e Y1 ⟨a, rfl, a0, a1, t5, hd⟩
          have a2 := a1 (by omega)
          have D5 := hide (D4.out.on hd)
          have V5 := hide (V4.out.wr hd.2.1 hne)
          clear hd hHeld D4 V4 a1 hts
          refine hK.out _ _ V5.out (fun hHeld => ?_)
          clear hK K
          try simp only [Act.put, List.setIfInBounds_toArray, List.set_cons_zero, List.set_cons_succ, List.getElem_toArray, List.getElem_cons_zero, List.getElem_cons_succ]
          refine wpAnyH_take (i := 7) (v := ?vt33x7) rfl (by kernel_rfl) (by kernel_rfl) (by kernel_rfl) (fun _ _ _ h => h) (Or.inl ⟨by rfl, ?ht33x7⟩) hHeld ?rt33x7
          case ht33x7 => intro w9 hSw; (try dsimp only at hSw); first | (go_simp; done) | (go_simp; with_reducible rfl)
          try simp only [Act.put, List.setIfInBounds_toArray, List.set_cons_zero, List.set_cons_succ, List.getElem_toArray, List.getElem_cons_zero, List.getElem_cons_succ]
          have ew : IntKind.i64.wrap (la - a) = la - a := by simp [IntKind.wrap, IntKind.bits, IntKind.signed]; omega
          (try rw [ew])
          clear ew
          refine wpAnyH_ready (rs := [8]) (by kernel_rfl) (by simp) (AllReadyH.cons rfl (fun K hK => ?_) AllReadyH.nil)
          go_simp
          go_at_call 49
          refine (l1Max_any (Q.si) (la - a) _).mono ?_
          rintro e w9 ⟨rfl, hw9⟩
          have hw9 := hw9.symm
          subst hw9
          obtain ⟨at_, hat_⟩ : ∃ x, (if la - a < Q.si then Q.si else la - a) = x := ⟨_, rfl⟩
          have hat_b : (Q.si) ≤ at_ ∧ (la - a) ≤ at_ ∧ (at_ = Q.si ∨ at_ = la - a) := by
            rw [← hat_]
            by_cases e : la - a < Q.si
            · rw [if_pos e]; omega
            · rw [if_neg e]; omega
          rw [hat_]
          clear hat_
          refine hK.out _ _ hHeld (fun hHeld => ?_)
          clear hK K
          try simp only [Act.put, List.setIfInBounds_toArray, List.set_cons_zero, List.set_cons_succ, List.getElem_toArray, List.getElem_cons_zero, List.getElem_cons_succ]
          refine wpAnyH_take (i := 9) (v := ?vt34x9) rfl (by kernel_rfl) (by kernel_rfl) (by kernel_rfl) (fun _ _ _ h => h) (Or.inl ⟨by rfl, ?ht34x9⟩) hHeld ?rt34x9
          case ht34x9 => intro w9 hSw; (try dsimp only at hSw); first | (go_simp; done) | (go_simp; with_reducible rfl)
          try simp only [Act.put, List.setIfInBounds_toArray, List.set_cons_zero, List.set_cons_succ, List.getElem_toArray, List.getElem_cons_zero, List.getElem_cons_succ]
          refine wpAnyH_done (by kernel_rfl) ?_ _
          clear hHeld
          have KT : Hid (Calls Tryz.prog 50 #[.pointer (some ⟨rr, 0, none⟩), .int .i64 at_] Y1 fun e w'' => e = .returned (.tuple #[.int .i64 (tmV Q at_), .int .i64 (tmC Q at_)]) ∧ ∃ q, w'' = Y1.drewN q) := l10TermI Q at_ (rfF_iff.1 HQ.out) V5.out ⟨_, _, _, rfl⟩ (HZ.out.wr D5.out.dr.2.1 (fun b hb e => hb e))
          have hT0 := tmV_nn (i := at_) HQ.out
          have hT1 := tmV_bd (i := at_) HQ.out
          generalize tmV Q at_ = T at KT hT0 hT1
          go_wp2_with fail
          refine (KT.out).mono ?_
          rintro e w6 ⟨rfl, nq, rfl⟩
          have hb6 := below_drewN Y1 nq
          have D6 := hide (D5.out.later hb6)
          have V6 := hide (V5.out.later hb6)
          clear KT D5 V5 hb6
          obtain ⟨W6, hW6⟩ : ∃ x, Y1.drewN nq = x := ⟨_, rfl⟩
          rw [hW6] at D6 V6
          (try rw [hW6])
          clear hW6
          obtain ⟨g0, g1, g2, g3, g4, g5⟩ := V6.out
          have hwa : IntKind.i64.wrap (at_ + 1) = at_ + 1 := by simp [IntKind.wrap, IntKind.bits, IntKind.signed]; omega
          have hwt : IntKind.i64.wrap (Q.tm - 1) = Q.tm - 1 := by simp [IntKind.wrap, IntKind.bits, IntKind.signed]; omega
          go_wp2_with fail
          refine (l1Max_any (T) (Q.tm - 1) _).mono ?_
          rintro e w9 ⟨rfl, hw9⟩
          have hw9 := hw9.symm
          subst hw9
          obtain ⟨mx, hmx⟩ : ∃ x, (if Q.tm - 1 < T then T else Q.tm - 1) = x := ⟨_, rfl⟩
          have hmxb : (T) ≤ mx ∧ (Q.tm - 1) ≤ mx ∧ (mx = T ∨ mx = Q.tm - 1) := by
            rw [← hmx]
            by_cases e : Q.tm - 1 < T
            · rw [if_pos e]; omega
            · rw [if_neg e]; omega
          rw [hmx]
          clear hmx
          go_wp2_with fail
          refine (l1Max_any (1) (mx) _).mono ?_
          rintro e w9 ⟨rfl, hw9⟩
          have hw9 := hw9.symm
          subst hw9
          obtain ⟨my, hmy⟩ : ∃ x, (if mx < 1 then 1 else mx) = x := ⟨_, rfl⟩
          have hmyb : (1) ≤ my ∧ (mx) ≤ my ∧ (my = 1 ∨ my = mx) := by
            rw [← hmy]
            by_cases e : mx < 1
            · rw [if_pos e]; omega
            · rw [if_neg e]; omega
          rw [hmy]
          clear hmy
          clear g0 g1 g2 g3 g4 g5
          go_wp2_with fail
          have hts := D6.out.dr.2.2
          refine (l1Next 3 D6.out.dr.1 (by omega) (by omega) (by omega)).mono ?_
          rintro e w7 ⟨b, rfl, b0, b1, t7, hd⟩
          have b2 := b1 (by omega)
          have D7 := hide (D6.out.on hd)
          clear hd D6 V6 b1 hts
          obtain ⟨n, hn⟩ : ∃ n : Nat, 1 + b = (n : Int) := ⟨(1 + b).toNat, (Int.toNat_of_nonneg (by omega)).symm⟩
          have hn3 : n ≤ 3 := by omega
          have hwb : IntKind.i64.wrap (1 + b) = (n : Int) := by rw [hn]; simp [IntKind.wrap, IntKind.bits, IntKind.signed]; omega
          clear hn
          go_wp2_with fail
          have hts := D7.out.dr.2.2
          refine (l9Draw D7.out.dr.1 (by omega) (at_ + 1) my n (by omega) (by omega) (by omega) (by omega) (by omega)).mono ?_
          rintro e w8 ⟨vl, gs, rfl, hgl, hgs, hrow, t8, hd⟩
          have D8 := hide (D7.out.on hd)
          have hY7 : w.heap.size < w7.heap.size := D7.out.res.lt
          have hgs8 : ∀ i, i < gs.length → (gs.getD i oj0).2.2.length ≤ 1048576 := fun i hi => by have := hgs _ (getD_memR hi); omega
          have HLs := hide ((hrow.ow hgl (by omega) hgs8).mono (T := fun b => w.heap.size < b ∧ b < w8.heap.size) (fun b hb => ⟨by have := hb.1; omega, hb.2⟩))
          obtain ⟨aL, cL, eL⟩ := hrow.shape
          subst eL
          have hgl2 := hide hgs
          clear hd D7 hrow hts hwa hwt hwb
          subst hgl
          have hq1s := q1
          have hq3s := q3
          have hq5s := q5
          clear q1 q3 q5
          obtain ⟨q0, q1, q2, q3, q4, q5⟩ := D8.out.res
          have f0 := D8.out.rfz 0
          have f1 := D8.out.rfz 1
          have f2 := D8.out.rfz 2
          have f3 := D8.out.rfz 3
          have f4 := D8.out.rfz 4
          have f5 := D8.out.rfz 5
          have hw6 : Wr (fun x => x = w.heap.size) w8 ((((((w8.setCell ⟨w.heap.size, 0, none⟩ (.int .i64 2)).setCell ⟨w.heap.size, 1, none⟩ (.int .i64 at_)).setCell ⟨w.heap.size, 2, none⟩ (.int .i64 T)).setCell ⟨w.heap.size, 3, none⟩ (.int .i64 0)).setCell ⟨w.heap.size, 4, none⟩ (.slice none 0 0)).setCell ⟨w.heap.size, 5, none⟩ (.slice aL gs.length cL)) := (Wr.setCell (p := ⟨w.heap.size, 5, none⟩) (Wr.setCell (p := ⟨w.heap.size, 4, none⟩) (Wr.setCell (p := ⟨w.heap.size, 3, none⟩) (Wr.setCell (p := ⟨w.heap.size, 2, none⟩) (Wr.setCell (p := ⟨w.heap.size, 1, none⟩) (Wr.setCell (p := ⟨w.heap.size, 0, none⟩) (Wr.refl (fun x => x = w.heap.size) w8) rfl (.int .i64 2)) rfl (.int .i64 at_)) rfl (.int .i64 T)) rfl (.int .i64 0)) rfl (.slice none 0 0)) rfl (.slice aL gs.length cL))
          have hDn : Drawn _ s v bs t _ w ((((((w8.setCell ⟨w.heap.size, 0, none⟩ (.int .i64 2)).setCell ⟨w.heap.size, 1, none⟩ (.int .i64 at_)).setCell ⟨w.heap.size, 2, none⟩ (.int .i64 T)).setCell ⟨w.heap.size, 3, none⟩ (.int .i64 0)).setCell ⟨w.heap.size, 4, none⟩ (.slice none 0 0)).setCell ⟨w.heap.size, 5, none⟩ (.slice aL gs.length cL)) := Drawn.onBelow HS.out D8.out.dr (hw6.below (by have := D8.out.res.lt; omega) (fun b e => by omega))
          have hOp : OpD w ((((((w8.setCell ⟨w.heap.size, 0, none⟩ (.int .i64 2)).setCell ⟨w.heap.size, 1, none⟩ (.int .i64 at_)).setCell ⟨w.heap.size, 2, none⟩ (.int .i64 T)).setCell ⟨w.heap.size, 3, none⟩ (.int .i64 0)).setCell ⟨w.heap.size, 4, none⟩ (.slice none 0 0)).setCell ⟨w.heap.size, 5, none⟩ (.slice aL gs.length cL)) ⟨2, at_, T, 0, [], gs⟩ (.slice none 0 0) (.slice aL gs.length cL) := ⟨World.ownsRow_nil _ _ _ _, (HLs.out.wr hw6 (fun b hb e => by have e : b = w.heap.size := e; have := hb.1; omega)).mono (fun b hb => ⟨hb.1, Nat.lt_of_lt_of_le hb.2 hw6.size⟩), Or.inl ⟨rfl, rfl⟩, by simp, hn3, hgl2.out⟩
          go_wp2
          refine bodyPost_ret (v := .agg #[.int .i64 2, .int .i64 at_, .int .i64 T, .int .i64 0, .slice none 0 0, .slice aL gs.length cL]) (by simp [results, Tryz.results41, go_sem, q0, q1, q2, q3, q4, q5]) rfl ⟨⟨2, at_, T, 0, [], gs⟩, _, _, rfl, hOp, _, hDn.mono (by omega)⟩
end Go.Proofs.YtlliggfggadidaaGreatDoor
