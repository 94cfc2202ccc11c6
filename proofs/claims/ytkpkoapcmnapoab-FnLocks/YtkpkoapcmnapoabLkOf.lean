/- Chapter 6: '(lockSet).has', '(heldLocks).ownerOf', 'OwnerOf' of both sides, walked. -/
import Derived.Test.YtkpkoapcmnapoabLk5
namespace Go.Proofs.Ytkpkoapcmnapoab
open Go.RowKit Go.Maps

set_option maxRecDepth 4000 in
/-- '(lockSet).has' of a map of locks. -/
theorem hasL {w : World} {b n : Nat} {t a : Int} {p : Int → Prop} [DecidablePred p] (H : LocksAt w b n t p) (ha : wfI a) :
    Calls Try.prog 32 #[.map (some b), .int .i64 a] w fun e w' => e = .returned (.bool (decide (p a))) ∧ Below w.heap.size w w' := by
  obtain ⟨D, h1, h2, h3⟩ := H
  obtain ⟨v, ps, hrun, hv⟩ := h1.look_ok lawL Try.underlying52 (zeroOwner w) (zd := .held (.agg #[.int .i64 0, .int .i64 0])) (zp := []) rfl (keyL (x := a) ha)
  have hsh : ∃ x y, v = .agg #[.int .i64 x, .int .i64 y] := by
    by_cases hp : p a
    · rw [h3 a hp] at hv
      exact ⟨_, _, asV_inj hv⟩
    · have hno : Maps.has D (kS a) = false := by
        cases hh : Maps.has D (kS a) with
        | false => rfl
        | true => exact absurd ((h2 a ha).1 hh) hp
      rw [atKey_of_not_has hno] at hv
      exact ⟨_, _, asV_inj hv⟩
  obtain ⟨x, y, rfl⟩ := hsh
  have hb : Maps.has D (kS a) = decide (p a) := by
    by_cases hp : p a
    · rw [(h2 a ha).2 hp]; simp [hp]
    · cases hh : Maps.has D (kS a) with
      | false => simp [hp]
      | true => exact absurd ((h2 a ha).1 hh) hp
  rw [hb] at hrun
  generalize decide (p a) = r at hrun ⊢
  clear h1 h2 h3 hv hb
  go_enter Try.func32, Try.ntmps32
  go_wp2
  go_ret
  exact ⟨rfl, below_alloc _ _⟩
set_option maxRecDepth 4000 in
/-- .. of none. -/
theorem hasL_nil {w : World} {a : Int} (ha : wfI a) :
    Calls Try.prog 32 #[.map none, .int .i64 a] w fun e w' => e = .returned (.bool false) ∧ Below w.heap.size w w' := by
  have hrun := Maps.look_nil (w := w) true lawL Try.underlying52 (zeroOwner w) (keyL (x := a) ha)
  go_enter Try.func32, Try.ntmps32
  go_wp2
  go_ret
  exact ⟨rfl, below_alloc _ _⟩

theorem HeldD.keptR {w w' : World} {base h n : Nat} {f : Int → Int} {K : Int → Prop} {D : DataW Value} {B : Int → Nat} {row : Option Nat} (H : HeldD w base h n f K D B) (hg : w.grownBy w' row) (hr : ∀ r, row = some r → r ≠ h ∧ ∀ t, K t → B t ≠ r) : HeldD w' base h n f K D B :=
  ⟨H.own.kept hg (fun e => (hr h e.symm).1 rfl), H.has, H.at_, fun t ht => ⟨(H.locks t ht).1, (H.locks t ht).2.1, (H.locks t ht).2.2.kept hg (fun e => (hr _ e.symm).2 t ht rfl)⟩, H.apart, H.txn, H.low, H.some_⟩
theorem has_of_at {D : DataW Value} {kl : Lit} {v : Value} (h : ∀ zd, D.atKey kl zd = .held v) : Maps.has D kl = true := Maps.has_true_of_atKey h

set_option maxHeartbeats 2000000 in
set_option maxRecDepth 4000 in
/-- '(heldLocks).ownerOf': who has the lock; 0: nobody. -/
theorem ownerOfL {w : World} {base h n : Nat} {f : Int → Int} {K : Int → Prop} {a : Int} (H : HeldAt w base h n f K) (ha : 0 ≤ a ∧ a < 40) :
    Calls Try.prog 27 #[.map (some h), .int .i64 a] w fun e w' => e = .returned (.int .i64 (f a)) ∧ Below w.heap.size w w' := by
  obtain ⟨D, B, hd⟩ := H
  have HD := hide hd
  have wa : Hid (wfI a) := wfI_of (by omega) (by omega)
  have hlow := hd.low
  have hhl := hd.own.lt
  obtain ⟨x0, hx0⟩ : ∃ x, f a = x := ⟨_, rfl⟩
  have HX := hide hx0
  rw [hx0]
  clear hd hx0
  go_enter Try.func27, Try.ntmps27
  go_wp2_with (first
    | (at_range; refine wpList_range_own _ rfl _ 46 rfl 54 52 lawH Try.underlying46 _ h n _ rfl HD.out.own ?_; intro w0 hrg0 hg0 hs0)
    | go_in)
  go_frame
  have HR0 := hide hrg0
  have HB0 := hide ((Below.refl w.heap.size w).grown hg0 (Nat.le_refl _) (fun j hj => by cases hj))
  have HD0 := hide (HD.out.kept hg0 (by intro r hr; cases hr))
  clear hrg0 hg0
  go_loopw [9] (fun _ wr => ∃ (left : Lit → Bool) (cnt : Nat), Hid (wr.ranges Try.prog 54 asV h w.heap.size n D left cnt) ∧ Hid (HeldD wr base h n f K D B) ∧ Hid (Below w.heap.size w wr) ∧ Hid (∀ t, K t → left (kS t) = false → f a ≠ t)) (fun _ wr => wr.rangeLeft h w.heap.size)
  case atStart => exact ⟨_, _, HR0.out, HD0.out, HB0.out, fun t ht hl => by rw [(HD.out.has t (wfI_of (by have := HD.out.txn t ht; omega) (by have := HD.out.txn t ht; omega))).2 ht] at hl; cases hl⟩
  case round =>
    obtain ⟨left, cnt, HR, HDr, HB, HL⟩ := hrel
    go_wp2_with (first
      | (at_next; refine wpList_next_ranges _ rfl _ rfl 54 lawH asV (fun x : Int => .agg #[.int .i64 x]) (fun v : Value => v) (fun key kl hk => by obtain ⟨x, e, _⟩ := keyH_inv hk; exact ⟨x, e⟩) (fun v _ _ => ⟨v, rfl⟩) h w.heap.size n D left cnt rfl HR.out ?_ ?_)
      | go_in)
    · intro _ hl0
      have h0 : x0 = 0 := by
        by_cases e : f a = 0
        · rw [← HX.out]; exact e
        · exact absurd rfl (HL.out (f a) (HD.out.some_ a e).1 (hl0 _))
      subst h0
      go_wp2
      go_ret
      exact ⟨rfl, HB.out⟩
    · intro x c kl yd yp w1 cnt1 hkey hlk hv hat hrg1 hlt hg1 hs1 hen
      obtain ⟨x', e, wx, rfl⟩ := keyH_inv hkey
      obtain rfl : x = x' := by
        injection e with e
        injection e with e
        injection e with e
        injection e
      have hy : yd = .held c := by
        simp [asV] at hv
        exact hv.1.symm
      subst hy
      have hKx : K x := (HD.out.has x wx).1 (has_of_at hat)
      have hc : c = .map (some (B x)) := by
        have h1 := hat (.held (.map none))
        rw [HD.out.at_ x hKx] at h1
        injection h1 with h1
        exact h1.symm
      subst hc
      have HD1 := hide (HDr.out.keptR hg1 (fun r hr => by
        injection hr with hr
        subst hr
        exact ⟨by omega, fun t ht => by have := (HD.out.locks t ht).2.2.lt; omega⟩))
      have HB1 := hide (HB.out.grown hg1 HB.out.size (fun j hj => by injection hj with hj; omega))
      have hbl := (HD1.out.locks x hKx).2.2
      have HLo := hide hbl
      have HR1 := hide hrg1
      have HKx := hide hKx
      have HWx := hide (show wfI x from wx)
      obtain ⟨bx, hbx⟩ : ∃ b, B x = b := ⟨_, rfl⟩
      rw [hbx] at HLo hen
      rw [hbx]
      have HHas := hide (fun (W : World) (hW : Below w1.heap.size w1 W) => hasL (w := W) (b := bx) (n := n) (t := x) (a := a) (p := fun y => f y = x) (HLo.out.kept (grown_belowW (row := none) hW) (by simp)) wa.out)
      have hzr := HB.out.size
      clear hkey hlk hv hat hrg1 hg1 hKx hbl wx e
      go_wp2_with fail
      refine (HHas.out _ (below_alloc _ _)).mono ?_
      rintro e w2 ⟨rfl, hb2⟩
      have hb12 := below_on (below_alloc w1 (.cells #[.int .i64 x] 54)) hb2
      have c0 : w2.cell? ⟨wr.heap.size, 0, none⟩ = some (.int .i64 x) := by
        rw [← hs1]
        exact cell_later hb2 (by simp [go_sem])
      have HB2 := hide (below_on HB1.out hb12)
      have HD2 := hide (HD1.out.later hb12)
      have hg12 := grown_belowW (row := none) hb12
      have HR2 := hide (HR1.out.kept hg12 (by simp) (by simp))
      clear hb2 hb12 hg12
      by_cases hp : f a = x
      · have hx : x = x0 := by rw [← hp, HX.out]
        subst hx
        have hpd : decide (f a = x) = true := by simp [hp]
        rw [hpd]
        clear hp hpd
        go_wp2
        go_ret
        exact ⟨rfl, HB2.out⟩
      · have hpd : decide (f a = x) = false := by simp [hp]
        have HLn : Hid (∀ t, K t → (left (kS t) && !(kS t).sameKey (kS x)) = false → f a ≠ t) := fun t ht hl => by
          by_cases e : t = x
          · rw [e]; exact hp
          · refine HL.out t ht ?_
            have hs : (kS t).sameKey (kS x) = false := by
              cases hh : (kS t).sameKey (kS x) with
              | false => rfl
              | true => exact absurd (kS_inj (wfI_of (by have := HD.out.txn t ht; omega) (by have := HD.out.txn t ht; omega)) HWx.out (WideAt.sameKey_eq hh)) e
            rw [hs] at hl
            simpa using hl
        have HMs : Hid (w2.rangeLeft h w.heap.size < wr.rangeLeft h w.heap.size) := by
          unfold Hid
          rw [HR2.out.left_eq, HR.out.left_eq]
          exact hlt
        rw [hpd]
        clear hp hpd
        go_wp2
        go_roundw
        case rel => exact ⟨_, _, HR2.out, HD2.out, HB2.out, HLn.out⟩
        case measure => exact HMs.out

/-- What 'OwnerOf' answers. -/
def ofC (os : List Wn) (a : Int) : Int := if ownF os ≠ 0 then ownF os else if ¬ (0 ≤ a ∧ a < 40) then 3 else if ownr os a = 0 then 4 else 0
def ofV (os : List Wn) (a : Int) : Int := if ownF os ≠ 0 then 0 else if ¬ (0 ≤ a ∧ a < 40) then 0 else ownr os a

/-- 'askFault'. -/
theorem askFaultL {S : Nat → Prop} {w : World} {v : Value} {os : List Wn} (r : Bool) (hv : RdO S w v os) :
    Calls Try.prog 15 #[v, .bool r] w fun e w' => e = .returned (.int .i64 (if ownF os ≠ 0 then ownF os else if r = true then 0 else 3)) ∧ Below w.heap.size w w' := by
  obtain ⟨ao, c, rfl⟩ := hv.shape
  have HC := hide (implOwnersFault hv)
  clear hv
  generalize ownF os = z at HC ⊢
  by_cases hz : z = 0
  · subst hz
    cases r with
    | true =>
      go_enter Try.func15, Try.ntmps15
      go_wp2_with fail
      refine HC.out.mono ?_
      rintro e w' ⟨rfl, hb⟩
      have HB := hide hb
      clear hb
      go_wp2
      go_ret
      exact ⟨rfl, HB.out⟩
    | false =>
      go_enter Try.func15, Try.ntmps15
      go_wp2_with fail
      refine HC.out.mono ?_
      rintro e w' ⟨rfl, hb⟩
      have HB := hide hb
      clear hb
      go_wp2
      go_ret
      exact ⟨rfl, HB.out⟩
  · have hz' : z ≠ 0 := hz
    rw [if_pos hz']
    go_enter Try.func15, Try.ntmps15
    go_wp2_with fail
    refine HC.out.mono ?_
    rintro e w' ⟨rfl, hb⟩
    have HB := hide hb
    clear hb
    go_wp2
    go_ret
    exact ⟨rfl, HB.out⟩
/-- 'isHome', its answer as one. -/
theorem isHomeB (v : Int) (w : World) : Calls Try.prog 17 #[.int .i64 v] w fun e w' => e = .returned (.bool (decide (0 ≤ v ∧ v < 40))) ∧ w' = w := by
  by_cases h : 0 ≤ v ∧ v < 40
  · rw [decide_eq_true h]; exact isHomeY v h.1 h.2 w
  · rw [decide_eq_false h]; exact isHomeN v h w
theorem isTxnB (v : Int) (w : World) : Calls Try.prog 16 #[.int .i64 v] w fun e w' => e = .returned (.bool (decide (0 < v ∧ v ≤ 99))) ∧ w' = w := by
  by_cases h : 0 < v ∧ v ≤ 99
  · rw [decide_eq_true h]; exact isTxnY v h.1 h.2 w
  · rw [decide_eq_false h]; exact isTxnN v h w

set_option maxHeartbeats 1000000 in
set_option maxRecDepth 4000 in
theorem implOwnerOf {S : Nat → Prop} {w : World} {v : Value} {os : List Wn} (a : Int) (hv : RdO S w v os) :
    Calls Try.prog 10 #[v, .int .i64 a] w fun e w' => e = .returned (.agg #[.int .i64 (ofC os a), .int .i64 (ofV os a)]) ∧ Below w.heap.size w w' := by
  obtain ⟨ao, c, rfl⟩ := hv.shape
  have HV := hide hv
  obtain ⟨m, hm⟩ : ∃ m, os.length = m := ⟨_, rfl⟩
  rw [hm] at HV ⊢
  clear hv hm
  obtain ⟨r, hr⟩ : ∃ r, decide (0 ≤ a ∧ a < 40) = r := ⟨_, rfl⟩
  have HRr := hide hr
  obtain ⟨z, hz⟩ : ∃ z, (if ownF os ≠ 0 then ownF os else if r = true then 0 else 3) = z := ⟨_, rfl⟩
  have HZ := hide hz
  clear hr hz
  by_cases hz0 : z = 0
  · subst hz0
    have h0 : ownF os = 0 := by
      have := HZ.out
      by_cases h : ownF os = 0
      · exact h
      · rw [if_pos h] at this; exact absurd this h
    have ha : 0 ≤ a ∧ a < 40 := by
      have h1 := HZ.out
      rw [if_neg (by rw [h0]; simp)] at h1
      by_cases h : 0 ≤ a ∧ a < 40
      · exact h
      · have h2 := HRr.out
        rw [decide_eq_false h] at h2
        rw [← h2] at h1
        simp at h1
    have HOw := hide (own_of h0)
    have HA := hide ha
    obtain ⟨x, hx⟩ : ∃ x, ownr os a = x := ⟨_, rfl⟩
    have hC : ofC os a = if x = 0 then 4 else 0 := by unfold ofC; rw [if_neg (by rw [h0]; simp), if_neg (fun h => h ha), hx]
    have hVl : ofV os a = x := by unfold ofV; rw [if_neg (by rw [h0]; simp), if_neg (fun h => h ha), hx]
    have HX := hide hx
    rw [hC, hVl]
    clear h0 ha hx hC hVl
    by_cases hx0 : x = 0
    · subst hx0
      simp only [if_true]
      go_enter Try.func10, Try.ntmps10
      go_wp2_with fail
      refine (isHomeB a _).mono ?_
      rintro e w1 ⟨he, rfl⟩
      rw [HRr.out] at he
      subst he
      go_wp2_with fail
      refine (askFaultL r (HV.out.later (below_alloc _ _))).mono ?_
      rintro e w2 ⟨he, hb⟩
      rw [HZ.out] at he
      subst he
      have HB2 := hide (below_on (below_alloc _ _) hb)
      have c0 : w2.cell? ⟨w.heap.size, 0, none⟩ = some (.int .i64 0) := cell_later hb (by simp [go_sem])
      have c1 : w2.cell? ⟨w.heap.size, 1, none⟩ = some (.int .i64 0) := cell_later hb (by simp [go_sem])
      have f0 : ∀ o, w2.frozen? ⟨w.heap.size, o, none⟩ = false := fun o => ((bcell hb).2 _ _ (by simp)).trans (by simp [go_sem])
      clear hb
      go_wp2_with fail
      refine (heldInL (HV.out.later HB2.out) HOw.out).mono ?_
      rintro e w3 ⟨h, rfl, hb, hd⟩
      have HB3 := hide (below_on HB2.out hb)
      have d0 := cell_later hb c0
      have d1 := cell_later hb c1
      have f1 : ∀ o, w3.frozen? ⟨w.heap.size, o, none⟩ = false := fun o => ((bcell hb).2 _ _ (World.block_lt_of_cell? _ _ c0)).trans (f0 o)
      have HD := hide hd
      clear hb hd c0 c1 f0 HB2
      go_wp2_with fail
      refine (ownerOfL HD.out HA.out).mono ?_
      rintro e w4 ⟨he, hb⟩
      rw [HX.out] at he
      subst he
      have HB4 := hide (below_on HB3.out hb)
      have c0 := cell_later hb d0
      have c1 := cell_later hb d1
      have f0 : ∀ o, w4.frozen? ⟨w.heap.size, o, none⟩ = false := fun o => ((bcell hb).2 _ _ (World.block_lt_of_cell? _ _ d0)).trans (f1 o)
      have F0 := f0 0
      have F1 := f0 1
      clear hb d0 d1 f1 HB3 f0
      go_wp2
      refine bodyPost_ret (v := .agg #[.int .i64 4, .int .i64 0]) (by simp [results, Try.results10, go_sem, c0, c1]) rfl ⟨rfl, ?_⟩
      exact (HB4.out.setCell (Nat.le_refl _) _).setCell (Nat.le_refl _) _
    · rw [if_neg hx0]
      go_enter Try.func10, Try.ntmps10
      go_wp2_with fail
      refine (isHomeB a _).mono ?_
      rintro e w1 ⟨he, rfl⟩
      rw [HRr.out] at he
      subst he
      go_wp2_with fail
      refine (askFaultL r (HV.out.later (below_alloc _ _))).mono ?_
      rintro e w2 ⟨he, hb⟩
      rw [HZ.out] at he
      subst he
      have HB2 := hide (below_on (below_alloc _ _) hb)
      have c0 : w2.cell? ⟨w.heap.size, 0, none⟩ = some (.int .i64 0) := cell_later hb (by simp [go_sem])
      have c1 : w2.cell? ⟨w.heap.size, 1, none⟩ = some (.int .i64 0) := cell_later hb (by simp [go_sem])
      have f0 : ∀ o, w2.frozen? ⟨w.heap.size, o, none⟩ = false := fun o => ((bcell hb).2 _ _ (by simp)).trans (by simp [go_sem])
      clear hb
      go_wp2_with fail
      refine (heldInL (HV.out.later HB2.out) HOw.out).mono ?_
      rintro e w3 ⟨h, rfl, hb, hd⟩
      have HB3 := hide (below_on HB2.out hb)
      have d0 := cell_later hb c0
      have d1 := cell_later hb c1
      have f1 : ∀ o, w3.frozen? ⟨w.heap.size, o, none⟩ = false := fun o => ((bcell hb).2 _ _ (World.block_lt_of_cell? _ _ c0)).trans (f0 o)
      have HD := hide hd
      clear hb hd c0 c1 f0 HB2
      go_wp2_with fail
      refine (ownerOfL HD.out HA.out).mono ?_
      rintro e w4 ⟨he, hb⟩
      rw [HX.out] at he
      subst he
      have HB4 := hide (below_on HB3.out hb)
      have c0 := cell_later hb d0
      have c1 := cell_later hb d1
      have f0 : ∀ o, w4.frozen? ⟨w.heap.size, o, none⟩ = false := fun o => ((bcell hb).2 _ _ (World.block_lt_of_cell? _ _ d0)).trans (f1 o)
      have F0 := f0 0
      have F1 := f0 1
      clear hb d0 d1 f1 HB3 f0
      go_wp2
      refine bodyPost_ret (v := .agg #[.int .i64 0, .int .i64 x]) (by simp [results, Try.results10, go_sem, c0, c1]) rfl ⟨rfl, ?_⟩
      exact (HB4.out.setCell (Nat.le_refl _) _).setCell (Nat.le_refl _) _
  · have hC : ofC os a = z := by
      have h1 := HZ.out
      unfold ofC
      by_cases h : ownF os = 0
      · rw [if_neg (by rw [h]; simp)] at h1
        rw [if_neg (by rw [h]; simp)]
        cases r with
        | true => simp at h1; exact absurd h1.symm hz0
        | false => rw [if_pos (by have := HRr.out; exact of_decide_eq_false this)]; simpa using h1
      · rw [if_pos h] at h1 ⊢; exact h1
    have hVl : ofV os a = 0 := by
      have h1 := HZ.out
      unfold ofV
      by_cases h : ownF os = 0
      · rw [if_neg (by rw [h]; simp)] at h1
        rw [if_neg (by rw [h]; simp)]
        cases r with
        | true => simp at h1; exact absurd h1.symm hz0
        | false => rw [if_pos (by have := HRr.out; exact of_decide_eq_false this)]
      · rw [if_pos h]
    rw [hC, hVl]
    clear hC hVl
    go_enter Try.func10, Try.ntmps10
    go_wp2_with fail
    refine (isHomeB a _).mono ?_
    rintro e w1 ⟨he, rfl⟩
    rw [HRr.out] at he
    subst he
    go_wp2_with fail
    refine (askFaultL r (HV.out.later (below_alloc _ _))).mono ?_
    rintro e w2 ⟨he, hb⟩
    rw [HZ.out] at he
    subst he
    have HB2 := hide (below_on (below_alloc _ _) hb)
    have c0 : w2.cell? ⟨w.heap.size, 0, none⟩ = some (.int .i64 0) := cell_later hb (by simp [go_sem])
    have c1 : w2.cell? ⟨w.heap.size, 1, none⟩ = some (.int .i64 0) := cell_later hb (by simp [go_sem])
    have F0 : w2.frozen? ⟨w.heap.size, 0, none⟩ = false := ((bcell hb).2 _ _ (by simp)).trans (by simp [go_sem])
    have F1 : w2.frozen? ⟨w.heap.size, 1, none⟩ = false := ((bcell hb).2 _ _ (by simp)).trans (by simp [go_sem])
    clear hb
    go_wp2
    refine bodyPost_ret (v := .agg #[.int .i64 z, .int .i64 0]) (by simp [results, Try.results10, go_sem, c0, c1]) rfl ⟨rfl, ?_⟩
    exact (HB2.out.setCell (Nat.le_refl _) _).setCell (Nat.le_refl _) _
end Go.Proofs.Ytkpkoapcmnapoab
