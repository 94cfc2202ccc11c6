/- Chapter 6, the program's side: '(lockSet).hasAbove', '(heldLocks).takeFault', 'TakeLock', walked. -/
import Derived.Test.YtkpkoapcmnapoabLkFree
namespace Go.Proofs.Ytkpkoapcmnapoab
open Go.RowKit Go.Maps Go.Shelf

set_option maxHeartbeats 2000000 in
set_option maxRecDepth 4000 in
/-- '(lockSet).hasAbove' of a map of locks. -/
theorem aboveL {w : World} {b n : Nat} {t a : Int} {p : Int → Prop} (H : LocksAt w b n t p) (hp : ∀ a, p a → wfI a) (r : Bool) (hr : r = true ↔ ∃ x, p x ∧ a < x) :
    Calls Try.prog 33 #[.map (some b), .int .i64 a] w fun e w' => e = .returned (.bool r) ∧ Below w.heap.size w w' := by
  obtain ⟨D, h1, h2, h3⟩ := H
  have HH := hide h2
  have HP := hide hp
  have HOw := hide h1
  have HRr := hide hr
  have hbl := h1.lt
  clear h1 h2 h3 hp hr
  go_enter Try.func33, Try.ntmps33
  go_wp2_with (first
    | (at_range; refine wpList_range_own _ rfl _ 52 rfl 63 40 lawL Try.underlying52 _ b n _ rfl HOw.out ?_; intro w0 hrg0 hg0 hs0)
    | go_in)
  go_frame
  have HR0 := hide hrg0
  have HB0 := hide ((Below.refl w.heap.size w).grown hg0 (Nat.le_refl _) (fun j hj => by cases hj))
  clear hrg0 hg0
  go_loopw [8] (fun _ wr => ∃ (left : Lit → Bool) (cnt : Nat), Hid (wr.ranges Try.prog 63 asV b w.heap.size n D left cnt) ∧ Hid (Below w.heap.size w wr) ∧ Hid (∀ x, p x → left (kS x) = false → x ≤ a)) (fun _ wr => wr.rangeLeft b w.heap.size)
  case atStart => exact ⟨_, _, HR0.out, HB0.out, fun x hx hl => by rw [(HH.out x (HP.out x hx)).2 hx] at hl; cases hl⟩
  case round =>
    obtain ⟨left, cnt, HR, HB, HL⟩ := hrel
    go_wp2_with (first
      | (at_next; refine wpList_next_ranges _ rfl _ rfl 63 lawL asV (fun x : Int => .agg #[.int .i64 x]) (fun v : Value => v) (fun key kl hk => by obtain ⟨x, e, _⟩ := keyL_inv hk; exact ⟨x, e⟩) (fun v _ _ => ⟨v, rfl⟩) b w.heap.size n D left cnt rfl HR.out ?_ ?_)
      | go_in)
    · intro _ hl0
      have h0 : r = false := by
        cases r with
        | false => rfl
        | true => obtain ⟨x, hx, hax⟩ := HRr.out.1 rfl; have := HL.out x hx (hl0 _); omega
      subst h0
      go_wp2
      go_ret
      exact ⟨rfl, HB.out⟩
    · intro x c kl yd yp w1 cnt1 hkey hlk hv hat hrg1 hlt hg1 hs1 hen
      obtain ⟨x', e, wx, rfl⟩ := keyL_inv hkey
      obtain rfl : x = x' := by
        injection e with e
        injection e with e
        injection e with e
        injection e
      have hy : yd = .held c := by
        simp [asV] at hv
        exact hv.1.symm
      subst hy
      have hpx : p x := (HH.out x wx).1 (has_of_at hat)
      have HB1 := hide (HB.out.grown hg1 HB.out.size (fun j hj => by injection hj with hj; omega))
      have HR1 := hide hrg1
      have HWx := hide (show wfI x from wx)
      have bA := below_alloc w1 (.cells #[.int .i64 x] 63)
      have HB2 := hide (below_on HB1.out bA)
      have HR2 := hide (HR1.out.kept (grown_belowW (row := none) bA) (by simp) (by simp))
      clear hkey hlk hv hat hrg1 hg1 hs1 wx e bA
      by_cases hax : a < x
      · have hrt : r = true := HRr.out.2 ⟨x, hpx, hax⟩
        subst hrt
        clear hpx
        go_wp2
        go_ret
        exact ⟨rfl, HB2.out⟩
      · have HLn : Hid (∀ y, p y → (left (kS y) && !(kS y).sameKey (kS x)) = false → y ≤ a) := fun y hy hl => by
          by_cases e : y = x
          · rw [e]; omega
          · refine HL.out y hy ?_
            have hs : (kS y).sameKey (kS x) = false := by
              cases hh : (kS y).sameKey (kS x) with
              | false => rfl
              | true => exact absurd (kS_inj (HP.out y hy) HWx.out (WideAt.sameKey_eq hh)) e
            rw [hs] at hl
            simpa using hl
        have HMs : Hid ((w1.alloc (.cells #[.int .i64 x] 63)).rangeLeft b w.heap.size < wr.rangeLeft b w.heap.size) := by
          unfold Hid
          rw [HR2.out.left_eq, HR.out.left_eq]
          exact hlt
        clear hpx
        go_wp2
        go_roundw
        case rel => exact ⟨_, _, HR2.out, HB2.out, HLn.out⟩
        case measure => exact HMs.out
set_option maxRecDepth 4000 in
/-- .. of none. -/
theorem aboveL_nil (a : Int) (w : World) : Calls Try.prog 33 #[.map none, .int .i64 a] w fun e w' => e = .returned (.bool false) ∧ Below w.heap.size w w' := by
  have hrg := run_range_nilMap (P := Try.prog) w 52 63 40 Try.underlying52
  have hnx : ∀ ty, (Instr.next (.pointer (some ⟨w.heap.size, 0, none⟩)) false ty).run Try.prog (w.alloc (.mapIter none 0 #[] 0)) = _ := fun ty => run_next_nilMap _ ty 0 0 #[]
  go_enter Try.func33, Try.ntmps33
  go_wp2
  refine wp_loop_rounds 1 ?_
  rw [rounds_succ]
  go_wp2
  go_ret
  exact ⟨rfl, below_alloc _ _⟩

open Classical in
/-- What stands against taking a lock. -/
noncomputable def tkF (f : Int → Int) (t a : Int) : Int := if f a = t then 0 else if ∃ x, f x = t ∧ a < x then 10 else if f a = 0 then 0 else 9

set_option maxHeartbeats 2000000 in
set_option maxRecDepth 4000 in
/-- '(heldLocks).takeFault'. -/
theorem takeFaultL {w : World} {base h n : Nat} {f : Int → Int} {K : Int → Prop} {a t : Int} (H : HeldAt w base h n f K) (ha : 0 ≤ a ∧ a < 40) (ht : 0 < t ∧ t ≤ 99) :
    Calls Try.prog 19 #[.map (some h), .int .i64 t, .int .i64 a] w fun e w' => e = .returned (.int .i64 (tkF f t a)) ∧ Below w.heap.size w w' := by
  have HH := hide H
  obtain ⟨D, B, hd⟩ := H
  have wa : wfI a := wfI_of (by omega) (by omega)
  have HA := hide ha
  have HOw := hide (fun (W : World) (hW : Below w.heap.size w W) => ownerOfL (w := W) (a := a) ⟨D, B, hd.later hW⟩ ha)
  obtain ⟨q, hq⟩ : ∃ q : Bool, q = true ↔ ∃ x, f x = t ∧ a < x := by
    by_cases e : ∃ x, f x = t ∧ a < x
    · exact ⟨true, by simp [e]⟩
    · exact ⟨false, by simp [e]⟩
  have HT : Hid (∃ x : Option Nat, (Instr.lookup 46 (.map (some h)) (.agg #[.int .i64 t]) false).run Try.prog w = .ok (.map x) w ∧ (Calls Try.prog 32 #[.map x, .int .i64 a] w fun e w' => e = .returned (.bool (decide (f a = t))) ∧ Below w.heap.size w w') ∧
      ∀ W, Below w.heap.size w W → Calls Try.prog 33 #[.map x, .int .i64 a] W fun e w' => e = .returned (.bool q) ∧ Below W.heap.size W w') := by
    by_cases hK : K t
    · have hl := (hd.locks t hK).2.2
      refine ⟨some (B t), hd.look hK, hasL (p := fun y => f y = t) hl wa, fun W hW => aboveL (t := t) (p := fun y => f y = t) (hl.kept (grown_belowW (row := none) hW) (by simp)) (fun y hy => ?_) q hq⟩
      have hb := (hd.some_ y (by rw [hy]; omega)).2
      exact wfI_of (by omega) (by omega)
    · have no : ∀ y, f y ≠ t := fun y e => hK (e ▸ (hd.some_ y (by omega)).1)
      have hq0 : q = false := by
        cases q with
        | false => rfl
        | true => obtain ⟨x, hx, _⟩ := hq.1 rfl; exact absurd hx (no x)
      refine ⟨none, hd.look_no (wfI_of (by omega) (by omega)) hK, ?_, fun W _ => ?_⟩
      · rw [decide_eq_false (no a)]; exact hasL_nil wa
      · rw [hq0]; exact aboveL_nil a W
  have HZ : Hid (tkF f t a = if f a = t then 0 else if q = true then 10 else if f a = 0 then 0 else 9) := by
    unfold Hid tkF
    by_cases e : f a = t
    · rw [if_pos e, if_pos e]
    · rw [if_neg e, if_neg e]
      by_cases e2 : ∃ x, f x = t ∧ a < x
      · rw [if_pos e2, if_pos (hq.2 e2)]
      · rw [if_neg e2, if_neg (fun h => e2 (hq.1 h))]
  obtain ⟨x, hlook, hhas, habove⟩ := HT.out
  have HHas := hide hhas
  have HAb := hide habove
  obtain ⟨z, hz⟩ : ∃ z, tkF f t a = z := ⟨_, rfl⟩
  rw [hz] at HZ ⊢
  obtain ⟨y, hy⟩ : ∃ y, f a = y := ⟨_, rfl⟩
  rw [hy] at HZ HHas HOw
  clear hd ha hq HT hhas habove hz hy HH
  by_cases e1 : y = t
  · have hz := HZ.out
    rw [if_pos e1] at hz
    have hd1 : decide (y = t) = true := by simp [e1]
    rw [hd1] at HHas
    subst hz
    clear e1 hd1
    go_enter Try.func19, Try.ntmps19
    go_wp2_with fail
    refine HHas.out.mono ?_
    rintro e w1 ⟨rfl, hb⟩
    have HB := hide hb
    clear hb
    go_wp2
    go_ret
    exact ⟨rfl, HB.out⟩
  · have hz := HZ.out
    rw [if_neg e1] at hz
    have hd1 : decide (y = t) = false := by simp [e1]
    rw [hd1] at HHas
    clear e1 hd1 HZ
    cases q with
    | true =>
      rw [if_pos rfl] at hz
      subst hz
      go_enter Try.func19, Try.ntmps19
      go_wp2_with fail
      refine HHas.out.mono ?_
      rintro e w1 ⟨rfl, hb⟩
      have HB := hide hb
      clear hb
      go_wp2_with fail
      refine (HAb.out _ HB.out).mono ?_
      rintro e w2 ⟨rfl, hb⟩
      have HB2 := hide (below_on HB.out hb)
      clear hb
      go_wp2
      go_ret
      exact ⟨rfl, HB2.out⟩
    | false =>
      rw [if_neg (by simp)] at hz
      by_cases e2 : y = 0
      · rw [if_pos e2] at hz
        subst hz
        subst e2
        go_enter Try.func19, Try.ntmps19
        go_wp2_with fail
        refine HHas.out.mono ?_
        rintro e w1 ⟨rfl, hb⟩
        have HB := hide hb
        clear hb
        go_wp2_with fail
        refine (HAb.out _ HB.out).mono ?_
        rintro e w2 ⟨rfl, hb⟩
        have HB2 := hide (below_on HB.out hb)
        clear hb
        go_wp2_with fail
        refine (HOw.out _ HB2.out).mono ?_
        rintro e w3 ⟨rfl, hb⟩
        have HB3 := hide (below_on HB2.out hb)
        clear hb
        go_wp2
        go_ret
        exact ⟨rfl, HB3.out⟩
      · rw [if_neg e2] at hz
        subst hz
        go_enter Try.func19, Try.ntmps19
        go_wp2_with fail
        refine HHas.out.mono ?_
        rintro e w1 ⟨rfl, hb⟩
        have HB := hide hb
        clear hb
        go_wp2_with fail
        refine (HAb.out _ HB.out).mono ?_
        rintro e w2 ⟨rfl, hb⟩
        have HB2 := hide (below_on HB.out hb)
        clear hb
        go_wp2_with fail
        refine (HOw.out _ HB2.out).mono ?_
        rintro e w3 ⟨rfl, hb⟩
        have HB3 := hide (below_on HB2.out hb)
        clear hb
        go_wp2
        go_ret
        exact ⟨rfl, HB3.out⟩

/-- How many stand ahead of a lock. -/
def plc (os : List Wn) (a : Int) : Nat := os.countP (fun o => decide (o.1 < a))
theorem plc_parts (a : Int) : ∀ (os : List Wn), os.Pairwise (fun x y => x.1 < y.1) → (∀ o ∈ os.take (plc os a), o.1 < a) ∧ ∀ o ∈ os.drop (plc os a), a ≤ o.1
  | [], _ => by simp [plc]
  | x :: xs, h => by
    obtain ⟨h1, h2⟩ := List.pairwise_cons.1 h
    obtain ⟨i1, i2⟩ := plc_parts a xs h2
    by_cases hx : x.1 < a
    · have e : plc (x :: xs) a = plc xs a + 1 := by unfold plc; rw [List.countP_cons_of_pos (by simpa using hx)]
      rw [e]
      simp only [List.take_succ_cons, List.drop_succ_cons]
      refine ⟨fun o ho => ?_, i2⟩
      rcases List.mem_cons.1 ho with rfl | ho
      · exact hx
      · exact i1 o ho
    · have e : plc (x :: xs) a = 0 := by
        unfold plc
        rw [List.countP_eq_zero]
        intro o ho
        rcases List.mem_cons.1 ho with rfl | ho
        · simpa using hx
        · have := h1 o ho; simp; omega
      rw [e]
      refine ⟨by simp, fun o ho => ?_⟩
      simp only [List.drop_zero] at ho
      rcases List.mem_cons.1 ho with rfl | ho
      · omega
      · have := h1 o ho; omega
theorem plc_le (os : List Wn) (a : Int) : plc os a ≤ os.length := List.countP_le_length
/-- The locks with one more. -/
def tkL (os : List Wn) (t a : Int) : List Wn := if ownr os a = t then os else os.take (plc os a) ++ (a, t) :: os.drop (plc os a)
theorem tkL_len (os : List Wn) (t a : Int) : (tkL os t a).length ≤ os.length + 1 := by
  unfold tkL
  by_cases e : ownr os a = t
  · rw [if_pos e]; omega
  · rw [if_neg e]
    have := plc_le os a
    simp
    omega
theorem tkL_up {os : List Wn} (h : Own os) {t a : Int} (hf : ownr os a = 0 ∨ ownr os a = t) : (tkL os t a).Pairwise (fun x y => x.1 < y.1) := by
  unfold tkL
  by_cases e : ownr os a = t
  · rw [if_pos e]; exact own_pair h
  · rw [if_neg e]
    have h0 := hf.resolve_right e
    obtain ⟨p1, p2⟩ := plc_parts a os (own_pair h)
    have hp := own_pair h
    have hsp : (os.take (plc os a) ++ os.drop (plc os a)).Pairwise (fun x y => x.1 < y.1) := by rw [List.take_append_drop]; exact hp
    obtain ⟨s1, s2, s3⟩ := List.pairwise_append.1 hsp
    have p3 : ∀ o ∈ os.drop (plc os a), a < o.1 := fun o ho => by
      have h1 := p2 o ho
      have h2 : o.1 ≠ a := fun e2 => by
        have hm := List.mem_of_mem_drop ho
        have hr := (ownr_iff h (by have := own_mem h hm; omega)).2 (show (o.1, o.2) ∈ os from hm)
        rw [e2, h0] at hr
        have := own_mem h hm
        omega
      omega
    refine List.pairwise_append.2 ⟨s1, List.pairwise_cons.2 ⟨fun o ho => p3 o ho, s2⟩, fun x hx y hy => ?_⟩
    rcases List.mem_cons.1 hy with rfl | hy
    · exact p1 x hx
    · exact s3 x hx y hy
theorem tkL_mem {os : List Wn} (h : Own os) {t a : Int} (ht : t ≠ 0) (hf : ownr os a = 0 ∨ ownr os a = t) (o : Wn) : o ∈ tkL os t a ↔ (updO (ownr os) a t o.1 = o.2 ∧ o.2 ≠ 0) := by
  have hin : ∀ o : Wn, o ∈ os ↔ (ownr os o.1 = o.2 ∧ o.2 ≠ 0) := fun o => by
    constructor
    · intro ho
      have hm := own_mem h ho
      exact ⟨(ownr_iff h (by omega)).2 ho, by omega⟩
    · rintro ⟨h1, h2⟩; exact (ownr_iff h h2).1 h1
  unfold tkL updO
  by_cases e : ownr os a = t
  · rw [if_pos e, hin o]
    by_cases e1 : o.1 = a
    · rw [if_pos e1, e1, e]
    · rw [if_neg e1]
  · rw [if_neg e]
    have h0 := hf.resolve_right e
    have hmem : o ∈ os.take (plc os a) ++ (a, t) :: os.drop (plc os a) ↔ (o ∈ os ∨ o = (a, t)) := by
      rw [List.mem_append, List.mem_cons]
      constructor
      · rintro (h1 | h1 | h1)
        · exact Or.inl (List.mem_of_mem_take h1)
        · exact Or.inr h1
        · exact Or.inl (List.mem_of_mem_drop h1)
      · rintro (h1 | h1)
        · rw [← List.take_append_drop (plc os a) os, List.mem_append] at h1
          rcases h1 with h1 | h1
          · exact Or.inl h1
          · exact Or.inr (Or.inr h1)
        · exact Or.inr (Or.inl h1)
    rw [hmem, hin o]
    by_cases e1 : o.1 = a
    · rw [if_pos e1]
      constructor
      · rintro (⟨h1, h2⟩ | h1)
        · rw [e1, h0] at h1; exact absurd h1.symm h2
        · rw [h1]; exact ⟨rfl, ht⟩
      · rintro ⟨h1, _⟩
        exact Or.inr (Prod.ext e1 h1.symm)
    · rw [if_neg e1]
      constructor
      · rintro (h1 | h1)
        · exact h1
        · exact absurd (by rw [h1]) e1
      · exact Or.inl
/-- What 'TakeLock' answers. -/
noncomputable def tkC (os : List Wn) (t a : Int) : Int := if ownF os ≠ 0 then ownF os else if (0 < t ∧ t ≤ 99) ∧ (0 ≤ a ∧ a < 40) then tkF (ownr os) t a else 3
noncomputable def tkR (os : List Wn) (t a : Int) : List Wn := if tkC os t a = 0 then tkL os t a else []
theorem tkC_ok {os : List Wn} {t a : Int} (h : tkC os t a = 0) : ownF os = 0 ∧ (0 < t ∧ t ≤ 99) ∧ (0 ≤ a ∧ a < 40) ∧ tkF (ownr os) t a = 0 := by
  unfold tkC at h
  by_cases h1 : ownF os = 0
  · rw [if_neg (by simp [h1])] at h
    by_cases h2 : (0 < t ∧ t ≤ 99) ∧ (0 ≤ a ∧ a < 40)
    · rw [if_pos h2] at h; exact ⟨h1, h2.1, h2.2, h⟩
    · rw [if_neg h2] at h; exact absurd h (by decide)
  · rw [if_pos h1] at h; exact absurd h h1
theorem tkF_ok {f : Int → Int} {t a : Int} (h : tkF f t a = 0) : f a = 0 ∨ f a = t := by
  unfold tkF at h
  by_cases e : f a = t
  · exact Or.inr e
  · rw [if_neg e] at h
    by_cases e2 : ∃ x, f x = t ∧ a < x
    · rw [if_pos e2] at h; exact absurd h (by decide)
    · rw [if_neg e2] at h
      by_cases e3 : f a = 0
      · exact Or.inl e3
      · rw [if_neg e3] at h; exact absurd h (by decide)
theorem tkR_len (os : List Wn) (t a : Int) : (tkR os t a).length ≤ 1048576 := by
  unfold tkR
  by_cases h : tkC os t a = 0
  · rw [if_pos h]
    have := (own_of (tkC_ok h).1).len
    have := tkL_len os t a
    omega
  · rw [if_neg h]; simp
end Go.Proofs.Ytkpkoapcmnapoab
