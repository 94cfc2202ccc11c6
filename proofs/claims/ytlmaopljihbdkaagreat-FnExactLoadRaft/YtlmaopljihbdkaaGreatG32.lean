/- ApplyI Po1 Df0 Im3 Fi7 Fi8 in one text: what each says stands at its head below. -/
import Derived.Test.YtlmaopljihbdkaaGreatG31
import Derived.Test.YtlmaopljihbdkaaGreatG06
import Derived.Carry
import Derived.Test.YtlmaopljihbdkaaGreatG23
import Derived.Test.YtlmaopljihbdkaaGreatG22
import Derived.Test.YtlmaopljihbdkaaGreatG18
import Derived.Test.YtlmaopljihbdkaaGreatG30
import Derived.Deep.RegionHeld3
/- Chapter 4: 'impl.ApplyPuts', walked. -/
namespace Go.Proofs.YtlmaopljihbdkaaGreat
open Go.RowKit Go.Maps

instance (ps : List (Int × List Int)) : Decidable (isVw ps) := by unfold isVw; infer_instance

/-- The code of ApplyPuts; the view that it tells. -/
def apC (vs ps : List (Int × List Int)) : Int := if hpF 60 vs = 0 then (if hpF 60 ps = 0 then (if isVw vs then 0 else 1) else hpF 60 ps) else hpF 60 vs
def apM (vs ps : List (Int × List Int)) : Int → List Int := ps.foldl putM (vs.foldl putM fun _ => [])
def apR (vs ps : List (Int × List Int)) : List (Int × List Int) := if apC vs ps = 0 then viewTo (apM vs ps) 40 else []
theorem apC_zero {vs ps : List (Int × List Int)} (h : apC vs ps = 0) : hpF 60 vs = 0 ∧ hpF 60 ps = 0 ∧ isVw vs := by
  unfold apC at h
  by_cases h1 : hpF 60 vs = 0
  · rw [if_pos h1] at h
    by_cases h2 : hpF 60 ps = 0
    · rw [if_pos h2] at h
      by_cases h3 : isVw vs
      · exact ⟨h1, h2, h3⟩
      · rw [if_neg h3] at h; exact absurd h (by decide)
    · rw [if_neg h2] at h; exact absurd h h2
  · rw [if_neg h1] at h; exact absurd h h1
theorem apM_len {vs ps : List (Int × List Int)} (h1 : hpF 60 vs = 0) (h2 : hpF 60 ps = 0) (a : Int) : (apM vs ps a).length ≤ 64 :=
  foldl_len (foldl_len (by simp) (fun i hi => ((hpF_all h1).2 i hi).2.2)) (fun i hi => ((hpF_all h2).2 i hi).2.2)
theorem RdP_old {S : Nat → Prop} {w : World} {v : Value} {ps : List (Int × List Int)} (h : RdP S w v ps) : RdP (fun b => b < w.heap.size) w v ps := by
  obtain ⟨ao, c, e1, e2, e3⟩ := h
  refine ⟨ao, c, e1, e2, fun hne => ?_⟩
  obtain ⟨b, off, V, f1, f2, f3⟩ := e3 hne
  refine ⟨b, off, V, f1, World.block_lt_of_cell? _ _ (f3 0 (List.length_pos_iff.2 hne)).1, fun i hi => ⟨(f3 i hi).1, (f3 i hi).2.1, ?_⟩⟩
  obtain ⟨ao', c', k1, k2, k3⟩ := (f3 i hi).2.2
  refine ⟨ao', c', k1, k2, fun hn => ?_⟩
  obtain ⟨b', off', m1, m2, m3⟩ := k3 hn
  exact ⟨b', off', m1, World.block_lt_of_cell? _ _ (m3 0 (List.length_pos_iff.2 hn)), m3⟩
theorem below_grown {w w1 w2 : World} {B : Nat} (hb : Below w.heap.size w w1) (hg : w1.grownBy w2 (some B)) (hB : w.heap.size ≤ B) : Below w.heap.size w w2 :=
  hb.grown hg hb.size (fun r hr => by injection hr with hr; omega)
/-- The end of a function that stores a code and puts into its result's variable. -/
theorem ret_putsA {w w3 : World} {P : Nat → Prop} {r : Nat} {z x : Value} {ps : List (Int × List Int)} (hb : Below w.heap.size w w3) (hr : w.heap.size ≤ r) (ho : OwP P w3 z ps) (hP : ∀ b, P b → r < b ∧ b < w3.heap.size) :
    Below w.heap.size w ((w3.setCell ⟨r, 0, none⟩ x).setCell ⟨r, 1, none⟩ z) ∧ OwP (fun b => w.heap.size ≤ b ∧ b < ((w3.setCell ⟨r, 0, none⟩ x).setCell ⟨r, 1, none⟩ z).heap.size) ((w3.setCell ⟨r, 0, none⟩ x).setCell ⟨r, 1, none⟩ z) z ps := by
  have hw : Wr (fun y => y = r) w3 ((w3.setCell ⟨r, 0, none⟩ x).setCell ⟨r, 1, none⟩ z) := ((Wr.refl (fun y => y = r) _).setCell (p := ⟨r, 0, none⟩) rfl _).setCell (p := ⟨r, 1, none⟩) rfl _
  exact ⟨(hb.setCell (p := ⟨r, 0, none⟩) hr _).setCell (p := ⟨r, 1, none⟩) hr _, (ho.wr hw (fun b h1 e => by have := hP b h1; omega)).mono (fun b hb => by have := hP b hb; simp; omega)⟩

end Go.Proofs.YtlmaopljihbdkaaGreat
/- Chapter 5: the codes that PutsOf asks, the program's side, walked. -/
namespace Go.Proofs.YtlmaopljihbdkaaGreat
open Go.RowKit Go.Maps

/-- The code of a view; the code of a list of objects. -/
def vF (vs : List (Int × List Int)) : Int := if hpF 60 vs = 0 then (if isVw vs then 0 else 1) else hpF 60 vs
def firstJ : List Oj → Int
  | [] => 0
  | o :: r => if objF o.1 o.2.1 o.2.2 = 0 then firstJ r else objF o.1 o.2.1 o.2.2
def ojsF (os : List Oj) : Int := if 12 < os.length then 2 else firstJ os
theorem firstJ_drop (os : List Oj) (k : Nat) (h : k < os.length) : firstJ (os.drop k) = if objF (os.getD k oj0).1 (os.getD k oj0).2.1 (os.getD k oj0).2.2 = 0 then firstJ (os.drop (k + 1)) else objF (os.getD k oj0).1 (os.getD k oj0).2.1 (os.getD k oj0).2.2 := by
  rw [List.drop_eq_getElem_cons h, firstJ]
  have e : os.getD k oj0 = os[k] := by simp [List.getD, h]
  rw [e]
theorem firstJ_all : ∀ {os : List Oj}, firstJ os = 0 → ∀ i, i < os.length → objF (os.getD i oj0).1 (os.getD i oj0).2.1 (os.getD i oj0).2.2 = 0
  | [], _, i, hi => absurd hi (Nat.not_lt_zero _)
  | o :: r, h, i, hi => by
    rw [firstJ] at h
    by_cases e : objF o.1 o.2.1 o.2.2 = 0
    · rw [if_pos e] at h
      cases i with
      | zero => exact e
      | succ i => simpa using firstJ_all h i (by simpa using hi)
    · rw [if_neg e] at h; exact absurd h e
theorem RdJ.at {S : Nat → Prop} {w : World} {ao : Option Addr} {n c k : Nat} {os : List Oj} (h : RdJ S w (.slice ao n c) os) (hk : k < os.length) :
    ∃ b off v, ao = some ⟨b, off, none⟩ ∧ w.cell? ⟨b, off + k * 3, none⟩ = some (.int .i64 (os.getD k oj0).1) ∧ w.cell? ⟨b, off + k * 3 + 1, none⟩ = some (.int .i64 (os.getD k oj0).2.1) ∧ w.cell? ⟨b, off + k * 3 + 2, none⟩ = some v ∧ RdI S w v (os.getD k oj0).2.2 := by
  obtain ⟨ao', c', e, _, h3⟩ := h
  injection e with e1 e2 e3
  subst e1
  obtain ⟨b, off, V, e, _, hc⟩ := h3 (by rintro rfl; exact absurd hk (Nat.not_lt_zero _))
  obtain ⟨k0, k1, k2, k3⟩ := hc k hk
  exact ⟨b, off, V k, e, k0, k1, k2, k3⟩

theorem viewFaultP {S : Nat → Prop} {w : World} {u : Value} {vs : List (Int × List Int)} (hu : RdP S w u vs) :
    Calls Tryz.prog 50 #[u] w fun e w' => e = .returned (.int .i64 (vF vs)) ∧ Below w.heap.size w w' := by
  obtain ⟨au, cu, rfl, _⟩ := hu.shape
  have HU := hide (homePutsFault 60 hu)
  have HI := hide (fun (w' : World) (hb : Below w.heap.size w w') => isViewP (hu.later hb))
  have HV : Hid (vF vs = if hpF 60 vs = 0 then (if isVw vs then 0 else 1) else hpF 60 vs) := rfl
  clear hu
  generalize hpF 60 vs = p at HU HV
  generalize vF vs = C at HV ⊢
  by_cases h0 : p = 0
  · subst h0
    go_enter Tryz.func50, Tryz.ntmps50
    go_wp2_with fail
    refine HU.out.mono ?_
    rintro e w1 ⟨rfl, hb1⟩
    have HB1 := hide hb1
    clear hb1
    go_wp2_with fail
    refine (HI.out _ HB1.out).mono ?_
    rintro e w2 ⟨⟨r, rfl, hr⟩, hb2⟩
    have HB2 := hide (below_on HB1.out hb2)
    have HRr := hide hr
    clear hb2 hr
    cases r with
    | true =>
      have hC : C = 0 := by have h := HV.out; have h2 := HRr.out.1 rfl; simpa [h2] using h
      subst hC
      clear HRr
      go_wp2
      go_ret
      exact ⟨rfl, HB2.out⟩
    | false =>
      have hC : C = 1 := by have h := HV.out; have h2 : ¬ isVw vs := fun h => (by have := HRr.out.2 h; cases this); simpa [h2] using h
      subst hC
      clear HRr
      go_wp2
      go_ret
      exact ⟨rfl, HB2.out⟩
  · have hC : C = p := by rw [HV.out, if_neg h0]
    subst hC
    go_enter Tryz.func50, Tryz.ntmps50
    go_wp2_with fail
    refine HU.out.mono ?_
    rintro e w1 ⟨rfl, hb1⟩
    have HB1 := hide hb1
    clear hb1
    go_wp2
    go_ret
    exact ⟨rfl, HB1.out⟩

end Go.Proofs.YtlmaopljihbdkaaGreat
/- Chapter 11: what differs between two views ('DiffPuts'): the mathematics; a map that is looked into. -/
namespace Go.Proofs.YtlmaopljihbdkaaGreat
open Go.RowKit Go.Maps

/-- What a list of puts leaves. -/
def lkP (ps : List (Int × List Int)) : Int → List Int := ps.foldl putM fun _ => []
/-- Does a put of the image change what is there? -/
def dfQ (vs : List (Int × List Int)) (p : Int × List Int) : Bool := decide (lkP vs p.1 ≠ p.2)
/-- Is a block taken away? -/
def goneQ (vs ps : List (Int × List Int)) (a : Int) : Bool := decide (lkP vs a ≠ []) && decide (lkP ps a = [])
def dfB (vs ps : List (Int × List Int)) (k : Nat) : List (Int × List Int) := ((([0, 1] : List Int).take k).filter (goneQ vs ps)).map fun a => (a, [])
/-- What differs. -/
def dfL (vs ps : List (Int × List Int)) : List (Int × List Int) := ps.filter (dfQ vs) ++ dfB vs ps 2
def dfC (vs ps : List (Int × List Int)) : Int := if vF vs = 0 then (if vF ps = 0 then (if 12 < (dfL vs ps).length then 2 else 0) else vF ps) else vF vs
def dfR (vs ps : List (Int × List Int)) : List (Int × List Int) := if dfC vs ps = 0 then dfL vs ps else []

theorem filt_at {α : Type} (f : α → Bool) (d : α) (L : List α) (i : Nat) (hi : i < L.length) (h : f (L.getD i d) = true) :
    ((L.take i).filter f).length < (L.filter f).length ∧ (L.filter f).getD ((L.take i).filter f).length d = L.getD i d ∧ ((L.take (i + 1)).filter f).length = ((L.take i).filter f).length + 1 := by
  have hg : L.getD i d = L[i] := by simp [List.getD, hi]
  rw [hg] at h ⊢
  have h1 : L.take (i + 1) = L.take i ++ [L[i]] := List.take_succ_eq_append_getElem hi
  have h2 : L = L.take i ++ [L[i]] ++ L.drop (i + 1) := by rw [← h1, List.take_append_drop]
  have h3 : L.filter f = (L.take i).filter f ++ [L[i]] ++ (L.drop (i + 1)).filter f := by
    conv => lhs; rw [h2]
    rw [List.filter_append, List.filter_append]
    simp [h]
  refine ⟨by rw [h3]; simp, ?_, by rw [h1, List.filter_append]; simp [h]⟩
  rw [h3]
  simp [List.getD]
theorem filt_no {α : Type} (f : α → Bool) (d : α) (L : List α) (i : Nat) (hi : i < L.length) (h : f (L.getD i d) = false) : ((L.take (i + 1)).filter f).length = ((L.take i).filter f).length := by
  have hg : L.getD i d = L[i] := by simp [List.getD, hi]
  rw [hg] at h
  rw [List.take_succ_eq_append_getElem hi, List.filter_append]
  simp [h]
theorem dfL_at {vs ps : List (Int × List Int)} {i : Nat} (hi : i < ps.length) (h : dfQ vs (ps.getD i (0, [])) = true) :
    ((ps.take i).filter (dfQ vs)).length < (dfL vs ps).length ∧ (dfL vs ps).getD ((ps.take i).filter (dfQ vs)).length (0, []) = ps.getD i (0, []) := by
  obtain ⟨h1, h2, _⟩ := filt_at (dfQ vs) (0, []) ps i hi h
  unfold dfL
  refine ⟨by rw [List.length_append]; omega, ?_⟩
  rw [← h2]
  simp only [List.getD]
  rw [List.getElem?_append_left h1]
theorem dfB_step (vs ps : List (Int × List Int)) (k : Nat) (hk : k < 2) : (dfB vs ps (k + 1)).length = (dfB vs ps k).length + (if goneQ vs ps (k : Int) then 1 else 0) ∧ (goneQ vs ps (k : Int) = true → (dfB vs ps k).length < (dfB vs ps 2).length ∧ (dfB vs ps 2).getD (dfB vs ps k).length (0, []) = ((k : Int), [])) := by
  unfold dfB
  rcases (by omega : k = 0 ∨ k = 1) with rfl | rfl
  · cases h0 : goneQ vs ps 0 <;> cases h1 : goneQ vs ps 1 <;> simp [h0, h1]
  · cases h0 : goneQ vs ps 0 <;> cases h1 : goneQ vs ps 1 <;> simp [h0, h1]
theorem dfL_gone {vs ps : List (Int × List Int)} {k : Nat} (hk : k < 2) (h : goneQ vs ps (k : Int) = true) :
    (ps.filter (dfQ vs)).length + (dfB vs ps k).length < (dfL vs ps).length ∧ (dfL vs ps).getD ((ps.filter (dfQ vs)).length + (dfB vs ps k).length) (0, []) = ((k : Int), []) := by
  obtain ⟨h1, h2⟩ := (dfB_step vs ps k hk).2 h
  unfold dfL
  refine ⟨by rw [List.length_append]; omega, ?_⟩
  rw [← h2]
  simp only [List.getD]
  rw [List.getElem?_append_right (by omega), Nat.add_sub_cancel_left]

theorem zeroWordsAt (w : World) : (zeroValue 22).run Tryz.prog w = .ok (.slice none 0 0) w := by kernel_rfl
/-- A block is looked up in such a map. -/
theorem SeenS.look {S : Nat → Prop} {w : World} {B n : Nat} {M : Int → List Int} (h : SeenS S w B n M) {a : Int} (h0 : 0 ≤ a) (h1 : a < 40) :
    ∃ v, (∀ w' : World, w'.heap[B]? = w.heap[B]? → (Instr.lookup 93 (.map (some B)) (.int .i64 a) false).run Tryz.prog w' = .ok v w') ∧ RdI S w v (M a) := by
  obtain ⟨D, hown, hD, _⟩ := h
  obtain ⟨v, hv, hr⟩ := hD a h0 h1
  refine ⟨v, fun w' hw => ?_, hr⟩
  have hown' : w'.ownsMap Tryz.prog 2 asIs B n D := by
    obtain ⟨es, clock, hb, F, hs, hDD⟩ := hown
    exact ⟨es, clock, hw.trans hb, F, hs, hDD⟩
  have hkey : keyOf Tryz.prog 2 (.int .i64 a) = some (.int .i64 a) := keyOf_int_mk Tryz.underlying2 (WalkArith.wf_i64 (by omega))
  obtain ⟨v', p', hrun, hv'⟩ := hown'.lookup lawI64 Tryz.underlying93 (zeroWordsAt w') (zd := .held (.slice none 0 0)) (zp := []) rfl hkey
  rw [hv] at hv'
  have e : v' = v := by
    simp only [asIs, Option.some.injEq, Prod.mk.injEq, DataW.held.injEq] at hv'
    exact hv'.1
  rw [← e]
  exact hrun
end Go.Proofs.YtlmaopljihbdkaaGreat
/- Chapter 11: the blocks of a store: no two at one place, none without words; sorted by their places they are a view. -/
namespace Go.Proofs.YtlmaopljihbdkaaGreat
open Go.RowKit

/-- All blocks of a store, as they are told. -/
def stP (r : Rf) : List (Int × List Int) := flP r ++ meP r ++ snP r ++ enP r

/-- What is known of puts that are an image in some order. -/
structure Laid (L : List (Int × List Int)) : Prop where
  other : L.Pairwise fun a b => a.1 ≠ b.1
  room : ∀ x, x ∈ L → 0 ≤ x.1 ∧ x.1 < 40
  some : ∀ x, x ∈ L → x.2 ≠ []

theorem Laid.mem {L : List (Int × List Int)} (h : Laid L) (x : Int × List Int) : x ∈ viewTo (lkP L) 40 ↔ x ∈ L := by
  have hinj : ∀ i j, i < L.length → j < L.length → i < j → (L.getD i (0, [])).1 ≠ (L.getD j (0, [])).1 := fun i j hi hj hij => by
    have := List.pairwise_iff_getElem.1 h.other i j hi hj hij
    simpa [List.getD, hi, hj] using this
  rw [view_mem]
  unfold lkP
  constructor
  · rintro ⟨h1, h2, h3, h4⟩
    by_cases hex : ∃ i, i < L.length ∧ (L.getD i (0, [])).1 = x.1
    · obtain ⟨i, hi, hix⟩ := hex
      have hl := foldl_last (qs := L) (M := fun _ => []) (a := x.1) (i := i) hi hix (fun j h1 h2 => by have := hinj i j hi h2 h1; omega)
      have e : L.getD i (0, []) = L[i] := by simp [List.getD, hi]
      have : x = L[i] := by
        rw [← e]
        exact Prod.ext hix.symm (h4.trans hl)
      rw [this]
      exact List.getElem_mem hi
    · have := foldl_none (qs := L) (M := fun _ => []) (a := x.1) (fun i hi e => hex ⟨i, hi, e⟩)
      rw [this] at h4
      exact absurd h4 h3
  · intro hx
    have hr := h.room x hx
    have hs := h.some x hx
    obtain ⟨i, hi, rfl⟩ := List.getElem_of_mem hx
    have e : L.getD i (0, []) = L[i] := by simp [List.getD, hi]
    have hl := foldl_last (qs := L) (M := fun _ => []) (a := L[i].1) (i := i) hi (by rw [e]) (fun j h1 h2 => by have := hinj i j hi h2 h1; rw [e] at this; omega)
    rw [e] at hl
    exact ⟨hr.1, hr.2, hs, hl.symm⟩
/-- The view is the image in another order. -/
theorem Laid.perm {L : List (Int × List Int)} (h : Laid L) : (viewTo (lkP L) 40).Perm L := by
  have n1 : (viewTo (lkP L) 40).Nodup := (view_lt (lkP L) 40).imp (fun h e => by rw [e] at h; omega)
  have n2 : L.Nodup := h.other.imp (fun h e => h (by rw [e]))
  exact (List.perm_ext_iff_of_nodup n1 n2).2 h.mem
/-- Sorted by its places it is the view. -/
theorem Laid.sorted {L M : List (Int × List Int)} (h : Laid L) (hp : M.Perm L) (hs : M.Pairwise fun a b => a.1 ≤ b.1) : M = viewTo (lkP L) 40 := by
  have ho : M.Pairwise fun a b => a.1 ≠ b.1 := (hp.pairwise_iff (fun {a b} h => Ne.symm h)).2 h.other
  have hl : M.Pairwise fun a b => a.1 < b.1 := (hs.and ho).imp (fun h => by omega)
  exact rising_eq hl (view_lt _ _) (fun x => by rw [h.mem]; exact hp.mem_iff)

theorem frB_none : frB [] = allB := by decide
theorem sb_take (r : Rf) (hl : r.sn.length ≤ 40) : ∃ k, k ≤ 5 ∧ sbL r = allB.take k := by
  unfold sbL
  split
  · exact ⟨0, by omega, rfl⟩
  · refine ⟨(nbF r.sn.length).toNat, ?_, by unfold tbL; rw [frB_none]⟩
    have := nb_bound hl
    omega
theorem sb_map (r : Rf) (hl : r.sn.length ≤ 40) : mapF (sbL r) = 0 := by
  obtain ⟨k, hk, e⟩ := sb_take r hl
  rw [e]
  rcases (by omega : k = 0 ∨ k = 1 ∨ k = 2 ∨ k = 3 ∨ k = 4 ∨ k = 5) with rfl | rfl | rfl | rfl | rfl | rfl <;> decide
theorem sf_fil (r : Rf) (hl : r.sn.length ≤ 40) : filF (sfL r) = 0 := by
  rw [filF_iff]
  unfold sfL
  split
  · exact ⟨by simp, by simp, by simp, by simp [blksF]⟩
  · rename_i h0
    obtain ⟨k, hk, e⟩ := sb_take r hl
    have hb := sbL_some hl
    have hn := nb_bound hl
    unfold sbL at e hb
    rw [if_neg h0] at e hb
    have hlen : (((tbL [] (nbF r.sn.length)).length : Nat) : Int) = nbF r.sn.length := by
      unfold tbL nbF
      rw [frB_none, List.length_take, show allB.length = 20 by decide]
      unfold nbF at hn
      omega
    refine ⟨by simp, fun p hp => ?_, by simp, ?_⟩
    · obtain rfl : p = (2, (r.sn.length : Int), tbL [] (nbF r.sn.length)) := by simpa using hp
      refine oneF_iff.2 ⟨⟨by simp, by simp; omega⟩, hlen, ?_⟩
      show (tbL [] (nbF r.sn.length)).all inB = true
      rw [e]
      rcases (by omega : k = 0 ∨ k = 1 ∨ k = 2 ∨ k = 3 ∨ k = 4 ∨ k = 5) with rfl | rfl | rfl | rfl | rfl | rfl <;> decide
    · simp only [blksF, List.append_nil]
      rw [e]
      exact List.Nodup.sublist (List.take_sublist _ _) (by decide)
theorem sb_room {r : Rf} (hl : r.sn.length ≤ 40) {a : Int} (ha : a ∈ sbL r) : 3 ≤ a ∧ a ≤ 22 := by
  obtain ⟨k, hk, e⟩ := sb_take r hl
  rw [e] at ha
  have h2 := List.mem_of_mem_take ha
  have : ∀ a ∈ allB, 3 ≤ a ∧ a ≤ 22 := by decide
  exact this a h2
theorem sb_other {r : Rf} (hl : r.sn.length ≤ 40) : (sbL r).Pairwise fun a b => a ≠ b := by
  obtain ⟨k, hk, e⟩ := sb_take r hl
  rw [e]
  exact List.Pairwise.sublist (List.take_sublist _ _) (by decide)

theorem sn_map (r : Rf) : (snP r).map Prod.fst = sbL r := by
  unfold snP
  rw [List.map_map]
  refine List.ext_getElem (by simp) fun i h1 h2 => ?_
  simp only [List.getElem_map, List.getElem_range, Function.comp]
  simp [List.getD, h2]
theorem sn_some {r : Rf} (hl : r.sn.length ≤ 40) {x : Int × List Int} (hx : x ∈ snP r) : (3 ≤ x.1 ∧ x.1 ≤ 22) ∧ x.2 ≠ [] := by
  refine ⟨sb_room hl (by rw [← sn_map r]; exact List.mem_map_of_mem hx), ?_⟩
  unfold snP at hx
  obtain ⟨k, hk, rfl⟩ := List.mem_map.1 hx
  have hk := List.mem_range.1 hk
  have hb := (sbL_some hl).2.1
  intro h0
  have := congrArg List.length h0
  simp only [List.length_take, List.length_drop, List.length_nil] at this
  omega
theorem en_at {fs : List Oj} (h : logF fs = 0) : ∀ (d i : Nat), i + d < fs.length → (fs.getD (i + d) oj0).1 = (fs.getD i oj0).1 + (d : Int) := by
  obtain ⟨_, _, h3⟩ := logF_iff.1 h
  intro d
  induction d with
  | zero => intro i _; simp
  | succ d ih =>
    intro i hi
    have h1 := ih i (by omega)
    have h2 := (h3 (i + d) (by omega)).1
    rw [show i + (d + 1) = i + d + 1 by omega, h2, h1]
    omega
theorem en_some {r : Rf} (h : logF r.lg = 0) {x : Int × List Int} (hx : x ∈ enP r) : (24 ≤ x.1 ∧ x.1 ≤ 37) ∧ x.2 ≠ [] := by
  unfold enP at hx
  obtain ⟨p, hp, rfl⟩ := List.mem_map.1 hx
  obtain ⟨i, hi, rfl⟩ := List.getElem_of_mem hp
  have he := (logF_iff.1 h).2.1 i hi
  rw [show r.lg.getD i oj0 = r.lg[i] by simp [List.getD, hi]] at he
  have hz := (entF_zero he).1.1
  unfold sfV peR
  rw [if_pos hz, if_pos he]
  refine ⟨⟨by omega, by omega⟩, by simp [pkE]⟩
theorem en_other {r : Rf} (h : logF r.lg = 0) : (enP r).Pairwise fun a b => a.1 ≠ b.1 := by
  unfold enP
  rw [List.pairwise_map, List.pairwise_iff_getElem]
  intro i j hi hj hij
  have h14 := (logF_iff.1 h).1
  have h1 := en_at h (j - i) i (by omega)
  rw [show i + (j - i) = j by omega] at h1
  have hei := (logF_iff.1 h).2.1 i hi
  have hej := (logF_iff.1 h).2.1 j hj
  rw [show r.lg.getD i oj0 = r.lg[i] by simp [List.getD, hi]] at hei h1
  rw [show r.lg.getD j oj0 = r.lg[j] by simp [List.getD, hj]] at hej h1
  have hzi := (entF_zero hei).1.1
  have hzj := (entF_zero hej).1.1
  unfold sfV
  rw [if_pos hzi, if_pos hzj, h1]
  omega

theorem fl_some {r : Rf} (hl : r.sn.length ≤ 40) {x : Int × List Int} (hx : x ∈ flP r) : (0 ≤ x.1 ∧ x.1 ≤ 1) ∧ x.2 ≠ [] := by
  unfold flP at hx
  split at hx
  · simp at hx
  · have h1 : pmR (sbL r) ≠ [] := by unfold pmR; rw [if_pos (sb_map r hl)]; simp [pkL]
    have h2 : pdR (sfL r) ≠ [] := by unfold pdR; rw [if_pos (sf_fil r hl)]; simp [pkF]
    simp only [List.mem_cons, List.not_mem_nil, or_false] at hx
    rcases hx with rfl | rfl
    · exact ⟨⟨by simp, by simp⟩, h1⟩
    · exact ⟨⟨by simp, by simp⟩, h2⟩
theorem fl_other (r : Rf) : (flP r).Pairwise fun a b => a.1 ≠ b.1 := by
  unfold flP
  split <;> simp
/-- The blocks of a store without a fault. -/
theorem st_laid {r : Rf} (h : rfF r = 0) : Laid (stP r) := by
  have hr := rfF_iff.1 h
  have hl := daF_len hr.da
  have me : ∀ x, x ∈ meP r → x.1 = 2 ∧ x.2 ≠ [] := fun x hx => by
    obtain rfl : x = _ := by simpa [meP] using hx
    exact ⟨rfl, by simp⟩
  refine ⟨?_, fun x hx => ?_, fun x hx => ?_⟩
  · unfold stP
    rw [List.pairwise_append, List.pairwise_append, List.pairwise_append]
    refine ⟨⟨⟨fl_other r, by simp [meP], fun a ha b hb => ?_⟩, ?_, fun a ha b hb => ?_⟩, en_other hr.lo, fun a ha b hb => ?_⟩
    · have h1 := (fl_some hl ha).1
      have h2 := (me b hb).1
      omega
    · have := sb_other (r := r) hl
      rw [← sn_map r, List.pairwise_map] at this
      exact this
    · have h2 := (sn_some hl hb).1
      rcases List.mem_append.1 ha with ha | ha
      · have h1 := (fl_some hl ha).1; omega
      · have h1 := (me a ha).1; omega
    · have h2 := (en_some hr.lo hb).1
      rcases List.mem_append.1 ha with ha | ha
      · rcases List.mem_append.1 ha with ha | ha
        · have h1 := (fl_some hl ha).1; omega
        · have h1 := (me a ha).1; omega
      · have h1 := (sn_some hl ha).1; omega
  · unfold stP at hx
    rcases List.mem_append.1 hx with hx | hx
    · rcases List.mem_append.1 hx with hx | hx
      · rcases List.mem_append.1 hx with hx | hx
        · have h1 := (fl_some hl hx).1; omega
        · have h1 := (me x hx).1; omega
      · have h1 := (sn_some hl hx).1; omega
    · have h1 := (en_some hr.lo hx).1; omega
  · unfold stP at hx
    rcases List.mem_append.1 hx with hx | hx
    · rcases List.mem_append.1 hx with hx | hx
      · rcases List.mem_append.1 hx with hx | hx
        · exact (fl_some hl hx).2
        · exact (me x hx).2
      · exact (sn_some hl hx).2
    · exact (en_some hr.lo hx).2
end Go.Proofs.YtlmaopljihbdkaaGreat
/- Chapter 8: copies of files, and where a file of a name lies; both sides walked. -/
namespace Go.Proofs.YtlmaopljihbdkaaGreat
open Go.RowKit

theorem set3_fi {w : World} {b h o : Nat} {x y z : Value} (hb : b ≠ h) : (((w.setCell ⟨h, 0, none⟩ x).setCell ⟨h, 1, none⟩ y).setCell ⟨h, 2, none⟩ z).cell? ⟨b, o, none⟩ = w.cell? ⟨b, o, none⟩ := by
  rw [World.cell?_setCell_other _ _ _ _ (by intro e; injection e with e1 _; exact hb e1.symm), World.cell?_setCell_other _ _ _ _ (by intro e; injection e with e1 _; exact hb e1.symm), World.cell?_setCell_other _ _ _ _ (by intro e; injection e with e1 _; exact hb e1.symm)]
/-- The k-th file is the first one of the name a. -/
def AtF (fs : List Oj) (a : Int) (k : Nat) : Prop := k < fs.length ∧ (fs.getD k oj0).1 = a ∧ ∀ j, j < k → (fs.getD j oj0).1 ≠ a
def NoF (fs : List Oj) (a : Int) : Prop := ∀ j, j < fs.length → (fs.getD j oj0).1 ≠ a
theorem at_or_no (fs : List Oj) (a : Int) : (∃ k, AtF fs a k) ∨ NoF fs a := by
  by_cases h : ∃ k, k < fs.length ∧ (fs.getD k oj0).1 = a
  · left
    obtain ⟨k, hk⟩ := h
    induction k using Nat.strongRecOn with
    | _ k ih =>
      by_cases h2 : ∃ j, j < k ∧ (fs.getD j oj0).1 = a
      · obtain ⟨j, hj, ha⟩ := h2
        exact ih j hj ⟨by omega, ha⟩
      · exact ⟨k, hk.1, hk.2, fun j hj ha => h2 ⟨j, hj, ha⟩⟩
  · right
    exact fun j hj ha => h ⟨j, hj, ha⟩

end Go.Proofs.YtlmaopljihbdkaaGreat
/- Chapter 8: 'FileAt' of both sides, walked. -/
namespace Go.Proofs.YtlmaopljihbdkaaGreat
open Go.RowKit

def hasF (fs : List Oj) (a : Int) : Bool := fs.any (fun p => p.1 == a)
theorem hasF_at {fs : List Oj} {a : Int} {k : Nat} (h : AtF fs a k) : hasF fs a = true := by
  unfold hasF
  rw [List.any_eq_true]
  refine ⟨fs[k]'h.1, List.getElem_mem _, ?_⟩
  have := h.2.1
  simp only [List.getD, List.getElem?_eq_getElem h.1, Option.getD_some] at this
  simpa using this
theorem hasF_no {fs : List Oj} {a : Int} (h : NoF fs a) : hasF fs a = false := by
  unfold hasF
  rw [List.any_eq_false]
  intro p hp
  obtain ⟨i, hi, rfl⟩ := List.mem_iff_getElem.1 hp
  have := h i hi
  simp only [List.getD, List.getElem?_eq_getElem hi, Option.getD_some] at this
  simpa using this
/-- The code of what asks for a file of a name. -/
def faC (fs : List Oj) (a : Int) : Int := if filF fs = 0 then (if hasF fs a = true then 0 else 4) else filF fs
def faR (fs : List Oj) (a : Int) : List Oj := if filF fs = 0 then fs.filter (fun p => p.1 == a) else []
theorem faC_at {fs : List Oj} {a : Int} {k : Nat} (h : AtF fs a k) (h0 : filF fs = 0) : faC fs a = 0 := by unfold faC; rw [if_pos h0, if_pos (hasF_at h)]
theorem faC_no {fs : List Oj} {a : Int} (h : NoF fs a) (h0 : filF fs = 0) : faC fs a = 4 := by unfold faC; rw [if_pos h0, if_neg (by rw [hasF_no h]; decide)]
theorem faC_bad {fs : List Oj} {a : Int} (h0 : filF fs ≠ 0) : faC fs a = filF fs := by unfold faC; rw [if_neg h0]
theorem filter_no {fs : List Oj} {a : Int} (h : NoF fs a) : fs.filter (fun p => p.1 == a) = [] := by
  rw [List.filter_eq_nil_iff]
  intro p hp hpa
  have := hasF_no h
  unfold hasF at this
  rw [List.any_eq_false] at this
  exact this p hp hpa
theorem filter_at : ∀ {fs : List Oj} {a : Int} {k : Nat}, fs.Pairwise (fun p q => p.1 < q.1) → AtF fs a k → fs.filter (fun p => p.1 == a) = [fs.getD k oj0]
  | [], a, k, _, h => absurd h.1 (Nat.not_lt_zero _)
  | p :: r, a, 0, hu, h => by
    have e : p.1 = a := h.2.1
    have hr : r.filter (fun p => p.1 == a) = [] := by
      rw [List.filter_eq_nil_iff]
      intro q hq hqa
      have h1 := (List.pairwise_cons.1 hu).1 q hq
      have h2 : q.1 = a := by simpa using hqa
      omega
    simp [e, hr]
  | p :: r, a, k + 1, hu, h => by
    have e : p.1 ≠ a := h.2.2 0 (by omega)
    have h' : AtF r a k := ⟨by have := h.1; simp at this; omega, by simpa using h.2.1, fun j hj => by simpa using h.2.2 (j + 1) (by omega)⟩
    have := filter_at (List.pairwise_cons.1 hu).2 h'
    rw [List.filter_cons_of_neg (by simpa using e), this]
    simp
theorem faR_at {fs : List Oj} {a : Int} {k : Nat} (h : AtF fs a k) (h0 : filF fs = 0) : faR fs a = [fs.getD k oj0] := by unfold faR; rw [if_pos h0, filter_at (filF_iff.1 h0).up h]
theorem faR_no {fs : List Oj} {a : Int} (h : NoF fs a) (h0 : filF fs = 0) : faR fs a = [] := by unfold faR; rw [if_pos h0, filter_no h]
theorem faR_bad {fs : List Oj} {a : Int} (h0 : filF fs ≠ 0) : faR fs a = [] := by unfold faR; rw [if_neg h0]
theorem tot_small : ∀ {gs : List Oj}, (∀ p, p ∈ gs → p.2.2.length ≤ 5) → totJ gs gs.length ≤ gs.length * 7 := by
  intro gs h
  unfold totJ
  rw [List.take_length]
  induction gs with
  | nil => simp
  | cons p r ih =>
    have h1 := h p (by simp)
    have h2 := ih (fun q hq => h q (by simp [hq]))
    simp only [List.map_cons, List.sum_cons, List.length_cons]
    omega
theorem tot_sub {fs gs : List Oj} (h0 : filF fs = 0) (hs : ∀ p, p ∈ gs → p ∈ fs) (hl : gs.length ≤ 5) : totJ gs gs.length ≤ 1048576 := by
  have hi := filF_iff.1 h0
  have := tot_small (gs := gs) (fun p hp => oneF_len (hi.one p (hs p hp)))
  omega
theorem faR_tot (fs : List Oj) (a : Int) : totJ (faR fs a) (faR fs a).length ≤ 1048576 := by
  by_cases h0 : filF fs = 0
  · unfold faR
    rw [if_pos h0]
    refine tot_sub h0 (fun p hp => (List.mem_filter.1 hp).1) ?_
    have := List.length_filter_le (fun p : Oj => p.1 == a) fs
    have := (filF_iff.1 h0).len
    omega
  · rw [faR_bad h0]; simp [totJ]
theorem one_len {fs : List Oj} (h0 : filF fs = 0) {k : Nat} (hk : k < fs.length) : (fs.getD k oj0).2.2.length ≤ 5 := by
  refine oneF_len ((filF_iff.1 h0).one _ ?_)
  simp only [List.getD, List.getElem?_eq_getElem hk, Option.getD_some]
  exact List.getElem_mem _
/-- One file alone, in a block of its own. -/
theorem ow_one {w : World} {B : Nat} {a s : Int} {z : Value} {xs : List Int} {t : TypeId} (ho : OwI B w z xs) (hB : B ≤ w.heap.size) :
    OwJ (fun b => B ≤ b ∧ b < w.heap.size + 1) (w.alloc (.cells #[.int .i64 a, .int .i64 s, z] t)) (.slice (some ⟨w.heap.size, 0, none⟩) 1 1) [(a, s, xs)] := by
  have bA := below_alloc w (.cells #[.int .i64 a, .int .i64 s, z] t)
  obtain ⟨b, h1, h2⟩ := ho
  refine ⟨_, 1, w.heap.size, 0, fun _ => z, fun _ => b, rfl, by simp, fun _ => ⟨rfl, ⟨hB, by omega⟩, fun o => by simp [go_sem]⟩, fun i hi => ?_⟩
  have : i = 0 := by simp at hi; omega
  subst this
  refine ⟨by simp [go_sem], by simp [go_sem], by simp [go_sem], h1.later bA, fun hn => ?_⟩
  obtain ⟨k1, k2, k3⟩ := h2 (by simpa using hn)
  dsimp only
  exact ⟨⟨k1, by omega⟩, by omega, fun o => ((bcell bA).2 _ _ k2).trans (k3 o), fun j hj _ _ => by simp at hj; omega⟩

theorem RdJ.part1 {S : Nat → Prop} {w : World} {b off n c d : Nat} {fs : List Oj} (h : RdJ S w (.slice (some ⟨b, off, none⟩) n c) fs) {k : Nat} (hk : k < fs.length) : RdJ S w (.slice (some ⟨b, off + k * 3, none⟩) 1 d) [fs.getD k oj0] := by
  obtain ⟨ao', c', e, hm, h⟩ := h
  injection e with e1 e2 e3
  obtain ⟨b2, off2, V, e4, hs, hc⟩ := h (by rintro rfl; exact absurd hk (Nat.not_lt_zero _))
  rw [← e1] at e4
  injection e4 with e4
  injection e4 with e5 e6
  subst e5 e6
  refine ⟨_, d, rfl, by simp, fun _ => ⟨b, off + k * 3, fun _ => V k, rfl, hs, fun i hi => ?_⟩⟩
  have : i = 0 := by simp at hi; omega
  subst this
  simpa using hc k hk

end Go.Proofs.YtlmaopljihbdkaaGreat
