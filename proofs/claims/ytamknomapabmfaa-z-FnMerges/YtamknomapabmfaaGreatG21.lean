/- PlanI PlanP HomeF PlanP2 PlanP3 ApTs Own3 Behind in one text: what each says stands at its head below. -/
import Derived.Test.YtamknomapabmfaaGreatG15
import Derived.Test.YtamknomapabmfaaGreatG20
import Derived.Test.YtamknomapabmfaaGreatG04
import Derived.Test.YtamknomapabmfaaGreatG16
import Derived.Test.YtamknomapabmfaaGreatG07
import Derived.Test.YtamknomapabmfaaGreatG05
/- Chapter 3, the program's side: the steps of an install: its closure, 'stepsOf' over addresses, walked. -/
namespace Go.Proofs.YtamknomapabmfaaGreat
open Go.RowKit

theorem Tryz.infoStep : (Tryz.prog.info? 115).map (fun i => (i.zero, i.size, i.bytes)) = some (some (.agg #[.bool false, .int .i64 0, .slice none 0 0]), 3, 40) := by kernel_rfl
theorem set3_away {w : World} {b h o : Nat} {x y z : Value} (hb : b ≠ h) : (((w.setCell ⟨h, 0, none⟩ x).setCell ⟨h, 1, none⟩ y).setCell ⟨h, 2, none⟩ z).cell? ⟨b, o, none⟩ = w.cell? ⟨b, o, none⟩ := by
  rw [World.cell?_setCell_other _ _ _ _ (by intro e; injection e with e1 _; exact hb e1.symm), World.cell?_setCell_other _ _ _ _ (by intro e; injection e with e1 _; exact hb e1.symm), World.cell?_setCell_other _ _ _ _ (by intro e; injection e with e1 _; exact hb e1.symm)]

/-- The end of a function that stores a step into its result's variable. -/
theorem ret_step {w w3 : World} {B r : Nat} {z x y : Value} {xs : List Int} (hb : Below w.heap.size w w3) (hr : w.heap.size ≤ r) (ho : OwI B w3 z xs) (hB : r < B) :
    Below w.heap.size w (((w3.setCell ⟨r, 0, none⟩ x).setCell ⟨r, 1, none⟩ y).setCell ⟨r, 2, none⟩ z) ∧ OwI B (((w3.setCell ⟨r, 0, none⟩ x).setCell ⟨r, 1, none⟩ y).setCell ⟨r, 2, none⟩ z) z xs := by
  have hw : Wr (fun y => y = r) w3 (((w3.setCell ⟨r, 0, none⟩ x).setCell ⟨r, 1, none⟩ y).setCell ⟨r, 2, none⟩ z) := (((Wr.refl (fun y => y = r) _).setCell (p := ⟨r, 0, none⟩) rfl _).setCell (p := ⟨r, 1, none⟩) rfl _).setCell (p := ⟨r, 2, none⟩) rfl _
  exact ⟨((hb.setCell (p := ⟨r, 0, none⟩) hr _).setCell (p := ⟨r, 1, none⟩) hr _).setCell (p := ⟨r, 2, none⟩) hr _, ho.wr hw (fun b h1 _ e => by omega)⟩

end Go.Proofs.YtamknomapabmfaaGreat
/- Chapter 3, the program's side: the steps of an append: 'stepsOf' over puts, walked. -/
namespace Go.Proofs.YtamknomapabmfaaGreat
open Go.RowKit
end Go.Proofs.YtamknomapabmfaaGreat
/- Puts into homes, the program's side: 'homePutsFault', walked. -/
namespace Go.Proofs.YtamknomapabmfaaGreat
open Go.RowKit

/-- The fault of puts that go into homes. -/
def hpF (most : Nat) (ps : List (Int × List Int)) : Int := if most < ps.length then 2 else firstP 40 ps

set_option maxHeartbeats 1000000 in
set_option maxRecDepth 4000 in
theorem homePutsFault {T : Nat → Prop} {w : World} {v : Value} {ps : List (Int × List Int)} (most : Nat) (hv : RdP T w v ps) :
    Calls Tryz.prog 53 #[v, .int .i64 (most : Int)] w fun e w' => e = .returned (.int .i64 (hpF most ps)) ∧ Below w.heap.size w w' := by
  obtain ⟨ao, c, rfl, hm'⟩ := hv.shape
  have HV := hide hv
  obtain ⟨m, hm⟩ : ∃ m, ps.length = m := ⟨_, rfl⟩
  have HM := hide hm
  rw [hm] at HV hm' ⊢
  clear hv hm
  by_cases h70 : most < m
  · have HZ := hide (show hpF most ps = 2 by unfold hpF; rw [if_pos (by rw [HM.out]; exact h70)])
    go_enter Tryz.func53, Tryz.ntmps53
    go_wp2
    go_ret
    exact ⟨ret_int HZ.out.symm, Below.refl _ _⟩
  · have HE := hide (show hpF most ps = firstP 40 ps by unfold hpF; rw [if_neg (by rw [HM.out]; exact h70)])
    go_enter Tryz.func53, Tryz.ntmps53
    go_wp2
    go_loopw [14] (fun i wr => ∃ j : Nat, j ≤ m ∧ i = .int .i64 j ∧ Hid (firstP 40 ps = firstP 40 (ps.drop j)) ∧ Hid (Below w.heap.size w wr)) (fun i _ => m - (intOf i).toNat)
    case atStart => exact ⟨0, Nat.zero_le _, rfl, by simp [Hid], Below.refl _ _⟩
    case round =>
      obtain ⟨j, hj, rfl, HG, HB2⟩ := hrel
      by_cases hlt2 : j < m
      · obtain ⟨b2, off2, V2, rfl, q1, q2, q3⟩ := HV.out.at (k := j) (by rw [HM.out]; exact hlt2)
        obtain ⟨ao3, c3, rfl⟩ := q3.shape
        have g1 := cell_later HB2.out q1
        have g2 := cell_later HB2.out q2
        have R2 := hide (q3.later HB2.out)
        obtain ⟨x, hx⟩ : ∃ x, (ps.getD j (0, [])).1 = x := ⟨_, rfl⟩
        obtain ⟨l, hl⟩ : ∃ l, (ps.getD j (0, [])).2.length = l := ⟨_, rfl⟩
        have HX := hide hx
        have HL := hide hl
        rw [hx] at g1
        rw [hl] at g2 R2
        clear q1 q2 q3 hx hl
        by_cases hat : 0 ≤ x ∧ x < 40
        · obtain ⟨ha1, ha2⟩ := hat
          have hn1 : ¬ x < 0 := by omega
          have hn2 : ¬ 40 ≤ x := by omega
          by_cases hw : wordsF (ps.getD j (0, [])).2 = 0
          · have HF2 := hide (HG.out.trans (firstP_ok (by rw [HM.out]; exact hlt2) (by rw [HX.out]; exact ⟨ha1, ha2⟩) hw))
            have HW := hide hw
            clear hw
            go_wp2_with fail
            refine (isHome_yes x ha1 ha2 _).mono ?_
            rintro e w' ⟨rfl, rfl⟩
            go_wp2_with fail
            refine (wordsFault (R2.out.later (below_alloc _ _))).mono ?_
            rintro e w' ⟨he, q, rfl⟩
            rw [HW.out] at he
            subst he
            go_wp2
            go_roundw
            case rel => exact ⟨j + 1, by omega, by go_num, HF2.out, below_on HB2.out (below_on (below_alloc _ _) (below_drewN _ q))⟩
            case measure => simp [intOf]; omega
          · have HF2 := hide (HE.out.trans (HG.out.trans (firstP_no (by rw [HM.out]; exact hlt2) (by rw [HX.out]; exact ⟨ha1, ha2⟩) hw)))
            obtain ⟨z, hz⟩ : ∃ z, wordsF (ps.getD j (0, [])).2 = z := ⟨_, rfl⟩
            have HW := hide hz
            rw [hz] at hw
            clear hz
            go_wp2_with fail
            refine (isHome_yes x ha1 ha2 _).mono ?_
            rintro e w' ⟨rfl, rfl⟩
            go_wp2_with fail
            refine (wordsFault (R2.out.later (below_alloc _ _))).mono ?_
            rintro e w' ⟨he, q, rfl⟩
            rw [HW.out] at he
            subst he
            go_wp2
            go_ret
            exact ⟨ret_int (by rw [HF2.out, HW.out]), below_on HB2.out (below_on (below_alloc _ _) (below_drewN _ q))⟩
        · have HZ := hide (HE.out.trans (HG.out.trans (firstP_at (n := 40) (by rw [HM.out]; exact hlt2) (by rw [HX.out]; exact hat))))
          have HA := hide hat
          clear hat
          go_wp2_with fail
          refine (isHome_no x HA.out _).mono ?_
          rintro e w' ⟨rfl, rfl⟩
          go_wp2
          go_ret
          exact ⟨ret_int HZ.out.symm, below_on HB2.out (below_alloc _ _)⟩
      · have HZ := hide (HE.out.trans (HG.out.trans (firstP_end (by rw [HM.out]; omega))))
        go_wp2
        go_ret
        exact ⟨ret_int HZ.out.symm, HB2.out⟩
end Go.Proofs.YtamknomapabmfaaGreat
/- Chapter 3, the program's side: 'homePutsFault' (HomeF) and what the closure of an append stands on. -/
/- Chapter 3, the program's side: the closure of an append, walked. -/
namespace Go.Proofs.YtamknomapabmfaaGreat
open Go.RowKit
end Go.Proofs.YtamknomapabmfaaGreat
/- Chapter 3: the steps of an append, and its codes. -/
namespace Go.Proofs.YtamknomapabmfaaGreat
open Go.RowKit

/-- The steps of an append. -/
def apTs (s t : Int) (A : List Int) (qs : List (Int × List Int)) : List St :=
  ((List.range qs.length).map fun (i : Nat) => ((false, 2 + (t + ((A.length : Int) + (i : Int))) % 24, (qs.getD i (0, [])).2) : St)) ++ [(true, 0, []), (false, (s + 1) % 2, packL (s + 1) t (A ++ qs.map Prod.fst)), (true, 0, [])]
theorem apTs_len (s t : Int) (A : List Int) (qs : List (Int × List Int)) : (apTs s t A qs).length = qs.length + 3 := by simp [apTs]
theorem apTs_at (s t : Int) (A : List Int) (qs : List (Int × List Int)) (i : Nat) (h : i < qs.length) : (apTs s t A qs).getD i st0 = (false, 2 + (t + ((A.length : Int) + (i : Int))) % 24, (qs.getD i (0, [])).2) := by
  unfold apTs
  rw [List.getD, List.getElem?_append_left (by simpa using h)]
  simp [h]
theorem apTs_0 (s t : Int) (A : List Int) (qs : List (Int × List Int)) : (apTs s t A qs).getD qs.length st0 = (true, 0, []) := by
  unfold apTs
  rw [List.getD, List.getElem?_append_right (by simp)]
  simp
theorem apTs_1 (s t : Int) (A : List Int) (qs : List (Int × List Int)) : (apTs s t A qs).getD (qs.length + 1) st0 = (false, (s + 1) % 2, packL (s + 1) t (A ++ qs.map Prod.fst)) := by
  unfold apTs
  rw [List.getD, List.getElem?_append_right (by simp)]
  simp
theorem apTs_2 (s t : Int) (A : List Int) (qs : List (Int × List Int)) : (apTs s t A qs).getD (qs.length + 2) st0 = (true, 0, []) := by
  unfold apTs
  rw [List.getD, List.getElem?_append_right (by simp)]
  simp

theorem hpF_zero {m : Nat} {qs : List (Int × List Int)} (h : hpF m qs = 0) : qs.length ≤ m ∧ ∀ i, i < qs.length → (0 ≤ (qs.getD i (0, [])).1 ∧ (qs.getD i (0, [])).1 < 40) ∧ wordsF (qs.getD i (0, [])).2 = 0 := by
  unfold hpF at h
  by_cases hm : m < qs.length
  · rw [if_pos hm] at h; exact absurd h (by decide)
  · rw [if_neg hm] at h; exact ⟨by omega, firstP_zero h⟩

/-- The header behind an append has no fault. -/
theorem head_behind {s t : Int} {A : List Int} {qs : List (Int × List Int)} (hh : headF s t A = 0) (hs : s < 65000) (hq : hpF 12 qs = 0) (hn : A.length + qs.length ≤ 24) : headF (s + 1) t (A ++ qs.map Prod.fst) = 0 := by
  obtain ⟨⟨h1, _, h3, h4⟩, _, hA⟩ := headF_zero hh
  obtain ⟨_, hQ⟩ := hpF_zero hq
  refine headF_ok ⟨by omega, by omega, h3, h4⟩ (by simp; omega) (fun i hi => ?_)
  by_cases hlt : i < A.length
  · have e : (A ++ qs.map Prod.fst).getD i 0 = A.getD i 0 := by rw [List.getD, List.getD, List.getElem?_append_left hlt]
    rw [e]; exact hA i hlt
  · have hi' : i - A.length < qs.length := by simp at hi; omega
    have e : (A ++ qs.map Prod.fst).getD i 0 = (qs.getD (i - A.length) (0, [])).1 := by
      rw [List.getD, List.getElem?_append_right (by omega)]
      simp [List.getD, hi']
    rw [e]
    have := (hQ _ hi').1
    omega

/-- The code of 'PlanAppend', and its steps. -/
def apF (xss : List (List Int)) (ps qs : List (Int × List Int)) : Int :=
  if inF xss ps = 0 then (if hpF 12 qs = 0 then (if inS xss ps = 65000 then 10 else if qs.length = 0 then 0 else if 24 < (inA xss ps).length + qs.length then 8 else 0) else hpF 12 qs) else inF xss ps
def apT (xss : List (List Int)) (ps qs : List (Int × List Int)) : List St :=
  if inF xss ps = 0 ∧ hpF 12 qs = 0 ∧ inS xss ps ≠ 65000 ∧ qs.length ≠ 0 ∧ (inA xss ps).length + qs.length ≤ 24 then apTs (inS xss ps) (inT xss ps) (inA xss ps) qs else []
end Go.Proofs.YtamknomapabmfaaGreat
/- Copies that may be appended to: 'copyWords' and 'copyHeader' of the program, with the row that they have built. -/
namespace Go.Proofs.YtamknomapabmfaaGreat
open Go.RowKit

theorem owns_shape {w : World} {B e s : Nat} {v : Value} {n : Nat} {xs : List Value} (h : w.ownsRow B e s v n xs) : ∃ ao c, v = .slice ao n c := by
  rcases h.2 with ⟨rfl, rfl⟩ | ⟨g, cap, cur, rfl, _⟩
  · exact ⟨_, _, rfl⟩
  · exact ⟨_, _, rfl⟩
theorem ownsRow_wr3 {w : World} {B e s n r : Nat} {v x y z : Value} {xs : List Value} (h : w.ownsRow B e s v n xs) (hr : r < B) :
    (((w.setCell ⟨r, 0, none⟩ x).setCell ⟨r, 1, none⟩ y).setCell ⟨r, 2, none⟩ z).ownsRow B e s v n xs := by
  have hw : Wr (fun y => y = r) w (((w.setCell ⟨r, 0, none⟩ x).setCell ⟨r, 1, none⟩ y).setCell ⟨r, 2, none⟩ z) := (((Wr.refl (fun y => y = r) _).setCell (p := ⟨r, 0, none⟩) rfl _).setCell (p := ⟨r, 1, none⟩) rfl _).setCell (p := ⟨r, 2, none⟩) rfl _
  obtain ⟨h1, h2⟩ := h
  refine ⟨h1, ?_⟩
  rcases h2 with h2 | ⟨g, cap, cur, hv, hg, hh, q⟩
  · exact Or.inl h2
  · have hne : g ≠ r := by omega
    exact Or.inr ⟨g, cap, cur, hv, hg, by rw [hw.block g (Array.getElem?_eq_some_iff.1 hh).1 (fun e => hne e)]; exact hh, q⟩

/-- 'impl.copyWords' of a reading: the row that it has built. -/
theorem copyWordsOwn {S : Nat → Prop} {w : World} {v : Value} {xs : List Int} (hv : RdI S w v xs) (hm : xs.length ≤ 1048576) :
    Calls Tryz.prog 61 #[v] w fun e w' => ∃ u, e = .returned u ∧ Below w.heap.size w w' ∧ w'.ownsRow w.heap.size 2 1 u xs.length (xs.map (Value.int .i64)) := by
  obtain ⟨ao, c, rfl, hsrc⟩ := hv.src
  obtain ⟨i0, hi, hz0, hz1, hz2⟩ := info_parts Tryz.infoInt
  have HS := hide hsrc
  clear hsrc hv
  go_enter Tryz.func61, Tryz.ntmps61
  go_wp2_with (at_builtin; refine wpList_append_any _ rfl _ _ 24 rfl w.heap.size 2 i0 (.int .i64 0) 1 8 Tryz.underlying24 hi hz0 hz1 hz2 rfl (by decide) _ _ _ rfl (World.ownsRow_nil _ _ _ _) ao xs.length c (xs.map (Value.int .i64)) rfl (by simp) HS.out (ints_oneCell _ _) (by unfold maxLen; omega) (by omega) (Nat.le_refl _) ?_)
  intro v' w1 hown hgrow
  have HO := hide hown
  have HG := hide hgrow
  clear hown hgrow
  go_wp2
  go_ret
  refine ⟨v', rfl, (Below.refl _ _).grown HG.out (Nat.le_refl _) (fun k hk => by cases hk), by simpa using HO.out⟩


end Go.Proofs.YtamknomapabmfaaGreat
/- Chapter 3, the program's side: 'headerBehind', walked. -/
namespace Go.Proofs.YtamknomapabmfaaGreat
open Go.RowKit

theorem ownsRow_base {w : World} {B B' e s n : Nat} {v : Value} {xs : List Value} (h : w.ownsRow B e s v n xs) (hB : B' ≤ B) : w.ownsRow B' e s v n xs := by
  obtain ⟨h1, h2⟩ := h
  refine ⟨h1, ?_⟩
  rcases h2 with h2 | ⟨g, cap, cur, hv, hg, q⟩
  · exact Or.inl h2
  · exact Or.inr ⟨g, cap, cur, hv, by omega, q⟩
theorem ownsRow_wr1 {w : World} {B e s n r o : Nat} {v x : Value} {xs : List Value} (h : w.ownsRow B e s v n xs) (hr : v.ownBlock ≠ some r) : (w.setCell ⟨r, o, none⟩ x).ownsRow B e s v n xs := by
  have hw : Wr (fun y => y = r) w (w.setCell ⟨r, o, none⟩ x) := (Wr.refl (fun y => y = r) _).setCell (p := ⟨r, o, none⟩) rfl _
  obtain ⟨h1, h2⟩ := h
  refine ⟨h1, ?_⟩
  rcases h2 with h2 | ⟨g, cap, cur, hv, hg, hh, q⟩
  · exact Or.inl h2
  · exact Or.inr ⟨g, cap, cur, hv, hg, by rw [hw.block g (Array.getElem?_eq_some_iff.1 hh).1 (fun e => hr (by rw [hv, e]; rfl))]; exact hh, q⟩

/-- What 'headerBehind' keeps while it appends. -/
structure BhAt (w : World) (N : Nat) (s t : Int) (L : List Int) (n : Nat) (ao : Option Addr) (c : Nat) (wr : World) : Prop where
  own : wr.ownsRow (w.heap.size + 2) 2 1 (.slice ao n c) n (L.map (Value.int .i64))
  below : Below w.heap.size w wr
  hd : HdAt wr N 0 s t (.slice ao n c)
  lt : N < wr.heap.size
  fr : ∀ o, wr.frozen? ⟨N, o, none⟩ = false
  ne : (Value.slice ao n c).ownBlock ≠ some N
  r0 : wr.cell? ⟨w.heap.size + 1, 0, none⟩ = some (.int .i64 0)
  r1 : wr.cell? ⟨w.heap.size + 1, 1, none⟩ = some (.int .i64 0)
  r2 : wr.cell? ⟨w.heap.size + 1, 2, none⟩ = some (.slice none 0 0)
  rf : ∀ o, wr.frozen? ⟨w.heap.size + 1, o, none⟩ = false
  rl : w.heap.size + 1 < N
theorem BhAt.step {w wr U w3 : World} {N n c g cap : Nat} {s t x : Int} {L : List Int} {ao : Option Addr} (h : BhAt w N s t L n ao c wr) (hb : Below wr.heap.size wr U)
    (hown : w3.ownsRow (w.heap.size + 2) 2 1 (.slice (some ⟨g, 0, none⟩) (n + 1) cap) (n + 1) ((L.map (Value.int .i64)) ++ [.int .i64 x])) (hg : U.grownBy w3 (Value.slice ao n c).ownBlock) (hat : (Value.slice ao n c).ownBlock = some g ∨ g = U.heap.size) :
    BhAt w N s t (L ++ [x]) (n + 1) (some ⟨g, 0, none⟩) cap (w3.setCell ⟨N, 2, none⟩ (.slice (some ⟨g, 0, none⟩) (n + 1) cap)) := by
  have hz := hb.size
  have hz3 := hg.size
  have hNU : N < U.heap.size := Nat.lt_of_lt_of_le h.lt hz
  have hgN : g ≠ N := by
    rcases hat with e | e
    · intro e2; exact h.ne (by rw [e, e2])
    · have := h.lt; omega
  have hrl := h.rl
  have hgr : (Value.slice ao n c).ownBlock ≠ some (w.heap.size + 1) := fun e => by have := (h.own.lt _ e).1; omega
  have cN : ∀ o, w3.cell? ⟨N, o, none⟩ = wr.cell? ⟨N, o, none⟩ := fun o => (World.cell?_of_block (hg.block N hNU (Ne.symm h.ne))).trans ((bcell hb).1 _ _ h.lt)
  have fN : ∀ o, w3.frozen? ⟨N, o, none⟩ = wr.frozen? ⟨N, o, none⟩ := fun o => (World.frozen?_of_block (hg.block N hNU (Ne.symm h.ne))).trans ((bcell hb).2 _ _ h.lt)
  have hrU : w.heap.size + 1 < U.heap.size := by omega
  have cR : ∀ o, w3.cell? ⟨w.heap.size + 1, o, none⟩ = wr.cell? ⟨w.heap.size + 1, o, none⟩ := fun o => (World.cell?_of_block (hg.block _ hrU (Ne.symm hgr))).trans ((bcell hb).1 _ _ (by have := h.lt; omega))
  have fR : ∀ o, w3.frozen? ⟨w.heap.size + 1, o, none⟩ = wr.frozen? ⟨w.heap.size + 1, o, none⟩ := fun o => (World.frozen?_of_block (hg.block _ hrU (Ne.symm hgr))).trans ((bcell hb).2 _ _ (by have := h.lt; omega))
  have hoth : ∀ b o, b ≠ N ∨ o ≠ 2 → (w3.setCell ⟨N, 2, none⟩ (.slice (some ⟨g, 0, none⟩) (n + 1) cap)).cell? ⟨b, o, none⟩ = w3.cell? ⟨b, o, none⟩ := fun b o hne => World.cell?_setCell_other _ _ _ _ (by intro e; injection e with e1 e2; rcases hne with h1 | h1 <;> simp_all)
  have hNr : w.heap.size + 1 ≠ N := by omega
  refine ⟨?_, ?_, ⟨?_, ?_, ?_⟩, ?_, ?_, ?_, ?_, ?_, ?_, ?_, hrl⟩
  · refine ownsRow_wr1 (by simpa using hown) (by simp [Value.ownBlock]; exact hgN)
  · exact ((below_on h.below hb).grown hg (by omega) (fun r hr => by have := (h.own.lt r hr).1; omega)).setCell (p := ⟨N, 2, none⟩) (by show w.heap.size ≤ N; omega) _
  · rw [hoth _ _ (Or.inr (by omega)), cN]; exact h.hd.seq
  · rw [hoth _ _ (Or.inr (by omega)), cN]; exact h.hd.start
  · have h2 := h.hd.addrs
    simp only [Nat.zero_add] at h2 ⊢
    have := cN 2
    rw [h2] at this
    simp [go_sem, this]
  · simp; omega
  · intro o; simp [go_sem, fN, h.fr]
  · simp [Value.ownBlock]; exact hgN
  · rw [hoth _ _ (Or.inl hNr), cR]; exact h.r0
  · rw [hoth _ _ (Or.inl hNr), cR]; exact h.r1
  · rw [hoth _ _ (Or.inl hNr), cR]; exact h.r2
  · intro o; simp [go_sem, fR, h.rf]

end Go.Proofs.YtamknomapabmfaaGreat
