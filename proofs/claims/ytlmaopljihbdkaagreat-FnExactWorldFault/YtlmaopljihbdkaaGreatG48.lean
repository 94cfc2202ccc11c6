/- Ld6 Im6 Ld7 in one text: what each says stands at its head below. -/
import Derived.Test.YtlmaopljihbdkaaGreatG46
import Derived.Test.YtlmaopljihbdkaaGreatG40
import Derived.Test.YtlmaopljihbdkaaGreatG41
import Derived.Test.YtlmaopljihbdkaaGreatG47
import Derived.Test.YtlmaopljihbdkaaGreatG43
namespace Go.Proofs.YtlmaopljihbdkaaGreat
open Go.RowKit Go.Maps
theorem l11AtP {S : Nat → Prop} {w : World} {v : Value} {ps : List (Int × List Int)} (hv : RdP S w v ps) (a : Int) :
    ∃ z, RdI S w z (lkP ps a) ∧ Calls Tryz.prog 91 #[v, .int .i64 a] w fun e w' => e = .returned z ∧ ∃ q, w' = w.drewN q := by
  obtain ⟨z, h1, h2⟩ := l11AtQ hv a
  exact ⟨z, h1, h2 0⟩
theorem take_step {M : Int → List Int} {xs : List Int} {k : Nat} (h : k < xs.length) : (xs.take (k + 1)).flatMap M = (xs.take k).flatMap M ++ M (xs.getD k 0) := by
  rw [List.take_succ_eq_append_getElem h, List.flatMap_append, getD_atL h]
  simp
set_option maxHeartbeats 4000000 in
set_option maxRecDepth 4000 in
theorem l11WordsP {S T : Nat → Prop} {w : World} {v : Value} {vs : List (Int × List Int)} {b off : Nat} {p : Oj} (hv : RdP S w v vs) (hp : RdFp T w b off p) (hl : p.2.2.length ≤ 64) (hM : ∀ x, x ∈ p.2.2 → (lkP vs x).length ≤ 64) :
    Calls Tryz.prog 93 #[v, .pointer (some ⟨b, off, none⟩)] w fun e w' => ∃ z, e = .returned z ∧ Below w.heap.size w w' ∧ OwI w.heap.size w' z (p.2.2.flatMap (lkP vs)) := by
  obtain ⟨av, cv, rfl, hvm⟩ := hv.shape
  obtain ⟨yb, g0, g1, g2, gy⟩ := hp
  obtain ⟨ab, cb, rfl⟩ := gy.shape
  have hm9 := gy.maxR
  have HV := hide hv
  have HM := hide hM
  obtain ⟨xs, hxs⟩ : ∃ xs, p.2.2 = xs := ⟨_, rfl⟩
  rw [hxs] at g2 gy hm9 hl HM ⊢
  obtain ⟨m, hm⟩ : ∃ m, xs.length = m := ⟨_, rfl⟩
  have HMm := hide hm
  rw [hm] at g2 gy hm9 hl
  have HGy := hide gy
  have HG2 := hide g2
  obtain ⟨n, hn⟩ : ∃ n, vs.length = n := ⟨_, rfl⟩
  rw [hn] at HV hvm ⊢
  obtain ⟨i0, hi, hz0, hz1, hz2⟩ := info_parts Tryz.infoInt
  have HRow0 : Hid ((w.alloc (.cells #[] 2)).ownsRow w.heap.size 2 1 (.slice (some ⟨w.heap.size, 0, none⟩) 0 0) 0 (((xs.take 0).flatMap (lkP vs)).map (Value.int .i64))) := by
    have := World.ownsRow_made (size := 1) (e := 2) (base := w.heap.size) w #[] 0 (Nat.le_refl _) (by unfold maxLen; omega) (by simp)
    show World.ownsRow _ _ _ _ _ _ _
    simpa using this
  have HB0 := hide (below_alloc w (.cells #[] 2))
  clear hv g0 g1 g2 gy hxs hm hM hn
  go_enter Tryz.func93, Tryz.ntmps93
  go_wp2_with fail
  go_loopw [5, 6] (fun z i wr => ∃ (k j : Nat), k ≤ m ∧ i = .int .i64 k ∧ Hid (((xs.take k).flatMap (lkP vs)).length = j) ∧ Hid (wr.ownsRow w.heap.size 2 1 z j (((xs.take k).flatMap (lkP vs)).map (Value.int .i64))) ∧ Hid (Below w.heap.size w wr)) (fun _ i _ => m - (intOf i).toNat)
  case atStart => exact ⟨0, 0, Nat.zero_le _, rfl, by simp [Hid], HRow0.out, HB0.out⟩
  case round =>
    clear HRow0 HB0
    obtain ⟨k, j, hk, rfl, HJ, HRow, HB⟩ := hrel
    rename Value => z
    have g2 := cell_later HB.out HG2.out
    by_cases hlt : k < m
    · have hkx : k < xs.length := by rw [HMm.out]; exact hlt
      obtain ⟨bb, ob, rfl, e0⟩ := (HGy.out.later HB.out).at (k := k) hkx
      have hst := take_step (M := lkP vs) hkx
      have hxm : xs.getD k 0 ∈ xs := by rw [getD_atL hkx]; exact List.getElem_mem hkx
      have hx64 := HM.out _ hxm
      have hjl : j ≤ 4096 := by
        have h1 := ldF_len (M := lkP vs) (xs.take k) fun x hx => HM.out x (List.mem_of_mem_take hx)
        have h2 : (xs.take k).length ≤ 64 := by rw [List.length_take]; omega
        rw [HJ.out] at h1
        omega
      obtain ⟨x, hx⟩ : ∃ x, xs.getD k 0 = x := ⟨_, rfl⟩
      rw [hx] at e0 hst hx64
      obtain ⟨vx, hrx, hcx⟩ := l11AtP (HV.out.later HB.out) x
      obtain ⟨ax, cx, rfl, hsx⟩ := hrx.src
      have HCx := hide hcx
      obtain ⟨lx, hlx⟩ : ∃ l, (lkP vs x).length = l := ⟨_, rfl⟩
      have HLx := hide hlx
      have HRx := hide hrx
      rw [hlx] at hx64 HCx HRx
      have HSt := hide hst
      have hk1 : (k : Int) < (m : Int) := by omega
      have hzb := HB.out.size
      clear hrx hcx hlx hst hx hsx hxm
      go_wp2_with fail
      refine HCx.out.mono ?_
      rintro e w5 ⟨rfl, q, hq⟩
      have hb5 : Below wr.heap.size wr w5 := by rw [hq]; exact below_drewN _ _
      have hrow5 := ownsRow_later HRow.out hb5
      have HRow5 := hide hrow5
      have HB5 := hide (below_on HB.out hb5)
      obtain ⟨a9, c9, e9, hsx⟩ := (HRx.out.later hb5).src
      have e10 : ax = a9 := by injection e9
      subst e10
      rw [HLx.out] at hsx
      have HSx := hide hsx
      have hzb5 := HB5.out.size
      clear hq hb5 hrow5 hsx HCx e9
      go_wp2_with (at_builtin; refine wpList_append_any _ rfl _ _ 22 rfl w.heap.size 2 i0 (.int .i64 0) 1 8 Tryz.underlying22 hi hz0 hz1 hz2 rfl (by decide) _ j _ (by rfl) HRow5.out ax lx cx ((lkP vs x).map (Value.int .i64)) (by rfl) (by simp [HLx.out]) HSx.out (ints_oneCell _ _) (by unfold maxLen; omega) (by omega) (by omega) ?_; intro y2 w7 hown hgrow; obtain ⟨ay2, cy2, rfl⟩ := owns_shapeR hown)
      have HB7 := hide (HB5.out.grown hgrow (by omega) (fun r hr => (HRow5.out.lt r hr).1))
      rw [← List.map_append, ← HSt.out] at hown
      have HRow7 := hide hown
      have HJ7 : Hid (((xs.take (k + 1)).flatMap (lkP vs)).length = j + lx) := by rw [Hid, HSt.out, List.length_append, HJ.out, HLx.out]
      clear hown hgrow
      go_wp2
      go_roundw
      case rel => exact ⟨k + 1, j + lx, hlt, by go_num, HJ7.out, HRow7.out, HB7.out⟩
      case measure => simp [intOf]; omega
    · have hkm : k = m := by omega
      subst hkm
      have hnl : ¬ (k : Int) < (k : Int) := by omega
      have htk : xs.take k = xs := by rw [← HMm.out, List.take_length]
      rw [htk] at HJ HRow
      obtain ⟨az, cz, rfl⟩ := owns_shapeR HRow.out
      have hjl : j ≤ 4096 := by
        have h1 := ldF_len (M := lkP vs) xs HM.out
        rw [HJ.out, HMm.out] at h1
        omega
      have HO := hide (ow_of_owns HJ.out HRow.out (by rw [HJ.out]; omega))
      go_wp2
      go_ret
      exact ⟨_, rfl, HB.out, HO.out⟩
set_option maxHeartbeats 2000000 in
theorem l8UnpackNil (a : Option Addr) (c : Nat) (w : World) : Calls Tryz.prog 92 #[.slice a 0 c] w fun e w' => e = .returned (.tuple #[.slice (some ⟨w.heap.size, 0, none⟩) 0 0, .bool true]) ∧ Below w.heap.size w w' := by
  have HB0 := hide (below_alloc w (.cells #[] 114))
  go_enter Tryz.func92, Tryz.ntmps92
  go_wp2
  refine bodyPost_ret (v := .tuple #[.slice (some ⟨w.heap.size, 0, none⟩) 0 0, .bool true]) (by simp [results, Tryz.results92, go_sem]) rfl ⟨rfl, HB0.out⟩
theorem l8UnpackA {S : Nat → Prop} {w : World} {v : Value} {ws : List Int} (hv : RdI S w v ws) (h : wordsF ws = 0) :
    Calls Tryz.prog 92 #[v] w fun e w' => ∃ a n c, e = .returned (.tuple #[.slice a n c, .bool (decide (udC ws = 0))]) ∧ Below w.heap.size w w' ∧ (udC ws = 0 → RdJ (fun b => w.heap.size ≤ b ∧ b < w'.heap.size) w' (.slice a n c) (udR ws)) := by
  by_cases hne : ws = []
  · subst hne
    obtain ⟨a, c, rfl⟩ := hv.shape
    refine (l8UnpackNil a c w).mono ?_
    rintro e w' ⟨rfl, hb⟩
    refine ⟨_, _, _, by rw [decide_eq_true udC_nil.1], hb, fun _ => ?_⟩
    rw [udC_nil.2]
    exact ⟨_, 0, rfl, by simp, fun h => absurd rfl h⟩
  · obtain ⟨h1, h2⟩ := wordsF_in h
    refine (l8Unpack hv h1 h2 hne).mono ?_
    rintro e w' ⟨z, rfl, hb, hbu⟩
    obtain ⟨a, c, hz⟩ := hbu.shape
    have hlen : (prs gS (ws.getD 0 0).toNat ws.tail).length ≤ 9223372036854775807 := by
      have := prs_len gS (ws.getD 0 0).toNat ws.tail
      have h3 := List.length_tail (l := ws)
      omega
    subst hz
    have hrd := (hbu.ow rfl hlen).rd
    by_cases hd : dirB ws = true
    · have e1 := udC_yes h hne hd
      refine ⟨_, _, _, by rw [e1.1, hd]; rfl, hb, fun _ => ?_⟩
      rw [e1.2, ← udS hd]
      exact hrd
    · have hd' : dirB ws = false := by simpa using hd
      have e1 := udC_no h hne hd'
      exact ⟨_, _, _, by rw [e1.1, hd']; rfl, hb, fun h9 => by rw [e1.1] at h9; exact absurd h9 (by decide)⟩
end Go.Proofs.YtlmaopljihbdkaaGreat
namespace Go.Proofs.YtlmaopljihbdkaaGreat
open Go.RowKit
theorem l11ImageQ {S T : Nat → Prop} {w : World} {bk : Nat} {y z : Value} (r : Rf) (hv : Var6 w bk (.int .i64 r.tm) (.int .i64 r.vt) (.int .i64 r.si) (.int .i64 r.st) y z) (hy : RdI S w y r.sn) (hz : RdJ T w z r.lg) (h : rfF r = 0) :
    Calls Tryz.prog 32 #[.pointer (some ⟨bk, 0, none⟩)] w fun e w' => ∃ v, e = .returned v ∧ Below w.heap.size w w' ∧ OwP (fun b => w.heap.size ≤ b ∧ b < w'.heap.size) w' v (imP r) := l11ImageP r hv hy hz h
end Go.Proofs.YtlmaopljihbdkaaGreat
namespace Go.Proofs.YtlmaopljihbdkaaGreat
open Go.RowKit Go.Maps
theorem laid_at {L : List (Int × List Int)} (h : L.Pairwise fun a b => a.1 ≠ b.1) {p : Int × List Int} (hp : p ∈ L) : lkP L p.1 = p.2 := by
  obtain ⟨i, hi, rfl⟩ := List.getElem_of_mem hp
  have e : L.getD i (0, []) = L[i] := by simp [List.getD, hi]
  have := foldl_last (qs := L) (M := fun _ => []) (a := L[i].1) (i := i) hi (by rw [e]) (fun j h1 h2 => by
    have h3 := List.pairwise_iff_getElem.1 h i j hi h2 h1
    rw [show L.getD j (0, []) = L[j] by simp [List.getD, h2]]
    exact fun e => h3 e.symm)
  rw [e] at this
  exact this
theorem laid_no {L : List (Int × List Int)} {a : Int} (h : ∀ p, p ∈ L → p.1 ≠ a) : lkP L a = [] :=
  foldl_none (qs := L) (M := fun _ => []) (a := a) fun i hi => by
    rw [show L.getD i (0, []) = L[i] by simp [List.getD, hi]]
    exact h _ (List.getElem_mem hi)
theorem im_other {r : Rf} : (imP r).Pairwise fun a b => a.1 ≠ b.1 := (view_lt (lkP (stP r)) 40).imp (fun h e => by rw [e] at h; omega)
theorem im_mem {r : Rf} (h : rfF r = 0) {p : Int × List Int} : p ∈ imP r ↔ p ∈ stP r := (st_laid h).mem p
def okAt (M : Int → List Int) (r : Rf) (a : Int) : Prop := (lkP (imP r) a = [] ∧ psB a) ∨ lkP (imP r) a = M a
theorem ok_all {M : Int → List Int} {r : Rf} (h : rfF r = 0) : (∀ a : Nat, a < 40 → okAt M r (a : Int)) ↔ hlP M r := by
  constructor
  · intro hk
    refine ⟨fun p hp => ?_, fun a ha hne hno => ?_⟩
    · have hroom := (st_laid h).room p hp
      have hs := (st_laid h).some p hp
      have hat := laid_at im_other ((im_mem h).2 hp)
      have e : ((p.1.toNat : Nat) : Int) = p.1 := by omega
      have := hk p.1.toNat (by omega)
      rw [e] at this
      rcases this with ⟨h1, _⟩ | h1
      · rw [hat] at h1; exact absurd h1 hs
      · rw [← h1, hat]
    · rcases hk a ha with ⟨_, h2⟩ | h1
      · exact h2
      · rw [laid_no fun p hp => hno p ((im_mem h).1 hp)] at h1
        exact absurd h1.symm hne
  · rintro ⟨h1, h2⟩ a ha
    by_cases hex : ∃ p, p ∈ stP r ∧ p.1 = (a : Int)
    · obtain ⟨p, hp, e⟩ := hex
      right
      rw [← e, laid_at im_other ((im_mem h).2 hp)]
      exact (h1 p hp).symm
    · have hno : ∀ p, p ∈ stP r → p.1 ≠ (a : Int) := fun p hp e => hex ⟨p, hp, e⟩
      have he : lkP (imP r) (a : Int) = [] := laid_no fun p hp => hno p ((im_mem h).1 hp)
      by_cases hM : M (a : Int) = []
      · right; rw [he, hM]
      · left; exact ⟨he, h2 a ha hM hno⟩
def lmL (M : Int → List Int) : List Oj := (List.range (ldN M 4).toNat).map fun i => enO (lmW M i)
theorem lmL_len (M : Int → List Int) : (lmL M).length = (ldN M 4).toNat := by simp [lmL]
theorem lmL_at {M : Int → List Int} {i : Nat} (h : i < (ldN M 4).toNat) : (lmL M).getD i oj0 = enO (lmW M i) := by simp [lmL, List.getD, h]
theorem ue_en {xs : List Int} (h : wordsF xs = 0) : ueC xs = 0 ↔ enB xs := by
  unfold ueC
  rw [if_pos h]
  constructor
  · intro h1
    by_cases hb : enB xs
    · exact hb
    · rw [if_neg hb] at h1; exact absurd h1 (by decide)
  · intro hb; rw [if_pos hb]
structure RvI (n0 b1 : Nat) (q0 q1 q2 q3 : Int) (w wr : World) (y z : Value) : Prop where
  below : Below n0 w wr
  r : Var6 wr n0 (.int .i64 0) (.int .i64 0) (.int .i64 0) (.int .i64 0) (.slice none 0 0) (.slice none 0 0)
  rf : ∀ o, wr.frozen? ⟨n0, o, none⟩ = false
  v : Var6 wr b1 (.int .i64 q0) (.int .i64 q1) (.int .i64 q2) (.int .i64 q3) y z
  fr : ∀ o, wr.frozen? ⟨b1, o, none⟩ = false
  lt : n0 < b1
theorem RvI.ku {n0 b1 : Nat} {q0 q1 q2 q3 : Int} {w wr w' : World} {y z : Value} {D : Nat → Prop} (h : RvI n0 b1 q0 q1 q2 q3 w wr y z) (hk : Ku D wr w') (hD : ∀ b, D b → b1 < b) : RvI n0 b1 q0 q1 q2 q3 w w' y z := by
  have hl := h.v.lt
  have hl0 := h.lt
  have d0 : ¬ D n0 := fun e => by have := hD _ e; omega
  have d2 : ¬ D b1 := fun e => by have := hD _ e; omega
  exact ⟨h.below.trans (hk.below (by omega) (fun b hb => by have := hD b hb; omega)), h.r.ku hk d0, fun o => (hk.frozen (by omega) d0).trans (h.rf o), h.v.ku hk d2, fun o => (hk.frozen (by omega) d2).trans (h.fr o), hl0⟩
theorem RvI.later {n0 b1 : Nat} {q0 q1 q2 q3 : Int} {w wr w' : World} {y z : Value} (h : RvI n0 b1 q0 q1 q2 q3 w wr y z) (hb : Below wr.heap.size wr w') : RvI n0 b1 q0 q1 q2 q3 w w' y z := h.ku (Ku.of_below (D := fun _ => False) hb) fun _ e => e.elim
theorem RvI.set4 {n0 b1 : Nat} {q0 q1 q2 q3 : Int} {w wr : World} {y z : Value} (h : RvI n0 b1 q0 q1 q2 q3 w wr y z) (y' : Value) : RvI n0 b1 q0 q1 q2 q3 w (wr.setCell ⟨b1, 4, none⟩ y') y' z := by
  have hk : Ku (fun k => k = b1) wr (wr.setCell ⟨b1, 4, none⟩ y') := set_ku
  have hl := h.v.lt
  have hl0 := h.lt
  obtain ⟨v0, v1, v2, v3, v4, v5⟩ := h.v
  refine ⟨h.below.trans (hk.below (by omega) (fun b hb => by omega)), h.r.ku hk (by omega), fun o => (hk.frozen (by omega) (by omega)).trans (h.rf o), ⟨?_, ?_, ?_, ?_, ?_, ?_⟩, fun o => ?_, hl0⟩
  · exact (World.cell?_setCell_other _ _ _ _ (by simp)).trans v0
  · exact (World.cell?_setCell_other _ _ _ _ (by simp)).trans v1
  · exact (World.cell?_setCell_other _ _ _ _ (by simp)).trans v2
  · exact (World.cell?_setCell_other _ _ _ _ (by simp)).trans v3
  · exact World.cell?_setCell_same _ _ _ v4
  · exact (World.cell?_setCell_other _ _ _ _ (by simp)).trans v5
  · rw [World.frozen?_setCell]; exact h.fr o
theorem RvI.set5 {n0 b1 : Nat} {q0 q1 q2 q3 : Int} {w wr : World} {y z : Value} (h : RvI n0 b1 q0 q1 q2 q3 w wr y z) (z' : Value) : RvI n0 b1 q0 q1 q2 q3 w (wr.setCell ⟨b1, 5, none⟩ z') y z' := by
  have hk : Ku (fun k => k = b1) wr (wr.setCell ⟨b1, 5, none⟩ z') := set_ku
  have hl := h.v.lt
  have hl0 := h.lt
  obtain ⟨v0, v1, v2, v3, v4, v5⟩ := h.v
  refine ⟨h.below.trans (hk.below (by omega) (fun b hb => by omega)), h.r.ku hk (by omega), fun o => (hk.frozen (by omega) (by omega)).trans (h.rf o), ⟨?_, ?_, ?_, ?_, ?_, ?_⟩, fun o => ?_, hl0⟩
  · exact (World.cell?_setCell_other _ _ _ _ (by simp)).trans v0
  · exact (World.cell?_setCell_other _ _ _ _ (by simp)).trans v1
  · exact (World.cell?_setCell_other _ _ _ _ (by simp)).trans v2
  · exact (World.cell?_setCell_other _ _ _ _ (by simp)).trans v3
  · exact (World.cell?_setCell_other _ _ _ _ (by simp)).trans v4
  · exact World.cell?_setCell_same _ _ _ v5
  · rw [World.frozen?_setCell]; exact h.fr o
def EndsLm (P : Bool) (r : Rf) (w : World) (e : Ending) (w' : World) : Prop :=
  Below w.heap.size w w' ∧ ((P = true ∧ ∃ y z, e = .returned (.tuple #[.agg #[.int .i64 r.tm, .int .i64 r.vt, .int .i64 r.si, .int .i64 r.st, y, z], .bool true]) ∧ IvR w.heap.size w'.heap.size w' y z r.sn r.lg) ∨
    (P = false ∧ e = .returned (.tuple #[.agg #[.int .i64 0, .int .i64 0, .int .i64 0, .int .i64 0, .slice none 0 0, .slice none 0 0], .bool false])))
theorem below_zero6 {w wr : World} {x0 x1 x2 x3 x4 x5 : Value} (h : Below w.heap.size w wr) : Below w.heap.size w ((((((wr.setCell ⟨w.heap.size, 0, none⟩ x0).setCell ⟨w.heap.size, 1, none⟩ x1).setCell ⟨w.heap.size, 2, none⟩ x2).setCell ⟨w.heap.size, 3, none⟩ x3).setCell ⟨w.heap.size, 4, none⟩ x4).setCell ⟨w.heap.size, 5, none⟩ x5) :=
  (((((h.setCell (p := ⟨w.heap.size, 0, none⟩) (Nat.le_refl _) _).setCell (p := ⟨w.heap.size, 1, none⟩) (Nat.le_refl _) _).setCell (p := ⟨w.heap.size, 2, none⟩) (Nat.le_refl _) _).setCell (p := ⟨w.heap.size, 3, none⟩) (Nat.le_refl _) _).setCell (p := ⟨w.heap.size, 4, none⟩) (Nat.le_refl _) _).setCell (p := ⟨w.heap.size, 5, none⟩) (Nat.le_refl _) _
end Go.Proofs.YtlmaopljihbdkaaGreat
