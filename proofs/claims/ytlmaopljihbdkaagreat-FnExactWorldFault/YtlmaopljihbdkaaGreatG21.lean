/- BlockAt Seen2 Slot Impl2d in one text: what each says stands at its head below. -/
import Derived.Test.YtlmaopljihbdkaaGreatG03
import Derived.Test.YtlmaopljihbdkaaGreatG06
import Derived.Test.YtlmaopljihbdkaaGreatG04
import Derived.Test.YtlmaopljihbdkaaGreatG12
import Derived.Test.YtlmaopljihbdkaaGreatG18
import Derived.Test.YtlmaopljihbdkaaGreatG20
import Derived.ScopeJumps
import Derived.ChangeKeysEq
namespace Go.Proofs.YtlmaopljihbdkaaGreat
open Go.RowKit
def blkToD (xss : List (List Int)) (ps : List (Int × List Int)) (at_ : Int) : Nat → List Int
  | 0 => xss.getD at_.toNat []
  | k + 1 => if (ps.getD k (0, [])).1 = at_ then (ps.getD k (0, [])).2 else blkToD xss ps at_ k
theorem blkToD_len {xss : List (List Int)} {ps : List (Int × List Int)} (hs : Small xss ps) {at_ : Int} : ∀ k, k ≤ ps.length → 0 ≤ at_ → at_ < (xss.length : Int) → (blkToD xss ps at_ k).length ≤ 1048576 := by
  intro k
  induction k with
  | zero => intro _ h1 h2; exact hs.row _ (by omega)
  | succ k ih =>
    intro hk h1 h2
    unfold blkToD
    split
    · exact hs.put k (by omega)
    · exact ih (by omega) h1 h2
set_option maxHeartbeats 1000000 in
theorem wordsAt_cells {S T : Nat → Prop} (xss : List (List Int)) (ps : List (Int × List Int)) (n m : Nat) (ao ao' : Option Addr) (c c' : Nat) (w : World) (at_ : Int) (hn : xss.length = n) (hm : ps.length = m) (hm' : m ≤ 9223372036854775807)
    (hu : RdII S w (.slice ao n c) xss) (hv : RdP T w (.slice ao' m c') ps) (hs : Small xss ps) (ha1 : 0 ≤ at_) (ha2 : at_ < (n : Int)) :
    Calls Tryz.prog 151 #[.agg #[.slice ao n c, .slice ao' m c'], .int .i64 at_] w fun e w' =>
      ∃ z, e = .returned z ∧ Below w.heap.size w w' ∧ OwI w.heap.size w' z (blkToD xss ps at_ m) := by
  have HU := hide hu
  have HV := hide hv
  have HS := hide hs
  have HN := hide hn
  have HM := hide hm
  clear hu hv hs hn hm
  have HB := hide (below_alloc w (.cells #[.slice ao n c, .slice ao' m c'] 59))
  have hz : w.heap.size ≤ (w.alloc (.cells #[.slice ao n c, .slice ao' m c'] 59)).heap.size := by simp
  go_enter Tryz.func151, Tryz.ntmps151
  go_wp2
  go_loopw [5] (fun i wr => ∃ k : Nat, k ≤ m ∧ i = .int .i64 ((k : Int) - 1) ∧ Hid (blkToD xss ps at_ m = blkToD xss ps at_ k) ∧ wr = w.alloc (.cells #[.slice ao n c, .slice ao' m c'] 59)) (fun i _ => (intOf i + 1).toNat)
  case atStart => exact ⟨m, Nat.le_refl _, rfl, rfl, rfl⟩
  case round =>
    obtain ⟨k, hk, rfl, HK, rfl⟩ := hrel
    cases k with
    | zero =>
      obtain ⟨b, off, V, rfl, g1, g2⟩ := HU.out.at (k := at_.toNat) (by rw [HN.out]; omega)
      have g3 := cell_later HB.out g1
      have R := hide (g2.later HB.out)
      have HL := hide (HS.out.row at_.toNat (by rw [HN.out]; omega))
      clear g1 g2
      go_wp2_with fail
      refine (copyWords R.out HL.out).mono ?_
      rintro e w3 ⟨z, rfl, hb3, ho3⟩
      have HB3 := hide (below_on HB.out hb3)
      have HO := hide (ho3.mono hz)
      clear hb3 ho3 g3
      go_wp2
      go_ret
      exact ⟨_, rfl, HB3.out, by rw [HK.out]; exact HO.out⟩
    | succ k =>
      obtain ⟨b, off, V, rfl, g1, g2, gR⟩ := HV.out.at (k := k) (by rw [HM.out]; omega)
      have g1 := cell_later HB.out g1
      have g2 := cell_later HB.out g2
      have R := hide (gR.later HB.out)
      have HL := hide (HS.out.put k (by rw [HM.out]; omega))
      obtain ⟨x, hx⟩ : ∃ x, (ps.getD k (0, [])).1 = x := ⟨_, rfl⟩
      rw [hx] at g1
      have e : (((k + 1 : Nat) : Int) - 1) = (k : Int) := by omega
      rw [e]
      have hkl : k < m := by omega
      clear e gR hk
      by_cases hxa : x = at_
      · subst hxa
        have HK2 : Hid (blkToD xss ps x m = (ps.getD k (0, [])).2) := by rw [Hid, HK.out]; unfold blkToD; rw [if_pos hx]
        clear hx
        go_wp2_with fail
        refine (copyWords R.out HL.out).mono ?_
        rintro e w3 ⟨z, rfl, hb3, ho3⟩
        have HB3 := hide (below_on HB.out hb3)
        have HO := hide (ho3.mono hz)
        clear hb3 ho3 g1 g2
        go_wp2
        go_ret
        exact ⟨_, rfl, HB3.out, by rw [HK2.out]; exact HO.out⟩
      · have HK2 : Hid (blkToD xss ps at_ m = blkToD xss ps at_ k) := by rw [Hid, HK.out]; show (if (ps.getD k (0, [])).1 = at_ then _ else _) = _; rw [if_neg (by rw [hx]; exact hxa)]
        clear hx
        go_wp2
        go_roundw
        case rel => exact ⟨k, by omega, by go_num, HK2.out, by simp⟩
        case measure => simp [intOf]
theorem wordsAt {S T : Nat → Prop} {w : World} {u v : Value} {xss : List (List Int)} {ps : List (Int × List Int)} (at_ : Int) (hu : RdII S w u xss) (hv : RdP T w v ps) (hs : Small xss ps) (ha1 : 0 ≤ at_) (ha2 : at_ < (xss.length : Int)) :
    Calls Tryz.prog 151 #[.agg #[u, v], .int .i64 at_] w fun e w' => ∃ z, e = .returned z ∧ Below w.heap.size w w' ∧ OwI w.heap.size w' z (blkToD xss ps at_ ps.length) := by
  obtain ⟨ao, c, rfl, _⟩ := hu.shape
  obtain ⟨ao', c', rfl, hm⟩ := hv.shape
  exact wordsAt_cells xss ps _ _ ao ao' c c' w at_ rfl rfl hm hu hv hs ha1 ha2
end Go.Proofs.YtlmaopljihbdkaaGreat
namespace Go.Proofs.YtlmaopljihbdkaaGreat
open Go.RowKit Go.Maps
theorem RdP_narrow {S S' : Nat → Prop} {w : World} {v : Value} {ps : List (Int × List Int)} (h : RdP S w v ps) (hP : ∀ b, S b → S' b) : RdP S' w v ps := by
  obtain ⟨ao, c, e1, e2, e3⟩ := h
  refine ⟨ao, c, e1, e2, fun hne => ?_⟩
  obtain ⟨b, off, V, f1, f2, f3⟩ := e3 hne
  exact ⟨b, off, V, f1, hP b f2, fun i hi => ⟨(f3 i hi).1, (f3 i hi).2.1, (f3 i hi).2.2.narrow (fun _ b hb => hP b hb)⟩⟩
theorem SeenAt.congr {w : World} {B n : Nat} {M M' : Int → List Int} (h : SeenAt w B n M) (hM : ∀ a : Int, 0 ≤ a → a < 40 → M a = M' a) : SeenAt w B n M' := by
  obtain ⟨D, h1, h2, hk⟩ := h
  exact ⟨D, h1, fun a h3 h4 => by rw [← hM a h3 h4]; exact h2 a h3 h4, fun a => (hk a).trans ⟨fun h => ⟨h.1, h.2.1, by rw [← hM a h.1 h.2.1]; exact h.2.2⟩, fun h => ⟨h.1, h.2.1, by rw [hM a h.1 h.2.1]; exact h.2.2⟩⟩⟩
def homeM (xss : List (List Int)) (ps : List (Int × List Int)) (k : Nat) : Int → List Int := fun a => if a < (k : Int) then blkToD xss ps (26 + a) ps.length else []
theorem homeM_step (xss : List (List Int)) (ps : List (Int × List Int)) (k : Nat) (a : Int) : putM (homeM xss ps k) ((k : Int), blkToD xss ps (26 + (k : Int)) ps.length) a = homeM xss ps (k + 1) a := by
  unfold putM homeM
  by_cases e : a = (k : Int)
  · subst e; simp only [if_true]; rw [if_pos (by omega)]
  · simp only [if_neg e]
    by_cases h : a < (k : Int)
    · rw [if_pos h, if_pos (by omega)]
    · rw [if_neg h, if_neg (by omega)]
set_option maxHeartbeats 2000000 in
set_option maxRecDepth 4000 in
theorem seenIn {S T L : Nat → Prop} {w : World} {u v z : Value} {xss : List (List Int)} {ps lps : List (Int × List Int)} (hu : RdII S w u xss) (hv : RdP T w v ps) (hs : Small xss ps) (h66 : xss.length = 66) (hz : RdP L w z lps) (hLt : ∀ b, L b → b < w.heap.size) (hza : ∀ i, i < lps.length → 0 ≤ (lps.getD i (0, [])).1 ∧ (lps.getD i (0, [])).1 < 40) (hzl : lps.length ≤ 24) :
    Calls Tryz.prog 110 #[.agg #[u, v], z] w fun e w' => ∃ B, e = .returned (.map (some B)) ∧ w.heap.size ≤ B ∧ Below w.heap.size w w' ∧ SeenAt w' B (40 + lps.length) (lps.foldl putM (homeM xss ps 40)) := by
  obtain ⟨ao, c, rfl, _⟩ := hu.shape
  obtain ⟨ao', c', rfl, _⟩ := hv.shape
  obtain ⟨az, cz, rfl, _⟩ := hz.shape
  have hmm := @run_makeMap Tryz.prog
  have HWd := hide (fun (w' : World) (hb : Below w.heap.size w w') (k : Nat) (hk : k < 40) => wordsAt (26 + (k : Int)) (hu.later hb) (hv.later hb) hs (by omega) (by rw [h66]; omega))
  have HZ := hide hz
  have HLt := hide hLt
  have HZa := hide hza
  have HSt := hide (homeM_step xss ps)
  obtain ⟨n, hn⟩ : ∃ n, xss.length = n := ⟨_, rfl⟩
  obtain ⟨m, hm⟩ : ∃ m, ps.length = m := ⟨_, rfl⟩
  obtain ⟨l, hl⟩ : ∃ l, lps.length = l := ⟨_, rfl⟩
  have HL := hide hl
  rw [hm] at HSt
  rw [hn, hm] at HWd
  rw [hl] at HZ HZa hzl
  rw [hn, hm, hl]
  obtain ⟨G, hG⟩ : ∃ G : Int → List Int, (fun a => blkToD xss ps (26 + a) m) = G := ⟨_, rfl⟩
  have HBk : Hid (∀ k : Nat, blkToD xss ps (26 + (k : Int)) m = G k) := fun k => by rw [← hG]
  have HM0 : Hid (∀ a, 0 ≤ a → homeM xss ps 0 a = []) := fun a ha => by unfold homeM; rw [if_neg (by omega)]
  clear hu hv hs h66 hz hLt hza hn hm hl hG
  generalize homeM xss ps = HMf at HSt HM0 ⊢
  obtain ⟨W0, hW0⟩ : ∃ W0, (w.alloc (.cells #[.slice ao n c, .slice ao' m c'] 59)) = W0 := ⟨_, rfl⟩
  have hzW : W0.heap.size = w.heap.size + 1 := by rw [← hW0]; simp
  have bW : Hid (Below w.heap.size w W0) := by rw [← hW0]; exact below_alloc _ _
  have HV0 : Hid (Var2 W0 w.heap.size (.slice ao n c) (.slice ao' m c')) := by rw [← hW0]; exact Var2_new _ _ _ _
  go_enter Tryz.func110, Tryz.ntmps110
  go_wp2
  go_loopw [8] (fun i wr => ∃ k : Nat, k ≤ 40 ∧ i = .int .i64 k ∧ Hid (Below w.heap.size w wr) ∧ Hid (Var2 wr w.heap.size (.slice ao n c) (.slice ao' m c')) ∧ Hid (SeenAt wr (w.heap.size + 1) k (HMf k))) (fun i _ => 40 - (intOf i).toNat)
  case atStart =>
    have bM := below_alloc W0 (.map #[] 0)
    have hm0 := World.ownsMap_made W0 Tryz.prog 2 asIs
    rw [hzW] at hm0
    have hst : Below w.heap.size w (W0.alloc (.map #[] 0)) ∧ Var2 (W0.alloc (.map #[] 0)) w.heap.size (.slice ao n c) (.slice ao' m c') ∧ SeenAt (W0.alloc (.map #[] 0)) (w.heap.size + 1) 0 (HMf 0) :=
      ⟨below_on bW.out bM, HV0.out.later bM, ⟨_, hm0, fun a h1 _ => ⟨.slice none 0 0, rfl, by rw [HM0.out a h1]; exact ⟨none, 0, rfl, Nat.zero_le _, fun h => absurd rfl h⟩⟩, fun a => ⟨fun h => absurd h (by simp [has_eq]), fun h => absurd (HM0.out a h.1) h.2.2⟩⟩⟩
    first
      | exact ⟨0, Nat.zero_le _, rfl, hst.1, hst.2.1, hst.2.2⟩
      | (subst hW0; exact ⟨0, Nat.zero_le _, rfl, hst.1, hst.2.1, hst.2.2⟩)
  case round =>
    obtain ⟨k, hk, rfl, HB, HV, HS⟩ := hrel
    have v0 := HV.out.1
    have v1 := HV.out.2
    have hwB := HS.out.lt
    by_cases hlt : k < 40
    · have hwk : IntKind.i64.wrap (26 + (k : Int)) = 26 + (k : Int) := by simp [IntKind.wrap, IntKind.bits, IntKind.signed]; omega
      have hk40 : (k : Int) < 40 := by omega
      have HW := hide (HWd.out wr HB.out k hlt)
      rw [HBk.out k] at HW
      have hSk : ∀ a : Int, putM (HMf k) ((k : Int), G k) a = HMf (k + 1) a := fun a => by rw [← HSt.out k a, HBk.out k]
      have HSk := hide hSk
      clear hSk
      generalize G k = ws at HW HSk
      go_wp2_with fail
      refine HW.out.mono ?_
      rintro e w1 ⟨z1, rfl, hb1, ho1⟩
      obtain ⟨a1, k1, rfl⟩ := ho1.shape
      have hz1 := hb1.size
      have bP := below_alloc w1 (.cells #[.int .i64 (k : Int), .slice a1 ws.length k1] 74)
      have b1P := below_on hb1 bP
      have HRp : Hid (RdP (· ≠ w.heap.size + 1) (w1.alloc (.cells #[.int .i64 (k : Int), .slice a1 ws.length k1] 74)) (.slice (some ⟨w1.heap.size, 0, none⟩) 1 1) [((k : Int), ws)]) := by
        refine ⟨some ⟨w1.heap.size, 0, none⟩, 1, rfl, by simp, fun _ => ⟨w1.heap.size, 0, fun _ => .slice a1 ws.length k1, rfl, by omega, fun i hi => ?_⟩⟩
        have hi0 : i = 0 := by simp at hi; exact hi
        subst hi0
        exact ⟨by simp [go_sem], by simp [go_sem], (ho1.rd.later bP).narrow (fun _ b hb => by have := hb.1; omega)⟩
      have HCl := hide (seenPut (HS.out.later b1P) HRp.out (fun b hb => hb) (fun i hi => by
        have hi0 : i = 0 := by simp at hi; exact hi
        subst hi0
        simp; omega) (by simp; omega))
      have HB1 := hide (below_on HB.out b1P)
      have HV1 := hide (HV.out.later b1P)
      have hzP := b1P.size
      clear hb1 ho1 bP b1P
      go_wp2_with fail
      refine HCl.out.mono ?_
      rintro e w2 ⟨rfl, hg2, hs2⟩
      have HS2 := hide ((hs2.mono (by simp : k + [((k : Int), ws)].length ≤ k + 1)).congr (M' := HMf (k + 1)) (fun a _ _ => HSk.out a))
      have HB2 := hide (HB1.out.grown hg2 (by have := HB1.out.size; exact this) (fun r hr => by injection hr with hr; omega))
      have cN : ∀ o x, (w1.alloc (.cells #[.int .i64 (k : Int), .slice a1 ws.length k1] 74)).cell? ⟨w.heap.size, o, none⟩ = some x → w2.cell? ⟨w.heap.size, o, none⟩ = some x := fun o x h => (World.cell?_of_block (hg2.block _ (World.block_lt_of_cell? _ _ h) (fun e => by injection e with e; simp at e))).trans h
      have HV2 : Hid (Var2 w2 w.heap.size (.slice ao n c) (.slice ao' m c')) := ⟨cN _ _ HV1.out.1, cN _ _ HV1.out.2⟩
      clear hg2 hs2 cN
      go_wp2
      go_roundw
      case rel => exact ⟨k + 1, hlt, by go_num, HB2.out, HV2.out, HS2.out⟩
      case measure => simp [intOf]; omega
    · have hk4 : k = 40 := by omega
      subst hk4
      have HCl := hide (seenPut (T := fun b => L b ∧ b ≠ w.heap.size + 1) HS.out ((RdP_narrow HZ.out (fun b hb => ⟨hb, by have := HLt.out b hb; omega⟩)).later HB.out) (fun b hb => hb.2) (by rw [HL.out]; exact HZa.out) (by rw [HL.out]; omega))
      rw [HL.out] at HCl
      go_wp2_with fail
      refine HCl.out.mono ?_
      rintro e w2 ⟨rfl, hg2, hs2⟩
      have HB2 := hide (HB.out.grown hg2 HB.out.size (fun r hr => by injection hr with hr; omega))
      have HS2 := hide hs2
      clear hg2 hs2
      go_wp2
      go_ret
      exact ⟨_, rfl, by omega, HB2.out, HS2.out⟩
end Go.Proofs.YtlmaopljihbdkaaGreat
namespace Go.Proofs.YtlmaopljihbdkaaGreat
open Go.RowKit
theorem slot_mod {t i : Int} (h1 : 0 ≤ t) (h2 : 0 ≤ i) : Int.tmod (t + i) 24 = (t + i) % 24 := Int.tmod_eq_emod_of_nonneg (by omega)
theorem slotFrom (s t i : Int) (y : Value) (w : World) (ht : 0 ≤ t) (ht' : t ≤ 23) (hi : 0 ≤ i) (hi' : i ≤ 1048576) :
    Calls Tryz.prog 186 #[.agg #[.int .i64 s, .int .i64 t, y], .int .i64 i] w fun e w' => e = .returned (.int .i64 ((t + i) % 24)) ∧ Below w.heap.size w w' := by
  have hmod := slot_mod ht hi
  go_enter Tryz.func186, Tryz.ntmps186
  go_wp2
  go_ret
  exact ⟨rfl, below_alloc _ _⟩
theorem l3Slot {b o : Nat} {s t : Int} {y : Value} (i : Int) (w : World) (hd : HdAt w b o s t y) (ht : 0 ≤ t) (ht' : t ≤ 23) (hi : 0 ≤ i) (hi' : i ≤ 1048576) :
    Calls Tryz.prog 205 #[.pointer (some ⟨b, o, none⟩), .int .i64 i] w fun e w' => e = .returned (.int .i64 ((t + i) % 24)) ∧ w' = w := by
  have hmod := slot_mod ht hi
  have c1 := hd.start
  clear hd
  go_enter Tryz.func205, Tryz.ntmps205
  go_wp2
  go_ret
  exact ⟨rfl, rfl⟩
end Go.Proofs.YtlmaopljihbdkaaGreat
namespace Go.Proofs.YtlmaopljihbdkaaGreat
open Go.RowKit
def fromTo (ws : List Int) (f k : Nat) : List Int := (ws.drop f).take k ++ List.replicate (32 - k) 0
theorem fromTo_len {ws : List Int} {f k : Nat} (h : f + 32 ≤ ws.length) (hk : k ≤ 32) : (fromTo ws f k).length = 32 := by simp [fromTo]; omega
theorem fromTo_step {ws : List Int} {f k : Nat} (h : f + 32 ≤ ws.length) (hk : k < 32) : (fromTo ws f k).set k (ws.getD (f + k) 0) = fromTo ws f (k + 1) := by
  unfold fromTo
  have hl : ((ws.drop f).take k).length = k := by simp; omega
  have hd : k < (ws.drop f).length := by simp; omega
  rw [show 32 - k = (32 - (k + 1)) + 1 by omega, List.replicate_succ, List.set_append_right _ _ (by rw [hl]; exact Nat.le_refl _), hl, Nat.sub_self, List.set_cons_zero, List.take_succ_eq_append_getElem hd]
  simp only [List.getD, List.getElem?_eq_getElem (show f + k < ws.length by omega), Option.getD_some, List.append_assoc, List.cons_append, List.nil_append, List.getElem_drop]
theorem fromTo_end (ws : List Int) (f : Nat) : fromTo ws f 32 = (ws.drop f).take 32 := by simp [fromTo]
theorem fromTo_zero (ws : List Int) (f : Nat) : fromTo ws f 0 = List.replicate 32 0 := by simp [fromTo]
set_option maxHeartbeats 2000000 in
set_option maxRecDepth 4000 in
theorem halfFrom {S : Nat → Prop} {w : World} {y : Value} {ws : List Int} {f : Nat} (hy : RdI S w y ws) (hw : wordsF ws = 0) (hf : f + 32 ≤ ws.length) :
    Calls Tryz.prog 231 #[y, .int .i64 (f : Int)] w fun e w' => e = .returned (.agg (u16s ((ws.drop f).take 32)).toArray) ∧ Below w.heap.size w w' := by
  obtain ⟨hwl, hwr⟩ := wordsF_zero hw
  have HX := hide hwr
  have HY := hide hy
  obtain ⟨ay, cy, rfl⟩ := hy.shape
  obtain ⟨n, hn⟩ : ∃ n, ws.length = n := ⟨_, rfl⟩
  have HN := hide hn
  have HF := hide hf
  rw [hn] at HY hwl hf ⊢
  clear hy hn hwr hw
  have HA0 : Hid (ArrAt w w.heap.size (w.heap.size + 1) 32 (u16s (fromTo ws f 0)) ((w.alloc (.cells (List.replicate 32 (Value.int .u16 0)).toArray 251)).alloc (.cells (List.replicate 32 (Value.int .u16 0)).toArray 251))) := by
    rw [fromTo_zero]
    refine ⟨below_on (below_alloc _ _) (below_alloc _ _), World.there_alloc (there_new w (List.replicate 32 (Value.int .u16 0)) _ 32 rfl) _, fun o => by simp [go_sem], ?_⟩
    have := range_new (w.alloc (.cells (List.replicate 32 (Value.int .u16 0)).toArray 251)) (List.replicate 32 (Value.int .u16 0)) 251
    rw [World.size_alloc] at this
    rw [u16s, List.map_replicate]
    exact this
  go_enter Tryz.func231, Tryz.ntmps231
  go_upto_region 2 with fail
  refine forget (fun wx => ArrAt w w.heap.size (w.heap.size + 1) 32 (u16s (fromTo ws f 0)) wx) HA0.out ?_
  clear HA0
  intro W0 hA0
  have HA0 := hide hA0
  clear hA0
  go_wp2
  go_loopw [7] (fun i wr => ∃ k : Nat, k ≤ 32 ∧ i = .int .i64 k ∧ Hid (ArrAt w w.heap.size (w.heap.size + 1) 32 (u16s (fromTo ws f k)) wr)) (fun i _ => 32 - (intOf i).toNat)
  case atStart => exact ⟨0, Nat.zero_le _, rfl, HA0.out⟩
  case round =>
    obtain ⟨k, hk, rfl, HC⟩ := hrel
    by_cases hlt : k < 32
    · have hkx : f + k < ws.length := by rw [HN.out]; omega
      obtain ⟨b, off, rfl, q1⟩ := HY.out.at hkx
      have g1 := cell_later HC.out.below q1
      have hr := HX.out (f + k) hkx
      have HSt := hide (HC.out.step (by omega) (by omega) k (.int .u16 (ws.getD (f + k) 0)))
      rw [u16s_set, fromTo_step HF.out hlt] at HSt
      have cz := HC.out.cells k _ (u16s_at (by rw [fromTo_len HF.out (by omega)]; omega))
      have fz := HC.out.free k
      rw [Nat.zero_add] at cz
      obtain ⟨x0, hx0⟩ : ∃ x0, (fromTo ws f k).getD k 0 = x0 := ⟨_, rfl⟩
      rw [hx0] at cz
      obtain ⟨x, hx⟩ : ∃ x, ws.getD (f + k) 0 = x := ⟨_, rfl⟩
      rw [hx] at g1 hr HSt
      have wx : IntKind.u16.wrap x = x := wrap_u16 (by omega) (by omega)
      clear q1 hx0 hx
      go_wp2
      go_roundw
      case rel => exact ⟨k + 1, hlt, by go_num, HSt.out⟩
      case measure => simp [intOf]; omega
    · have hkn : k = 32 := by omega
      subst hkn
      rw [fromTo_end] at HC
      have hl32 : (u16s ((ws.drop f).take 32)).length = 32 := by rw [u16s_len]; simp [HN.out]; omega
      have hone := hide (all_oneCell_toArray (u16s_one ((ws.drop f).take 32)))
      obtain ⟨C, hC⟩ : ∃ C, u16s ((ws.drop f).take 32) = C := ⟨_, rfl⟩
      rw [hC] at HC hl32 hone
      have HCe := hide hC
      have hth := hide (show wr.there w.heap.size 0 C.toArray.size by simpa [hl32] using HC.out.res)
      have hsz := hide (show (Tryz.prog.info? 251).map (·.size) = some C.toArray.size by rw [List.size_toArray, hl32]; exact Tryz.sizeHHalf)
      clear hC hl32
      go_wp2_with (first | (refine wpList_load_mid rfl 251 _ rfl (w.heap.size + 1) 0 (by rfl) C _ HC.out.cells Tryz.underlying251 rfl hsz.out ?_) | (refine wpList_store_mid rfl 251 _ _ rfl w.heap.size 0 C.toArray (by rfl) (by rfl) hth.out hsz.out hone.out ?_))
      have hres := run_loadVar_mid (P := Tryz.prog) (wr.setCells w.heap.size 0 C) w.heap.size 0 251 C _ (World.rangeAt_setCells_same _ _ _ _ (by simpa using hth.out)) Tryz.underlying251 rfl (by simpa using hsz.out)
      refine bodyPost_ret (v := .agg C.toArray) ?_ rfl ⟨by rw [HCe.out], Below.setCells HC.out.below (by omega) _ _⟩
      simp [results, Tryz.results231, Act.put]
      simp only [asAddr, Sem.run_pure, Result.andThen_ok]
      exact hres
theorem list_eq_of_at' {xs ys : List Int} (hl : xs.length = ys.length) (h : ∀ i, i < xs.length → xs.getD i 0 = ys.getD i 0) : xs = ys := by
  refine List.ext_getElem hl fun i h1 h2 => ?_
  have := h i h1
  simpa [List.getD, h1, h2] using this
theorem eqItems_u16 (d : Nat) (L M : List Int) (w : World) : ∀ is : List Nat, (∀ i ∈ is, i < L.length ∧ i < M.length) → (Op.eqItems (d + 1) 249 1 (u16s L).toArray (u16s M).toArray is).run Tryz.prog w = .ok (decide (∀ i ∈ is, L.getD i 0 = M.getD i 0)) w
  | [], _ => by simp [Op.eqItems]
  | i :: is, h => by
    have ih := eqItems_u16 d L M w is (fun j hj => h j (by simp [hj]))
    obtain ⟨hl, hm⟩ := h i (by simp)
    have p1 : (part 249 (u16s L).toArray i).run Tryz.prog w = .ok (.int .u16 (L.getD i 0)) w := by
      have h3 : (u16s L)[i]? = some (.int .u16 (L.getD i 0)) := u16s_at hl
      simp [part, isAgg, run_underlying Tryz.underlying249, h3]
    have p2 : (part 249 (u16s M).toArray i).run Tryz.prog w = .ok (.int .u16 (M.getD i 0)) w := by
      have h3 : (u16s M)[i]? = some (.int .u16 (M.getD i 0)) := u16s_at hm
      simp [part, isAgg, run_underlying Tryz.underlying249, h3]
    have p3 := run_equalIn_int (P := Tryz.prog) w d 249 .u16 .u16 (L.getD i 0) (M.getD i 0) Tryz.underlying249
    simp only [Op.eqItems, Sem.run_bind, Nat.mul_one, p1, p2, p3, Result.andThen_ok]
    by_cases e : L.getD i 0 = M.getD i 0
    · have hb : (L.getD i 0 == M.getD i 0) = true := beq_iff_eq.2 e
      have hd : decide (∀ j ∈ is, L.getD j 0 = M.getD j 0) = decide (∀ j ∈ i :: is, L.getD j 0 = M.getD j 0) := decide_eq_decide.2 ⟨fun h j hj => by
        rcases List.mem_cons.1 hj with rfl | hj
        · exact e
        · exact h j hj, fun h j hj => h j (List.mem_cons_of_mem _ hj)⟩
      rw [hb, ← hd, ← ih]
      rfl
    · have hb : (L.getD i 0 == M.getD i 0) = false := beq_eq_false_iff_ne.2 e
      rw [hb, decide_eq_false (fun h => e (h i (List.mem_cons_self ..)))]
      rfl
theorem neq_u16 {L M : List Int} (hL : L.length = 32) (hM : M.length = 32) (w : World) : (binOp .neq 251 (.agg (u16s L).toArray) (.agg (u16s M).toArray)).run Tryz.prog w = .ok (.bool (!decide (L = M))) w := by
  obtain ⟨i1, h1⟩ := info_of_underlying Tryz.underlying249
  have hc : Tryz.prog.cellsOf 249 = 1 := by kernel_rfl
  have he : (Op.equal 251 (.agg (u16s L).toArray) (.agg (u16s M).toArray)).run Tryz.prog w = .ok (decide (L = M)) w := by
    unfold Op.equal
    obtain ⟨d, hd⟩ : ∃ d, Op.maxDepth = (d + 1) + 1 := ⟨9998, rfl⟩
    rw [hd, run_equalIn_array w _ _ _ Tryz.underlying251 h1, hc, eqItems_u16 _ _ _ _ _ (fun i hi => by have := List.mem_range.1 hi; omega)]
    have hiff : (∀ i ∈ List.range 32, L.getD i 0 = M.getD i 0) ↔ L = M := ⟨fun h => list_eq_of_at' (by omega) (fun i hi => h i (List.mem_range.2 (by omega))), fun e i _ => by rw [e]⟩
    rw [decide_eq_decide.2 hiff]
  simp [binOp, he]
theorem guard_u16 (x y : Operand) (A B : Array Value) (w : World) : (eqGuard .neq 251 x y (.agg A) (.agg B)).run Tryz.prog w = .ok () w :=
  run_eqGuard_agg (P := Tryz.prog) w .neq 251 x y A B (by kernel_rfl)
def jumps (J : Nat → Act → World → Prop) (Q : Exit → Act → World → Prop) : Exit → Act → World → Prop
  | .goto l, a, w => J l a w
  | e, a, w => Q e a w
theorem scope_labels {P : Program} {a : Act} {w : World} {Q : Exit → Act → World → Prop} {c : Code} (J : Nat → Act → World → Prop) (μ : Nat → Act → World → Nat)
    (first : c.wp P (jumps J Q) a w)
    (pass : ∀ l a w, J l a w → ∃ rest, findLabel c l = some rest ∧ rest.wp P (jumps (fun l' a' w' => J l' a' w' ∧ μ l' a' w' < μ l a w) Q) a w) : (Code.scope c).wp P Q a w := by
  intro b k cs
  have key : ∀ n l a w, μ l a w = n → J l a w → ∃ rest, findLabel c l = some rest ∧ ∃ e a' w', Q e a' w' ∧ Arrives P (lone (b.at a (.code rest :: .inScope c :: k)) cs w) b k cs e a' w' := by
    intro n
    induction n using Nat.strongRecOn with
    | _ n ih =>
      intro l a w hn hJ
      obtain ⟨rest, hf, hwp⟩ := pass l a w hJ
      refine ⟨rest, hf, ?_⟩
      obtain ⟨e, a₁, w₁, hq, harr⟩ := hwp b (.inScope c :: k) cs
      cases e with
      | normal => exact ⟨.normal, a₁, w₁, hq, Steps.trans harr (.one step_inScope)⟩
      | exit id => exact ⟨.exit id, a₁, w₁, hq, fun k' hk => harr k' (by simp [exitTo, hk])⟩
      | goto l' =>
        obtain ⟨hJ', hlt⟩ := hq
        obtain ⟨rest₂, hf₂, e₂, a₂, w₂, hq₂, harr₂⟩ := ih _ (by omega) l' a₁ w₁ rfl hJ'
        have hg : gotoIn l' (.inScope c :: k) = some (.code rest₂ :: .inScope c :: k) := by simp [gotoIn, hf₂]
        exact ⟨e₂, a₂, w₂, hq₂, .of_steps (harr _ hg) harr₂⟩
      | ret => exact ⟨_, a₁, w₁, hq, harr⟩
      | panic ch => exact ⟨_, a₁, w₁, hq, harr⟩
      | outgrown => exact ⟨_, a₁, w₁, hq, harr⟩
  obtain ⟨e, a₁, w₁, hq, harr⟩ := first b (.inScope c :: k) cs
  cases e with
  | normal => exact ⟨.normal, a₁, w₁, hq, .head step_scope (Steps.trans harr (.one step_inScope))⟩
  | exit id => exact ⟨.exit id, a₁, w₁, hq, fun k' hk => .head step_scope (harr k' (by simp [exitTo, hk]))⟩
  | goto l' =>
    obtain ⟨rest₂, hf₂, e₂, a₂, w₂, hq₂, harr₂⟩ := key _ l' a₁ w₁ rfl hq
    have hg : gotoIn l' (.inScope c :: k) = some (.code rest₂ :: .inScope c :: k) := by simp [gotoIn, hf₂]
    exact ⟨e₂, a₂, w₂, hq₂, .of_steps (.head step_scope (harr _ hg)) harr₂⟩
  | ret => exact ⟨_, a₁, w₁, hq, .of_steps (.one step_scope) harr⟩
  | panic ch => exact ⟨_, a₁, w₁, hq, .of_steps (.one step_scope) harr⟩
  | outgrown => exact ⟨_, a₁, w₁, hq, .of_steps (.one step_scope) harr⟩
end Go.Proofs.YtlmaopljihbdkaaGreat
