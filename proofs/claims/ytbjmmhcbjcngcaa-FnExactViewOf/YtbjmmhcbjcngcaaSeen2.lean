/- Chapter 4: the program's 'seenIn' and the model's 'l4Last', walked; what stands last in a log. -/
import Derived.Test.YtbjmmhcbjcngcaaSeen
import Derived.Test.YtbjmmhcbjcngcaaBlockAt
namespace Go.Proofs.Ytbjmmhcbjcngcaa
open Go.RowKit Go.Maps

theorem RdP_narrow {S S' : Nat → Prop} {w : World} {v : Value} {ps : List (Int × List Int)} (h : RdP S w v ps) (hP : ∀ b, S b → S' b) : RdP S' w v ps := by
  obtain ⟨ao, c, e1, e2, e3⟩ := h
  refine ⟨ao, c, e1, e2, fun hne => ?_⟩
  obtain ⟨b, off, V, f1, f2, f3⟩ := e3 hne
  exact ⟨b, off, V, f1, hP b f2, fun i hi => ⟨(f3 i hi).1, (f3 i hi).2.1, (f3 i hi).2.2.narrow (fun _ b hb => hP b hb)⟩⟩
theorem SeenAt.congr {w : World} {B n : Nat} {M M' : Int → List Int} (h : SeenAt w B n M) (hM : ∀ a : Int, 0 ≤ a → a < 40 → M a = M' a) : SeenAt w B n M' := by
  obtain ⟨D, h1, h2, hk⟩ := h
  exact ⟨D, h1, fun a h3 h4 => by rw [← hM a h3 h4]; exact h2 a h3 h4, fun a => (hk a).trans ⟨fun h => ⟨h.1, h.2.1, by rw [← hM a h.1 h.2.1]; exact h.2.2⟩, fun h => ⟨h.1, h.2.1, by rw [hM a h.1 h.2.1]; exact h.2.2⟩⟩⟩
/-- What stands in the home blocks. -/
def homeM (xss : List (List Int)) (ps : List (Int × List Int)) (k : Nat) : Int → List Int := fun a => if a < (k : Int) then blkTo xss ps (26 + a) ps.length else []
theorem homeM_step (xss : List (List Int)) (ps : List (Int × List Int)) (k : Nat) (a : Int) : putM (homeM xss ps k) ((k : Int), blkTo xss ps (26 + (k : Int)) ps.length) a = homeM xss ps (k + 1) a := by
  unfold putM homeM
  by_cases e : a = (k : Int)
  · subst e; simp only [if_true]; rw [if_pos (by omega)]
  · simp only [if_neg e]
    by_cases h : a < (k : Int)
    · rw [if_pos h, if_pos (by omega)]
    · rw [if_neg h, if_neg (by omega)]

set_option maxHeartbeats 2000000 in
set_option maxRecDepth 4000 in
theorem seenIn {S T L : Nat → Prop} {w : World} {u v z : Value} {xss : List (List Int)} {ps lps : List (Int × List Int)} (hu : RdII S w u xss) (hv : RdP T w v ps) (hs : Small xss ps) (h66 : xss.length = 66) (hz : RdP L w z lps) (hLt : ∀ b, L b → b < w.heap.size) (hza : ∀ i, i < lps.length → 0 ≤ (lps.getD i (0, [])).1 ∧ (lps.getD i (0, [])).1 < 40) (hzl : lps.length ≤ 24) :
    Calls Try.prog 20 #[.agg #[u, v], z] w fun e w' => ∃ B, e = .returned (.map (some B)) ∧ w.heap.size ≤ B ∧ Below w.heap.size w w' ∧ SeenAt w' B (40 + lps.length) (lps.foldl putM (homeM xss ps 40)) := by
  obtain ⟨ao, c, rfl, _⟩ := hu.shape
  obtain ⟨ao', c', rfl, _⟩ := hv.shape
  obtain ⟨az, cz, rfl, _⟩ := hz.shape
  have hmm := @run_makeMap Try.prog
  have HWd := hide (fun (w' : World) (hb : Below w.heap.size w w') (k : Nat) (hk : k < 40) => wordsAt (26 + (k : Int)) (hu.later hb) (hv.later hb) hs (by omega) (by rw [h66]; omega))
  have HZ := hide hz
  have HLt := hide hLt
  have HZa := hide hza
  have HSt := hide (homeM_step xss ps)
  obtain ⟨n, hn⟩ : ∃ n, xss.length = n := ⟨_, rfl⟩
  obtain ⟨m, hm⟩ : ∃ m, ps.length = m := ⟨_, rfl⟩
  obtain ⟨l, hl⟩ : ∃ l, lps.length = l := ⟨_, rfl⟩
  have HL := hide hl
  rw [hm] at HSt
  rw [hn, hm] at HWd
  rw [hl] at HZ HZa hzl
  rw [hn, hm, hl]
  obtain ⟨G, hG⟩ : ∃ G : Int → List Int, (fun a => blkTo xss ps (26 + a) m) = G := ⟨_, rfl⟩
  have HBk : Hid (∀ k : Nat, blkTo xss ps (26 + (k : Int)) m = G k) := fun k => by rw [← hG]
  have HM0 : Hid (∀ a, 0 ≤ a → homeM xss ps 0 a = []) := fun a ha => by unfold homeM; rw [if_neg (by omega)]
  clear hu hv hs h66 hz hLt hza hn hm hl hG
  generalize homeM xss ps = HMf at HSt HM0 ⊢
  obtain ⟨W0, hW0⟩ : ∃ W0, (w.alloc (.cells #[.slice ao n c, .slice ao' m c'] 32)) = W0 := ⟨_, rfl⟩
  have hzW : W0.heap.size = w.heap.size + 1 := by rw [← hW0]; simp
  have bW : Hid (Below w.heap.size w W0) := by rw [← hW0]; exact below_alloc _ _
  have HV0 : Hid (Var2 W0 w.heap.size (.slice ao n c) (.slice ao' m c')) := by rw [← hW0]; exact Var2_new _ _ _ _
  go_enter Try.func20, Try.ntmps20
  go_wp2
  go_loopw [8] (fun i wr => ∃ k : Nat, k ≤ 40 ∧ i = .int .i64 k ∧ Hid (Below w.heap.size w wr) ∧ Hid (Var2 wr w.heap.size (.slice ao n c) (.slice ao' m c')) ∧ Hid (SeenAt wr (w.heap.size + 1) k (HMf k))) (fun i _ => 40 - (intOf i).toNat)
  case atStart =>
    have bM := below_alloc W0 (.map #[] 0)
    have hm0 := World.ownsMap_made W0 Try.prog 2 asIs
    rw [hzW] at hm0
    have hst : Below w.heap.size w (W0.alloc (.map #[] 0)) ∧ Var2 (W0.alloc (.map #[] 0)) w.heap.size (.slice ao n c) (.slice ao' m c') ∧ SeenAt (W0.alloc (.map #[] 0)) (w.heap.size + 1) 0 (HMf 0) :=
      ⟨below_on bW.out bM, HV0.out.later bM, ⟨_, hm0, fun a h1 _ => ⟨.slice none 0 0, rfl, by rw [HM0.out a h1]; exact ⟨none, 0, rfl, Nat.zero_le _, fun h => absurd rfl h⟩⟩, fun a => ⟨fun h => absurd h (by simp [has_eq]), fun h => absurd (HM0.out a h.1) h.2.2⟩⟩⟩
    first
      | exact ⟨0, Nat.zero_le _, rfl, hst.1, hst.2.1, hst.2.2⟩
      | (subst hW0; exact ⟨0, Nat.zero_le _, rfl, hst.1, hst.2.1, hst.2.2⟩)
  case round =>
    obtain ⟨k, hk, rfl, HB, HV, HS⟩ := hrel
    have v0 := HV.out.1
    have v1 := HV.out.2
    have hwB := HS.out.lt
    by_cases hlt : k < 40
    · have hwk : IntKind.i64.wrap (26 + (k : Int)) = 26 + (k : Int) := by simp [IntKind.wrap, IntKind.bits, IntKind.signed]; omega
      have hk40 : (k : Int) < 40 := by omega
      have HW := hide (HWd.out wr HB.out k hlt)
      rw [HBk.out k] at HW
      have hSk : ∀ a : Int, putM (HMf k) ((k : Int), G k) a = HMf (k + 1) a := fun a => by rw [← HSt.out k a, HBk.out k]
      have HSk := hide hSk
      clear hSk
      generalize G k = ws at HW HSk
      go_wp2_with fail
      refine HW.out.mono ?_
      rintro e w1 ⟨z1, rfl, hb1, ho1⟩
      obtain ⟨a1, k1, rfl⟩ := ho1.shape
      have hz1 := hb1.size
      have bP := below_alloc w1 (.cells #[.int .i64 (k : Int), .slice a1 ws.length k1] 45)
      have b1P := below_on hb1 bP
      have HRp : Hid (RdP (· ≠ w.heap.size + 1) (w1.alloc (.cells #[.int .i64 (k : Int), .slice a1 ws.length k1] 45)) (.slice (some ⟨w1.heap.size, 0, none⟩) 1 1) [((k : Int), ws)]) := by
        refine ⟨some ⟨w1.heap.size, 0, none⟩, 1, rfl, by simp, fun _ => ⟨w1.heap.size, 0, fun _ => .slice a1 ws.length k1, rfl, by omega, fun i hi => ?_⟩⟩
        have hi0 : i = 0 := by simp at hi; exact hi
        subst hi0
        exact ⟨by simp [go_sem], by simp [go_sem], (ho1.rd.later bP).narrow (fun _ b hb => by have := hb.1; omega)⟩
      have HCl := hide (seenPut (HS.out.later b1P) HRp.out (fun b hb => hb) (fun i hi => by
        have hi0 : i = 0 := by simp at hi; exact hi
        subst hi0
        simp; omega) (by simp; omega))
      have HB1 := hide (below_on HB.out b1P)
      have HV1 := hide (HV.out.later b1P)
      have hzP := b1P.size
      clear hb1 ho1 bP b1P
      go_wp2_with fail
      refine HCl.out.mono ?_
      rintro e w2 ⟨rfl, hg2, hs2⟩
      have HS2 := hide ((hs2.mono (by simp : k + [((k : Int), ws)].length ≤ k + 1)).congr (M' := HMf (k + 1)) (fun a _ _ => HSk.out a))
      have HB2 := hide (HB1.out.grown hg2 (by have := HB1.out.size; exact this) (fun r hr => by injection hr with hr; omega))
      have cN : ∀ o x, (w1.alloc (.cells #[.int .i64 (k : Int), .slice a1 ws.length k1] 45)).cell? ⟨w.heap.size, o, none⟩ = some x → w2.cell? ⟨w.heap.size, o, none⟩ = some x := fun o x h => (World.cell?_of_block (hg2.block _ (World.block_lt_of_cell? _ _ h) (fun e => by injection e with e; simp at e))).trans h
      have HV2 : Hid (Var2 w2 w.heap.size (.slice ao n c) (.slice ao' m c')) := ⟨cN _ _ HV1.out.1, cN _ _ HV1.out.2⟩
      clear hg2 hs2 cN
      go_wp2
      go_roundw
      case rel => exact ⟨k + 1, hlt, by go_num, HB2.out, HV2.out, HS2.out⟩
      case measure => simp [intOf]; omega
    · have hk4 : k = 40 := by omega
      subst hk4
      have HCl := hide (seenPut (T := fun b => L b ∧ b ≠ w.heap.size + 1) HS.out ((RdP_narrow HZ.out (fun b hb => ⟨hb, by have := HLt.out b hb; omega⟩)).later HB.out) (fun b hb => hb.2) (by rw [HL.out]; exact HZa.out) (by rw [HL.out]; omega))
      rw [HL.out] at HCl
      go_wp2_with fail
      refine HCl.out.mono ?_
      rintro e w2 ⟨rfl, hg2, hs2⟩
      have HB2 := hide (HB.out.grown hg2 HB.out.size (fun r hr => by injection hr with hr; omega))
      have HS2 := hide hs2
      clear hg2 hs2
      go_wp2
      go_ret
      exact ⟨_, rfl, by omega, HB2.out, HS2.out⟩
end Go.Proofs.Ytbjmmhcbjcngcaa
