/- Hd1 Hd Ob IvP in one text: what each says stands at its head below. -/
import Derived.Test.YtncgpfapepminaaDoorG05
import Derived.Test.YtncgpfapepminaaDoorG04
import Derived.Test.YtncgpfapepminaaDoorG03
/- Chapter 10, draws: 'spec.l10DrawData', walked. -/
namespace Go.Proofs.YtncgpfapepminaaDoor
open Go.RowKit

set_option maxHeartbeats 4000000 in
set_option maxRecDepth 4000 in
/-- 'l10DrawData': some numbers, of new memory. -/
theorem l10DrawData {s : Nat} {v : Value} {bs : List Nat} {w : World} {t : Nat} (hS : Src s v bs w t) (ht : t ≤ 1000000000) :
    Calls Tryd.prog 57 #[.pointer (some ⟨s, 0, none⟩)] w fun e w' => ∃ (z : Value) (xs : List Int), e = .returned z ∧ xs.length ≤ 20 ∧ OwI w.heap.size w' z xs ∧ ∃ t', Drawn 32 s v bs t t' w w' := by
  have HS := hide hS
  have hsl := hS.lt
  obtain ⟨i0, hi, hz0, hz1, hz2⟩ := info_parts Tryd.infoInt
  clear hS
  have D0 := hide ((Drawn.refl HS.out).later (below_alloc w (.cells #[] 2)))
  have O0 := hide (World.ownsRow_made (base := w.heap.size) (e := 2) (size := 1) w #[] 0 (Nat.le_refl _) (by unfold maxLen; omega) (by simp))
  have hs0 : w.heap.size + 1 = (w.alloc (.cells #[] 2)).heap.size := by simp
  obtain ⟨W0, hW0⟩ : ∃ x, w.alloc (.cells #[] 2) = x := ⟨_, rfl⟩
  rw [hW0] at D0 O0 hs0
  go_enter Tryd.func57, Tryd.ntmps57
  go_wp2_with fail
  (try rw [hW0])
  clear hW0
  refine (l1Next 20 D0.out.1 (by omega) (by omega) (by omega)).mono ?_
  rintro e w1 ⟨m0, rfl, a0, b0, t1, hd1⟩
  obtain ⟨m, rfl⟩ := Int.eq_ofNat_of_zero_le a0
  have hm : m < 20 := by have := b0 (by omega); omega
  have D1 := hide ((D0.out.on hd1).mono (show 0 + 1 ≤ 1 by omega))
  have O1 := hide (ownsRow_wr O0.out hd1.2.1 (ownBlock_ne O0.out hsl))
  clear hd1 D0 O0 a0 b0
  go_wp2
  go_loopw [3, 4] (fun v' k wr => ∃ (n K : Nat) (ao : Option Addr) (c : Nat) (xs : List Int) (t5 : Nat), n + K = m ∧ k = .int .i64 K ∧ v' = .slice ao n c ∧ Hid (xs.length = n) ∧ Hid (wr.ownsRow w.heap.size 2 1 (.slice ao n c) n (xs.map (Value.int .i64))) ∧ Hid (Drawn (1 + n) s v bs t t5 w wr)) (fun _ k _ => (intOf k).toNat)
  case atStart => exact ⟨0, m, _, _, [], t1, by omega, rfl, rfl, rfl, O1.out, D1.out⟩
  case round =>
    obtain ⟨n, K, ao, c, xs, t5, hnK, rfl, rfl, HL, HO, HD⟩ := hrel
    have hz := HD.out.2.1.size
    by_cases hK0 : 0 < K
    · have HnK := hide hnK
      clear hnK
      go_wp2_with fail
      refine (l1Next 99 HD.out.1 (by have := HD.out.2.2; have := HnK.out; omega) (by omega) (by omega)).mono ?_
      rintro e w6 ⟨r, rfl, ar, br, t6, hd6⟩
      have D6 := hide (HD.out.on hd6)
      have O6 := hide (ownsRow_wr HO.out hd6.2.1 (ownBlock_ne HO.out hsl))
      have hz6 := hd6.2.1.size
      have hn1 : n ≤ 1000 := by have := HnK.out; omega
      have hK1 : K ≤ 1000 := by have := HnK.out; omega
      clear hd6 br
      go_wp2_with (at_builtin; refine wpList_append_lies _ rfl _ _ _ rfl w.heap.size 2 i0 (.int .i64 0) 1 8 Tryd.underlying24 hi hz0 hz1 hz2 rfl (by omega) _ n _ (by rfl) (O6.out.alloc _) ⟨w6.heap.size, 0, none⟩ 1 1 [.int .i64 r] (by rfl) (by rfl) (World.news_of_block (cs := #[.int .i64 r]) (t := 2) (fr := (0, 0)) (heap_alloc_new w6 _)) (by simp [Value.oneCell']) (by omega) (by unfold maxLen; omega) (by omega) (by simp; omega) (w6.heap.size + 1) (by simp) ?_)
      intro g cap w7 hown hgrow hat hlt7
      have HB7 := hide ((Below.mono (below_alloc w6 (.cells #[.int .i64 r] 2)) (show w.heap.size ≤ w6.heap.size by omega)).grown hgrow (by simp; omega) (fun r hr => (O6.out.lt r hr).1))
      have D7 := hide ((D6.out.onBelow HS.out HB7.out).mono (show 1 + n + 1 ≤ 1 + (n + 1) by omega))
      have O7 : Hid (w7.ownsRow w.heap.size 2 1 (.slice (some ⟨g, 0, none⟩) (n + 1) cap) (n + 1) ((xs ++ [r]).map (Value.int .i64))) := by rw [Hid, List.map_append]; exact hown
      have HL7 : Hid ((xs ++ [r]).length = n + 1) := by unfold Hid; rw [List.length_append, HL.out]; rfl
      clear hown hgrow hat hlt7 HB7 O6 D6
      obtain ⟨K', rfl⟩ : ∃ K', K = K' + 1 := ⟨K - 1, by omega⟩
      go_wp2
      go_roundw
      case rel => exact ⟨n + 1, K', _, _, xs ++ [r], t6, by have := HnK.out; omega, by go_num, rfl, HL7.out, O7.out, D7.out⟩
      case measure => simp [intOf]
    · have hKz : K = 0 := by omega
      have hnm : n = m := by omega
      subst hKz hnm
      have hxl : xs.length ≤ 20 := by have := HL.out; omega
      have HX := hide (ow_of_owns HL.out HO.out (by omega))
      go_wp2
      go_ret
      exact ⟨_, xs, rfl, hxl, HX.out, t5, HD.out.mono (by omega)⟩
end Go.Proofs.YtncgpfapepminaaDoor
/- The laws' helpers over Header and HeaderResult. Made by program (genflat.py). -/
namespace Go.Proofs.YtncgpfapepminaaDoor
open Go.RowKit
end Go.Proofs.YtncgpfapepminaaDoor
/- The laws' helpers over Object. Made by program (genobj.py). -/
namespace Go.Proofs.YtncgpfapepminaaDoor
open Go.RowKit
end Go.Proofs.YtncgpfapepminaaDoor
/- The laws' helpers over a code with puts; puts among the arguments. -/
namespace Go.Proofs.YtncgpfapepminaaDoor
open Go.RowKit

/-- What a call that ends in a code and puts is to leave. -/
def EndsP (x : Int) (rs : List (Int × List Int)) (w : World) (e : Ending) (w' : World) : Prop :=
  ∃ z, e = .returned (.agg #[.int .i64 x, z]) ∧ Below w.heap.size w w' ∧ OwP (fun b => w.heap.size ≤ b ∧ b < w'.heap.size) w' z rs

theorem szD_nonneg (xss : List (List Int)) (ps : List (Int × List Int)) : 0 ≤ szD xss ps := by unfold szD; omega
def szQ (qs : List (Int × List Int)) : Int := (qs.length : Int) + (totW qs qs.length : Int)
theorem szQ_nonneg (qs : List (Int × List Int)) : 0 ≤ szQ qs := by unfold szQ; omega
theorem smallQ {qs : List (Int × List Int)} (h : szQ qs ≤ 1048576) : qs.length ≤ 1048576 ∧ (∀ i, i < qs.length → (qs.getD i (0, [])).2.length ≤ 1048576) ∧ (totP qs qs.length : Int) ≤ 2097152 := by
  unfold szQ at h
  have h3 := totP_eq qs qs.length (Nat.le_refl _)
  exact ⟨by omega, fun i hi => by have := len_le_totW qs i hi; omega, by omega⟩

/-- Puts in [lo, hi). -/
def IvP (lo hi : Nat) (w : World) (v : Value) (ps : List (Int × List Int)) : Prop :=
  ∃ S : Nat → Prop, hi ≤ w.heap.size ∧ (∀ b, S b → lo ≤ b ∧ b < hi) ∧ OwP S w v ps
theorem OwP.iv {B : Nat} {w : World} {v : Value} {ps : List (Int × List Int)} (h : OwP (fun b => B ≤ b ∧ b < w.heap.size) w v ps) : IvP B w.heap.size w v ps :=
  ⟨_, Nat.le_refl _, fun _ hb => hb, h⟩
theorem IvP.wr {lo hi : Nat} {V : Nat → Prop} {w w' : World} {v : Value} {ps : List (Int × List Int)} (h : IvP lo hi w v ps) (hw : Wr V w w') (hd : ∀ b, lo ≤ b → b < hi → ¬ V b) : IvP lo hi w' v ps := by
  obtain ⟨S, h0, h1, h2⟩ := h
  exact ⟨S, Nat.le_trans h0 hw.size, h1, h2.wr hw fun b hb => hd b (h1 b hb).1 (h1 b hb).2⟩
theorem IvP.later {lo hi : Nat} {w w' : World} {v : Value} {ps : List (Int × List Int)} (h : IvP lo hi w v ps) (hb : Below w.heap.size w w') : IvP lo hi w' v ps :=
  h.wr (Wr.of_below hb fun _ => False) fun _ _ _ => id
theorem IvP.rd {lo hi : Nat} {w : World} {v : Value} {ps : List (Int × List Int)} (h : IvP lo hi w v ps) : RdP (fun b => lo ≤ b ∧ b < hi) w v ps := by
  obtain ⟨S, h0, h1, h2⟩ := h
  exact (h2.mono h1).rd

/-- Puts in [lo, hi) whose marks stand from k on. -/
def MkPs (k : Int) (lo hi : Nat) (w : World) (v : Value) (ps : List (Int × List Int)) : Prop := RdP (fun b => lo ≤ b ∧ b < hi) w v (mkP k ps)
theorem MkPs.wr {k : Int} {lo hi : Nat} {V : Nat → Prop} {w w' : World} {v : Value} {ps : List (Int × List Int)} (h : MkPs k lo hi w v ps) (hw : Wr V w w') (hd : ∀ b, lo ≤ b → b < hi → ¬ V b) : MkPs k lo hi w' v ps :=
  RdP.wr h hw fun b hb => hd b hb.1 hb.2
theorem MkPs.later {k : Int} {lo hi : Nat} {w w' : World} {v : Value} {ps : List (Int × List Int)} (h : MkPs k lo hi w v ps) (hb : Below w.heap.size w w') : MkPs k lo hi w' v ps := RdP.later h hb

end Go.Proofs.YtncgpfapepminaaDoor
