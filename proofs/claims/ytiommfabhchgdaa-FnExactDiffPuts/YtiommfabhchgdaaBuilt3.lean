/- 'spec.l1Puts' and 'spec.l1Copy', walked. -/
import Derived.Test.YtiommfabhchgdaaRet
namespace Go.Proofs.Ytiommfabhchgdaa
open Go.RowKit

theorem BuiltP.empty (w : World) (P : Nat → Prop) (hP : P w.heap.size) (ps : List (Int × List Int)) : BuiltP P (w.alloc (.cells #[] 57)) (.slice (some ⟨w.heap.size, 0, none⟩) 0 0) 0 ps :=
  ⟨fun _ => .bool false, fun _ => 0, World.ownsRow_made w #[] 0 (Nat.zero_le _) (by unfold maxLen; omega) (by simp), fun r h => by injection h with h; subst h; exact hP, Inner.zero _ _ _ _ _ _⟩

set_option maxHeartbeats 1000000 in
set_option maxRecDepth 4000 in
/-- 'spec.l1Puts' of a reading. -/
theorem l1Puts {S : Nat → Prop} {w : World} {u : Value} {ps : List (Int × List Int)} (hu : RdP S w u ps) (hm : ps.length ≤ 1048576) (hl : ∀ i, i < ps.length → (ps.getD i (0, [])).2.length ≤ 1048576) :
    Calls Try.prog 66 #[u] w fun e w' => ∃ z, e = .returned z ∧ Below w.heap.size w w' ∧ BuiltP (w.heap.size ≤ ·) w' z ps.length ps := by
  obtain ⟨ao, c, rfl, _⟩ := hu.shape
  obtain ⟨i0, hi, hz0, hz1, hz2⟩ := info_parts Try.infoPut
  have HU := hide hu
  have HL := hide hl
  obtain ⟨n, hn⟩ : ∃ n, ps.length = n := ⟨_, rfl⟩
  rw [hn] at hm ⊢
  have HN := hide hn
  rw [hn] at HU
  clear hu hl hn
  go_enter Try.func66, Try.ntmps66
  go_wp2
  go_loopw [3, 4] (fun v i wr => ∃ k : Nat, k ≤ n ∧ i = .int .i64 k ∧ Hid (BuiltP (w.heap.size ≤ ·) wr v k ps) ∧ Hid (Below w.heap.size w wr)) (fun _ i _ => n - (intOf i).toNat)
  case atStart => exact ⟨0, Nat.zero_le _, rfl, BuiltP.empty _ _ (Nat.le_refl _) _, below_alloc _ _⟩
  case round =>
    obtain ⟨k, hk, rfl, HBu, HB⟩ := hrel
    by_cases hlt : k < n
    · obtain ⟨b, off, V, rfl, q1, q2, q3⟩ := HU.out.at (k := k) (by rw [HN.out]; exact hlt)
      obtain ⟨ao3, c3, rfl⟩ := q3.shape
      have g1 := cell_later HB.out q1
      have g2 := cell_later HB.out q2
      obtain ⟨x, hx⟩ : ∃ x, (ps.getD k (0, [])).1 = x := ⟨_, rfl⟩
      obtain ⟨l, hl⟩ : ∃ l, (ps.getD k (0, [])).2.length = l := ⟨_, rfl⟩
      have HX := hide hx
      have HLen := hide hl
      have HLk := hide (HL.out k (by rw [HN.out]; exact hlt))
      have R := hide (q3.later HB.out)
      rw [hx] at g1
      rw [hl] at g2 R
      have hbl := World.block_lt_of_cell? _ _ q1
      obtain ⟨V2, Bk2, hown, hpr, hin⟩ := HBu.out
      have HOw0 := hide hown
      have HPr := hide hpr
      have HIn := hide hin
      have hz := HB.out.size
      have hk0 : (0 : Int) ≤ (k : Int) := Int.natCast_nonneg _
      have hk1 : (k : Int) < (n : Int) := by omega
      clear q1 q2 q3 hx hl hin hown hpr
      go_wp2_with fail
      go_region_held3 (fun w' => w'.cell? ⟨b, off + k * 2, none⟩ = some (.int .i64 x) ∧ w'.cell? ⟨b, off + k * 2 + 1, none⟩ = some (.slice ao3 l c3)) (first | exact ⟨g1, g2⟩ | exact ⟨e0, e1⟩ | exact ⟨cell_later (below_alloc _ _) e0, cell_later (below_alloc _ _) e1⟩ | exact ⟨s0, s1⟩)
        (first
          | (go_at_call 47; refine (l1Ints (R.out.drewN 1) HLk.out).mono ?_; rintro e w1 ⟨z, rfl, hb1, ho1⟩; obtain ⟨ao4, c4, rfl⟩ := ho1.shape; have e0 : w1.cell? ⟨b, off + k * 2, none⟩ = some (.int .i64 x) := cell_later hb1 g1; have e1 : w1.cell? ⟨b, off + k * 2 + 1, none⟩ = some (.slice ao3 l c3) := cell_later hb1 g2; have HB1 := hide (below_on (below_drewN wr 1) hb1); have HO1 := hide ho1; have hzz : wr.heap.size ≤ w1.heap.size := hb1.size; clear hb1 ho1)
          | (refine step_append_lies _ (by rfl) _ _ _ (by rfl) 0 57 i0 (.agg #[.int .i64 0, .slice none 0 0]) 2 32 Try.underlying27 hi hz0 hz1 hz2 rfl (by omega) _ k _ (by rfl) (ownsRow_later (ownsRow_later HOw0.out HB1.out) (below_alloc w1 (.cells #[.int .i64 x, .slice ao4 (ps.getD k (0, [])).2.length c4] 57))) ⟨w1.heap.size, 0, none⟩ 1 1 [.int .i64 x, .slice ao4 (ps.getD k (0, [])).2.length c4] (by rfl) (by rfl) (World.news_of_block (cs := #[.int .i64 x, .slice ao4 (ps.getD k (0, [])).2.length c4]) (t := 57) (fr := (0, 0)) (heap_alloc_new w1 _)) cells2_one (by omega) (by unfold maxLen; omega) (by omega) (Nat.zero_le _) (w1.heap.size + 1) (by simp) ?_; intro g cap w3 hown3 hgrow hat hlt3; have s0 : w3.cell? ⟨b, off + k * 2, none⟩ = some (.int .i64 x) := (hgrow.cell_far _ (by simp; omega) (fun e => by have := HPr.out _ e.symm; dsimp only at this; omega)).trans (cell_later (below_alloc _ _) e0); have s1 : w3.cell? ⟨b, off + k * 2 + 1, none⟩ = some (.slice ao3 l c3) := (hgrow.cell_far _ (by simp; omega) (fun e => by have := HPr.out _ e.symm; dsimp only at this; omega)).trans (cell_later (below_alloc _ _) e1)))
      have HS := hide (BuiltP.step (P' := (w.heap.size ≤ ·)) HIn.out HOw0.out HPr.out (fun _ h => h) (fun b hb => Nat.le_trans hz hb) HB1.out HO1.out (below_alloc w1 (.cells #[.int .i64 x, .slice ao4 (ps.getD k (0, [])).2.length c4] 57)) (by rw [HX.out]; exact hown3) hgrow (by simpa using hat))
      have HB3 := hide ((below_on (below_on HB.out HB1.out) (below_alloc w1 (.cells #[.int .i64 x, .slice ao4 (ps.getD k (0, [])).2.length c4] 57))).grown hgrow (by simp; omega) (fun r hr => HPr.out r hr))
      clear hown3 hgrow hat s0 s1 e0 e1 hzz
      go_wp2
      go_roundw
      case rel => exact ⟨k + 1, hlt, by go_num, HS.out, HB3.out⟩
      case measure => simp [intOf]; omega
    · have hkn : k = n := by omega
      subst hkn
      go_wp2
      go_ret
      exact ⟨_, rfl, HB.out, HBu.out⟩
end Go.Proofs.Ytiommfabhchgdaa
