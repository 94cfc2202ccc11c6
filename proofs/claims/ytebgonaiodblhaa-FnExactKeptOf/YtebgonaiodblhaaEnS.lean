/- Chapter 9: lists of entries: the laws' helpers over them. Made by program (genen.py). -/
import Derived.Test.YtebgonaiodblhaaObS
import Derived.Test.YtebgonaiodblhaaEn
namespace Go.Proofs.Ytebgonaiodblhaa
open Go.RowKit

theorem eqEn_cells (X : Nat → Int) (Y : Nat → Int) (V V' : Nat → Value) (n b off c b' off' c' : Nat) (w : World) (hm : n ≤ 9223372036854775807)
    (hx : ∀ i, i < n → w.cell? ⟨b, off + i * 3, none⟩ = some (.int .i64 (X i)) ∧ w.cell? ⟨b, off + i * 3 + 1, none⟩ = some (.int .i64 (Y i)) ∧ w.cell? ⟨b, off + i * 3 + 2, none⟩ = some (V i))
    (hy : ∀ i, i < n → w.cell? ⟨b', off' + i * 3, none⟩ = some (.int .i64 (X i)) ∧ w.cell? ⟨b', off' + i * 3 + 1, none⟩ = some (.int .i64 (Y i)) ∧ w.cell? ⟨b', off' + i * 3 + 2, none⟩ = some (V' i))
    (hs : ∀ i, i < n → ∃ xs S T, RdI S w (V i) xs ∧ RdI T w (V' i) xs) :
    Calls Try.prog 27 #[.slice (some ⟨b, off, none⟩) n c, .slice (some ⟨b', off', none⟩) n c'] w fun e w' =>
      e = .returned (.bool true) ∧ Below w.heap.size w w' := by
  have HX := hide hx
  have HY := hide hy
  have HS := hide hs
  clear hx hy hs
  go_enter Try.func27, Try.ntmps27
  go_wp2
  go_loopw [5] (fun i wr => ∃ k : Nat, k ≤ n ∧ i = .int .i64 k ∧ Hid (Below w.heap.size w wr)) (fun i _ => n - (intOf i).toNat)
  case atStart => exact ⟨0, Nat.zero_le _, rfl, Below.refl _ _⟩
  case round =>
    obtain ⟨k, hk, rfl, HB⟩ := hrel
    by_cases hlt : k < n
    · have g0 := cell_later HB.out (HX.out k hlt).1
      have g1 := cell_later HB.out (HX.out k hlt).2.1
      have g2 := cell_later HB.out (HX.out k hlt).2.2
      have g3 := cell_later HB.out (HY.out k hlt).1
      have g4 := cell_later HB.out (HY.out k hlt).2.1
      have g5 := cell_later HB.out (HY.out k hlt).2.2
      obtain ⟨xs, S, T, r1, r2⟩ := HS.out k hlt
      obtain ⟨a1, k1, e1⟩ := r1.shape
      obtain ⟨a2, k2, e2⟩ := r2.shape
      rw [e1] at g2 r1
      rw [e2] at g5 r2
      have R1 := hide (r1.later HB.out)
      have R2 := hide (r2.later HB.out)
      have hk0 : (0 : Int) ≤ (k : Int) := Int.natCast_nonneg _
      have hk1 : (k : Int) < (n : Int) := by omega
      clear r1 r2
      go_wp2_with fail
      go_region_held3 (fun w' => w'.cell? ⟨b, off + k * 3, none⟩ = some (.int .i64 (X k)) ∧ w'.cell? ⟨b, off + k * 3 + 1, none⟩ = some (.int .i64 (Y k)) ∧ w'.cell? ⟨b, off + k * 3 + 2, none⟩ = some (.slice a1 xs.length k1) ∧ w'.cell? ⟨b', off' + k * 3, none⟩ = some (.int .i64 (X k)) ∧ w'.cell? ⟨b', off' + k * 3 + 1, none⟩ = some (.int .i64 (Y k)) ∧ w'.cell? ⟨b', off' + k * 3 + 2, none⟩ = some (.slice a2 xs.length k2)) (first | exact ⟨g0, g1, g2, g3, g4, g5⟩ | exact ⟨c0, c1, c2, c3, c4, c5⟩)
        (first
          | (go_at_call 39; refine (eqEntry (X k) (Y k) (R1.out.drewN 1) (R2.out.drewN 1)).mono ?_; rintro e w' ⟨rfl, hb⟩; have c0 := cell_later hb g0; have c1 := cell_later hb g1; have c2 := cell_later hb g2; have c3 := cell_later hb g3; have c4 := cell_later hb g4; have c5 := cell_later hb g5; have HB' := hide hb; clear hb))
      go_wp2
      go_roundw
      case rel => exact ⟨k + 1, by omega, by go_num, below_on HB.out (below_on (below_drewN wr 1) HB'.out)⟩
      case measure => simp [intOf]; omega
    · go_wp2
      go_ret
      exact ⟨rfl, HB.out⟩

theorem eqEn_none (ao ao' : Option Addr) (c c' : Nat) (w : World) :
    Calls Try.prog 27 #[.slice ao 0 c, .slice ao' 0 c'] w fun e w' => e = .returned (.bool true) ∧ Below w.heap.size w w' := by
  go_enter Try.func27, Try.ntmps27
  go_wp2
  go_loopw [5] (fun i wr => i = .int .i64 0 ∧ wr = w) (fun _ _ => 0)
  case atStart => exact ⟨rfl, rfl⟩
  case round =>
    obtain ⟨rfl, rfl⟩ := hrel
    go_wp2
    go_ret
    exact ⟨rfl, Below.refl _ _⟩

theorem eqEn {S T : Nat → Prop} {w : World} {u v : Value} {ts : List Oj} (hu : RdJ S w u ts) (hv : RdJ T w v ts) :
    Calls Try.prog 27 #[u, v] w fun e w' => e = .returned (.bool true) ∧ Below w.heap.size w w' := by
  obtain ⟨ao, c, rfl, hm, h⟩ := hu
  obtain ⟨ao', c', rfl, _, h'⟩ := hv
  by_cases hne : ts = []
  · subst hne; exact eqEn_none _ _ _ _ _
  · obtain ⟨b, off, V, rfl, _, hc⟩ := h hne
    obtain ⟨b', off', V', rfl, _, hc'⟩ := h' hne
    exact eqEn_cells (fun i => (ts.getD i oj0).1) (fun i => (ts.getD i oj0).2.1) V V' _ _ _ _ _ _ _ _ hm (fun i hi => ⟨(hc i hi).1, (hc i hi).2.1, (hc i hi).2.2.1⟩) (fun i hi => ⟨(hc' i hi).1, (hc' i hi).2.1, (hc' i hi).2.2.1⟩) (fun i hi => ⟨_, S, T, (hc i hi).2.2.2, (hc' i hi).2.2.2⟩)

end Go.Proofs.Ytebgonaiodblhaa
