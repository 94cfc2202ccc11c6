/- En EnS Fault3 in one text: what each says stands at its head below. -/
import Derived.Test.YtcbapclpopbjbaaDoorG05
import Derived.Test.YtcbapclpopbjbaaDoorG08
import Derived.Test.YtcbapclpopbjbaaDoorG06
/- The laws' helpers over Entry. Made by program (genen.py). -/
namespace Go.Proofs.YtcbapclpopbjbaaDoor
open Go.RowKit

set_option maxHeartbeats 1000000 in
set_option maxRecDepth 4000 in
theorem toEntry {S : Nat → Prop} {w : World} {y : Value} {xs : List Int} (a0 a1 : Int) (hy : RdI S w y xs) (hm : xs.length ≤ 1048576) :
    Calls Tryd.prog 56 #[.agg #[.int .i64 a0, .int .i64 a1, y]] w fun e w' => ∃ z, e = .returned (.agg #[.int .i64 a0, .int .i64 a1, z]) ∧ Below w.heap.size w w' ∧ OwI w.heap.size w' z xs := by
  have HY := hide hy
  obtain ⟨ay, cy, rfl⟩ := hy.shape
  clear hy
  go_enter Tryd.func56, Tryd.ntmps56
  go_wp2_with fail
  refine (toI' (((HY.out.later (below_alloc _ _)).later (below_alloc _ _)).later (below_alloc _ _)) hm).mono ?_
  rintro e w1 ⟨z, rfl, hb, ho⟩
  obtain ⟨az, cz, rfl⟩ := ho.shape
  obtain ⟨l, hl⟩ : ∃ l, xs.length = l := ⟨_, rfl⟩
  rw [hl] at ho ⊢
  have v0 : w1.cell? ⟨w.heap.size + 1, 0, none⟩ = some (.int .i64 0) := cell_later hb (by simp [go_sem])
  have f0 : w1.frozen? ⟨w.heap.size + 1, 0, none⟩ = false := ((bcell hb).2 _ _ (by simp)).trans (by simp [go_sem])
  have o0 : w1.cell? ⟨w.heap.size + 2, 0, none⟩ = some (.int .i64 a0) := cell_later hb (by simp [go_sem])
  have g0 : w1.frozen? ⟨w.heap.size + 2, 0, none⟩ = false := ((bcell hb).2 _ _ (by simp)).trans (by simp [go_sem])
  have v1 : w1.cell? ⟨w.heap.size + 1, 1, none⟩ = some (.int .i64 0) := cell_later hb (by simp [go_sem])
  have f1 : w1.frozen? ⟨w.heap.size + 1, 1, none⟩ = false := ((bcell hb).2 _ _ (by simp)).trans (by simp [go_sem])
  have o1 : w1.cell? ⟨w.heap.size + 2, 1, none⟩ = some (.int .i64 a1) := cell_later hb (by simp [go_sem])
  have g1 : w1.frozen? ⟨w.heap.size + 2, 1, none⟩ = false := ((bcell hb).2 _ _ (by simp)).trans (by simp [go_sem])
  have v2 : w1.cell? ⟨w.heap.size + 1, 2, none⟩ = some (.slice none 0 0) := cell_later hb (by simp [go_sem])
  have f2 : w1.frozen? ⟨w.heap.size + 1, 2, none⟩ = false := ((bcell hb).2 _ _ (by simp)).trans (by simp [go_sem])
  have o2 : w1.cell? ⟨w.heap.size + 2, 2, none⟩ = some (.slice none 0 0) := cell_later hb (by simp [go_sem])
  have g2 : w1.frozen? ⟨w.heap.size + 2, 2, none⟩ = false := ((bcell hb).2 _ _ (by simp)).trans (by simp [go_sem])
  have HB := hide (below_on (below_on (below_on (below_alloc _ _) (below_alloc _ _)) (below_alloc _ _)) hb)
  have HO := hide ho
  clear hb ho
  go_wp2
  refine bodyPost_ret (v := .agg #[.int .i64 a0, .int .i64 a1, .slice az l cz]) (by simp [results, Tryd.results56, go_sem, v0, v1, v2]) rfl ⟨_, rfl, ?_, ?_⟩
  · repeat (first | refine Below.setCell ?_ (by first | (simp; done) | (simp; omega) | omega) _ | exact HB.out)
  · refine OwI.mono (OwI.wr HO.out (T := fun b => b < w.heap.size + 3) ?_ (fun b hb _ => by simp at hb; omega)) (by simp; omega)
    repeat (first | refine Wr.setCell ?_ (by first | (simp; done) | (simp; omega) | omega) _ | exact Wr.refl _ _)

set_option maxRecDepth 4000 in
theorem szEntry {S : Nat → Prop} {w : World} {y : Value} {xs : List Int} {left : Int} (a0 a1 : Int) (hy : RdI S w y xs) (h0 : 0 ≤ left) (h1 : left ≤ 1048576) :
    Calls Tryd.prog 49 #[.agg #[.int .i64 a0, .int .i64 a1, y], .int .i64 left] w fun e w' => e = .returned (.int .i64 (szv left (xs.length : Int))) ∧ Below w.heap.size w w' := by
  have HY := hide hy
  obtain ⟨ay, cy, rfl⟩ := hy.shape
  clear hy
  obtain ⟨l, hl⟩ : ∃ l, xs.length = l := ⟨_, rfl⟩
  have HL := hide hl
  rw [hl] at HY ⊢
  clear hl
  by_cases h : (l : Int) ≤ left
  · have HZ := hide (szv_yes h)
    rw [HZ.out]
    have hnn : 0 ≤ left - (l : Int) := by omega
    go_enter Tryd.func49, Tryd.ntmps49
    go_wp2_with fail
    refine (szI' (HY.out.later (below_alloc _ _)) HL.out h0 h1).mono ?_
    rintro e w1 ⟨he, hb⟩
    rw [HZ.out] at he
    subst he
    have HB := hide (below_on (below_alloc _ _) hb)
    clear hb
    go_wp2
    go_ret
    exact ⟨rfl, HB.out⟩
  · have HZ := hide (szv_no (left := left) (s := (l : Int)) (by omega))
    have hneg : ¬ (0 : Int) ≤ -1 := by decide
    rw [HZ.out]
    go_enter Tryd.func49, Tryd.ntmps49
    go_wp2_with fail
    refine (szI' (HY.out.later (below_alloc _ _)) HL.out h0 h1).mono ?_
    rintro e w1 ⟨he, hb⟩
    rw [HZ.out] at he
    subst he
    have HB := hide (below_on (below_alloc _ _) hb)
    clear hb
    go_wp2
    go_ret
    exact ⟨rfl, HB.out⟩

set_option maxRecDepth 4000 in
theorem eqEntry {S T : Nat → Prop} {w : World} {y z : Value} {xs : List Int} (a0 a1 : Int) (hy : RdI S w y xs) (hz : RdI T w z xs) :
    Calls Tryd.prog 59 #[.agg #[.int .i64 a0, .int .i64 a1, y], .agg #[.int .i64 a0, .int .i64 a1, z]] w fun e w' => e = .returned (.bool true) ∧ Below w.heap.size w w' := by
  have HY := hide hy
  have HZ := hide hz
  obtain ⟨ay, cy, rfl⟩ := hy.shape
  obtain ⟨az, cz, rfl⟩ := hz.shape
  clear hy hz
  go_enter Tryd.func59, Tryd.ntmps59
  go_wp2_with fail
  refine (eqI' ((HY.out.later (below_alloc _ _)).later (below_alloc _ _)) ((HZ.out.later (below_alloc _ _)).later (below_alloc _ _))).mono ?_
  rintro e w1 ⟨rfl, hb⟩
  have HB := hide (below_on (below_on (below_alloc _ _) (below_alloc _ _)) hb)
  clear hb
  go_wp2
  go_ret
  exact ⟨rfl, HB.out⟩

end Go.Proofs.YtcbapclpopbjbaaDoor
/- Chapter 9: lists of entries: the laws' helpers over them. Made by program (genen.py). -/
namespace Go.Proofs.YtcbapclpopbjbaaDoor
open Go.RowKit

theorem eqEn_cells (X : Nat → Int) (Y : Nat → Int) (V V' : Nat → Value) (n b off c b' off' c' : Nat) (w : World) (hm : n ≤ 9223372036854775807)
    (hx : ∀ i, i < n → w.cell? ⟨b, off + i * 3, none⟩ = some (.int .i64 (X i)) ∧ w.cell? ⟨b, off + i * 3 + 1, none⟩ = some (.int .i64 (Y i)) ∧ w.cell? ⟨b, off + i * 3 + 2, none⟩ = some (V i))
    (hy : ∀ i, i < n → w.cell? ⟨b', off' + i * 3, none⟩ = some (.int .i64 (X i)) ∧ w.cell? ⟨b', off' + i * 3 + 1, none⟩ = some (.int .i64 (Y i)) ∧ w.cell? ⟨b', off' + i * 3 + 2, none⟩ = some (V' i))
    (hs : ∀ i, i < n → ∃ xs S T, RdI S w (V i) xs ∧ RdI T w (V' i) xs) :
    Calls Tryd.prog 38 #[.slice (some ⟨b, off, none⟩) n c, .slice (some ⟨b', off', none⟩) n c'] w fun e w' =>
      e = .returned (.bool true) ∧ Below w.heap.size w w' := by
  have HX := hide hx
  have HY := hide hy
  have HS := hide hs
  clear hx hy hs
  go_enter Tryd.func38, Tryd.ntmps38
  go_wp2
  go_loopw [5] (fun i wr => ∃ k : Nat, k ≤ n ∧ i = .int .i64 k ∧ Hid (Below w.heap.size w wr)) (fun i _ => n - (intOf i).toNat)
  case atStart => exact ⟨0, Nat.zero_le _, rfl, Below.refl _ _⟩
  case round =>
    obtain ⟨k, hk, rfl, HB⟩ := hrel
    by_cases hlt : k < n
    · have g0 := cell_later HB.out (HX.out k hlt).1
      have g1 := cell_later HB.out (HX.out k hlt).2.1
      have g2 := cell_later HB.out (HX.out k hlt).2.2
      have g3 := cell_later HB.out (HY.out k hlt).1
      have g4 := cell_later HB.out (HY.out k hlt).2.1
      have g5 := cell_later HB.out (HY.out k hlt).2.2
      obtain ⟨xs, S, T, r1, r2⟩ := HS.out k hlt
      obtain ⟨a1, k1, e1⟩ := r1.shape
      obtain ⟨a2, k2, e2⟩ := r2.shape
      rw [e1] at g2 r1
      rw [e2] at g5 r2
      have R1 := hide (r1.later HB.out)
      have R2 := hide (r2.later HB.out)
      have hk0 : (0 : Int) ≤ (k : Int) := Int.natCast_nonneg _
      have hk1 : (k : Int) < (n : Int) := by omega
      clear r1 r2
      go_wp2_with fail
      go_region_held3 (fun w' => w'.cell? ⟨b, off + k * 3, none⟩ = some (.int .i64 (X k)) ∧ w'.cell? ⟨b, off + k * 3 + 1, none⟩ = some (.int .i64 (Y k)) ∧ w'.cell? ⟨b, off + k * 3 + 2, none⟩ = some (.slice a1 xs.length k1) ∧ w'.cell? ⟨b', off' + k * 3, none⟩ = some (.int .i64 (X k)) ∧ w'.cell? ⟨b', off' + k * 3 + 1, none⟩ = some (.int .i64 (Y k)) ∧ w'.cell? ⟨b', off' + k * 3 + 2, none⟩ = some (.slice a2 xs.length k2)) (first | exact ⟨g0, g1, g2, g3, g4, g5⟩ | exact ⟨c0, c1, c2, c3, c4, c5⟩)
        (first
          | (go_at_call 59; refine (eqEntry (X k) (Y k) (R1.out.drewN 1) (R2.out.drewN 1)).mono ?_; rintro e w' ⟨rfl, hb⟩; have c0 := cell_later hb g0; have c1 := cell_later hb g1; have c2 := cell_later hb g2; have c3 := cell_later hb g3; have c4 := cell_later hb g4; have c5 := cell_later hb g5; have HB' := hide hb; clear hb))
      go_wp2
      go_roundw
      case rel => exact ⟨k + 1, by omega, by go_num, below_on HB.out (below_on (below_drewN wr 1) HB'.out)⟩
      case measure => simp [intOf]; omega
    · go_wp2
      go_ret
      exact ⟨rfl, HB.out⟩

theorem eqEn_none (ao ao' : Option Addr) (c c' : Nat) (w : World) :
    Calls Tryd.prog 38 #[.slice ao 0 c, .slice ao' 0 c'] w fun e w' => e = .returned (.bool true) ∧ Below w.heap.size w w' := by
  go_enter Tryd.func38, Tryd.ntmps38
  go_wp2
  go_loopw [5] (fun i wr => i = .int .i64 0 ∧ wr = w) (fun _ _ => 0)
  case atStart => exact ⟨rfl, rfl⟩
  case round =>
    obtain ⟨rfl, rfl⟩ := hrel
    go_wp2
    go_ret
    exact ⟨rfl, Below.refl _ _⟩

theorem eqEn {S T : Nat → Prop} {w : World} {u v : Value} {ts : List Oj} (hu : RdJ S w u ts) (hv : RdJ T w v ts) :
    Calls Tryd.prog 38 #[u, v] w fun e w' => e = .returned (.bool true) ∧ Below w.heap.size w w' := by
  obtain ⟨ao, c, rfl, hm, h⟩ := hu
  obtain ⟨ao', c', rfl, _, h'⟩ := hv
  by_cases hne : ts = []
  · subst hne; exact eqEn_none _ _ _ _ _
  · obtain ⟨b, off, V, rfl, _, hc⟩ := h hne
    obtain ⟨b', off', V', rfl, _, hc'⟩ := h' hne
    exact eqEn_cells (fun i => (ts.getD i oj0).1) (fun i => (ts.getD i oj0).2.1) V V' _ _ _ _ _ _ _ _ hm (fun i hi => ⟨(hc i hi).1, (hc i hi).2.1, (hc i hi).2.2.1⟩) (fun i hi => ⟨(hc' i hi).1, (hc' i hi).2.1, (hc' i hi).2.2.1⟩) (fun i hi => ⟨_, S, T, (hc i hi).2.2.2, (hc' i hi).2.2.2⟩)

end Go.Proofs.YtcbapclpopbjbaaDoor
/- 'l1Fault' and 'DiskFault' of the model, walked. -/
namespace Go.Proofs.YtcbapclpopbjbaaDoor
open Go.RowKit

theorem drewN_cell {w wr : World} (h : ∃ q, wr = w.drewN q) (a : Addr) : wr.cell? a = w.cell? a := by obtain ⟨q, rfl⟩ := h; rfl
theorem drewN_on {w wr w' : World} (h : ∃ q, wr = w.drewN q) (h' : ∃ q, w' = wr.drewN q) : ∃ q, w' = w.drewN q := by
  obtain ⟨q, rfl⟩ := h; obtain ⟨q', rfl⟩ := h'; exact ⟨_, World.drewN_drewN ..⟩

end Go.Proofs.YtcbapclpopbjbaaDoor
