/- Eq in one text: what each says stands at its head below. -/
import Derived.Test.YtlmaopljihbdkaaGreatG01
/- The walks of the laws' comparing functions: two readings of one datum are equal. -/
namespace Go.Proofs.YtlmaopljihbdkaaGreat
open Go.RowKit

theorem eqI_cells (X : Nat → Int) (n b off c b' off' c' : Nat) (w : World) (hm : n ≤ 9223372036854775807)
    (hx : ∀ i, i < n → w.cell? ⟨b, off + i, none⟩ = some (.int .i64 (X i)))
    (hy : ∀ i, i < n → w.cell? ⟨b', off' + i, none⟩ = some (.int .i64 (X i))) :
    Calls Tryz.prog 40 #[.slice (some ⟨b, off, none⟩) n c, .slice (some ⟨b', off', none⟩) n c'] w fun e w' =>
      e = .returned (.bool true) ∧ ∃ q, w' = w.drewN q := by
  go_enter Tryz.func40, Tryz.ntmps40
  go_wp2
  go_loopw [5] (fun i wr => ∃ k q : Nat, k ≤ n ∧ i = .int .i64 k ∧ wr = w.drewN q) (fun i _ => n - (intOf i).toNat)
  case atStart => exact ⟨0, 0, Nat.zero_le _, rfl, rfl⟩
  case round =>
    obtain ⟨k, q, hk, rfl, rfl⟩ := hrel
    by_cases hlt : k < n
    · have g1 := hx k hlt
      have g2 := hy k hlt
      go_wp2
      go_quiet (fail)
      go_wp2
      go_roundw
      case rel => exact ⟨k + 1, _, by omega, by go_num, rfl⟩
      case measure => simp [intOf]; omega
    · go_wp2
      go_ret
      exact ⟨rfl, _, rfl⟩

theorem eqI_none (ao ao' : Option Addr) (c c' : Nat) (w : World) :
    Calls Tryz.prog 40 #[.slice ao 0 c, .slice ao' 0 c'] w fun e w' => e = .returned (.bool true) ∧ ∃ q, w' = w.drewN q := by
  go_enter Tryz.func40, Tryz.ntmps40
  go_wp2
  go_loopw [5] (fun i wr => i = .int .i64 0 ∧ wr = w) (fun _ _ => 0)
  case atStart => exact ⟨rfl, rfl⟩
  case round =>
    obtain ⟨rfl, rfl⟩ := hrel
    go_wp2
    go_ret
    exact ⟨rfl, 0, rfl⟩

/-- 'eqInt64S' of two readings of one list. -/
theorem eqI {S T : Nat → Prop} {w : World} {u v : Value} {xs : List Int} (hu : RdI S w u xs) (hv : RdI T w v xs) :
    Calls Tryz.prog 40 #[u, v] w fun e w' => e = .returned (.bool true) ∧ ∃ q, w' = w.drewN q := by
  obtain ⟨ao, c, rfl, hm, h⟩ := hu
  obtain ⟨ao', c', rfl, _, h'⟩ := hv
  cases xs with
  | nil => exact eqI_none _ _ _ _ _
  | cons x xs =>
    obtain ⟨b, off, rfl, _, hc⟩ := h (by simp)
    obtain ⟨b', off', rfl, _, hc'⟩ := h' (by simp)
    exact eqI_cells (fun i => (x :: xs).getD i 0) _ _ _ _ _ _ _ _ hm hc hc'

theorem eqII_cells (V V' : Nat → Value) (n b off c b' off' c' : Nat) (w : World) (hm : n ≤ 9223372036854775807)
    (hx : ∀ i, i < n → w.cell? ⟨b, off + i, none⟩ = some (V i))
    (hy : ∀ i, i < n → w.cell? ⟨b', off' + i, none⟩ = some (V' i))
    (hs : ∀ i, i < n → ∃ xs S T, RdI S w (V i) xs ∧ RdI T w (V' i) xs) :
    Calls Tryz.prog 113 #[.slice (some ⟨b, off, none⟩) n c, .slice (some ⟨b', off', none⟩) n c'] w fun e w' =>
      e = .returned (.bool true) ∧ ∃ q, w' = w.drewN q := by
  go_enter Tryz.func113, Tryz.ntmps113
  go_wp2
  go_loopw [5] (fun i wr => ∃ k : Nat, k ≤ n ∧ i = .int .i64 k ∧ Hid (∃ q, wr = w.drewN q)) (fun i _ => n - (intOf i).toNat)
  case atStart => exact ⟨0, Nat.zero_le _, rfl, 0, rfl⟩
  case round =>
    obtain ⟨k, hk, rfl, HQ⟩ := hrel
    by_cases hlt : k < n
    · have g1 : wr.cell? ⟨b, off + k, none⟩ = some (V k) := by obtain ⟨q, rfl⟩ := HQ; exact hx k hlt
      have g2 : wr.cell? ⟨b', off' + k, none⟩ = some (V' k) := by obtain ⟨q, rfl⟩ := HQ; exact hy k hlt
      obtain ⟨xs, S, T, r1, r2⟩ := hs k hlt
      have R1 : Hid (RdI S wr (V k) xs) := by obtain ⟨q, rfl⟩ := HQ; exact r1
      have R2 : Hid (RdI T wr (V' k) xs) := by obtain ⟨q, rfl⟩ := HQ; exact r2
      clear r1 r2 hs
      go_wp2_with fail
      go_quiet ((go_at_call 40; exact Calls.quiet_of (eqI (RdI.drewN R1.out _) (RdI.drewN R2.out _))))
      go_wp2
      go_roundw
      case rel => exact ⟨k + 1, by omega, by go_num, by obtain ⟨q, rfl⟩ := HQ; exact ⟨_, World.drewN_drewN ..⟩⟩
      case measure => simp [intOf]; omega
    · go_wp2
      go_ret
      exact ⟨rfl, HQ.out⟩

theorem eqII_none (ao ao' : Option Addr) (c c' : Nat) (w : World) :
    Calls Tryz.prog 113 #[.slice ao 0 c, .slice ao' 0 c'] w fun e w' => e = .returned (.bool true) ∧ ∃ q, w' = w.drewN q := by
  go_enter Tryz.func113, Tryz.ntmps113
  go_wp2
  go_loopw [5] (fun i wr => i = .int .i64 0 ∧ wr = w) (fun _ _ => 0)
  case atStart => exact ⟨rfl, rfl⟩
  case round =>
    obtain ⟨rfl, rfl⟩ := hrel
    go_wp2
    go_ret
    exact ⟨rfl, 0, rfl⟩

/-- 'eqInt64SS' of two readings of one list of rows. -/
theorem eqII {S T : Nat → Prop} {w : World} {u v : Value} {xss : List (List Int)} (hu : RdII S w u xss) (hv : RdII T w v xss) :
    Calls Tryz.prog 113 #[u, v] w fun e w' => e = .returned (.bool true) ∧ ∃ q, w' = w.drewN q := by
  obtain ⟨ao, c, rfl, hm, h⟩ := hu
  obtain ⟨ao', c', rfl, _, h'⟩ := hv
  cases xss with
  | nil => exact eqII_none _ _ _ _ _
  | cons x xs =>
    obtain ⟨b, off, V, rfl, _, hc⟩ := h (by simp)
    obtain ⟨b', off', V', rfl, _, hc'⟩ := h' (by simp)
    exact eqII_cells V V' _ _ _ _ _ _ _ _ hm (fun i hi => (hc i hi).1) (fun i hi => (hc' i hi).1) (fun i hi => ⟨_, S, T, (hc i hi).2, (hc' i hi).2⟩)

/-- 'eqPut' of two puts of one number and of words that read alike. -/
theorem eqPut {S T : Nat → Prop} {w : World} {u v : Value} {x : Int} {xs : List Int} (hu : RdI S w u xs) (hv : RdI T w v xs) :
    Calls Tryz.prog 54 #[.agg #[.int .i64 x, u], .agg #[.int .i64 x, v]] w fun e w' => e = .returned (.bool true) ∧ Below w.heap.size w w' := by
  have HU := hide hu
  have HV := hide hv
  clear hu hv
  go_enter Tryz.func54, Tryz.ntmps54
  go_wp2_with fail
  refine (eqI ((HU.out.later (below_alloc _ _)).later (below_alloc _ _)) ((HV.out.later (below_alloc _ _)).later (below_alloc _ _))).mono ?_
  rintro e w' ⟨rfl, q, rfl⟩
  go_wp2
  go_ret
  exact ⟨rfl, below_on (below_on (below_alloc _ _) (below_alloc _ _)) (below_drewN _ _)⟩

theorem eqP_cells (X : Nat → Int) (V V' : Nat → Value) (n b off c b' off' c' : Nat) (w : World) (hm : n ≤ 9223372036854775807)
    (hx : ∀ i, i < n → w.cell? ⟨b, off + i * 2, none⟩ = some (.int .i64 (X i)) ∧ w.cell? ⟨b, off + i * 2 + 1, none⟩ = some (V i))
    (hy : ∀ i, i < n → w.cell? ⟨b', off' + i * 2, none⟩ = some (.int .i64 (X i)) ∧ w.cell? ⟨b', off' + i * 2 + 1, none⟩ = some (V' i))
    (hs : ∀ i, i < n → ∃ xs S T, RdI S w (V i) xs ∧ RdI T w (V' i) xs) :
    Calls Tryz.prog 20 #[.slice (some ⟨b, off, none⟩) n c, .slice (some ⟨b', off', none⟩) n c'] w fun e w' =>
      e = .returned (.bool true) ∧ Below w.heap.size w w' := by
  go_enter Tryz.func20, Tryz.ntmps20
  go_wp2
  go_loopw [5] (fun i wr => ∃ k : Nat, k ≤ n ∧ i = .int .i64 k ∧ Hid (Below w.heap.size w wr)) (fun i _ => n - (intOf i).toNat)
  case atStart => exact ⟨0, Nat.zero_le _, rfl, Below.refl _ _⟩
  case round =>
    obtain ⟨k, hk, rfl, HB⟩ := hrel
    by_cases hlt : k < n
    · have g1 := cell_later HB.out (hx k hlt).1
      have g2 := cell_later HB.out (hx k hlt).2
      have g3 := cell_later HB.out (hy k hlt).1
      have g4 := cell_later HB.out (hy k hlt).2
      obtain ⟨xs, S, T, r1, r2⟩ := hs k hlt
      have R1 := hide (r1.later HB.out)
      have R2 := hide (r2.later HB.out)
      clear r1 r2 hs hx hy
      go_wp2_with fail
      go_region_held3 (fun w' => w'.cell? ⟨b, off + k * 2, none⟩ = some (.int .i64 (X k)) ∧ w'.cell? ⟨b, off + k * 2 + 1, none⟩ = some (V k) ∧ w'.cell? ⟨b', off' + k * 2, none⟩ = some (.int .i64 (X k)) ∧ w'.cell? ⟨b', off' + k * 2 + 1, none⟩ = some (V' k)) (simp [*, go_sem])
        (first
          | (go_at_call 54; refine (eqPut (R1.out.drewN 1) (R2.out.drewN 1)).mono ?_; rintro e w' ⟨rfl, hb⟩; have c1 := cell_later hb g1; have c2 := cell_later hb g2; have c3 := cell_later hb g3; have c4 := cell_later hb g4; have HB' := hide hb; clear hb))
      go_wp2
      go_roundw
      case rel => exact ⟨k + 1, by omega, by go_num, below_on HB.out (below_on (below_drewN wr 1) HB')⟩
      case measure => simp [intOf]; omega
    · go_wp2
      go_ret
      exact ⟨rfl, HB.out⟩

theorem eqP_none (ao ao' : Option Addr) (c c' : Nat) (w : World) :
    Calls Tryz.prog 20 #[.slice ao 0 c, .slice ao' 0 c'] w fun e w' => e = .returned (.bool true) ∧ Below w.heap.size w w' := by
  go_enter Tryz.func20, Tryz.ntmps20
  go_wp2
  go_loopw [5] (fun i wr => i = .int .i64 0 ∧ wr = w) (fun _ _ => 0)
  case atStart => exact ⟨rfl, rfl⟩
  case round =>
    obtain ⟨rfl, rfl⟩ := hrel
    go_wp2
    go_ret
    exact ⟨rfl, Below.refl _ _⟩

/-- 'eqPutS' of two readings of one list of puts. -/
theorem eqP {S T : Nat → Prop} {w : World} {u v : Value} {ps : List (Int × List Int)} (hu : RdP S w u ps) (hv : RdP T w v ps) :
    Calls Tryz.prog 20 #[u, v] w fun e w' => e = .returned (.bool true) ∧ Below w.heap.size w w' := by
  obtain ⟨ao, c, rfl, hm, h⟩ := hu
  obtain ⟨ao', c', rfl, _, h'⟩ := hv
  by_cases hne : ps = []
  · subst hne; exact eqP_none _ _ _ _ _
  · obtain ⟨b, off, V, rfl, _, hc⟩ := h hne
    obtain ⟨b', off', V', rfl, _, hc'⟩ := h' hne
    exact eqP_cells (fun i => (ps.getD i (0, [])).1) V V' _ _ _ _ _ _ _ _ hm (fun i hi => ⟨(hc i hi).1, (hc i hi).2.1⟩) (fun i hi => ⟨(hc' i hi).1, (hc' i hi).2.1⟩) (fun i hi => ⟨_, S, T, (hc i hi).2.2, (hc' i hi).2.2⟩)

/-- 'eqDisk' of two readings of one disk. -/
theorem eqDisk {S S' T T' : Nat → Prop} {w : World} {u u' v v' : Value} {xss : List (List Int)} {ps : List (Int × List Int)} (hu : RdII S w u xss) (hp : RdP S' w u' ps) (hv : RdII T w v xss) (hq : RdP T' w v' ps) :
    Calls Tryz.prog 61 #[.agg #[u, u'], .agg #[v, v']] w fun e w' => e = .returned (.bool true) ∧ Below w.heap.size w w' := by
  have HU := hide hu
  have HV := hide hv
  have HP := hide hp
  have HQ := hide hq
  clear hu hv hp hq
  go_enter Tryz.func61, Tryz.ntmps61
  go_wp2_with fail
  refine (eqII ((HU.out.later (below_alloc _ _)).later (below_alloc _ _)) ((HV.out.later (below_alloc _ _)).later (below_alloc _ _))).mono ?_
  rintro e w' ⟨rfl, q, rfl⟩
  go_wp2_with fail
  refine (eqP (((HP.out.later (below_alloc _ _)).later (below_alloc _ _)).later (below_drewN _ q)) (((HQ.out.later (below_alloc _ _)).later (below_alloc _ _)).later (below_drewN _ q))).mono ?_
  rintro e w' ⟨rfl, hb⟩
  have HB := hide hb
  clear hb
  go_wp2
  go_ret
  exact ⟨rfl, below_on (below_on (below_on (below_alloc _ _) (below_alloc _ _)) (below_drewN _ _)) HB.out⟩

end Go.Proofs.YtlmaopljihbdkaaGreat
