/- Chapter 2, the model's side: 'spec.l2Fault', 'spec.HeaderFault', walked. -/
import Derived.Test.YtbjmmhcbjcngcaaFault
import Derived.Test.YtbjmmhcbjcngcaaTear
namespace Go.Proofs.Ytbjmmhcbjcngcaa
open Go.RowKit

/-- The fault of a header. -/
def headF (s t : Int) (xs : List Int) : Int :=
  if 1 ≤ s ∧ s ≤ 65000 ∧ 0 ≤ t ∧ t ≤ 23 then (if 24 < xs.length then 2 else if (∀ i, i < xs.length → 0 ≤ xs.getD i 0 ∧ xs.getD i 0 ≤ 39) then 0 else 3) else 3
theorem headF_range {s t : Int} {xs : List Int} (h : ¬ (1 ≤ s ∧ s ≤ 65000 ∧ 0 ≤ t ∧ t ≤ 23)) : headF s t xs = 3 := by unfold headF; rw [if_neg h]
theorem headF_many {s t : Int} {xs : List Int} (h : 1 ≤ s ∧ s ≤ 65000 ∧ 0 ≤ t ∧ t ≤ 23) (h2 : 24 < xs.length) : headF s t xs = 2 := by unfold headF; rw [if_pos h, if_pos h2]
theorem headF_ok {s t : Int} {xs : List Int} (h : 1 ≤ s ∧ s ≤ 65000 ∧ 0 ≤ t ∧ t ≤ 23) (h2 : ¬ 24 < xs.length) (h3 : ∀ i, i < xs.length → 0 ≤ xs.getD i 0 ∧ xs.getD i 0 ≤ 39) : headF s t xs = 0 := by unfold headF; rw [if_pos h, if_neg h2, if_pos h3]
theorem headF_at {s t : Int} {xs : List Int} (h : 1 ≤ s ∧ s ≤ 65000 ∧ 0 ≤ t ∧ t ≤ 23) (h2 : ¬ 24 < xs.length) {i : Nat} (hi : i < xs.length) (h3 : ¬ (0 ≤ xs.getD i 0 ∧ xs.getD i 0 ≤ 39)) : headF s t xs = 3 := by
  unfold headF; rw [if_pos h, if_neg h2, if_neg (fun k => h3 (k i hi))]
theorem headF_zero {s t : Int} {xs : List Int} (h : headF s t xs = 0) : (1 ≤ s ∧ s ≤ 65000 ∧ 0 ≤ t ∧ t ≤ 23) ∧ xs.length ≤ 24 ∧ ∀ i, i < xs.length → 0 ≤ xs.getD i 0 ∧ xs.getD i 0 ≤ 39 := by
  unfold headF at h
  split at h
  · rename_i h1
    split at h
    · exact absurd h (by decide)
    · rename_i h2
      split at h
      · rename_i h3
        exact ⟨h1, by omega, h3⟩
      · exact absurd h (by decide)
  · exact absurd h (by decide)

/-- A header's cells, at whatever place. -/
structure HdAt (w : World) (b o : Nat) (s t : Int) (y : Value) : Prop where
  seq : w.cell? ⟨b, o, none⟩ = some (.int .i64 s)
  start : w.cell? ⟨b, o + 1, none⟩ = some (.int .i64 t)
  addrs : w.cell? ⟨b, o + 2, none⟩ = some y

theorem l2Home_yes (v : Int) (h1 : 0 ≤ v) (h2 : v ≤ 39) (w : World) : Calls Try.prog 89 #[.int .i64 v] w fun e w' => e = .returned (.bool true) ∧ w' = w := by
  go_enter Try.func89, Try.ntmps89
  go_wp2_with fail
  refine (l1In_yes v 0 39 h1 h2 w).mono ?_
  rintro e w1 ⟨rfl, rfl⟩
  go_wp2
  go_ret
  exact ⟨rfl, rfl⟩
theorem l2Home_no (v : Int) (h : v < 0 ∨ 39 < v) (w : World) : Calls Try.prog 89 #[.int .i64 v] w fun e w' => e = .returned (.bool false) ∧ w' = w := by
  go_enter Try.func89, Try.ntmps89
  go_wp2_with fail
  refine (l1In_no v 0 39 h w).mono ?_
  rintro e w1 ⟨rfl, rfl⟩
  go_wp2
  go_ret
  exact ⟨rfl, rfl⟩

set_option maxHeartbeats 2000000 in
set_option maxRecDepth 4000 in
theorem l2Fault {S : Nat → Prop} {w : World} {b o : Nat} {s t : Int} {y : Value} {xs : List Int} (hd : HdAt w b o s t y) (hy : RdI S w y xs) :
    Calls Try.prog 71 #[.pointer (some ⟨b, o, none⟩)] w fun e w' => e = .returned (.int .i64 (headF s t xs)) ∧ w' = w := by
  have HY := hide hy
  have hyl : xs.length ≤ 9223372036854775807 := by obtain ⟨_, _, _, h, _⟩ := hy; exact h
  obtain ⟨ay, cy, rfl⟩ := hy.shape
  obtain ⟨n, hn⟩ : ∃ n, xs.length = n := ⟨_, rfl⟩
  have HN := hide hn
  rw [hn] at HY hyl hd
  have c0 := hd.seq
  have c1 := hd.start
  have c2 := hd.addrs
  clear hy hd hn
  obtain ⟨z, hz⟩ : ∃ z, headF s t xs = z := ⟨_, rfl⟩
  have HZ := hide hz
  rw [hz]
  clear hz
  by_cases h1 : 1 ≤ s ∧ s ≤ 65000
  · by_cases h2 : 0 ≤ t ∧ t ≤ 23
    · have hr : 1 ≤ s ∧ s ≤ 65000 ∧ 0 ≤ t ∧ t ≤ 23 := ⟨h1.1, h1.2, h2⟩
      have HRg := hide hr
      clear hr
      by_cases hb : 24 < n
      · have hz2 : z = 2 := HZ.out.symm.trans (headF_many HRg.out (by rw [HN.out]; exact hb))
        subst hz2
        go_enter Try.func71, Try.ntmps71
        go_wp2_with fail
        refine (l1In_yes s 1 65000 h1.1 h1.2 _).mono ?_
        rintro e w1 ⟨rfl, rfl⟩
        go_wp2_with fail
        refine (l1In_yes t 0 23 h2.1 h2.2 _).mono ?_
        rintro e w1 ⟨rfl, rfl⟩
        go_wp2
        go_ret
        exact ⟨rfl, rfl⟩
      · go_enter Try.func71, Try.ntmps71
        go_wp2_with fail
        refine (l1In_yes s 1 65000 h1.1 h1.2 _).mono ?_
        rintro e wx ⟨he, hwx⟩
        rw [he, hwx]
        clear he hwx
        go_wp2_with fail
        refine (l1In_yes t 0 23 h2.1 h2.2 _).mono ?_
        rintro e wx ⟨he, hwx⟩
        rw [he, hwx]
        clear he hwx
        go_wp2
        go_loopw [3] (fun i wr => ∃ k : Nat, k ≤ n ∧ i = .int .i64 k ∧ Hid (∀ j, j < k → 0 ≤ xs.getD j 0 ∧ xs.getD j 0 ≤ 39) ∧ wr = w) (fun i _ => n - (intOf i).toNat)
        case atStart => exact ⟨0, Nat.zero_le _, rfl, fun j hj => absurd hj (Nat.not_lt_zero _), rfl⟩
        case round =>
          obtain ⟨k, hk, rfl, HA, rfl⟩ := hrel
          by_cases hlt : k < n
          · obtain ⟨b2, off, rfl, g1⟩ := HY.out.at (k := k) (by rw [HN.out]; exact hlt)
            obtain ⟨x, hx⟩ : ∃ x, xs.getD k 0 = x := ⟨_, rfl⟩
            have HX := hide hx
            rw [hx] at g1
            clear hx
            by_cases hp : 0 ≤ x ∧ x ≤ 39
            · go_wp2_with fail
              refine (l2Home_yes x hp.1 hp.2 _).mono ?_
              rintro e w1 ⟨rfl, rfl⟩
              go_wp2
              go_roundw
              case rel => exact ⟨k + 1, by omega, by go_num, fun j hj => (by by_cases e : j = k; · subst e; rw [HX.out]; exact hp
                                                                             · exact HA.out j (by omega)), by simp⟩
              case measure => simp [intOf]; omega
            · have hz3 : z = 3 := HZ.out.symm.trans (headF_at HRg.out (by rw [HN.out]; exact hb) (i := k) (by rw [HN.out]; exact hlt) (by rw [HX.out]; exact hp))
              subst hz3
              go_wp2_with fail
              refine (l2Home_no x (by omega) _).mono ?_
              rintro e w1 ⟨rfl, rfl⟩
              go_wp2
              go_ret
              exact ⟨rfl, rfl⟩
          · have hz0 : z = 0 := HZ.out.symm.trans (headF_ok HRg.out (by rw [HN.out]; exact hb) (fun i hi => HA.out i (by rw [HN.out] at hi; omega)))
            subst hz0
            go_wp2
            go_ret
            exact ⟨rfl, rfl⟩
    · have hz3 : z = 3 := HZ.out.symm.trans (headF_range (fun h => h2 ⟨h.2.2.1, h.2.2.2⟩))
      subst hz3
      go_enter Try.func71, Try.ntmps71
      go_wp2_with fail
      refine (l1In_yes s 1 65000 h1.1 h1.2 _).mono ?_
      rintro e w1 ⟨rfl, rfl⟩
      go_wp2_with fail
      refine (l1In_no t 0 23 (by omega) _).mono ?_
      rintro e w1 ⟨rfl, rfl⟩
      go_wp2
      go_ret
      exact ⟨rfl, rfl⟩
  · have hz3 : z = 3 := HZ.out.symm.trans (headF_range (fun h => h1 ⟨h.1, h.2.1⟩))
    subst hz3
    go_enter Try.func71, Try.ntmps71
    go_wp2_with fail
    refine (l1In_no s 1 65000 (by omega) _).mono ?_
    rintro e w1 ⟨rfl, rfl⟩
    go_wp2
    go_ret
    exact ⟨rfl, rfl⟩

theorem HdAt_new (w : World) (s t : Int) (y : Value) (ty : TypeId) : HdAt (w.alloc (.cells #[.int .i64 s, .int .i64 t, y] ty)) w.heap.size 0 s t y := ⟨by simp [go_sem], by simp [go_sem], by simp [go_sem]⟩
theorem HdAt.later {w w' : World} {b o : Nat} {s t : Int} {y : Value} (h : HdAt w b o s t y) (hb : Below w.heap.size w w') : HdAt w' b o s t y := ⟨cell_later hb h.seq, cell_later hb h.start, cell_later hb h.addrs⟩

end Go.Proofs.Ytbjmmhcbjcngcaa
