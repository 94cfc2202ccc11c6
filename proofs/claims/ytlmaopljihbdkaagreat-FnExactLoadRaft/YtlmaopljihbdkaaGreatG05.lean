/- Iv Hd Ob Fault Fault2 in one text: what each says stands at its head below. -/
import Derived.Test.YtlmaopljihbdkaaGreatG01
import Derived.Test.YtlmaopljihbdkaaGreatG03
import Derived.Test.YtlmaopljihbdkaaGreatG04
import Derived.Test.YtlmaopljihbdkaaGreatG02
/- What lies in an interval of blocks, and how it is carried from world to world; the laws' functions over a code with a list. -/
namespace Go.Proofs.YtlmaopljihbdkaaGreat
open Go.RowKit

/-- Numbers in one block of [lo, hi), not frozen. -/
def IvI (lo hi : Nat) (w : World) (v : Value) (xs : List Int) : Prop :=
  ∃ b, RdI (· = b) w v xs ∧ (xs ≠ [] → lo ≤ b ∧ b < hi ∧ b < w.heap.size ∧ ∀ o, w.frozen? ⟨b, o, none⟩ = false)
theorem OwI.iv {B : Nat} {w : World} {v : Value} {xs : List Int} (h : OwI B w v xs) : IvI B w.heap.size w v xs := by
  obtain ⟨b, h1, h2⟩ := h
  exact ⟨b, h1, fun hne => ⟨(h2 hne).1, (h2 hne).2.1, (h2 hne).2.1, (h2 hne).2.2⟩⟩
theorem IvI.wr {lo hi : Nat} {T : Nat → Prop} {w w' : World} {v : Value} {xs : List Int} (h : IvI lo hi w v xs) (hw : Wr T w w') (hd : ∀ b, lo ≤ b → b < hi → ¬ T b) : IvI lo hi w' v xs := by
  obtain ⟨b, h1, h2⟩ := h
  refine ⟨b, h1.wr hw (fun hne x hx => by subst hx; exact hd _ (h2 hne).1 (h2 hne).2.1), fun hne => ?_⟩
  obtain ⟨k1, k2, k3, k4⟩ := h2 hne
  exact ⟨k1, k2, Nat.lt_of_lt_of_le k3 hw.size, fun o => by rw [hw.frz _ _ k3]; exact k4 o⟩
theorem IvI.later {lo hi : Nat} {w w' : World} {v : Value} {xs : List Int} (h : IvI lo hi w v xs) (hb : Below w.heap.size w w') : IvI lo hi w' v xs :=
  h.wr (Wr.of_below hb fun _ => False) fun _ _ _ => id
theorem IvI.rd {lo hi : Nat} {w : World} {v : Value} {xs : List Int} (h : IvI lo hi w v xs) : RdI (fun b => lo ≤ b ∧ b < hi) w v xs := by
  obtain ⟨b, h1, h2⟩ := h
  exact h1.narrow fun hne x hx => hx ▸ ⟨(h2 hne).1, (h2 hne).2.1⟩

/-- A disk in [lo, hi). -/
def IvD (lo hi : Nat) (w : World) (u v : Value) (xss : List (List Int)) (ps : List (Int × List Int)) : Prop :=
  ∃ S T : Nat → Prop, hi ≤ w.heap.size ∧ (∀ b, S b → lo ≤ b ∧ b < hi) ∧ (∀ b, T b → lo ≤ b ∧ b < hi) ∧ (∀ b, S b → ¬ T b) ∧ OwII S w u xss ∧ OwP T w v ps
theorem OwD.iv {B : Nat} {w : World} {u v : Value} {xss : List (List Int)} {ps : List (Int × List Int)} (h : OwD B w u v xss ps) : IvD B w.heap.size w u v xss ps := by
  obtain ⟨S, T, h1, h2, h3, h4, h5⟩ := h
  exact ⟨S, T, Nat.le_refl _, h1, h2, h3, h4, h5⟩
theorem IvD.wr {lo hi : Nat} {V : Nat → Prop} {w w' : World} {u v : Value} {xss : List (List Int)} {ps : List (Int × List Int)} (h : IvD lo hi w u v xss ps) (hw : Wr V w w') (hd : ∀ b, lo ≤ b → b < hi → ¬ V b) : IvD lo hi w' u v xss ps := by
  obtain ⟨S, T, h0, h1, h2, h3, h4, h5⟩ := h
  exact ⟨S, T, Nat.le_trans h0 hw.size, h1, h2, h3, h4.wr hw fun b hb => hd b (h1 b hb).1 (h1 b hb).2, h5.wr hw fun b hb => hd b (h2 b hb).1 (h2 b hb).2⟩
theorem IvD.later {lo hi : Nat} {w w' : World} {u v : Value} {xss : List (List Int)} {ps : List (Int × List Int)} (h : IvD lo hi w u v xss ps) (hb : Below w.heap.size w w') : IvD lo hi w' u v xss ps :=
  h.wr (Wr.of_below hb fun _ => False) fun _ _ _ => id
theorem IvD.rdII {lo hi : Nat} {w : World} {u v : Value} {xss : List (List Int)} {ps : List (Int × List Int)} (h : IvD lo hi w u v xss ps) : RdII (fun b => lo ≤ b ∧ b < hi) w u xss := by
  obtain ⟨S, T, h0, h1, h2, h3, h4, h5⟩ := h
  exact (h4.mono h1).rd
theorem IvD.rdP {lo hi : Nat} {w : World} {u v : Value} {xss : List (List Int)} {ps : List (Int × List Int)} (h : IvD lo hi w u v xss ps) : RdP (fun b => lo ≤ b ∧ b < hi) w v ps := by
  obtain ⟨S, T, h0, h1, h2, h3, h4, h5⟩ := h
  exact (h5.mono h2).rd

/-- A disk in [lo, hi) whose marks stand from k on. -/
def MkD (k : Int) (lo hi : Nat) (w : World) (u v : Value) (xss : List (List Int)) (ps : List (Int × List Int)) : Prop :=
  ∃ S T : Nat → Prop, (∀ b, S b → lo ≤ b ∧ b < hi) ∧ (∀ b, T b → lo ≤ b ∧ b < hi) ∧ RdII S w u (mkII k xss) ∧ RdP T w v (mkP (k + (tot xss xss.length : Int)) ps)
theorem MkD.wr {k : Int} {lo hi : Nat} {V : Nat → Prop} {w w' : World} {u v : Value} {xss : List (List Int)} {ps : List (Int × List Int)} (h : MkD k lo hi w u v xss ps) (hw : Wr V w w') (hd : ∀ b, lo ≤ b → b < hi → ¬ V b) : MkD k lo hi w' u v xss ps := by
  obtain ⟨S, T, h1, h2, hr, hp⟩ := h
  exact ⟨S, T, h1, h2, hr.wr hw fun b hb => hd b (h1 b hb).1 (h1 b hb).2, hp.wr hw fun b hb => hd b (h2 b hb).1 (h2 b hb).2⟩
theorem MkD.later {k : Int} {lo hi : Nat} {w w' : World} {u v : Value} {xss : List (List Int)} {ps : List (Int × List Int)} (h : MkD k lo hi w u v xss ps) (hb : Below w.heap.size w w') : MkD k lo hi w' u v xss ps :=
  h.wr (Wr.of_below hb fun _ => False) fun _ _ _ => id

/-- Numbers in [lo, hi) whose marks stand from k on. -/
def MkI (k : Int) (lo hi : Nat) (w : World) (v : Value) (n : Nat) : Prop := RdI (fun b => lo ≤ b ∧ b < hi) w v (mkI k n)
theorem MkI.wr {k : Int} {lo hi : Nat} {V : Nat → Prop} {w w' : World} {v : Value} {n : Nat} (h : MkI k lo hi w v n) (hw : Wr V w w') (hd : ∀ b, lo ≤ b → b < hi → ¬ V b) : MkI k lo hi w' v n :=
  RdI.wr h hw fun _ b hb => hd b hb.1 hb.2
theorem MkI.later {k : Int} {lo hi : Nat} {w w' : World} {v : Value} {n : Nat} (h : MkI k lo hi w v n) (hb : Below w.heap.size w w') : MkI k lo hi w' v n := RdI.later h hb

/-- Two cells of a variable. -/
def Var2 (w : World) (b : Nat) (x y : Value) : Prop := w.cell? ⟨b, 0, none⟩ = some x ∧ w.cell? ⟨b, 1, none⟩ = some y
theorem Var2.later {w w' : World} {b : Nat} {x y : Value} (h : Var2 w b x y) (hb : Below w.heap.size w w') : Var2 w' b x y := ⟨cell_later hb h.1, cell_later hb h.2⟩
theorem Var2.wr {S : Nat → Prop} {w w' : World} {b : Nat} {x y : Value} (h : Var2 w b x y) (hb : Wr S w w') (hd : ¬ S b) : Var2 w' b x y := ⟨cell_wr hb h.1 hd, cell_wr hb h.2 hd⟩
theorem Var2.lt {w : World} {b : Nat} {x y : Value} (h : Var2 w b x y) : b < w.heap.size := World.block_lt_of_cell? _ _ h.1
theorem Var2_new (w : World) (x y : Value) (t : TypeId) : Var2 (w.alloc (.cells #[x, y] t)) w.heap.size x y := by
  refine ⟨?_, ?_⟩ <;> simp [go_sem]

/-- Three cells of a variable. -/
def Var3 (w : World) (b : Nat) (x y z : Value) : Prop := w.cell? ⟨b, 0, none⟩ = some x ∧ w.cell? ⟨b, 1, none⟩ = some y ∧ w.cell? ⟨b, 2, none⟩ = some z
theorem Var3.later {w w' : World} {b : Nat} {x y z : Value} (h : Var3 w b x y z) (hb : Below w.heap.size w w') : Var3 w' b x y z :=
  ⟨cell_later hb h.1, cell_later hb h.2.1, cell_later hb h.2.2⟩
theorem Var3.wr {S : Nat → Prop} {w w' : World} {b : Nat} {x y z : Value} (h : Var3 w b x y z) (hb : Wr S w w') (hd : ¬ S b) : Var3 w' b x y z :=
  ⟨cell_wr hb h.1 hd, cell_wr hb h.2.1 hd, cell_wr hb h.2.2 hd⟩
theorem Var3.lt {w : World} {b : Nat} {x y z : Value} (h : Var3 w b x y z) : b < w.heap.size := World.block_lt_of_cell? _ _ h.1
theorem Var3_new (w : World) (x y z : Value) (t : TypeId) : Var3 (w.alloc (.cells #[x, y, z] t)) w.heap.size x y z := by
  refine ⟨?_, ?_, ?_⟩ <;> simp [go_sem]

/-- 'toInt64S', 'eqInt64S', 'markInt64S', in the forms of the others. -/
theorem toI' {S : Nat → Prop} {w : World} {v : Value} {xs : List Int} (hv : RdI S w v xs) (hm : xs.length ≤ 1048576) :
    Calls Tryz.prog 33 #[v] w fun e w' => ∃ z, e = .returned z ∧ Below w.heap.size w w' ∧ OwI w.heap.size w' z xs :=
  (toI hv hm).mono fun e w' ⟨he, h⟩ => ⟨_, he, h.below, _, rd_row h.full (by omega), fun _ => ⟨Nat.le_refl _, by rw [h.size]; omega, fun o => h.row.frozen o⟩⟩
theorem eqI' {S T : Nat → Prop} {w : World} {u v : Value} {xs : List Int} (hu : RdI S w u xs) (hv : RdI T w v xs) :
    Calls Tryz.prog 40 #[u, v] w fun e w' => e = .returned (.bool true) ∧ Below w.heap.size w w' :=
  (eqI hu hv).mono (by rintro e w' ⟨he, q, rfl⟩; exact ⟨he, below_drewN _ _⟩)
theorem markIIv {lo hi : Nat} {w : World} {v : Value} {xs : List Int} {k : Int} (h : IvI lo hi w v xs) (hk0 : 0 ≤ k) (hk : k + (xs.length : Int) ≤ 9223372036854775807) :
    Calls Tryz.prog 42 #[v, .int .i64 k] w fun e w' => e = .returned (.int .i64 (k + (xs.length : Int))) ∧ Wr (fun b => lo ≤ b ∧ b < hi) w w' := by
  obtain ⟨b, h1, h2⟩ := h
  exact (markI h1 (fun hne => (h2 hne).2.2.2) hk0 hk).mono fun e w' ⟨he, _, hw⟩ => ⟨he, hw.mono fun y ⟨e, hne⟩ => e ▸ ⟨(h2 hne).1, (h2 hne).2.1⟩⟩

/-- What a call that ends in a code and a disk is to leave. -/
def EndsD (x : Int) (xss : List (List Int)) (ps : List (Int × List Int)) (w : World) (e : Ending) (w' : World) : Prop :=
  ∃ u v, e = .returned (.agg #[.int .i64 x, u, v]) ∧ Below w.heap.size w w' ∧ OwD w.heap.size w' u v xss ps

/-- What a call that ends in a code and a list is to leave. -/
def EndsI (x : Int) (xs : List Int) (w : World) (e : Ending) (w' : World) : Prop :=
  ∃ z, e = .returned (.agg #[.int .i64 x, z]) ∧ Below w.heap.size w w' ∧ OwI w.heap.size w' z xs
end Go.Proofs.YtlmaopljihbdkaaGreat
/- The laws' helpers over Header and HeaderResult. Made by program (genflat.py). -/
namespace Go.Proofs.YtlmaopljihbdkaaGreat
open Go.RowKit

theorem markIMk {lo hi : Nat} {w : World} {u : Value} {xs : List Int} {k : Int} (hu : IvI lo hi w u xs) (hk0 : 0 ≤ k) (hk : k + (xs.length : Int) ≤ 9223372036854775807) :
    Calls Tryz.prog 42 #[u, .int .i64 k] w fun e w' => e = .returned (.int .i64 (k + (xs.length : Int))) ∧ MkI k lo hi w' u xs.length ∧ Wr (fun b => lo ≤ b ∧ b < hi) w w' := by
  obtain ⟨b, h1, h2⟩ := hu
  refine (markI h1 (fun hne => (h2 hne).2.2.2) hk0 hk).mono fun e w' ⟨he, hr, hw⟩ => ⟨he, RdI.narrow hr (fun hne y hy => ?_), hw.mono fun y ⟨e, hne⟩ => e ▸ ⟨(h2 hne).1, (h2 hne).2.1⟩⟩
  subst hy
  have hne' : xs ≠ [] := by rintro rfl; exact hne rfl
  exact ⟨(h2 hne').1, (h2 hne').2.1⟩
theorem heldI' {lo hi : Nat} {w : World} {u : Value} {n : Nat} {k : Int} (hu : MkI k lo hi w u n) (hk0 : 0 ≤ k) (hk : k + (n : Int) ≤ 9223372036854775807) :
    Calls Tryz.prog 89 #[u, .int .i64 k] w fun e w' => e = .returned (.int .i64 (k + (n : Int))) ∧ Below w.heap.size w w' :=
  (heldI hu hk0 hk).mono (by rintro e w' ⟨he, q, rfl⟩; exact ⟨he, below_drewN _ _⟩)

end Go.Proofs.YtlmaopljihbdkaaGreat
/- The laws' helpers over Object. Made by program (genobj.py). -/
namespace Go.Proofs.YtlmaopljihbdkaaGreat
open Go.RowKit
end Go.Proofs.YtlmaopljihbdkaaGreat
/- What is wrong with words and with a disk: 'wordsFault', 'DiskFault' of the program and of the model answer one and the same number. -/
namespace Go.Proofs.YtlmaopljihbdkaaGreat
open Go.RowKit

/-- The fault of n words. -/
def wF (X : Nat → Int) (n : Nat) : Int := if 64 < n then 2 else if (∀ i, i < n → 0 ≤ X i ∧ X i ≤ 65535) then 0 else 3
theorem wF_many {X : Nat → Int} {n : Nat} (h : 64 < n) : wF X n = 2 := by unfold wF; rw [if_pos h]
theorem wF_ok {X : Nat → Int} {n : Nat} (h : n ≤ 64) (h' : ∀ i, i < n → 0 ≤ X i ∧ X i ≤ 65535) : wF X n = 0 := by unfold wF; rw [if_neg (by omega), if_pos h']
theorem wF_range {X : Nat → Int} {n : Nat} (h : n ≤ 64) {i : Nat} (hi : i < n) (h' : X i < 0 ∨ 65535 < X i) : wF X n = 3 := by
  unfold wF; rw [if_neg (by omega), if_neg (fun k => by have := k i hi; omega)]
def wordsF (xs : List Int) : Int := wF (fun i => xs.getD i 0) xs.length

theorem l1In_yes (v lo hi : Int) (h1 : lo ≤ v) (h2 : v ≤ hi) (w : World) :
    Calls Tryz.prog 63 #[.int .i64 v, .int .i64 lo, .int .i64 hi] w fun e w' => e = .returned (.bool true) ∧ w' = w := by
  go_enter Tryz.func63, Tryz.ntmps63
  go_wp2
  go_ret
  exact ⟨rfl, rfl⟩

theorem l1In_no (v lo hi : Int) (h : v < lo ∨ hi < v) (w : World) :
    Calls Tryz.prog 63 #[.int .i64 v, .int .i64 lo, .int .i64 hi] w fun e w' => e = .returned (.bool false) ∧ w' = w := by
  by_cases h1 : v < lo
  · go_enter Tryz.func63, Tryz.ntmps63
    go_wp2
    go_ret
    exact ⟨by simp, rfl⟩
  · have h2 : hi < v := by omega
    clear h
    go_enter Tryz.func63, Tryz.ntmps63
    go_wp2
    go_ret
    exact ⟨by simp [h2], rfl⟩

theorem wordsFault_cells (X : Nat → Int) (n b off c : Nat) (w : World) (hm : n ≤ 9223372036854775807)
    (hx : ∀ i, i < n → w.cell? ⟨b, off + i, none⟩ = some (.int .i64 (X i))) :
    Calls Tryz.prog 121 #[.slice (some ⟨b, off, none⟩) n c] w fun e w' => e = .returned (.int .i64 (wF X n)) ∧ ∃ q, w' = w.drewN q := by
  have HX := hide hx
  clear hx
  by_cases hn : 64 < n
  · have HZ := hide (wF_many (X := X) hn)
    go_enter Tryz.func121, Tryz.ntmps121
    go_wp2
    go_ret
    exact ⟨ret_int HZ.out.symm, 0, rfl⟩
  · go_enter Tryz.func121, Tryz.ntmps121
    go_wp2
    go_loopw [10] (fun i wr => ∃ k : Nat, k ≤ n ∧ i = .int .i64 k ∧ Hid (∀ j, j < k → 0 ≤ X j ∧ X j ≤ 65535) ∧ wr = w) (fun i _ => n - (intOf i).toNat)
    case atStart => exact ⟨0, Nat.zero_le _, rfl, fun j hj => absurd hj (Nat.not_lt_zero _), rfl⟩
    case round =>
      obtain ⟨k, hk, rfl, HA, rfl⟩ := hrel
      by_cases hlt : k < n
      · have g1 := HX.out k hlt
        by_cases h1 : X k < 0
        · have HZ := hide (wF_range (X := X) (by omega) hlt (Or.inl h1))
          go_wp2
          go_ret
          exact ⟨ret_int HZ.out.symm, 0, rfl⟩
        · by_cases h2 : 65535 < X k
          · have HZ := hide (wF_range (X := X) (by omega) hlt (Or.inr h2))
            go_wp2
            go_ret
            exact ⟨ret_int HZ.out.symm, 0, rfl⟩
          · go_wp2
            go_roundw
            case rel => exact ⟨k + 1, by omega, by go_num, fun j hj => (by by_cases e : j = k; · subst e; omega
                                                                           · exact HA.out j (by omega)), by simp⟩
            case measure => simp [intOf]; omega
      · have HZ := hide (wF_ok (X := X) (n := n) (by omega) (fun i hi => HA.out i (by omega)))
        go_wp2
        go_ret
        exact ⟨ret_int HZ.out.symm, 0, rfl⟩

theorem wordsFault_none (ao : Option Addr) (c : Nat) (w : World) :
    Calls Tryz.prog 121 #[.slice ao 0 c] w fun e w' => e = .returned (.int .i64 0) ∧ ∃ q, w' = w.drewN q := by
  go_enter Tryz.func121, Tryz.ntmps121
  go_wp2
  go_loopw [10] (fun i wr => i = .int .i64 0 ∧ wr = w) (fun _ _ => 0)
  case atStart => exact ⟨rfl, rfl⟩
  case round =>
    obtain ⟨rfl, rfl⟩ := hrel
    go_wp2
    go_ret
    exact ⟨rfl, 0, rfl⟩

/-- 'impl.wordsFault' of a reading. -/
theorem wordsFault {S : Nat → Prop} {w : World} {v : Value} {xs : List Int} (hv : RdI S w v xs) :
    Calls Tryz.prog 121 #[v] w fun e w' => e = .returned (.int .i64 (wordsF xs)) ∧ ∃ q, w' = w.drewN q := by
  obtain ⟨ao, c, rfl, hm, h⟩ := hv
  by_cases hne : xs = []
  · subst hne
    have e0 : wordsF [] = 0 := wF_ok (by simp) (by simp)
    rw [e0]
    exact wordsFault_none _ _ _
  · obtain ⟨b, off, rfl, _, hc⟩ := h hne
    exact wordsFault_cells _ _ _ _ _ _ hm hc

theorem l1Words_cells (X : Nat → Int) (n b off c : Nat) (w : World) (hm : n ≤ 9223372036854775807)
    (hx : ∀ i, i < n → w.cell? ⟨b, off + i, none⟩ = some (.int .i64 (X i))) :
    Calls Tryz.prog 114 #[.slice (some ⟨b, off, none⟩) n c] w fun e w' => e = .returned (.int .i64 (wF X n)) ∧ ∃ q, w' = w.drewN q := by
  have HX := hide hx
  clear hx
  by_cases hn : 64 < n
  · have HZ := hide (wF_many (X := X) hn)
    go_enter Tryz.func114, Tryz.ntmps114
    go_wp2
    go_ret
    exact ⟨ret_int HZ.out.symm, 0, rfl⟩
  · go_enter Tryz.func114, Tryz.ntmps114
    go_wp2
    go_loopw [3] (fun i wr => ∃ k : Nat, k ≤ n ∧ i = .int .i64 k ∧ Hid (∀ j, j < k → 0 ≤ X j ∧ X j ≤ 65535) ∧ wr = w) (fun i _ => n - (intOf i).toNat)
    case atStart => exact ⟨0, Nat.zero_le _, rfl, fun j hj => absurd hj (Nat.not_lt_zero _), rfl⟩
    case round =>
      obtain ⟨k, hk, rfl, HA, rfl⟩ := hrel
      by_cases hlt : k < n
      · have g1 := HX.out k hlt
        by_cases h1 : X k < 0 ∨ 65535 < X k
        · have HZ := hide (wF_range (X := X) (by omega) hlt h1)
          have H1 := hide h1
          clear h1
          go_wp2_with fail
          refine (l1In_no _ _ _ H1.out _).mono ?_
          rintro e w' ⟨rfl, rfl⟩
          go_wp2
          go_ret
          exact ⟨ret_int HZ.out.symm, 0, rfl⟩
        · have h2 : 0 ≤ X k := by omega
          have h3 : X k ≤ 65535 := by omega
          clear h1
          go_wp2_with fail
          refine (l1In_yes _ _ _ h2 h3 _).mono ?_
          rintro e w' ⟨rfl, rfl⟩
          go_wp2
          go_roundw
          case rel => exact ⟨k + 1, by omega, by go_num, fun j hj => (by by_cases e : j = k; · subst e; omega
                                                                         · exact HA.out j (by omega)), by simp⟩
          case measure => simp [intOf]; omega
      · have HZ := hide (wF_ok (X := X) (n := n) (by omega) (fun i hi => HA.out i (by omega)))
        go_wp2
        go_ret
        exact ⟨ret_int HZ.out.symm, 0, rfl⟩

theorem l1Words_none (ao : Option Addr) (c : Nat) (w : World) :
    Calls Tryz.prog 114 #[.slice ao 0 c] w fun e w' => e = .returned (.int .i64 0) ∧ ∃ q, w' = w.drewN q := by
  go_enter Tryz.func114, Tryz.ntmps114
  go_wp2
  go_loopw [3] (fun i wr => i = .int .i64 0 ∧ wr = w) (fun _ _ => 0)
  case atStart => exact ⟨rfl, rfl⟩
  case round =>
    obtain ⟨rfl, rfl⟩ := hrel
    go_wp2
    go_ret
    exact ⟨rfl, 0, rfl⟩

/-- 'spec.l1Words' of a reading. -/
theorem l1Words {S : Nat → Prop} {w : World} {v : Value} {xs : List Int} (hv : RdI S w v xs) :
    Calls Tryz.prog 114 #[v] w fun e w' => e = .returned (.int .i64 (wordsF xs)) ∧ ∃ q, w' = w.drewN q := by
  obtain ⟨ao, c, rfl, hm, h⟩ := hv
  by_cases hne : xs = []
  · subst hne
    have e0 : wordsF [] = 0 := wF_ok (by simp) (by simp)
    rw [e0]
    exact l1Words_none _ _ _
  · obtain ⟨b, off, rfl, _, hc⟩ := h hne
    exact l1Words_cells _ _ _ _ _ _ hm hc

/-- The first fault among rows. -/
def firstF : List (List Int) → Int
  | [] => 0
  | xs :: r => if wordsF xs = 0 then firstF r else wordsF xs
/-- The first fault among puts, on a disk of n blocks. -/
def firstP (n : Nat) : List (Int × List Int) → Int
  | [] => 0
  | p :: r => if 0 ≤ p.1 ∧ p.1 < (n : Int) then (if wordsF p.2 = 0 then firstP n r else wordsF p.2) else 3
def diskF (xss : List (List Int)) (ps : List (Int × List Int)) : Int :=
  if 70 < xss.length ∨ 200 < ps.length then 2 else if firstF xss = 0 then firstP xss.length ps else firstF xss

theorem firstF_ok {xss : List (List Int)} {k : Nat} (h : k < xss.length) (h0 : wordsF (xss.getD k []) = 0) : firstF (xss.drop k) = firstF (xss.drop (k + 1)) := by
  rw [List.drop_eq_getElem_cons h]
  simp only [firstF]
  rw [if_pos (by simpa [List.getD, h] using h0)]
theorem firstF_no {xss : List (List Int)} {k : Nat} (h : k < xss.length) (h0 : wordsF (xss.getD k []) ≠ 0) : firstF (xss.drop k) = wordsF (xss.getD k []) := by
  rw [List.drop_eq_getElem_cons h]
  simp only [firstF]
  rw [if_neg (by simpa [List.getD, h] using h0)]
  simp [List.getD, h]
theorem firstF_end {xss : List (List Int)} {k : Nat} (h : xss.length ≤ k) : firstF (xss.drop k) = 0 := by rw [List.drop_eq_nil_of_le h]; rfl
theorem firstP_ok {n : Nat} {ps : List (Int × List Int)} {k : Nat} (h : k < ps.length) (ha : 0 ≤ (ps.getD k (0, [])).1 ∧ (ps.getD k (0, [])).1 < (n : Int)) (h0 : wordsF (ps.getD k (0, [])).2 = 0) : firstP n (ps.drop k) = firstP n (ps.drop (k + 1)) := by
  rw [List.drop_eq_getElem_cons h]
  simp only [firstP]
  simp only [List.getD, List.getElem?_eq_getElem h, Option.getD_some] at ha h0
  rw [if_pos ha, if_pos h0]
theorem firstP_no {n : Nat} {ps : List (Int × List Int)} {k : Nat} (h : k < ps.length) (ha : 0 ≤ (ps.getD k (0, [])).1 ∧ (ps.getD k (0, [])).1 < (n : Int)) (h0 : wordsF (ps.getD k (0, [])).2 ≠ 0) : firstP n (ps.drop k) = wordsF (ps.getD k (0, [])).2 := by
  rw [List.drop_eq_getElem_cons h]
  simp only [firstP]
  simp only [List.getD, List.getElem?_eq_getElem h, Option.getD_some] at ha h0 ⊢
  rw [if_pos ha, if_neg h0]
theorem firstP_at {n : Nat} {ps : List (Int × List Int)} {k : Nat} (h : k < ps.length) (ha : ¬ (0 ≤ (ps.getD k (0, [])).1 ∧ (ps.getD k (0, [])).1 < (n : Int))) : firstP n (ps.drop k) = 3 := by
  rw [List.drop_eq_getElem_cons h]
  simp only [firstP]
  simp only [List.getD, List.getElem?_eq_getElem h, Option.getD_some] at ha
  rw [if_neg ha]
theorem firstP_end {n : Nat} {ps : List (Int × List Int)} {k : Nat} (h : ps.length ≤ k) : firstP n (ps.drop k) = 0 := by rw [List.drop_eq_nil_of_le h]; rfl
theorem diskF_many {xss : List (List Int)} {ps : List (Int × List Int)} (h : 70 < xss.length ∨ 200 < ps.length) : diskF xss ps = 2 := by unfold diskF; rw [if_pos h]
theorem diskF_rows {xss : List (List Int)} {ps : List (Int × List Int)} (h : ¬ (70 < xss.length ∨ 200 < ps.length)) (h0 : firstF xss ≠ 0) : diskF xss ps = firstF xss := by unfold diskF; rw [if_neg h, if_neg h0]
theorem diskF_puts {xss : List (List Int)} {ps : List (Int × List Int)} (h : ¬ (70 < xss.length ∨ 200 < ps.length)) (h0 : firstF xss = 0) : diskF xss ps = firstP xss.length ps := by unfold diskF; rw [if_neg h, if_pos h0]
end Go.Proofs.YtlmaopljihbdkaaGreat
/- 'DiskFault' of the program and of the model, walked. -/
namespace Go.Proofs.YtlmaopljihbdkaaGreat
open Go.RowKit

theorem isPlace_yes (n c : Nat) (ao : Option Addr) (v : Value) (at_ : Int) (w : World) (h1 : 0 ≤ at_) (h2 : at_ < (n : Int)) :
    Calls Tryz.prog 228 #[.agg #[.slice ao n c, v], .int .i64 at_] w fun e w' => e = .returned (.bool true) ∧ Below w.heap.size w w' := by
  go_enter Tryz.func228, Tryz.ntmps228
  go_wp2
  go_ret
  exact ⟨by simp, below_alloc _ _⟩

theorem isPlace_no (n c : Nat) (ao : Option Addr) (v : Value) (at_ : Int) (w : World) (h : ¬ (0 ≤ at_ ∧ at_ < (n : Int))) :
    Calls Tryz.prog 228 #[.agg #[.slice ao n c, v], .int .i64 at_] w fun e w' => e = .returned (.bool false) ∧ Below w.heap.size w w' := by
  by_cases h1 : at_ < 0
  · clear h
    go_enter Tryz.func228, Tryz.ntmps228
    go_wp2
    go_ret
    exact ⟨by simp, below_alloc _ _⟩
  · have h2 : (n : Int) ≤ at_ := by omega
    clear h
    go_enter Tryz.func228, Tryz.ntmps228
    go_wp2
    go_ret
    exact ⟨by simp [h2], below_alloc _ _⟩

theorem RdII.at {S : Nat → Prop} {w : World} {ao : Option Addr} {n c : Nat} {xss : List (List Int)} (h : RdII S w (.slice ao n c) xss) {k : Nat} (hk : k < xss.length) :
    ∃ b off V, ao = some ⟨b, off, none⟩ ∧ w.cell? ⟨b, off + k, none⟩ = some V ∧ RdI S w V (xss.getD k []) := by
  obtain ⟨ao', c', e, _, h3⟩ := h
  injection e with e1 e2 e3
  subst e1
  obtain ⟨b, off, V, rfl, _, hc⟩ := h3 (by rintro rfl; exact absurd hk (Nat.not_lt_zero _))
  exact ⟨b, off, V k, rfl, (hc k hk).1, (hc k hk).2⟩

theorem RdP.at {S : Nat → Prop} {w : World} {ao : Option Addr} {n c : Nat} {ps : List (Int × List Int)} (h : RdP S w (.slice ao n c) ps) {k : Nat} (hk : k < ps.length) :
    ∃ b off V, ao = some ⟨b, off, none⟩ ∧ w.cell? ⟨b, off + k * 2, none⟩ = some (.int .i64 (ps.getD k (0, [])).1) ∧ w.cell? ⟨b, off + k * 2 + 1, none⟩ = some V ∧ RdI S w V (ps.getD k (0, [])).2 := by
  obtain ⟨ao', c', e, _, h3⟩ := h
  injection e with e1 e2 e3
  subst e1
  obtain ⟨b, off, V, rfl, _, hc⟩ := h3 (by rintro rfl; exact absurd hk (Nat.not_lt_zero _))
  exact ⟨b, off, V k, rfl, (hc k hk).1, (hc k hk).2.1, (hc k hk).2.2⟩

theorem RdII.shape {S : Nat → Prop} {w : World} {v : Value} {xss : List (List Int)} (h : RdII S w v xss) : ∃ ao c, v = .slice ao xss.length c ∧ xss.length ≤ 9223372036854775807 := by
  obtain ⟨ao, c, h1, h2, _⟩ := h
  exact ⟨ao, c, h1, h2⟩
theorem RdP.shape {S : Nat → Prop} {w : World} {v : Value} {ps : List (Int × List Int)} (h : RdP S w v ps) : ∃ ao c, v = .slice ao ps.length c ∧ ps.length ≤ 9223372036854775807 := by
  obtain ⟨ao, c, h1, h2, _⟩ := h
  exact ⟨ao, c, h1, h2⟩

set_option maxHeartbeats 1000000 in
theorem implFault_cells {S T : Nat → Prop} (xss : List (List Int)) (ps : List (Int × List Int)) (n m : Nat) (ao ao' : Option Addr) (c c' : Nat) (w : World) (hn : xss.length = n) (hm : ps.length = m) (hn' : n ≤ 9223372036854775807) (hm' : m ≤ 9223372036854775807)
    (hu : RdII S w (.slice ao n c) xss) (hv : RdP T w (.slice ao' m c') ps) :
    Calls Tryz.prog 207 #[.agg #[.slice ao n c, .slice ao' m c']] w fun e w' => e = .returned (.int .i64 (diskF xss ps)) ∧ Below w.heap.size w w' := by
  have HU := hide hu
  have HV := hide hv
  have HN := hide hn
  have HM := hide hm
  clear hu hv hn hm
  by_cases h70 : 70 < n
  · have HZ := hide (diskF_many (xss := xss) (ps := ps) (by rw [HN.out]; exact Or.inl h70))
    go_enter Tryz.func207, Tryz.ntmps207
    go_wp2
    go_ret
    exact ⟨ret_int HZ.out.symm, below_alloc _ _⟩
  · by_cases h200 : 200 < m
    · have HZ := hide (diskF_many (xss := xss) (ps := ps) (by rw [HM.out]; exact Or.inr h200))
      go_enter Tryz.func207, Tryz.ntmps207
      go_wp2
      go_ret
      exact ⟨ret_int HZ.out.symm, below_alloc _ _⟩
    · have HS := hide (show ¬ (70 < xss.length ∨ 200 < ps.length) by rw [HN.out, HM.out]; omega)
      go_enter Tryz.func207, Tryz.ntmps207
      go_wp2
      go_loopw [22] (fun i wr => ∃ k : Nat, k ≤ n ∧ i = .int .i64 k ∧ Hid (firstF xss = firstF (xss.drop k)) ∧ Hid (Below (w.alloc (.cells #[.slice ao n c, .slice ao' m c'] 59)).heap.size (w.alloc (.cells #[.slice ao n c, .slice ao' m c'] 59)) wr)) (fun i _ => n - (intOf i).toNat)
      case atStart => exact ⟨0, Nat.zero_le _, rfl, by simp [Hid], Below.refl _ _⟩
      case round =>
        obtain ⟨k, hk, rfl, HF, HB⟩ := hrel
        by_cases hlt : k < n
        · obtain ⟨b, off, V, rfl, q1, q2⟩ := HU.out.at (k := k) (by rw [HN.out]; exact hlt)
          have g1 := cell_later HB.out (cell_later (below_alloc w _) q1)
          have R1 := hide ((q2.later (below_alloc w _)).later HB.out)
          clear q1 q2
          by_cases hw : wordsF (xss.getD k []) = 0
          · have HF2 := hide (HF.out.trans (firstF_ok (by rw [HN.out]; exact hlt) hw))
            have HW := hide hw
            clear hw
            go_wp2_with fail
            refine (wordsFault R1.out).mono ?_
            rintro e w' ⟨he, q, rfl⟩
            rw [HW.out] at he
            subst he
            go_wp2
            go_roundw
            case rel => exact ⟨k + 1, by omega, by go_num, HF2.out, below_on HB.out (below_drewN _ q)⟩
            case measure => simp [intOf]; omega
          · have HF2 := hide ((diskF_rows HS.out (by rw [HF.out, firstF_no (by rw [HN.out]; exact hlt) hw]; exact hw)).trans (HF.out.trans (firstF_no (by rw [HN.out]; exact hlt) hw)))
            obtain ⟨z, hz⟩ : ∃ z, wordsF (xss.getD k []) = z := ⟨_, rfl⟩
            have HW := hide hz
            rw [hz] at hw
            clear hz
            go_wp2_with fail
            refine (wordsFault R1.out).mono ?_
            rintro e w' ⟨he, q, rfl⟩
            rw [HW.out] at he
            subst he
            go_wp2
            go_ret
            exact ⟨ret_int (by rw [HF2.out, HW.out]), below_on (below_alloc _ _) (below_on HB.out (below_drewN _ q))⟩
        · have hkn : k = n := by omega
          subst hkn
          have HE := hide (diskF_puts HS.out (HF.out.trans (firstF_end (by rw [HN.out]; exact Nat.le_refl _))))
          have g1 : wr.cell? ⟨w.heap.size, 1, none⟩ = some (.slice ao' m c') := cell_later HB.out (by simp [go_sem])
          clear HF
          go_wp2
          go_loopw [35] (fun i wr => ∃ j : Nat, j ≤ m ∧ i = .int .i64 j ∧ Hid (firstP xss.length ps = firstP xss.length (ps.drop j)) ∧ Hid (Below (w.alloc (.cells #[.slice ao k c, .slice ao' m c'] 59)).heap.size (w.alloc (.cells #[.slice ao k c, .slice ao' m c'] 59)) wr)) (fun i _ => m - (intOf i).toNat)
          case atStart => exact ⟨0, Nat.zero_le _, rfl, by simp [Hid], HB.out⟩
          case round =>
            obtain ⟨j, hj, rfl, HG, HB2⟩ := hrel
            clear HB g1
            by_cases hlt2 : j < m
            · obtain ⟨b2, off2, V2, rfl, q1, q2, q3⟩ := HV.out.at (k := j) (by rw [HM.out]; exact hlt2)
              obtain ⟨ao3, c3, rfl⟩ := q3.shape
              have g1 := cell_later HB2.out (cell_later (below_alloc w _) q1)
              have g2 := cell_later HB2.out (cell_later (below_alloc w _) q2)
              have R2 := hide ((q3.later (below_alloc w _)).later HB2.out)
              have g3 : wr.cell? ⟨w.heap.size, 0, none⟩ = some (.slice ao k c) := cell_later HB2.out (by simp [go_sem])
              have g4 : wr.cell? ⟨w.heap.size, 1, none⟩ = some (.slice (some ⟨b2, off2, none⟩) m c') := cell_later HB2.out (by simp [go_sem])
              have hz1 : w.heap.size < wr.heap.size := by have := HB2.out.size; simp at this; omega
              obtain ⟨x, hx⟩ : ∃ x, (ps.getD j (0, [])).1 = x := ⟨_, rfl⟩
              obtain ⟨l, hl⟩ : ∃ l, (ps.getD j (0, [])).2.length = l := ⟨_, rfl⟩
              have HX := hide hx
              have HL := hide hl
              rw [hx] at g1
              rw [hl] at g2 R2
              clear q1 q2 q3 hx hl
              by_cases hat : 0 ≤ x ∧ x < (k : Int)
              · obtain ⟨ha1, ha2⟩ := hat
                go_wp2_with fail
                refine (isPlace_yes k c ao _ x _ ha1 ha2).mono ?_
                rintro e w1 ⟨rfl, hb1⟩
                have g5 : w1.cell? ⟨wr.heap.size, 1, none⟩ = some (.slice ao3 l c3) := cell_later hb1 (by simp [go_sem])
                have R3 := hide ((R2.out.later (below_alloc _ _)).later hb1)
                have HB3 := hide (below_on HB2.out (below_on (below_alloc _ _) hb1))
                clear hb1 g1 g2 g3 g4 R2
                by_cases hw : wordsF (ps.getD j (0, [])).2 = 0
                · have HF2 := hide (HG.out.trans (firstP_ok (by rw [HM.out]; exact hlt2) (by rw [HX.out, HN.out]; exact ⟨ha1, ha2⟩) hw))
                  have HW := hide hw
                  clear hw
                  go_wp2_with fail
                  refine (wordsFault R3.out).mono ?_
                  rintro e w' ⟨he, q, rfl⟩
                  rw [HW.out] at he
                  subst he
                  go_wp2
                  go_roundw
                  case rel => exact ⟨j + 1, by omega, by go_num, HF2.out, below_on HB3.out (below_drewN _ q)⟩
                  case measure => simp [intOf]; omega
                · have HF2 := hide (HE.out.trans (HG.out.trans (firstP_no (by rw [HM.out]; exact hlt2) (by rw [HX.out, HN.out]; exact ⟨ha1, ha2⟩) hw)))
                  obtain ⟨z, hz⟩ : ∃ z, wordsF (ps.getD j (0, [])).2 = z := ⟨_, rfl⟩
                  have HW := hide hz
                  rw [hz] at hw
                  clear hz
                  go_wp2_with fail
                  refine (wordsFault R3.out).mono ?_
                  rintro e w' ⟨he, q, rfl⟩
                  rw [HW.out] at he
                  subst he
                  go_wp2
                  go_ret
                  exact ⟨ret_int (by rw [HF2.out, HW.out]), below_on (below_alloc _ _) (below_on HB3.out (below_drewN _ q))⟩
              · have HZ := hide (HE.out.trans (HG.out.trans (firstP_at (by rw [HM.out]; exact hlt2) (by rw [HX.out, HN.out]; exact hat))))
                have HA := hide hat
                clear hat
                go_wp2_with fail
                refine (isPlace_no k c ao _ x _ HA.out).mono ?_
                rintro e w1 ⟨rfl, hb1⟩
                have HB3 := hide (below_on HB2.out (below_on (below_alloc _ _) hb1))
                clear hb1 g1 g2 g3 g4 R2
                go_wp2
                go_ret
                exact ⟨ret_int HZ.out.symm, below_on (below_alloc _ _) HB3.out⟩
            · have HZ := hide (HE.out.trans (HG.out.trans (firstP_end (by rw [HM.out]; omega))))
              go_wp2
              go_ret
              exact ⟨ret_int HZ.out.symm, below_on (below_alloc _ _) HB2.out⟩

/-- 'impl.DiskFault' of a reading. -/
theorem implFault {S T : Nat → Prop} {w : World} {u v : Value} {xss : List (List Int)} {ps : List (Int × List Int)} (hu : RdII S w u xss) (hv : RdP T w v ps) :
    Calls Tryz.prog 207 #[.agg #[u, v]] w fun e w' => e = .returned (.int .i64 (diskF xss ps)) ∧ Below w.heap.size w w' := by
  obtain ⟨ao, c, rfl, hn⟩ := hu.shape
  obtain ⟨ao', c', rfl, hm⟩ := hv.shape
  exact implFault_cells xss ps _ _ ao ao' c c' w rfl rfl hn hm hu hv
end Go.Proofs.YtlmaopljihbdkaaGreat
