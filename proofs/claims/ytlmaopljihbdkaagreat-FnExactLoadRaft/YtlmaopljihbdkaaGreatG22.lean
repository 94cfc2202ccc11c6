/- En3 En6 Seen SeenS in one text: what each says stands at its head below. -/
import Derived.Test.YtlmaopljihbdkaaGreatG11
import Derived.Test.YtlmaopljihbdkaaGreatG19
import Derived.Test.YtlmaopljihbdkaaGreatG05
import Derived.Maps.OwnIn
import Derived.Maps.OwnOps
import Derived.Maps.Views
import Derived.Test.YtlmaopljihbdkaaGreatG20
/- Chapter 9: 'PackEntry' of both sides, walked. -/
namespace Go.Proofs.YtlmaopljihbdkaaGreat
open Go.RowKit

/-- The words of an entry. -/
def pkE (p : Oj) : List Int := [p.1, p.2.1, (p.2.2.length : Int)] ++ p.2.2
def peR (p : Oj) : List Int := if entF p = 0 then pkE p else []
theorem peR_len (p : Oj) : (peR p).length ≤ 1048576 := by
  unfold peR
  by_cases h : entF p = 0
  · rw [if_pos h]
    have := (entF_zero h).2.1
    simp [pkE]
    omega
  · rw [if_neg h]; simp

set_option maxHeartbeats 4000000 in
set_option maxRecDepth 4000 in
theorem implPackEntry {S : Nat → Prop} {w : World} {y : Value} {xs : List Int} (a t : Int) (hy : RdI S w y xs) :
    Calls Tryz.prog 136 #[.agg #[.int .i64 a, .int .i64 t, y]] w (EndsI (entF (a, t, xs)) (peR (a, t, xs)) w) := by
  obtain ⟨ay, cy, rfl⟩ := hy.shape
  have HY := hide hy
  obtain ⟨n, hn⟩ : ∃ n, xs.length = n := ⟨_, rfl⟩
  have HN := hide hn
  rw [hn] at HY ⊢
  clear hy hn
  unfold peR
  obtain ⟨z, hz⟩ : ∃ z, entF (a, t, xs) = z := ⟨_, rfl⟩
  have HZ := hide hz
  rw [hz]
  clear hz
  have bA := hide (below_on (below_alloc w (.cells #[.int .i64 a, .int .i64 t, .slice ay n cy] 110)) (below_alloc _ (.cells #[.int .i64 0, .slice none 0 0] 166)))
  have HC := hide (implEntryFault a t (HY.out.later bA.out))
  rw [HZ.out] at HC
  by_cases h0 : z = 0
  · subst h0
    rw [if_pos rfl]
    have hn6 : n ≤ 6 := by have := (entF_zero HZ.out).2.1; dsimp only at this; rw [HN.out] at this; exact this
    obtain ⟨i0, hi, hz0, hz1, hz2⟩ := info_parts Tryz.infoInt
    have HPk : Hid (pkE (a, t, xs) = [a, t, (n : Int)] ++ xs) := by rw [Hid]; unfold pkE; dsimp only; rw [HN.out]
    go_enter Tryz.func136, Tryz.ntmps136
    go_wp2_with fail
    refine HC.out.mono ?_
    rintro e w1 ⟨rfl, hb⟩
    have B1 := hide (below_on bA.out hb)
    obtain ⟨c0, c1, c2⟩ := ((Var3_new w (.int .i64 a) (.int .i64 t) (.slice ay n cy) 110).later (below_alloc _ (.cells #[.int .i64 0, .slice none 0 0] 166))).later hb
    have r0 : w1.cell? ⟨w.heap.size + 1, 0, none⟩ = some (.int .i64 0) := cell_later hb (by simp [go_sem])
    have r1 : w1.cell? ⟨w.heap.size + 1, 1, none⟩ = some (.slice none 0 0) := cell_later hb (by simp [go_sem])
    have f0 : w1.frozen? ⟨w.heap.size + 1, 0, none⟩ = false := ((bcell hb).2 _ _ (by simp)).trans (by simp [go_sem])
    have f1 : w1.frozen? ⟨w.heap.size + 1, 1, none⟩ = false := ((bcell hb).2 _ _ (by simp)).trans (by simp [go_sem])
    have hz1' : w.heap.size + 1 < w1.heap.size := World.block_lt_of_cell? _ _ r0
    have hz0' : w.heap.size < w1.heap.size := by omega
    clear hb HC bA
    have HRow : Hid ((w1.alloc (.cells #[.int .i64 a, .int .i64 t, .int .i64 (n : Int)] 2)).ownsRow w1.heap.size 2 1 (.slice (some ⟨w1.heap.size, 0, none⟩) 3 3) 3 ([a, t, (n : Int)].map (Value.int .i64))) :=
      ownsRow_fullF w1 [.int .i64 a, .int .i64 t, .int .i64 (n : Int)] 2 (by simp)
    have bB := below_alloc w1 (.cells #[.int .i64 a, .int .i64 t, .int .i64 (n : Int)] 2)
    have HS : Hid (n ≠ 0 → ∃ ad, ay = some ad ∧ ∀ j u, (xs.map (Value.int .i64))[j]? = some u → (w1.alloc (.cells #[.int .i64 a, .int .i64 t, .int .i64 (n : Int)] 2)).cell? (ad.add j) = some u) := by
      obtain ⟨a4, c4, e4, hsrc⟩ := (HY.out.later (below_on B1.out bB)).src
      injection e4 with e5 _ e6
      subst e5
      rw [HN.out] at hsrc
      exact hsrc
    have BB := hide bB
    clear bB
    have HPre : Hid (∀ (w5 : World), (w1.alloc (.cells #[.int .i64 a, .int .i64 t, .int .i64 (n : Int)] 2)).grownBy w5 (Value.ownBlock (.slice (some ⟨w1.heap.size, 0, none⟩) 3 3)) → Below w1.heap.size w1 w5 ∧ w5.cell? ⟨w.heap.size + 1, 0, none⟩ = some (.int .i64 0) ∧ w5.cell? ⟨w.heap.size + 1, 1, none⟩ = some (.slice none 0 0) ∧ w5.frozen? ⟨w.heap.size + 1, 0, none⟩ = false ∧ w5.frozen? ⟨w.heap.size + 1, 1, none⟩ = false) := by
      intro w5 hgrow
      have hB5 := BB.out.grown hgrow (by simp) (fun r hr => (HRow.out.lt r hr).1)
      exact ⟨hB5, cell_later hB5 r0, cell_later hB5 r1, ((bcell hB5).2 _ _ hz1').trans f0, ((bcell hB5).2 _ _ hz1').trans f1⟩
    go_wp2_with (at_builtin; refine wpList_append_any _ rfl _ _ 22 rfl w1.heap.size 2 i0 (.int .i64 0) 1 8 Tryz.underlying22 hi hz0 hz1 hz2 rfl (by decide) _ 3 _ (by rfl) HRow.out ay n cy (xs.map (Value.int .i64)) (by rfl) (by simp [HN.out]) HS.out (ints_oneCell _ _) (by unfold maxLen; omega) (by omega) (by simp) ?_; intro v' w5 hown hgrow; obtain ⟨az, cz, hv'⟩ := owns_shapeR hown; subst hv'; obtain ⟨hB5, e0, e1, F0, F1⟩ := HPre.out _ hgrow; have HO := hide hown; have HB5 := hide hB5; clear hown hgrow hB5)
    have HFn := hide (ret_ints (x := .int .i64 0) (below_on B1.out HB5.out) (Nat.le_succ w.heap.size) (ow_of_owns (n := 3 + n) (xs := [a, t, (n : Int)] ++ xs) (by simp [HN.out]; omega) (by rw [List.map_append]; exact HO.out) (by simp [HN.out]; omega)) hz1')
    rw [HPk.out]
    refine bodyPost_ret (v := .agg #[.int .i64 0, .slice az (3 + n) cz]) (by simp [results, Tryz.results136, go_sem, e0, e1]) rfl ⟨_, rfl, HFn.out.1, HFn.out.2⟩
  · rw [if_neg h0]
    have h0b : (z == 0) = false := by simpa using h0
    go_enter Tryz.func136, Tryz.ntmps136
    go_wp2_with fail
    refine HC.out.mono ?_
    rintro e w1 ⟨rfl, hb⟩
    have B1 := hide (below_on bA.out hb)
    have r0 : w1.cell? ⟨w.heap.size + 1, 0, none⟩ = some (.int .i64 0) := cell_later hb (by simp [go_sem])
    have r1 : w1.cell? ⟨w.heap.size + 1, 1, none⟩ = some (.slice none 0 0) := cell_later hb (by simp [go_sem])
    have f0 : w1.frozen? ⟨w.heap.size + 1, 0, none⟩ = false := ((bcell hb).2 _ _ (by simp)).trans (by simp [go_sem])
    have f1 : w1.frozen? ⟨w.heap.size + 1, 1, none⟩ = false := ((bcell hb).2 _ _ (by simp)).trans (by simp [go_sem])
    clear hb
    go_wp2
    refine bodyPost_ret (v := .agg #[.int .i64 z, .slice none 0 0]) (by simp [results, Tryz.results136, go_sem, r0, r1]) rfl ⟨_, rfl, (B1.out.setCell (Nat.le_succ _) _).setCell (Nat.le_succ _) _, OwI_nil _ _⟩

set_option maxHeartbeats 4000000 in
set_option maxRecDepth 4000 in
/-- 'spec.l9Pack': the row that it has built. -/
theorem l9Pack {S : Nat → Prop} {w : World} {b off : Nat} {p : Oj} (hp : RdFp S w b off p) (hm : p.2.2.length ≤ 1048576) :
    Calls Tryz.prog 71 #[.pointer (some ⟨b, off, none⟩)] w fun e w' => ∃ z, e = .returned z ∧ Below w.heap.size w w' ∧ w'.ownsRow w.heap.size 2 1 z (3 + p.2.2.length) ((pkE p).map (Value.int .i64)) := by
  obtain ⟨y, g0, g1, g2, hy⟩ := hp
  obtain ⟨a, t, xs⟩ := p
  dsimp only at g0 g1 hy hm ⊢
  obtain ⟨ay, cy, rfl⟩ := hy.shape
  have HY := hide hy
  obtain ⟨n, hn⟩ : ∃ n, xs.length = n := ⟨_, rfl⟩
  have HN := hide hn
  rw [hn] at HY hm g2 ⊢
  clear hy hn
  obtain ⟨i0, hi, hz0, hz1, hz2⟩ := info_parts Tryz.infoInt
  have HPk : Hid (pkE (a, t, xs) = [a, t, (n : Int)] ++ xs) := by rw [Hid]; unfold pkE; dsimp only; rw [HN.out]
  rw [HPk.out]
  have HRow : Hid ((w.drew.alloc (.cells #[.int .i64 a, .int .i64 t, .int .i64 (n : Int)] 2)).ownsRow w.heap.size 2 1 (.slice (some ⟨w.heap.size, 0, none⟩) 3 3) 3 ([a, t, (n : Int)].map (Value.int .i64))) :=
    ownsRow_fullF w.drew [.int .i64 a, .int .i64 t, .int .i64 (n : Int)] 2 (by simp)
  have bB := below_on (below_drewN w 1) (below_alloc (w.drewN 1) (.cells #[.int .i64 a, .int .i64 t, .int .i64 (n : Int)] 2))
  have HS : Hid (n ≠ 0 → ∃ ad, ay = some ad ∧ ∀ j u, (xs.map (Value.int .i64))[j]? = some u → (w.drew.alloc (.cells #[.int .i64 a, .int .i64 t, .int .i64 (n : Int)] 2)).cell? (ad.add j) = some u) := by
    obtain ⟨a4, c4, e4, hsrc⟩ := (HY.out.later bB).src
    injection e4 with e5 _ e6
    subst e5
    rw [HN.out] at hsrc
    exact hsrc
  have BB := hide bB
  have hbl : b < w.heap.size := World.block_lt_of_cell? _ _ g0
  clear bB
  go_enter Tryz.func71, Tryz.ntmps71
  go_wp2_with fail
  go_region_law (refine step_append_fi _ (by rfl) _ _ _ (by rfl) w.heap.size 2 i0 (.int .i64 0) 1 8 Tryz.underlying22 hi hz0 hz1 hz2 rfl (by decide) (.slice (some ⟨w.heap.size, 0, none⟩) 3 3) 3 _ (by rfl) HRow.out ay n cy (xs.map (Value.int .i64)) (by rfl) (by simp [HN.out]) HS.out (ints_oneCell _ _) (by unfold maxLen; omega) (by omega) (by simp) ?_; intro v' w5 hown hgrow)
  all_goals
    have hB5 := BB.out.grown hgrow (by simp) (fun r hr => (HRow.out.lt r hr).1)
    have HB5 := hide hB5
    have HO : Hid (w5.ownsRow w.heap.size 2 1 v' (3 + n) (([a, t, (n : Int)] ++ xs).map (Value.int .i64))) := by rw [Hid, List.map_append]; exact hown
    clear hown hgrow hB5
    go_wp2
    go_ret
    exact ⟨_, rfl, HB5.out, HO.out⟩

end Go.Proofs.YtlmaopljihbdkaaGreat
/- Chapter 9: 'SlotFor' of both sides, walked. -/
namespace Go.Proofs.YtlmaopljihbdkaaGreat
open Go.RowKit

def sfC (i : Int) : Int := if 1 ≤ i ∧ i ≤ 9999 then 0 else 3
def sfV (i : Int) : Int := if 1 ≤ i ∧ i ≤ 9999 then 24 + i % 14 else 0
theorem sf_mod {i : Int} (h : 1 ≤ i) : Int.tmod i 14 = i % 14 := Int.tmod_eq_emod_of_nonneg (by omega)

set_option maxRecDepth 4000 in
theorem implSlotFor (i : Int) (w : World) :
    Calls Tryz.prog 99 #[.int .i64 i] w fun e w' => e = .returned (.agg #[.int .i64 (sfC i), .int .i64 (sfV i)]) ∧ Below w.heap.size w w' := by
  unfold sfC sfV
  have A0 := hide (below_alloc w (.cells #[.int .i64 0, .int .i64 0] 142))
  by_cases h : 1 ≤ i ∧ i ≤ 9999
  · rw [if_pos h, if_pos h]
    have HI := hide h
    have hm := sf_mod h.1
    have hr : 0 ≤ i % 14 ∧ i % 14 < 14 := ⟨Int.emod_nonneg _ (by decide), Int.emod_lt_of_pos _ (by decide)⟩
    generalize i % 14 = r at hm hr ⊢
    clear h
    go_enter Tryz.func99, Tryz.ntmps99
    go_wp2_with fail
    refine (isIndexY i HI.out.1 HI.out.2 _).mono ?_
    rintro e w1 ⟨rfl, hw⟩
    have hw := hw.symm
    subst hw
    go_wp2
    refine bodyPost_ret (v := .agg #[.int .i64 0, .int .i64 (24 + r)]) (by simp [results, Tryz.results99, go_sem]) rfl ⟨rfl, ?_⟩
    repeat (first | exact A0.out | exact below_alloc _ _ | refine Below.setCell ?_ (by first | (simp; done) | (simp; omega) | omega) _)
  · rw [if_neg h, if_neg h]
    have HI := hide h
    clear h
    go_enter Tryz.func99, Tryz.ntmps99
    go_wp2_with fail
    refine (isIndexN i HI.out _).mono ?_
    rintro e w1 ⟨rfl, hw⟩
    have hw := hw.symm
    subst hw
    go_wp2
    refine bodyPost_ret (v := .agg #[.int .i64 3, .int .i64 0]) (by simp [results, Tryz.results99, go_sem]) rfl ⟨rfl, ?_⟩
    repeat (first | exact A0.out | exact below_alloc _ _ | refine Below.setCell ?_ (by first | (simp; done) | (simp; omega) | omega) _)
theorem l9Slot (i : Int) (h : 1 ≤ i) (w : World) : Calls Tryz.prog 70 #[.int .i64 i] w fun e w' => e = .returned (.int .i64 (24 + i % 14)) ∧ w' = w := by
  have hm := sf_mod h
  have hr : 0 ≤ i % 14 ∧ i % 14 < 14 := ⟨Int.emod_nonneg _ (by decide), Int.emod_lt_of_pos _ (by decide)⟩
  generalize i % 14 = r at hm hr ⊢
  go_enter Tryz.func70, Tryz.ntmps70
  go_wp2
  go_ret
  exact ⟨by go_num, rfl⟩
end Go.Proofs.YtlmaopljihbdkaaGreat
/- Chapter 4, the program's side: what is seen, as a map from home blocks to words: '(seen).put', walked. -/
namespace Go.Proofs.YtlmaopljihbdkaaGreat
open Go.RowKit Go.Maps

theorem lawI64 : Keyed Tryz.prog 2 := int_keyed Tryz.underlying2
theorem zeroWords (w : World) : (zeroValue 22).run Tryz.prog w = .ok (.slice none 0 0) w := by kernel_rfl

/-- An element of the map, as it stands. -/
def asIs (v : Value) : Option (DataW Value × List MemPlace) := some (.held v, [])
def putM (M : Int → List Int) (p : Int × List Int) : Int → List Int := fun x => if x = p.1 then p.2 else M x

/-- Block B is a map of at most n entries; at each home block it has the words of M (none, where M has none). -/
def SeenAt (w : World) (B n : Nat) (M : Int → List Int) : Prop :=
  ∃ D : DataW Value, w.ownsMap Tryz.prog 2 asIs B n D ∧ (∀ a : Int, 0 ≤ a → a < 40 → ∃ v, D.atKey (.int .i64 a) (.held (.slice none 0 0)) = .held v ∧ RdI (· ≠ B) w v (M a)) ∧
    ∀ a : Int, has D (.int .i64 a) = true ↔ 0 ≤ a ∧ a < 40 ∧ M a ≠ []

theorem RdI.far {S : Nat → Prop} {w w' : World} {v : Value} {xs : List Int} {B : Nat} (h : RdI S w v xs) (hS : ∀ b, S b → b ≠ B) (hg : w.grownBy w' (some B)) : RdI S w' v xs := by
  obtain ⟨ao, c, e1, e2, e3⟩ := h
  refine ⟨ao, c, e1, e2, fun hne => ?_⟩
  obtain ⟨b, off, f1, f2, f3⟩ := e3 hne
  exact ⟨b, off, f1, f2, fun j hj => (World.cell?_of_block (hg.block b (World.block_lt_of_cell? _ _ (f3 j hj)) (fun e => hS b f2 (Option.some.inj e)))).trans (f3 j hj)⟩
theorem RdP_blk {S : Nat → Prop} {w : World} {b off n c : Nat} {ps : List (Int × List Int)} (h : RdP S w (.slice (some ⟨b, off, none⟩) n c) ps) (hn : 0 < ps.length) : S b := by
  obtain ⟨ao', c', e, _, h3⟩ := h
  injection e with e1 e2 e3
  subst e1
  obtain ⟨b', off', V, e, hb, _⟩ := h3 (by rintro rfl; exact absurd hn (Nat.lt_irrefl _))
  injection e with e
  injection e with e1 e2
  subst e1
  exact hb
theorem grown_below {w w' : World} {row : Option Nat} (hb : Below w.heap.size w w') : w.grownBy w' row := ⟨hb.os, hb.tape, hb.output, hb.size, fun b h _ => hb.block b h⟩
theorem grown_on {w w' w'' : World} {row : Option Nat} (h : w.grownBy w' row) (h' : w'.grownBy w'' row) : w.grownBy w'' row :=
  ⟨h'.os.trans h.os, h'.tape.trans h.tape, h'.output.trans h.output, Nat.le_trans h.size h'.size, fun b hb hne => (h'.block b (Nat.lt_of_lt_of_le hb h.size) hne).trans (h.block b hb hne)⟩

theorem SeenAt.lt {w : World} {B n : Nat} {M : Int → List Int} (h : SeenAt w B n M) : B < w.heap.size := by
  obtain ⟨D, h1, _⟩ := h
  exact h1.lt
theorem SeenAt.later {w w' : World} {B n : Nat} {M : Int → List Int} (h : SeenAt w B n M) (hb : Below w.heap.size w w') : SeenAt w' B n M := by
  obtain ⟨D, h1, h2, hk⟩ := h
  refine ⟨D, h1.kept (grown_below (row := none) hb) (by simp), fun a h3 h4 => ?_, hk⟩
  obtain ⟨v, e, r⟩ := h2 a h3 h4
  exact ⟨v, e, r.later hb⟩
theorem SeenAt.mono {w : World} {B n n' : Nat} {M : Int → List Int} (h : SeenAt w B n M) (hn : n ≤ n') : SeenAt w B n' M := by
  obtain ⟨D, h1, h2, hk⟩ := h
  exact ⟨D, h1.mono hn, h2, hk⟩
theorem SeenAt.put {w w' : World} {B n : Nat} {M : Int → List Int} {D : DataW Value} {x : Int} {v : Value} {ws : List Int} (h1 : w.ownsMap Tryz.prog 2 asIs B n D)
    (h2 : ∀ a : Int, 0 ≤ a → a < 40 → ∃ v, D.atKey (.int .i64 a) (.held (.slice none 0 0)) = .held v ∧ RdI (· ≠ B) w v (M a)) (hk : ∀ a : Int, has D (.int .i64 a) = true ↔ 0 ≤ a ∧ a < 40 ∧ M a ≠ []) (hx : 0 ≤ x ∧ x < 40) (hne : ws ≠ []) (hr : RdI (· ≠ B) w v ws)
    (hown : w'.ownsMap Tryz.prog 2 asIs B (n + 1) (D.put (.int .i64 x) (.held v))) (hg : w.grownBy w' (some B)) : SeenAt w' B (n + 1) (putM M (x, ws)) := by
  refine ⟨_, hown, fun a h3 h4 => ?_, fun a => ?_⟩
  rotate_left
  · unfold putM
    by_cases e : a = x
    · subst e
      simp only [if_true]
      exact ⟨fun _ => ⟨hx.1, hx.2, hne⟩, fun _ => has_put_same h1.isMap (by trivial) _⟩
    · simp only [if_neg e]
      rw [has_put_other (by intro h; injection h with _ h; exact e h)]
      exact hk a
  unfold putM
  by_cases e : a = x
  · subst e
    refine ⟨v, atKey_put_same h1.isMap (by trivial) _ _, ?_⟩
    simp only [if_true]
    exact hr.far (fun b hb => hb) hg
  · obtain ⟨v', e', r⟩ := h2 a h3 h4
    refine ⟨v', (atKey_put_other (by intro h; injection h with _ h; exact e h) _ _).trans e', ?_⟩
    simp only [if_neg e]
    exact r.far (fun b hb => hb) hg
theorem SeenAt.del {w w' : World} {B n : Nat} {M : Int → List Int} {D : DataW Value} {x : Int}
    (h2 : ∀ a : Int, 0 ≤ a → a < 40 → ∃ v, D.atKey (.int .i64 a) (.held (.slice none 0 0)) = .held v ∧ RdI (· ≠ B) w v (M a)) (hk : ∀ a : Int, has D (.int .i64 a) = true ↔ 0 ≤ a ∧ a < 40 ∧ M a ≠ [])
    (hown : w'.ownsMap Tryz.prog 2 asIs B n (D.del (.int .i64 x))) (hg : w.grownBy w' (some B)) : SeenAt w' B n (putM M (x, [])) := by
  refine ⟨_, hown, fun a h3 h4 => ?_, fun a => ?_⟩
  rotate_left
  · unfold putM
    by_cases e : a = x
    · subst e
      simp only [if_true]
      rw [has_del_same]
      exact ⟨fun h => absurd h (by decide), fun h => absurd rfl h.2.2⟩
    · simp only [if_neg e]
      rw [has_del_other (by intro h; injection h with _ h; exact e h)]
      exact hk a
  unfold putM
  by_cases e : a = x
  · subst e
    refine ⟨.slice none 0 0, atKey_del_same _, ?_⟩
    simp only [if_true]
    exact ⟨none, 0, rfl, Nat.zero_le _, fun h => absurd rfl h⟩
  · obtain ⟨v', e', r⟩ := h2 a h3 h4
    refine ⟨v', (atKey_del_other (by intro h; injection h with _ h; exact e h) _).trans e', ?_⟩
    simp only [if_neg e]
    exact r.far (fun b hb => hb) hg
theorem foldl_take {α β : Type} [Inhabited β] (f : α → β → α) (d : β) (M : α) (qs : List β) (k : Nat) (h : k < qs.length) : (qs.take (k + 1)).foldl f M = f ((qs.take k).foldl f M) (qs.getD k d) := by
  rw [List.take_succ_eq_append_getElem h, List.foldl_append]
  simp [List.getD, h]

set_option maxHeartbeats 2000000 in
set_option maxRecDepth 4000 in
theorem seenPut {T : Nat → Prop} {w : World} {B n : Nat} {M : Int → List Int} {v : Value} {qs : List (Int × List Int)} (hs : SeenAt w B n M) (hq : RdP T w v qs) (hT : ∀ b, T b → b ≠ B) (hqa : ∀ i, i < qs.length → 0 ≤ (qs.getD i (0, [])).1 ∧ (qs.getD i (0, [])).1 < 40) (hn : n + qs.length ≤ 1048576) :
    Calls Tryz.prog 51 #[.map (some B), v] w fun e w' => e = .returned (.tuple #[]) ∧ w.grownBy w' (some B) ∧ SeenAt w' B (n + qs.length) (qs.foldl putM M) := by
  obtain ⟨ao, c, rfl, hm⟩ := hq.shape
  have HQ := hide hq
  have HS := hide hs
  have HT := hide hT
  have HqA := hide hqa
  have HF := hide (foldl_take putM (0, []) M qs)
  obtain ⟨m, hmm⟩ : ∃ m, qs.length = m := ⟨_, rfl⟩
  have HM := hide hmm
  rw [hmm] at HQ HqA HF hn hm ⊢
  clear hq hs hT hqa hmm
  go_enter Tryz.func51, Tryz.ntmps51
  go_wp2
  go_loopw [8] (fun i wr => ∃ k : Nat, k ≤ m ∧ i = .int .i64 k ∧ Hid (w.grownBy wr (some B)) ∧ Hid (SeenAt wr B (n + k) ((qs.take k).foldl putM M))) (fun i _ => m - (intOf i).toNat)
  case atStart => exact ⟨0, Nat.zero_le _, rfl, grown_below (Below.refl _ _), HS.out⟩
  case round =>
    obtain ⟨k, hk, rfl, HG, HSw⟩ := hrel
    by_cases hlt : k < m
    · obtain ⟨b, off, V, rfl, q1, q2, q3⟩ := HQ.out.at (k := k) (by rw [HM.out]; exact hlt)
      have HFk := hide (HF.out k hlt)
      have hx40 := HqA.out k hlt
      have far : ∀ o x, w.cell? ⟨b, o, none⟩ = some x → wr.cell? ⟨b, o, none⟩ = some x := fun o x h => (World.cell?_of_block (HG.out.block b (World.block_lt_of_cell? _ _ h) (fun e => HT.out b (RdP_blk HQ.out (by rw [HM.out]; omega)) (Option.some.inj e)))).trans h
      have g1 := far _ _ q1
      have g2 := far _ _ q2
      have r3 := (q3.far (fun b hb => HT.out b hb) HG.out).narrow (fun _ b hb => HT.out b hb)
      obtain ⟨a3, c3, rfl⟩ := q3.shape
      obtain ⟨p, hp⟩ : ∃ p, qs.getD k (0, []) = p := ⟨_, rfl⟩
      rw [hp] at g1 g2 r3 hx40 HFk
      obtain ⟨x, ws⟩ := p
      dsimp only at g1 g2 r3 hx40
      obtain ⟨l, hl⟩ : ∃ l, ws.length = l := ⟨_, rfl⟩
      have HL := hide hl
      rw [hl] at g2 r3
      obtain ⟨hx1, hx2⟩ := hx40
      have hkey : Hid (keyOf Tryz.prog 2 (.int .i64 x) = some (.int .i64 x)) := keyOf_int_mk Tryz.underlying2 (WalkArith.wf_i64 (by omega))
      obtain ⟨D, hown, hD, hK⟩ := HSw.out
      have HK := hide hK
      have HR := hide r3
      have HD := hide hD
      have HO := hide hown
      have bA := hide (below_alloc wr (.cells #[.int .i64 x, .slice a3 l c3] 74))
      have HO2 := hide (hown.alloc (.cells #[.int .i64 x, .slice a3 l c3] 74))
      clear far q1 q2 q3 r3 hp hl hown hD hK
      by_cases hl0 : l = 0
      · subst hl0
        have hws : ws = [] := List.length_eq_zero_iff.1 HL.out
        subst hws
        go_wp2_with (at_delete; refine wpList_delete_own _ rfl _ _ 93 2 rfl 22 lawI64 Tryz.underlying93 _ B (n + k) D rfl HO2.out _ _ rfl hkey.out ?_; intro w1 hown1 hturn1)
        have hg1 := grown_on (grown_below (row := some B) bA.out) hturn1.grown
        have HS1 := hide ((SeenAt.del HD.out HK.out hown1 hg1).mono (by omega : n + k ≤ n + (k + 1)))
        rw [← HFk.out] at HS1
        have HG1 := hide (grown_on HG.out hg1)
        clear hown1 hturn1 hg1
        go_wp2
        go_roundw
        case rel => exact ⟨k + 1, hlt, by go_num, HG1.out, HS1.out⟩
        case measure => simp [intOf]; omega
      · have hl0' : ¬ (l : Int) = 0 := by omega
        go_wp2_with (at_mapUpdate; refine wpList_mapUpdate_own _ rfl _ _ _ 93 rfl 2 22 lawI64 Tryz.underlying93 _ B (n + k) _ rfl HO2.out (by unfold maxLen; omega) _ _ _ rfl rfl hkey.out _ [] (rfl : asIs _ = _) ?_; intro w1 hown1 hgrow1)
        have hg1 := grown_on (grown_below (row := some B) bA.out) hgrow1
        have HS1 := hide (SeenAt.put HO.out HD.out HK.out ⟨hx1, hx2⟩ (by rintro rfl; exact hl0 HL.out.symm) HR.out hown1 hg1)
        rw [← HFk.out] at HS1
        have HG1 := hide (grown_on HG.out hg1)
        clear hown1 hgrow1 hg1
        go_wp2
        go_roundw
        case rel => exact ⟨k + 1, hlt, by go_num, HG1.out, HS1.out⟩
        case measure => simp [intOf]; omega
    · have hkm : k = m := by omega
      subst hkm
      have hfin : qs.take k = qs := by rw [← HM.out]; simp
      rw [hfin] at HSw
      go_wp2
      exact bodyPost_end (v := .tuple #[]) (by simp [results, Tryz.results51, go_sem]) rfl ⟨rfl, HG.out, HSw.out⟩

theorem foldl_len {qs : List (Int × List Int)} {M : Int → List Int} {a : Int} {C : Nat} (hM : (M a).length ≤ C) (hq : ∀ i, i < qs.length → (qs.getD i (0, [])).2.length ≤ C) : (qs.foldl putM M a).length ≤ C := by
  have h : ∀ k, k ≤ qs.length → ((qs.take k).foldl putM M a).length ≤ C := by
    intro k
    induction k with
    | zero => intro _; simpa using hM
    | succ k ih =>
      intro hk
      rw [foldl_take putM (0, []) M qs k (by omega)]
      unfold putM
      split
      · exact hq k (by omega)
      · exact ih (by omega)
  have := h qs.length (Nat.le_refl _)
  simpa using this
theorem foldl_none {qs : List (Int × List Int)} {M : Int → List Int} {a : Int} (hq : ∀ i, i < qs.length → (qs.getD i (0, [])).1 ≠ a) : qs.foldl putM M a = M a := by
  have h : ∀ k, k ≤ qs.length → (qs.take k).foldl putM M a = M a := by
    intro k
    induction k with
    | zero => intro _; rfl
    | succ k ih =>
      intro hk
      rw [foldl_take putM (0, []) M qs k (by omega)]
      unfold putM
      rw [if_neg (fun e => hq k (by omega) e.symm)]
      exact ih (by omega)
  have := h qs.length (Nat.le_refl _)
  simpa using this
theorem foldl_last {qs : List (Int × List Int)} {M : Int → List Int} {a : Int} {i : Nat} (hi : i < qs.length) (ha : (qs.getD i (0, [])).1 = a) (hq : ∀ j, i < j → j < qs.length → (qs.getD j (0, [])).1 ≠ a) : qs.foldl putM M a = (qs.getD i (0, [])).2 := by
  have h : ∀ k, i < k → k ≤ qs.length → (qs.take k).foldl putM M a = (qs.getD i (0, [])).2 := by
    intro k
    induction k with
    | zero => intro h; omega
    | succ k ih =>
      intro h hk
      rw [foldl_take putM (0, []) M qs k (by omega)]
      unfold putM
      by_cases e : i = k
      · subst e; rw [if_pos ha.symm]
      · rw [if_neg (fun e' => hq k (by omega) (by omega) e'.symm)]
        exact ih (by omega) (by omega)
  have := h qs.length hi (Nat.le_refl _)
  simpa using this
end Go.Proofs.YtlmaopljihbdkaaGreat
/- A map of words that lie in blocks of S ('SeenS'); '(seen).put' once more. Made by program (gensns.py, out of Seen). -/
namespace Go.Proofs.YtlmaopljihbdkaaGreat
open Go.RowKit Go.Maps

/-- Block B is a map of at most n entries; at each home block it has the words of M (none, where M has none). -/
def SeenS (S : Nat → Prop) (w : World) (B n : Nat) (M : Int → List Int) : Prop :=
  ∃ D : DataW Value, w.ownsMap Tryz.prog 2 asIs B n D ∧ (∀ a : Int, 0 ≤ a → a < 40 → ∃ v, D.atKey (.int .i64 a) (.held (.slice none 0 0)) = .held v ∧ RdI S w v (M a)) ∧
    ∀ a : Int, has D (.int .i64 a) = true ↔ 0 ≤ a ∧ a < 40 ∧ M a ≠ []

theorem SeenS.lt {S : Nat → Prop} {w : World} {B n : Nat} {M : Int → List Int} (h : SeenS S w B n M) : B < w.heap.size := by
  obtain ⟨D, h1, _⟩ := h
  exact h1.lt

theorem SeenS.later {S : Nat → Prop} {w w' : World} {B n : Nat} {M : Int → List Int} (h : SeenS S w B n M) (hb : Below w.heap.size w w') : SeenS S w' B n M := by
  obtain ⟨D, h1, h2, hk⟩ := h
  refine ⟨D, h1.kept (grown_below (row := none) hb) (by simp), fun a h3 h4 => ?_, hk⟩
  obtain ⟨v, e, r⟩ := h2 a h3 h4
  exact ⟨v, e, r.later hb⟩

theorem SeenS.mono {S : Nat → Prop} {w : World} {B n n' : Nat} {M : Int → List Int} (h : SeenS S w B n M) (hn : n ≤ n') : SeenS S w B n' M := by
  obtain ⟨D, h1, h2, hk⟩ := h
  exact ⟨D, h1.mono hn, h2, hk⟩

theorem SeenS.put {S : Nat → Prop} {w w' : World} {B n : Nat} {M : Int → List Int} {D : DataW Value} {x : Int} {v : Value} {ws : List Int} (h1 : w.ownsMap Tryz.prog 2 asIs B n D)
    (h2 : ∀ a : Int, 0 ≤ a → a < 40 → ∃ v, D.atKey (.int .i64 a) (.held (.slice none 0 0)) = .held v ∧ RdI S w v (M a)) (hk : ∀ a : Int, has D (.int .i64 a) = true ↔ 0 ≤ a ∧ a < 40 ∧ M a ≠ []) (hx : 0 ≤ x ∧ x < 40) (hne : ws ≠ []) (hr : RdI S w v ws)
    (hSB : ∀ b, S b → b ≠ B) (hown : w'.ownsMap Tryz.prog 2 asIs B (n + 1) (D.put (.int .i64 x) (.held v))) (hg : w.grownBy w' (some B)) : SeenS S w' B (n + 1) (putM M (x, ws)) := by
  refine ⟨_, hown, fun a h3 h4 => ?_, fun a => ?_⟩
  rotate_left
  · unfold putM
    by_cases e : a = x
    · subst e
      simp only [if_true]
      exact ⟨fun _ => ⟨hx.1, hx.2, hne⟩, fun _ => has_put_same h1.isMap (by trivial) _⟩
    · simp only [if_neg e]
      rw [has_put_other (by intro h; injection h with _ h; exact e h)]
      exact hk a
  unfold putM
  by_cases e : a = x
  · subst e
    refine ⟨v, atKey_put_same h1.isMap (by trivial) _ _, ?_⟩
    simp only [if_true]
    exact hr.far hSB hg
  · obtain ⟨v', e', r⟩ := h2 a h3 h4
    refine ⟨v', (atKey_put_other (by intro h; injection h with _ h; exact e h) _ _).trans e', ?_⟩
    simp only [if_neg e]
    exact r.far hSB hg

theorem SeenS.del {S : Nat → Prop} {w w' : World} {B n : Nat} {M : Int → List Int} {D : DataW Value} {x : Int}
    (h2 : ∀ a : Int, 0 ≤ a → a < 40 → ∃ v, D.atKey (.int .i64 a) (.held (.slice none 0 0)) = .held v ∧ RdI S w v (M a)) (hk : ∀ a : Int, has D (.int .i64 a) = true ↔ 0 ≤ a ∧ a < 40 ∧ M a ≠ [])
    (hSB : ∀ b, S b → b ≠ B) (hown : w'.ownsMap Tryz.prog 2 asIs B n (D.del (.int .i64 x))) (hg : w.grownBy w' (some B)) : SeenS S w' B n (putM M (x, [])) := by
  refine ⟨_, hown, fun a h3 h4 => ?_, fun a => ?_⟩
  rotate_left
  · unfold putM
    by_cases e : a = x
    · subst e
      simp only [if_true]
      rw [has_del_same]
      exact ⟨fun h => absurd h (by decide), fun h => absurd rfl h.2.2⟩
    · simp only [if_neg e]
      rw [has_del_other (by intro h; injection h with _ h; exact e h)]
      exact hk a
  unfold putM
  by_cases e : a = x
  · subst e
    refine ⟨.slice none 0 0, atKey_del_same _, ?_⟩
    simp only [if_true]
    exact ⟨none, 0, rfl, Nat.zero_le _, fun h => absurd rfl h⟩
  · obtain ⟨v', e', r⟩ := h2 a h3 h4
    refine ⟨v', (atKey_del_other (by intro h; injection h with _ h; exact e h) _).trans e', ?_⟩
    simp only [if_neg e]
    exact r.far hSB hg

set_option maxHeartbeats 2000000 in
set_option maxRecDepth 4000 in
theorem seenPutS {S T : Nat → Prop} {w : World} {B n : Nat} {M : Int → List Int} {v : Value} {qs : List (Int × List Int)} (hs : SeenS S w B n M) (hq : RdP T w v qs) (hTS : ∀ b, T b → S b) (hSB : ∀ b, S b → b ≠ B) (hqa : ∀ i, i < qs.length → 0 ≤ (qs.getD i (0, [])).1 ∧ (qs.getD i (0, [])).1 < 40) (hn : n + qs.length ≤ 1048576) :
    Calls Tryz.prog 51 #[.map (some B), v] w fun e w' => e = .returned (.tuple #[]) ∧ w.grownBy w' (some B) ∧ SeenS S w' B (n + qs.length) (qs.foldl putM M) := by
  obtain ⟨ao, c, rfl, hm⟩ := hq.shape
  have HQ := hide hq
  have HS := hide hs
  have HT := hide (fun b (h : T b) => hSB b (hTS b h))
  have HTS := hide hTS
  have HSB := hide hSB
  have HqA := hide hqa
  have HF := hide (foldl_take putM (0, []) M qs)
  obtain ⟨m, hmm⟩ : ∃ m, qs.length = m := ⟨_, rfl⟩
  have HM := hide hmm
  rw [hmm] at HQ HqA HF hn hm ⊢
  clear hq hs hTS hSB hqa hmm
  go_enter Tryz.func51, Tryz.ntmps51
  go_wp2
  go_loopw [8] (fun i wr => ∃ k : Nat, k ≤ m ∧ i = .int .i64 k ∧ Hid (w.grownBy wr (some B)) ∧ Hid (SeenS S wr B (n + k) ((qs.take k).foldl putM M))) (fun i _ => m - (intOf i).toNat)
  case atStart => exact ⟨0, Nat.zero_le _, rfl, grown_below (Below.refl _ _), HS.out⟩
  case round =>
    obtain ⟨k, hk, rfl, HG, HSw⟩ := hrel
    by_cases hlt : k < m
    · obtain ⟨b, off, V, rfl, q1, q2, q3⟩ := HQ.out.at (k := k) (by rw [HM.out]; exact hlt)
      have HFk := hide (HF.out k hlt)
      have hx40 := HqA.out k hlt
      have far : ∀ o x, w.cell? ⟨b, o, none⟩ = some x → wr.cell? ⟨b, o, none⟩ = some x := fun o x h => (World.cell?_of_block (HG.out.block b (World.block_lt_of_cell? _ _ h) (fun e => HT.out b (RdP_blk HQ.out (by rw [HM.out]; omega)) (Option.some.inj e)))).trans h
      have g1 := far _ _ q1
      have g2 := far _ _ q2
      have r3 := (q3.far (fun b hb => HT.out b hb) HG.out).narrow (fun _ b hb => HTS.out b hb)
      obtain ⟨a3, c3, rfl⟩ := q3.shape
      obtain ⟨p, hp⟩ : ∃ p, qs.getD k (0, []) = p := ⟨_, rfl⟩
      rw [hp] at g1 g2 r3 hx40 HFk
      obtain ⟨x, ws⟩ := p
      dsimp only at g1 g2 r3 hx40
      obtain ⟨l, hl⟩ : ∃ l, ws.length = l := ⟨_, rfl⟩
      have HL := hide hl
      rw [hl] at g2 r3
      obtain ⟨hx1, hx2⟩ := hx40
      have hkey : Hid (keyOf Tryz.prog 2 (.int .i64 x) = some (.int .i64 x)) := keyOf_int_mk Tryz.underlying2 (WalkArith.wf_i64 (by omega))
      obtain ⟨D, hown, hD, hK⟩ := HSw.out
      have HK := hide hK
      have HR := hide r3
      have HD := hide hD
      have HO := hide hown
      have bA := hide (below_alloc wr (.cells #[.int .i64 x, .slice a3 l c3] 74))
      have HO2 := hide (hown.alloc (.cells #[.int .i64 x, .slice a3 l c3] 74))
      clear far q1 q2 q3 r3 hp hl hown hD hK
      by_cases hl0 : l = 0
      · subst hl0
        have hws : ws = [] := List.length_eq_zero_iff.1 HL.out
        subst hws
        go_wp2_with (at_delete; refine wpList_delete_own _ rfl _ _ 93 2 rfl 22 lawI64 Tryz.underlying93 _ B (n + k) D rfl HO2.out _ _ rfl hkey.out ?_; intro w1 hown1 hturn1)
        have hg1 := grown_on (grown_below (row := some B) bA.out) hturn1.grown
        have HS1 := hide ((SeenS.del HD.out HK.out HSB.out hown1 hg1).mono (by omega : n + k ≤ n + (k + 1)))
        rw [← HFk.out] at HS1
        have HG1 := hide (grown_on HG.out hg1)
        clear hown1 hturn1 hg1
        go_wp2
        go_roundw
        case rel => exact ⟨k + 1, hlt, by go_num, HG1.out, HS1.out⟩
        case measure => simp [intOf]; omega
      · have hl0' : ¬ (l : Int) = 0 := by omega
        go_wp2_with (at_mapUpdate; refine wpList_mapUpdate_own _ rfl _ _ _ 93 rfl 2 22 lawI64 Tryz.underlying93 _ B (n + k) _ rfl HO2.out (by unfold maxLen; omega) _ _ _ rfl rfl hkey.out _ [] (rfl : asIs _ = _) ?_; intro w1 hown1 hgrow1)
        have hg1 := grown_on (grown_below (row := some B) bA.out) hgrow1
        have HS1 := hide (SeenS.put HO.out HD.out HK.out ⟨hx1, hx2⟩ (by rintro rfl; exact hl0 HL.out.symm) HR.out HSB.out hown1 hg1)
        rw [← HFk.out] at HS1
        have HG1 := hide (grown_on HG.out hg1)
        clear hown1 hgrow1 hg1
        go_wp2
        go_roundw
        case rel => exact ⟨k + 1, hlt, by go_num, HG1.out, HS1.out⟩
        case measure => simp [intOf]; omega
    · have hkm : k = m := by omega
      subst hkm
      have hfin : qs.take k = qs := by rw [← HM.out]; simp
      rw [hfin] at HSw
      go_wp2
      exact bodyPost_end (v := .tuple #[]) (by simp [results, Tryz.results51, go_sem]) rfl ⟨rfl, HG.out, HSw.out⟩


theorem SeenS.ku {S D : Nat → Prop} {w w' : World} {B n : Nat} {M : Int → List Int} (h : SeenS S w B n M) (hw : Ku D w w') (hB : ¬ D B) (hS : ∀ b, S b → ¬ D b) : SeenS S w' B n M := by
  obtain ⟨X, h1, h2, hk⟩ := h
  have hlt := h1.lt
  refine ⟨X, ?_, fun a h3 h4 => ?_, hk⟩
  · obtain ⟨es, clock, hb, F, hs, hD⟩ := h1
    exact ⟨es, clock, (hw.block B hlt hB).trans hb, F, hs, hD⟩
  · obtain ⟨v, e, r⟩ := h2 a h3 h4
    exact ⟨v, e, r.ku hw (fun _ => hS)⟩

end Go.Proofs.YtlmaopljihbdkaaGreat
