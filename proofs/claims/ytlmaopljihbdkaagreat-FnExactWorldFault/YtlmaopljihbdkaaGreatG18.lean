/- Seen SeenS Spec2 Impl2 in one text: what each says stands at its head below. -/
import Derived.Test.YtlmaopljihbdkaaGreatG05
import Derived.Maps.OwnIn
import Derived.Maps.OwnOps
import Derived.Maps.Views
import Derived.Test.YtlmaopljihbdkaaGreatG17
import Derived.Test.YtlmaopljihbdkaaGreatG04
import Derived.Test.YtlmaopljihbdkaaGreatG11
namespace Go.Proofs.YtlmaopljihbdkaaGreat
open Go.RowKit Go.Maps
theorem lawI64 : Keyed Tryz.prog 2 := int_keyed Tryz.underlying2
theorem zeroWords (w : World) : (zeroValue 22).run Tryz.prog w = .ok (.slice none 0 0) w := by kernel_rfl
def asIs (v : Value) : Option (DataW Value × List MemPlace) := some (.held v, [])
def putM (M : Int → List Int) (p : Int × List Int) : Int → List Int := fun x => if x = p.1 then p.2 else M x
def SeenAt (w : World) (B n : Nat) (M : Int → List Int) : Prop :=
  ∃ D : DataW Value, w.ownsMap Tryz.prog 2 asIs B n D ∧ (∀ a : Int, 0 ≤ a → a < 40 → ∃ v, D.atKey (.int .i64 a) (.held (.slice none 0 0)) = .held v ∧ RdI (· ≠ B) w v (M a)) ∧
    ∀ a : Int, has D (.int .i64 a) = true ↔ 0 ≤ a ∧ a < 40 ∧ M a ≠ []
theorem RdI.far {S : Nat → Prop} {w w' : World} {v : Value} {xs : List Int} {B : Nat} (h : RdI S w v xs) (hS : ∀ b, S b → b ≠ B) (hg : w.grownBy w' (some B)) : RdI S w' v xs := by
  obtain ⟨ao, c, e1, e2, e3⟩ := h
  refine ⟨ao, c, e1, e2, fun hne => ?_⟩
  obtain ⟨b, off, f1, f2, f3⟩ := e3 hne
  exact ⟨b, off, f1, f2, fun j hj => (World.cell?_of_block (hg.block b (World.block_lt_of_cell? _ _ (f3 j hj)) (fun e => hS b f2 (Option.some.inj e)))).trans (f3 j hj)⟩
theorem RdP_blk {S : Nat → Prop} {w : World} {b off n c : Nat} {ps : List (Int × List Int)} (h : RdP S w (.slice (some ⟨b, off, none⟩) n c) ps) (hn : 0 < ps.length) : S b := by
  obtain ⟨ao', c', e, _, h3⟩ := h
  injection e with e1 e2 e3
  subst e1
  obtain ⟨b', off', V, e, hb, _⟩ := h3 (by rintro rfl; exact absurd hn (Nat.lt_irrefl _))
  injection e with e
  injection e with e1 e2
  subst e1
  exact hb
theorem grown_below {w w' : World} {row : Option Nat} (hb : Below w.heap.size w w') : w.grownBy w' row := ⟨hb.os, hb.tape, hb.output, hb.size, fun b h _ => hb.block b h⟩
theorem grown_on {w w' w'' : World} {row : Option Nat} (h : w.grownBy w' row) (h' : w'.grownBy w'' row) : w.grownBy w'' row :=
  ⟨h'.os.trans h.os, h'.tape.trans h.tape, h'.output.trans h.output, Nat.le_trans h.size h'.size, fun b hb hne => (h'.block b (Nat.lt_of_lt_of_le hb h.size) hne).trans (h.block b hb hne)⟩
theorem SeenAt.lt {w : World} {B n : Nat} {M : Int → List Int} (h : SeenAt w B n M) : B < w.heap.size := by
  obtain ⟨D, h1, _⟩ := h
  exact h1.lt
theorem SeenAt.later {w w' : World} {B n : Nat} {M : Int → List Int} (h : SeenAt w B n M) (hb : Below w.heap.size w w') : SeenAt w' B n M := by
  obtain ⟨D, h1, h2, hk⟩ := h
  refine ⟨D, h1.kept (grown_below (row := none) hb) (by simp), fun a h3 h4 => ?_, hk⟩
  obtain ⟨v, e, r⟩ := h2 a h3 h4
  exact ⟨v, e, r.later hb⟩
theorem SeenAt.mono {w : World} {B n n' : Nat} {M : Int → List Int} (h : SeenAt w B n M) (hn : n ≤ n') : SeenAt w B n' M := by
  obtain ⟨D, h1, h2, hk⟩ := h
  exact ⟨D, h1.mono hn, h2, hk⟩
theorem SeenAt.put {w w' : World} {B n : Nat} {M : Int → List Int} {D : DataW Value} {x : Int} {v : Value} {ws : List Int} (h1 : w.ownsMap Tryz.prog 2 asIs B n D)
    (h2 : ∀ a : Int, 0 ≤ a → a < 40 → ∃ v, D.atKey (.int .i64 a) (.held (.slice none 0 0)) = .held v ∧ RdI (· ≠ B) w v (M a)) (hk : ∀ a : Int, has D (.int .i64 a) = true ↔ 0 ≤ a ∧ a < 40 ∧ M a ≠ []) (hx : 0 ≤ x ∧ x < 40) (hne : ws ≠ []) (hr : RdI (· ≠ B) w v ws)
    (hown : w'.ownsMap Tryz.prog 2 asIs B (n + 1) (D.put (.int .i64 x) (.held v))) (hg : w.grownBy w' (some B)) : SeenAt w' B (n + 1) (putM M (x, ws)) := by
  refine ⟨_, hown, fun a h3 h4 => ?_, fun a => ?_⟩
  rotate_left
  · unfold putM
    by_cases e : a = x
    · subst e
      simp only [if_true]
      exact ⟨fun _ => ⟨hx.1, hx.2, hne⟩, fun _ => has_put_same h1.isMap (by trivial) _⟩
    · simp only [if_neg e]
      rw [has_put_other (by intro h; injection h with _ h; exact e h)]
      exact hk a
  unfold putM
  by_cases e : a = x
  · subst e
    refine ⟨v, atKey_put_same h1.isMap (by trivial) _ _, ?_⟩
    simp only [if_true]
    exact hr.far (fun b hb => hb) hg
  · obtain ⟨v', e', r⟩ := h2 a h3 h4
    refine ⟨v', (atKey_put_other (by intro h; injection h with _ h; exact e h) _ _).trans e', ?_⟩
    simp only [if_neg e]
    exact r.far (fun b hb => hb) hg
theorem SeenAt.del {w w' : World} {B n : Nat} {M : Int → List Int} {D : DataW Value} {x : Int}
    (h2 : ∀ a : Int, 0 ≤ a → a < 40 → ∃ v, D.atKey (.int .i64 a) (.held (.slice none 0 0)) = .held v ∧ RdI (· ≠ B) w v (M a)) (hk : ∀ a : Int, has D (.int .i64 a) = true ↔ 0 ≤ a ∧ a < 40 ∧ M a ≠ [])
    (hown : w'.ownsMap Tryz.prog 2 asIs B n (D.del (.int .i64 x))) (hg : w.grownBy w' (some B)) : SeenAt w' B n (putM M (x, [])) := by
  refine ⟨_, hown, fun a h3 h4 => ?_, fun a => ?_⟩
  rotate_left
  · unfold putM
    by_cases e : a = x
    · subst e
      simp only [if_true]
      rw [has_del_same]
      exact ⟨fun h => absurd h (by decide), fun h => absurd rfl h.2.2⟩
    · simp only [if_neg e]
      rw [has_del_other (by intro h; injection h with _ h; exact e h)]
      exact hk a
  unfold putM
  by_cases e : a = x
  · subst e
    refine ⟨.slice none 0 0, atKey_del_same _, ?_⟩
    simp only [if_true]
    exact ⟨none, 0, rfl, Nat.zero_le _, fun h => absurd rfl h⟩
  · obtain ⟨v', e', r⟩ := h2 a h3 h4
    refine ⟨v', (atKey_del_other (by intro h; injection h with _ h; exact e h) _).trans e', ?_⟩
    simp only [if_neg e]
    exact r.far (fun b hb => hb) hg
theorem foldl_take {α β : Type} [Inhabited β] (f : α → β → α) (d : β) (M : α) (qs : List β) (k : Nat) (h : k < qs.length) : (qs.take (k + 1)).foldl f M = f ((qs.take k).foldl f M) (qs.getD k d) := by
  rw [List.take_succ_eq_append_getElem h, List.foldl_append]
  simp [List.getD, h]
set_option maxHeartbeats 2000000 in
set_option maxRecDepth 4000 in
theorem seenPut {T : Nat → Prop} {w : World} {B n : Nat} {M : Int → List Int} {v : Value} {qs : List (Int × List Int)} (hs : SeenAt w B n M) (hq : RdP T w v qs) (hT : ∀ b, T b → b ≠ B) (hqa : ∀ i, i < qs.length → 0 ≤ (qs.getD i (0, [])).1 ∧ (qs.getD i (0, [])).1 < 40) (hn : n + qs.length ≤ 1048576) :
    Calls Tryz.prog 51 #[.map (some B), v] w fun e w' => e = .returned (.tuple #[]) ∧ w.grownBy w' (some B) ∧ SeenAt w' B (n + qs.length) (qs.foldl putM M) := by
  obtain ⟨ao, c, rfl, hm⟩ := hq.shape
  have HQ := hide hq
  have HS := hide hs
  have HT := hide hT
  have HqA := hide hqa
  have HF := hide (foldl_take putM (0, []) M qs)
  obtain ⟨m, hmm⟩ : ∃ m, qs.length = m := ⟨_, rfl⟩
  have HM := hide hmm
  rw [hmm] at HQ HqA HF hn hm ⊢
  clear hq hs hT hqa hmm
  go_enter Tryz.func51, Tryz.ntmps51
  go_wp2
  go_loopw [8] (fun i wr => ∃ k : Nat, k ≤ m ∧ i = .int .i64 k ∧ Hid (w.grownBy wr (some B)) ∧ Hid (SeenAt wr B (n + k) ((qs.take k).foldl putM M))) (fun i _ => m - (intOf i).toNat)
  case atStart => exact ⟨0, Nat.zero_le _, rfl, grown_below (Below.refl _ _), HS.out⟩
  case round =>
    obtain ⟨k, hk, rfl, HG, HSw⟩ := hrel
    by_cases hlt : k < m
    · obtain ⟨b, off, V, rfl, q1, q2, q3⟩ := HQ.out.at (k := k) (by rw [HM.out]; exact hlt)
      have HFk := hide (HF.out k hlt)
      have hx40 := HqA.out k hlt
      have far : ∀ o x, w.cell? ⟨b, o, none⟩ = some x → wr.cell? ⟨b, o, none⟩ = some x := fun o x h => (World.cell?_of_block (HG.out.block b (World.block_lt_of_cell? _ _ h) (fun e => HT.out b (RdP_blk HQ.out (by rw [HM.out]; omega)) (Option.some.inj e)))).trans h
      have g1 := far _ _ q1
      have g2 := far _ _ q2
      have r3 := (q3.far (fun b hb => HT.out b hb) HG.out).narrow (fun _ b hb => HT.out b hb)
      obtain ⟨a3, c3, rfl⟩ := q3.shape
      obtain ⟨p, hp⟩ : ∃ p, qs.getD k (0, []) = p := ⟨_, rfl⟩
      rw [hp] at g1 g2 r3 hx40 HFk
      obtain ⟨x, ws⟩ := p
      dsimp only at g1 g2 r3 hx40
      obtain ⟨l, hl⟩ : ∃ l, ws.length = l := ⟨_, rfl⟩
      have HL := hide hl
      rw [hl] at g2 r3
      obtain ⟨hx1, hx2⟩ := hx40
      have hkey : Hid (keyOf Tryz.prog 2 (.int .i64 x) = some (.int .i64 x)) := keyOf_int_mk Tryz.underlying2 (WalkArith.wf_i64 (by omega))
      obtain ⟨D, hown, hD, hK⟩ := HSw.out
      have HK := hide hK
      have HR := hide r3
      have HD := hide hD
      have HO := hide hown
      have bA := hide (below_alloc wr (.cells #[.int .i64 x, .slice a3 l c3] 74))
      have HO2 := hide (hown.alloc (.cells #[.int .i64 x, .slice a3 l c3] 74))
      clear far q1 q2 q3 r3 hp hl hown hD hK
      by_cases hl0 : l = 0
      · subst hl0
        have hws : ws = [] := List.length_eq_zero_iff.1 HL.out
        subst hws
        go_wp2_with (at_delete; refine wpList_delete_own _ rfl _ _ 93 2 rfl 22 lawI64 Tryz.underlying93 _ B (n + k) D rfl HO2.out _ _ rfl hkey.out ?_; intro w1 hown1 hturn1)
        have hg1 := grown_on (grown_below (row := some B) bA.out) hturn1.grown
        have HS1 := hide ((SeenAt.del HD.out HK.out hown1 hg1).mono (by omega : n + k ≤ n + (k + 1)))
        rw [← HFk.out] at HS1
        have HG1 := hide (grown_on HG.out hg1)
        clear hown1 hturn1 hg1
        go_wp2
        go_roundw
        case rel => exact ⟨k + 1, hlt, by go_num, HG1.out, HS1.out⟩
        case measure => simp [intOf]; omega
      · have hl0' : ¬ (l : Int) = 0 := by omega
        go_wp2_with (at_mapUpdate; refine wpList_mapUpdate_own _ rfl _ _ _ 93 rfl 2 22 lawI64 Tryz.underlying93 _ B (n + k) _ rfl HO2.out (by unfold maxLen; omega) _ _ _ rfl rfl hkey.out _ [] (rfl : asIs _ = _) ?_; intro w1 hown1 hgrow1)
        have hg1 := grown_on (grown_below (row := some B) bA.out) hgrow1
        have HS1 := hide (SeenAt.put HO.out HD.out HK.out ⟨hx1, hx2⟩ (by rintro rfl; exact hl0 HL.out.symm) HR.out hown1 hg1)
        rw [← HFk.out] at HS1
        have HG1 := hide (grown_on HG.out hg1)
        clear hown1 hgrow1 hg1
        go_wp2
        go_roundw
        case rel => exact ⟨k + 1, hlt, by go_num, HG1.out, HS1.out⟩
        case measure => simp [intOf]; omega
    · have hkm : k = m := by omega
      subst hkm
      have hfin : qs.take k = qs := by rw [← HM.out]; simp
      rw [hfin] at HSw
      go_wp2
      exact bodyPost_end (v := .tuple #[]) (by simp [results, Tryz.results51, go_sem]) rfl ⟨rfl, HG.out, HSw.out⟩
theorem foldl_len {qs : List (Int × List Int)} {M : Int → List Int} {a : Int} {C : Nat} (hM : (M a).length ≤ C) (hq : ∀ i, i < qs.length → (qs.getD i (0, [])).2.length ≤ C) : (qs.foldl putM M a).length ≤ C := by
  have h : ∀ k, k ≤ qs.length → ((qs.take k).foldl putM M a).length ≤ C := by
    intro k
    induction k with
    | zero => intro _; simpa using hM
    | succ k ih =>
      intro hk
      rw [foldl_take putM (0, []) M qs k (by omega)]
      unfold putM
      split
      · exact hq k (by omega)
      · exact ih (by omega)
  have := h qs.length (Nat.le_refl _)
  simpa using this
theorem foldl_none {qs : List (Int × List Int)} {M : Int → List Int} {a : Int} (hq : ∀ i, i < qs.length → (qs.getD i (0, [])).1 ≠ a) : qs.foldl putM M a = M a := by
  have h : ∀ k, k ≤ qs.length → (qs.take k).foldl putM M a = M a := by
    intro k
    induction k with
    | zero => intro _; rfl
    | succ k ih =>
      intro hk
      rw [foldl_take putM (0, []) M qs k (by omega)]
      unfold putM
      rw [if_neg (fun e => hq k (by omega) e.symm)]
      exact ih (by omega)
  have := h qs.length (Nat.le_refl _)
  simpa using this
theorem foldl_last {qs : List (Int × List Int)} {M : Int → List Int} {a : Int} {i : Nat} (hi : i < qs.length) (ha : (qs.getD i (0, [])).1 = a) (hq : ∀ j, i < j → j < qs.length → (qs.getD j (0, [])).1 ≠ a) : qs.foldl putM M a = (qs.getD i (0, [])).2 := by
  have h : ∀ k, i < k → k ≤ qs.length → (qs.take k).foldl putM M a = (qs.getD i (0, [])).2 := by
    intro k
    induction k with
    | zero => intro h; omega
    | succ k ih =>
      intro h hk
      rw [foldl_take putM (0, []) M qs k (by omega)]
      unfold putM
      by_cases e : i = k
      · subst e; rw [if_pos ha.symm]
      · rw [if_neg (fun e' => hq k (by omega) (by omega) e'.symm)]
        exact ih (by omega) (by omega)
  have := h qs.length hi (Nat.le_refl _)
  simpa using this
end Go.Proofs.YtlmaopljihbdkaaGreat
namespace Go.Proofs.YtlmaopljihbdkaaGreat
open Go.RowKit Go.Maps
def SeenS (S : Nat → Prop) (w : World) (B n : Nat) (M : Int → List Int) : Prop :=
  ∃ D : DataW Value, w.ownsMap Tryz.prog 2 asIs B n D ∧ (∀ a : Int, 0 ≤ a → a < 40 → ∃ v, D.atKey (.int .i64 a) (.held (.slice none 0 0)) = .held v ∧ RdI S w v (M a)) ∧
    ∀ a : Int, has D (.int .i64 a) = true ↔ 0 ≤ a ∧ a < 40 ∧ M a ≠ []
theorem SeenS.lt {S : Nat → Prop} {w : World} {B n : Nat} {M : Int → List Int} (h : SeenS S w B n M) : B < w.heap.size := by
  obtain ⟨D, h1, _⟩ := h
  exact h1.lt
theorem SeenS.later {S : Nat → Prop} {w w' : World} {B n : Nat} {M : Int → List Int} (h : SeenS S w B n M) (hb : Below w.heap.size w w') : SeenS S w' B n M := by
  obtain ⟨D, h1, h2, hk⟩ := h
  refine ⟨D, h1.kept (grown_below (row := none) hb) (by simp), fun a h3 h4 => ?_, hk⟩
  obtain ⟨v, e, r⟩ := h2 a h3 h4
  exact ⟨v, e, r.later hb⟩
theorem SeenS.mono {S : Nat → Prop} {w : World} {B n n' : Nat} {M : Int → List Int} (h : SeenS S w B n M) (hn : n ≤ n') : SeenS S w B n' M := by
  obtain ⟨D, h1, h2, hk⟩ := h
  exact ⟨D, h1.mono hn, h2, hk⟩
theorem SeenS.put {S : Nat → Prop} {w w' : World} {B n : Nat} {M : Int → List Int} {D : DataW Value} {x : Int} {v : Value} {ws : List Int} (h1 : w.ownsMap Tryz.prog 2 asIs B n D)
    (h2 : ∀ a : Int, 0 ≤ a → a < 40 → ∃ v, D.atKey (.int .i64 a) (.held (.slice none 0 0)) = .held v ∧ RdI S w v (M a)) (hk : ∀ a : Int, has D (.int .i64 a) = true ↔ 0 ≤ a ∧ a < 40 ∧ M a ≠ []) (hx : 0 ≤ x ∧ x < 40) (hne : ws ≠ []) (hr : RdI S w v ws)
    (hSB : ∀ b, S b → b ≠ B) (hown : w'.ownsMap Tryz.prog 2 asIs B (n + 1) (D.put (.int .i64 x) (.held v))) (hg : w.grownBy w' (some B)) : SeenS S w' B (n + 1) (putM M (x, ws)) := by
  refine ⟨_, hown, fun a h3 h4 => ?_, fun a => ?_⟩
  rotate_left
  · unfold putM
    by_cases e : a = x
    · subst e
      simp only [if_true]
      exact ⟨fun _ => ⟨hx.1, hx.2, hne⟩, fun _ => has_put_same h1.isMap (by trivial) _⟩
    · simp only [if_neg e]
      rw [has_put_other (by intro h; injection h with _ h; exact e h)]
      exact hk a
  unfold putM
  by_cases e : a = x
  · subst e
    refine ⟨v, atKey_put_same h1.isMap (by trivial) _ _, ?_⟩
    simp only [if_true]
    exact hr.far hSB hg
  · obtain ⟨v', e', r⟩ := h2 a h3 h4
    refine ⟨v', (atKey_put_other (by intro h; injection h with _ h; exact e h) _ _).trans e', ?_⟩
    simp only [if_neg e]
    exact r.far hSB hg
theorem SeenS.del {S : Nat → Prop} {w w' : World} {B n : Nat} {M : Int → List Int} {D : DataW Value} {x : Int}
    (h2 : ∀ a : Int, 0 ≤ a → a < 40 → ∃ v, D.atKey (.int .i64 a) (.held (.slice none 0 0)) = .held v ∧ RdI S w v (M a)) (hk : ∀ a : Int, has D (.int .i64 a) = true ↔ 0 ≤ a ∧ a < 40 ∧ M a ≠ [])
    (hSB : ∀ b, S b → b ≠ B) (hown : w'.ownsMap Tryz.prog 2 asIs B n (D.del (.int .i64 x))) (hg : w.grownBy w' (some B)) : SeenS S w' B n (putM M (x, [])) := by
  refine ⟨_, hown, fun a h3 h4 => ?_, fun a => ?_⟩
  rotate_left
  · unfold putM
    by_cases e : a = x
    · subst e
      simp only [if_true]
      rw [has_del_same]
      exact ⟨fun h => absurd h (by decide), fun h => absurd rfl h.2.2⟩
    · simp only [if_neg e]
      rw [has_del_other (by intro h; injection h with _ h; exact e h)]
      exact hk a
  unfold putM
  by_cases e : a = x
  · subst e
    refine ⟨.slice none 0 0, atKey_del_same _, ?_⟩
    simp only [if_true]
    exact ⟨none, 0, rfl, Nat.zero_le _, fun h => absurd rfl h⟩
  · obtain ⟨v', e', r⟩ := h2 a h3 h4
    refine ⟨v', (atKey_del_other (by intro h; injection h with _ h; exact e h) _).trans e', ?_⟩
    simp only [if_neg e]
    exact r.far hSB hg
set_option maxHeartbeats 2000000 in
set_option maxRecDepth 4000 in
theorem seenPutS {S T : Nat → Prop} {w : World} {B n : Nat} {M : Int → List Int} {v : Value} {qs : List (Int × List Int)} (hs : SeenS S w B n M) (hq : RdP T w v qs) (hTS : ∀ b, T b → S b) (hSB : ∀ b, S b → b ≠ B) (hqa : ∀ i, i < qs.length → 0 ≤ (qs.getD i (0, [])).1 ∧ (qs.getD i (0, [])).1 < 40) (hn : n + qs.length ≤ 1048576) :
    Calls Tryz.prog 51 #[.map (some B), v] w fun e w' => e = .returned (.tuple #[]) ∧ w.grownBy w' (some B) ∧ SeenS S w' B (n + qs.length) (qs.foldl putM M) := by
  obtain ⟨ao, c, rfl, hm⟩ := hq.shape
  have HQ := hide hq
  have HS := hide hs
  have HT := hide (fun b (h : T b) => hSB b (hTS b h))
  have HTS := hide hTS
  have HSB := hide hSB
  have HqA := hide hqa
  have HF := hide (foldl_take putM (0, []) M qs)
  obtain ⟨m, hmm⟩ : ∃ m, qs.length = m := ⟨_, rfl⟩
  have HM := hide hmm
  rw [hmm] at HQ HqA HF hn hm ⊢
  clear hq hs hTS hSB hqa hmm
  go_enter Tryz.func51, Tryz.ntmps51
  go_wp2
  go_loopw [8] (fun i wr => ∃ k : Nat, k ≤ m ∧ i = .int .i64 k ∧ Hid (w.grownBy wr (some B)) ∧ Hid (SeenS S wr B (n + k) ((qs.take k).foldl putM M))) (fun i _ => m - (intOf i).toNat)
  case atStart => exact ⟨0, Nat.zero_le _, rfl, grown_below (Below.refl _ _), HS.out⟩
  case round =>
    obtain ⟨k, hk, rfl, HG, HSw⟩ := hrel
    by_cases hlt : k < m
    · obtain ⟨b, off, V, rfl, q1, q2, q3⟩ := HQ.out.at (k := k) (by rw [HM.out]; exact hlt)
      have HFk := hide (HF.out k hlt)
      have hx40 := HqA.out k hlt
      have far : ∀ o x, w.cell? ⟨b, o, none⟩ = some x → wr.cell? ⟨b, o, none⟩ = some x := fun o x h => (World.cell?_of_block (HG.out.block b (World.block_lt_of_cell? _ _ h) (fun e => HT.out b (RdP_blk HQ.out (by rw [HM.out]; omega)) (Option.some.inj e)))).trans h
      have g1 := far _ _ q1
      have g2 := far _ _ q2
      have r3 := (q3.far (fun b hb => HT.out b hb) HG.out).narrow (fun _ b hb => HTS.out b hb)
      obtain ⟨a3, c3, rfl⟩ := q3.shape
      obtain ⟨p, hp⟩ : ∃ p, qs.getD k (0, []) = p := ⟨_, rfl⟩
      rw [hp] at g1 g2 r3 hx40 HFk
      obtain ⟨x, ws⟩ := p
      dsimp only at g1 g2 r3 hx40
      obtain ⟨l, hl⟩ : ∃ l, ws.length = l := ⟨_, rfl⟩
      have HL := hide hl
      rw [hl] at g2 r3
      obtain ⟨hx1, hx2⟩ := hx40
      have hkey : Hid (keyOf Tryz.prog 2 (.int .i64 x) = some (.int .i64 x)) := keyOf_int_mk Tryz.underlying2 (WalkArith.wf_i64 (by omega))
      obtain ⟨D, hown, hD, hK⟩ := HSw.out
      have HK := hide hK
      have HR := hide r3
      have HD := hide hD
      have HO := hide hown
      have bA := hide (below_alloc wr (.cells #[.int .i64 x, .slice a3 l c3] 74))
      have HO2 := hide (hown.alloc (.cells #[.int .i64 x, .slice a3 l c3] 74))
      clear far q1 q2 q3 r3 hp hl hown hD hK
      by_cases hl0 : l = 0
      · subst hl0
        have hws : ws = [] := List.length_eq_zero_iff.1 HL.out
        subst hws
        go_wp2_with (at_delete; refine wpList_delete_own _ rfl _ _ 93 2 rfl 22 lawI64 Tryz.underlying93 _ B (n + k) D rfl HO2.out _ _ rfl hkey.out ?_; intro w1 hown1 hturn1)
        have hg1 := grown_on (grown_below (row := some B) bA.out) hturn1.grown
        have HS1 := hide ((SeenS.del HD.out HK.out HSB.out hown1 hg1).mono (by omega : n + k ≤ n + (k + 1)))
        rw [← HFk.out] at HS1
        have HG1 := hide (grown_on HG.out hg1)
        clear hown1 hturn1 hg1
        go_wp2
        go_roundw
        case rel => exact ⟨k + 1, hlt, by go_num, HG1.out, HS1.out⟩
        case measure => simp [intOf]; omega
      · have hl0' : ¬ (l : Int) = 0 := by omega
        go_wp2_with (at_mapUpdate; refine wpList_mapUpdate_own _ rfl _ _ _ 93 rfl 2 22 lawI64 Tryz.underlying93 _ B (n + k) _ rfl HO2.out (by unfold maxLen; omega) _ _ _ rfl rfl hkey.out _ [] (rfl : asIs _ = _) ?_; intro w1 hown1 hgrow1)
        have hg1 := grown_on (grown_below (row := some B) bA.out) hgrow1
        have HS1 := hide (SeenS.put HO.out HD.out HK.out ⟨hx1, hx2⟩ (by rintro rfl; exact hl0 HL.out.symm) HR.out HSB.out hown1 hg1)
        rw [← HFk.out] at HS1
        have HG1 := hide (grown_on HG.out hg1)
        clear hown1 hgrow1 hg1
        go_wp2
        go_roundw
        case rel => exact ⟨k + 1, hlt, by go_num, HG1.out, HS1.out⟩
        case measure => simp [intOf]; omega
    · have hkm : k = m := by omega
      subst hkm
      have hfin : qs.take k = qs := by rw [← HM.out]; simp
      rw [hfin] at HSw
      go_wp2
      exact bodyPost_end (v := .tuple #[]) (by simp [results, Tryz.results51, go_sem]) rfl ⟨rfl, HG.out, HSw.out⟩
theorem SeenS.ku {S D : Nat → Prop} {w w' : World} {B n : Nat} {M : Int → List Int} (h : SeenS S w B n M) (hw : Ku D w w') (hB : ¬ D B) (hS : ∀ b, S b → ¬ D b) : SeenS S w' B n M := by
  obtain ⟨X, h1, h2, hk⟩ := h
  have hlt := h1.lt
  refine ⟨X, ?_, fun a h3 h4 => ?_, hk⟩
  · obtain ⟨es, clock, hb, F, hs, hD⟩ := h1
    exact ⟨es, clock, (hw.block B hlt hB).trans hb, F, hs, hD⟩
  · obtain ⟨v, e, r⟩ := h2 a h3 h4
    exact ⟨v, e, r.ku hw (fun _ => hS)⟩
end Go.Proofs.YtlmaopljihbdkaaGreat
namespace Go.Proofs.YtlmaopljihbdkaaGreat
open Go.RowKit
def headF (s t : Int) (xs : List Int) : Int :=
  if 1 ≤ s ∧ s ≤ 65000 ∧ 0 ≤ t ∧ t ≤ 23 then (if 24 < xs.length then 2 else if (∀ i, i < xs.length → 0 ≤ xs.getD i 0 ∧ xs.getD i 0 ≤ 39) then 0 else 3) else 3
theorem headF_range {s t : Int} {xs : List Int} (h : ¬ (1 ≤ s ∧ s ≤ 65000 ∧ 0 ≤ t ∧ t ≤ 23)) : headF s t xs = 3 := by unfold headF; rw [if_neg h]
theorem headF_many {s t : Int} {xs : List Int} (h : 1 ≤ s ∧ s ≤ 65000 ∧ 0 ≤ t ∧ t ≤ 23) (h2 : 24 < xs.length) : headF s t xs = 2 := by unfold headF; rw [if_pos h, if_pos h2]
theorem headF_ok {s t : Int} {xs : List Int} (h : 1 ≤ s ∧ s ≤ 65000 ∧ 0 ≤ t ∧ t ≤ 23) (h2 : ¬ 24 < xs.length) (h3 : ∀ i, i < xs.length → 0 ≤ xs.getD i 0 ∧ xs.getD i 0 ≤ 39) : headF s t xs = 0 := by unfold headF; rw [if_pos h, if_neg h2, if_pos h3]
theorem headF_at {s t : Int} {xs : List Int} (h : 1 ≤ s ∧ s ≤ 65000 ∧ 0 ≤ t ∧ t ≤ 23) (h2 : ¬ 24 < xs.length) {i : Nat} (hi : i < xs.length) (h3 : ¬ (0 ≤ xs.getD i 0 ∧ xs.getD i 0 ≤ 39)) : headF s t xs = 3 := by
  unfold headF; rw [if_pos h, if_neg h2, if_neg (fun k => h3 (k i hi))]
theorem headF_zero {s t : Int} {xs : List Int} (h : headF s t xs = 0) : (1 ≤ s ∧ s ≤ 65000 ∧ 0 ≤ t ∧ t ≤ 23) ∧ xs.length ≤ 24 ∧ ∀ i, i < xs.length → 0 ≤ xs.getD i 0 ∧ xs.getD i 0 ≤ 39 := by
  unfold headF at h
  split at h
  · rename_i h1
    split at h
    · exact absurd h (by decide)
    · rename_i h2
      split at h
      · rename_i h3
        exact ⟨h1, by omega, h3⟩
      · exact absurd h (by decide)
  · exact absurd h (by decide)
structure HdAt (w : World) (b o : Nat) (s t : Int) (y : Value) : Prop where
  seq : w.cell? ⟨b, o, none⟩ = some (.int .i64 s)
  start : w.cell? ⟨b, o + 1, none⟩ = some (.int .i64 t)
  addrs : w.cell? ⟨b, o + 2, none⟩ = some y
theorem l2Home_yes (v : Int) (h1 : 0 ≤ v) (h2 : v ≤ 39) (w : World) : Calls Tryz.prog 137 #[.int .i64 v] w fun e w' => e = .returned (.bool true) ∧ w' = w := by
  go_enter Tryz.func137, Tryz.ntmps137
  go_wp2_with fail
  refine (l1In_yes v 0 39 h1 h2 w).mono ?_
  rintro e w1 ⟨rfl, rfl⟩
  go_wp2
  go_ret
  exact ⟨rfl, rfl⟩
theorem l2Home_no (v : Int) (h : v < 0 ∨ 39 < v) (w : World) : Calls Tryz.prog 137 #[.int .i64 v] w fun e w' => e = .returned (.bool false) ∧ w' = w := by
  go_enter Tryz.func137, Tryz.ntmps137
  go_wp2_with fail
  refine (l1In_no v 0 39 h w).mono ?_
  rintro e w1 ⟨rfl, rfl⟩
  go_wp2
  go_ret
  exact ⟨rfl, rfl⟩
set_option maxHeartbeats 2000000 in
set_option maxRecDepth 4000 in
theorem l2Fault {S : Nat → Prop} {w : World} {b o : Nat} {s t : Int} {y : Value} {xs : List Int} (hd : HdAt w b o s t y) (hy : RdI S w y xs) :
    Calls Tryz.prog 235 #[.pointer (some ⟨b, o, none⟩)] w fun e w' => e = .returned (.int .i64 (headF s t xs)) ∧ w' = w := by
  have HY := hide hy
  have hyl : xs.length ≤ 9223372036854775807 := by obtain ⟨_, _, _, h, _⟩ := hy; exact h
  obtain ⟨ay, cy, rfl⟩ := hy.shape
  obtain ⟨n, hn⟩ : ∃ n, xs.length = n := ⟨_, rfl⟩
  have HN := hide hn
  rw [hn] at HY hyl hd
  have c0 := hd.seq
  have c1 := hd.start
  have c2 := hd.addrs
  clear hy hd hn
  obtain ⟨z, hz⟩ : ∃ z, headF s t xs = z := ⟨_, rfl⟩
  have HZ := hide hz
  rw [hz]
  clear hz
  by_cases h1 : 1 ≤ s ∧ s ≤ 65000
  · by_cases h2 : 0 ≤ t ∧ t ≤ 23
    · have hr : 1 ≤ s ∧ s ≤ 65000 ∧ 0 ≤ t ∧ t ≤ 23 := ⟨h1.1, h1.2, h2⟩
      have HRg := hide hr
      clear hr
      by_cases hb : 24 < n
      · have hz2 : z = 2 := HZ.out.symm.trans (headF_many HRg.out (by rw [HN.out]; exact hb))
        subst hz2
        go_enter Tryz.func235, Tryz.ntmps235
        go_wp2_with fail
        refine (l1In_yes s 1 65000 h1.1 h1.2 _).mono ?_
        rintro e w1 ⟨rfl, rfl⟩
        go_wp2_with fail
        refine (l1In_yes t 0 23 h2.1 h2.2 _).mono ?_
        rintro e w1 ⟨rfl, rfl⟩
        go_wp2
        go_ret
        exact ⟨rfl, rfl⟩
      · go_enter Tryz.func235, Tryz.ntmps235
        go_wp2_with fail
        refine (l1In_yes s 1 65000 h1.1 h1.2 _).mono ?_
        rintro e wx ⟨he, hwx⟩
        rw [he, hwx]
        clear he hwx
        go_wp2_with fail
        refine (l1In_yes t 0 23 h2.1 h2.2 _).mono ?_
        rintro e wx ⟨he, hwx⟩
        rw [he, hwx]
        clear he hwx
        go_wp2
        go_loopw [3] (fun i wr => ∃ k : Nat, k ≤ n ∧ i = .int .i64 k ∧ Hid (∀ j, j < k → 0 ≤ xs.getD j 0 ∧ xs.getD j 0 ≤ 39) ∧ wr = w) (fun i _ => n - (intOf i).toNat)
        case atStart => exact ⟨0, Nat.zero_le _, rfl, fun j hj => absurd hj (Nat.not_lt_zero _), rfl⟩
        case round =>
          obtain ⟨k, hk, rfl, HA, rfl⟩ := hrel
          by_cases hlt : k < n
          · obtain ⟨b2, off, rfl, g1⟩ := HY.out.at (k := k) (by rw [HN.out]; exact hlt)
            obtain ⟨x, hx⟩ : ∃ x, xs.getD k 0 = x := ⟨_, rfl⟩
            have HX := hide hx
            rw [hx] at g1
            clear hx
            by_cases hp : 0 ≤ x ∧ x ≤ 39
            · go_wp2_with fail
              refine (l2Home_yes x hp.1 hp.2 _).mono ?_
              rintro e w1 ⟨rfl, rfl⟩
              go_wp2
              go_roundw
              case rel => exact ⟨k + 1, by omega, by go_num, fun j hj => (by by_cases e : j = k; · subst e; rw [HX.out]; exact hp
                                                                             · exact HA.out j (by omega)), by simp⟩
              case measure => simp [intOf]; omega
            · have hz3 : z = 3 := HZ.out.symm.trans (headF_at HRg.out (by rw [HN.out]; exact hb) (i := k) (by rw [HN.out]; exact hlt) (by rw [HX.out]; exact hp))
              subst hz3
              go_wp2_with fail
              refine (l2Home_no x (by omega) _).mono ?_
              rintro e w1 ⟨rfl, rfl⟩
              go_wp2
              go_ret
              exact ⟨rfl, rfl⟩
          · have hz0 : z = 0 := HZ.out.symm.trans (headF_ok HRg.out (by rw [HN.out]; exact hb) (fun i hi => HA.out i (by rw [HN.out] at hi; omega)))
            subst hz0
            go_wp2
            go_ret
            exact ⟨rfl, rfl⟩
    · have hz3 : z = 3 := HZ.out.symm.trans (headF_range (fun h => h2 ⟨h.2.2.1, h.2.2.2⟩))
      subst hz3
      go_enter Tryz.func235, Tryz.ntmps235
      go_wp2_with fail
      refine (l1In_yes s 1 65000 h1.1 h1.2 _).mono ?_
      rintro e w1 ⟨rfl, rfl⟩
      go_wp2_with fail
      refine (l1In_no t 0 23 (by omega) _).mono ?_
      rintro e w1 ⟨rfl, rfl⟩
      go_wp2
      go_ret
      exact ⟨rfl, rfl⟩
  · have hz3 : z = 3 := HZ.out.symm.trans (headF_range (fun h => h1 ⟨h.1, h.2.1⟩))
    subst hz3
    go_enter Tryz.func235, Tryz.ntmps235
    go_wp2_with fail
    refine (l1In_no s 1 65000 (by omega) _).mono ?_
    rintro e w1 ⟨rfl, rfl⟩
    go_wp2
    go_ret
    exact ⟨rfl, rfl⟩
theorem HdAt_new (w : World) (s t : Int) (y : Value) (ty : TypeId) : HdAt (w.alloc (.cells #[.int .i64 s, .int .i64 t, y] ty)) w.heap.size 0 s t y := ⟨by simp [go_sem], by simp [go_sem], by simp [go_sem]⟩
theorem HdAt.later {w w' : World} {b o : Nat} {s t : Int} {y : Value} (h : HdAt w b o s t y) (hb : Below w.heap.size w w') : HdAt w' b o s t y := ⟨cell_later hb h.seq, cell_later hb h.start, cell_later hb h.addrs⟩
end Go.Proofs.YtlmaopljihbdkaaGreat
namespace Go.Proofs.YtlmaopljihbdkaaGreat
open Go.RowKit
theorem isHome_yes (v : Int) (h1 : 0 ≤ v) (h2 : v < 40) (w : World) : Calls Tryz.prog 140 #[.int .i64 v] w fun e w' => e = .returned (.bool true) ∧ w' = w := by
  have h3 : ¬ v < 0 := by omega
  go_enter Tryz.func140, Tryz.ntmps140
  go_wp2
  go_ret
  exact ⟨rfl, rfl⟩
theorem isHome_no (v : Int) (h : ¬ (0 ≤ v ∧ v < 40)) (w : World) : Calls Tryz.prog 140 #[.int .i64 v] w fun e w' => e = .returned (.bool false) ∧ w' = w := by
  by_cases h1 : v < 0
  · have h2 : ¬ 0 ≤ v := by omega
    clear h
    go_enter Tryz.func140, Tryz.ntmps140
    go_wp2
    go_ret
    exact ⟨rfl, rfl⟩
  · have h2 : 0 ≤ v := by omega
    have h3 : 40 ≤ v := by omega
    have h4 : ¬ v < 40 := by omega
    clear h
    go_enter Tryz.func140, Tryz.ntmps140
    go_wp2
    go_ret
    exact ⟨rfl, rfl⟩
set_option maxHeartbeats 2000000 in
set_option maxRecDepth 4000 in
theorem implHeaderFault {S : Nat → Prop} {w : World} {y : Value} {xs : List Int} (s t : Int) (hy : RdI S w y xs) :
    Calls Tryz.prog 229 #[.agg #[.int .i64 s, .int .i64 t, y]] w fun e w' => e = .returned (.int .i64 (headF s t xs)) ∧ Below w.heap.size w w' := by
  have HY := hide hy
  have hyl : xs.length ≤ 9223372036854775807 := by obtain ⟨_, _, _, h, _⟩ := hy; exact h
  obtain ⟨ay, cy, rfl⟩ := hy.shape
  obtain ⟨n, hn⟩ : ∃ n, xs.length = n := ⟨_, rfl⟩
  have HN := hide hn
  rw [hn] at HY hyl ⊢
  clear hy hn
  obtain ⟨z, hz⟩ : ∃ z, headF s t xs = z := ⟨_, rfl⟩
  have HZ := hide hz
  rw [hz]
  clear hz
  have A0 := hide (below_alloc w (.cells #[.int .i64 s, .int .i64 t, .slice ay n cy] 178))
  by_cases h1 : s < 1
  · have hz3 : z = 3 := HZ.out.symm.trans (headF_range (fun h => by omega))
    subst hz3
    go_enter Tryz.func229, Tryz.ntmps229
    go_wp2
    go_ret
    exact ⟨rfl, A0.out⟩
  by_cases h2 : 65000 < s
  · have hz3 : z = 3 := HZ.out.symm.trans (headF_range (fun h => by omega))
    subst hz3
    go_enter Tryz.func229, Tryz.ntmps229
    go_wp2
    go_ret
    exact ⟨rfl, A0.out⟩
  by_cases h3 : t < 0
  · have hz3 : z = 3 := HZ.out.symm.trans (headF_range (fun h => by omega))
    subst hz3
    go_enter Tryz.func229, Tryz.ntmps229
    go_wp2
    go_ret
    exact ⟨rfl, A0.out⟩
  by_cases h4 : 24 ≤ t
  · have hz3 : z = 3 := HZ.out.symm.trans (headF_range (fun h => by omega))
    subst hz3
    go_enter Tryz.func229, Tryz.ntmps229
    go_wp2
    go_ret
    exact ⟨rfl, A0.out⟩
  have hr : 1 ≤ s ∧ s ≤ 65000 ∧ 0 ≤ t ∧ t ≤ 23 := by omega
  have HRg := hide hr
  clear hr
  by_cases hb : 24 < n
  · have hz2 : z = 2 := HZ.out.symm.trans (headF_many HRg.out (by rw [HN.out]; exact hb))
    subst hz2
    go_enter Tryz.func229, Tryz.ntmps229
    go_wp2
    go_ret
    exact ⟨rfl, A0.out⟩
  go_enter Tryz.func229, Tryz.ntmps229
  go_wp2
  go_loopw [30] (fun i wr => ∃ k : Nat, k ≤ n ∧ i = .int .i64 k ∧ Hid (∀ j, j < k → 0 ≤ xs.getD j 0 ∧ xs.getD j 0 ≤ 39) ∧ wr = w.alloc (.cells #[.int .i64 s, .int .i64 t, .slice ay n cy] 178)) (fun i _ => n - (intOf i).toNat)
  case atStart => exact ⟨0, Nat.zero_le _, rfl, fun j hj => absurd hj (Nat.not_lt_zero _), rfl⟩
  case round =>
    obtain ⟨k, hk, rfl, HA, rfl⟩ := hrel
    by_cases hlt : k < n
    · obtain ⟨b2, off, rfl, p1⟩ := HY.out.at (k := k) (by rw [HN.out]; exact hlt)
      have g1 := cell_later A0.out p1
      obtain ⟨x, hx⟩ : ∃ x, xs.getD k 0 = x := ⟨_, rfl⟩
      have HX := hide hx
      rw [hx] at g1
      clear hx p1
      by_cases hp : 0 ≤ x ∧ x < 40
      · obtain ⟨hp1, hp2⟩ := hp
        go_wp2_with fail
        refine (isHome_yes x hp1 hp2 _).mono ?_
        rintro e w' ⟨rfl, rfl⟩
        go_wp2
        go_roundw
        case rel => exact ⟨k + 1, by omega, by go_num, fun j hj => (by by_cases e : j = k; · subst e; rw [HX.out]; omega
                                                                       · exact HA.out j (by omega)), by simp⟩
        case measure => simp [intOf]; omega
      · have hz3 : z = 3 := HZ.out.symm.trans (headF_at HRg.out (by rw [HN.out]; exact hb) (i := k) (by rw [HN.out]; exact hlt) (by rw [HX.out]; omega))
        subst hz3
        have HP := hide hp
        clear hp
        go_wp2_with fail
        refine (isHome_no x HP.out _).mono ?_
        rintro e w' ⟨rfl, rfl⟩
        go_wp2
        go_ret
        exact ⟨rfl, A0.out⟩
    · have hz0 : z = 0 := HZ.out.symm.trans (headF_ok HRg.out (by rw [HN.out]; exact hb) (fun i hi => HA.out i (by rw [HN.out] at hi; omega)))
      subst hz0
      go_wp2
      go_ret
      exact ⟨rfl, A0.out⟩
end Go.Proofs.YtlmaopljihbdkaaGreat
