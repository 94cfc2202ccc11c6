/- Seen Seen2 Seen3 L4 Seen4 Ob in one text: what each says stands at its head below. -/
import Derived.Test.YtamknomapabmfaaGreatG04
import Derived.Maps.OwnIn
import Derived.Maps.OwnOps
import Derived.Maps.Views
import Derived.Test.YtamknomapabmfaaGreatG09
import Derived.Test.YtamknomapabmfaaGreatG20
import Derived.Test.YtamknomapabmfaaGreatG21
import Derived.Test.YtamknomapabmfaaGreatG05
import Derived.Test.YtamknomapabmfaaGreatG16
import Derived.Test.YtamknomapabmfaaGreatG22
/- Chapter 4, the program's side: what is seen, as a map from home blocks to words: '(seen).put', walked. -/
namespace Go.Proofs.YtamknomapabmfaaGreat
open Go.RowKit Go.Maps

theorem lawI64 : Keyed Tryz.prog 2 := int_keyed Tryz.underlying2
theorem zeroWords (w : World) : (zeroValue 24).run Tryz.prog w = .ok (.slice none 0 0) w := by kernel_rfl

/-- An element of the map, as it stands. -/
def asIs (v : Value) : Option (DataW Value × List MemPlace) := some (.held v, [])
def putM (M : Int → List Int) (p : Int × List Int) : Int → List Int := fun x => if x = p.1 then p.2 else M x

/-- Block B is a map of at most n entries; at each home block it has the words of M (none, where M has none). -/
def SeenAt (w : World) (B n : Nat) (M : Int → List Int) : Prop :=
  ∃ D : DataW Value, w.ownsMap Tryz.prog 2 asIs B n D ∧ (∀ a : Int, 0 ≤ a → a < 40 → ∃ v, D.atKey (.int .i64 a) (.held (.slice none 0 0)) = .held v ∧ RdI (· ≠ B) w v (M a)) ∧
    ∀ a : Int, has D (.int .i64 a) = true ↔ 0 ≤ a ∧ a < 40 ∧ M a ≠ []

theorem RdI.far {S : Nat → Prop} {w w' : World} {v : Value} {xs : List Int} {B : Nat} (h : RdI S w v xs) (hS : ∀ b, S b → b ≠ B) (hg : w.grownBy w' (some B)) : RdI S w' v xs := by
  obtain ⟨ao, c, e1, e2, e3⟩ := h
  refine ⟨ao, c, e1, e2, fun hne => ?_⟩
  obtain ⟨b, off, f1, f2, f3⟩ := e3 hne
  exact ⟨b, off, f1, f2, fun j hj => (World.cell?_of_block (hg.block b (World.block_lt_of_cell? _ _ (f3 j hj)) (fun e => hS b f2 (Option.some.inj e)))).trans (f3 j hj)⟩
theorem RdP_blk {S : Nat → Prop} {w : World} {b off n c : Nat} {ps : List (Int × List Int)} (h : RdP S w (.slice (some ⟨b, off, none⟩) n c) ps) (hn : 0 < ps.length) : S b := by
  obtain ⟨ao', c', e, _, h3⟩ := h
  injection e with e1 e2 e3
  subst e1
  obtain ⟨b', off', V, e, hb, _⟩ := h3 (by rintro rfl; exact absurd hn (Nat.lt_irrefl _))
  injection e with e
  injection e with e1 e2
  subst e1
  exact hb
theorem grown_below {w w' : World} {row : Option Nat} (hb : Below w.heap.size w w') : w.grownBy w' row := ⟨hb.os, hb.tape, hb.output, hb.size, fun b h _ => hb.block b h⟩
theorem grown_on {w w' w'' : World} {row : Option Nat} (h : w.grownBy w' row) (h' : w'.grownBy w'' row) : w.grownBy w'' row :=
  ⟨h'.os.trans h.os, h'.tape.trans h.tape, h'.output.trans h.output, Nat.le_trans h.size h'.size, fun b hb hne => (h'.block b (Nat.lt_of_lt_of_le hb h.size) hne).trans (h.block b hb hne)⟩

theorem SeenAt.lt {w : World} {B n : Nat} {M : Int → List Int} (h : SeenAt w B n M) : B < w.heap.size := by
  obtain ⟨D, h1, _⟩ := h
  exact h1.lt
theorem SeenAt.later {w w' : World} {B n : Nat} {M : Int → List Int} (h : SeenAt w B n M) (hb : Below w.heap.size w w') : SeenAt w' B n M := by
  obtain ⟨D, h1, h2, hk⟩ := h
  refine ⟨D, h1.kept (grown_below (row := none) hb) (by simp), fun a h3 h4 => ?_, hk⟩
  obtain ⟨v, e, r⟩ := h2 a h3 h4
  exact ⟨v, e, r.later hb⟩
theorem SeenAt.mono {w : World} {B n n' : Nat} {M : Int → List Int} (h : SeenAt w B n M) (hn : n ≤ n') : SeenAt w B n' M := by
  obtain ⟨D, h1, h2, hk⟩ := h
  exact ⟨D, h1.mono hn, h2, hk⟩
theorem SeenAt.put {w w' : World} {B n : Nat} {M : Int → List Int} {D : DataW Value} {x : Int} {v : Value} {ws : List Int} (h1 : w.ownsMap Tryz.prog 2 asIs B n D)
    (h2 : ∀ a : Int, 0 ≤ a → a < 40 → ∃ v, D.atKey (.int .i64 a) (.held (.slice none 0 0)) = .held v ∧ RdI (· ≠ B) w v (M a)) (hk : ∀ a : Int, has D (.int .i64 a) = true ↔ 0 ≤ a ∧ a < 40 ∧ M a ≠ []) (hx : 0 ≤ x ∧ x < 40) (hne : ws ≠ []) (hr : RdI (· ≠ B) w v ws)
    (hown : w'.ownsMap Tryz.prog 2 asIs B (n + 1) (D.put (.int .i64 x) (.held v))) (hg : w.grownBy w' (some B)) : SeenAt w' B (n + 1) (putM M (x, ws)) := by
  refine ⟨_, hown, fun a h3 h4 => ?_, fun a => ?_⟩
  rotate_left
  · unfold putM
    by_cases e : a = x
    · subst e
      simp only [if_true]
      exact ⟨fun _ => ⟨hx.1, hx.2, hne⟩, fun _ => has_put_same h1.isMap (by trivial) _⟩
    · simp only [if_neg e]
      rw [has_put_other (by intro h; injection h with _ h; exact e h)]
      exact hk a
  unfold putM
  by_cases e : a = x
  · subst e
    refine ⟨v, atKey_put_same h1.isMap (by trivial) _ _, ?_⟩
    simp only [if_true]
    exact hr.far (fun b hb => hb) hg
  · obtain ⟨v', e', r⟩ := h2 a h3 h4
    refine ⟨v', (atKey_put_other (by intro h; injection h with _ h; exact e h) _ _).trans e', ?_⟩
    simp only [if_neg e]
    exact r.far (fun b hb => hb) hg
theorem SeenAt.del {w w' : World} {B n : Nat} {M : Int → List Int} {D : DataW Value} {x : Int}
    (h2 : ∀ a : Int, 0 ≤ a → a < 40 → ∃ v, D.atKey (.int .i64 a) (.held (.slice none 0 0)) = .held v ∧ RdI (· ≠ B) w v (M a)) (hk : ∀ a : Int, has D (.int .i64 a) = true ↔ 0 ≤ a ∧ a < 40 ∧ M a ≠ [])
    (hown : w'.ownsMap Tryz.prog 2 asIs B n (D.del (.int .i64 x))) (hg : w.grownBy w' (some B)) : SeenAt w' B n (putM M (x, [])) := by
  refine ⟨_, hown, fun a h3 h4 => ?_, fun a => ?_⟩
  rotate_left
  · unfold putM
    by_cases e : a = x
    · subst e
      simp only [if_true]
      rw [has_del_same]
      exact ⟨fun h => absurd h (by decide), fun h => absurd rfl h.2.2⟩
    · simp only [if_neg e]
      rw [has_del_other (by intro h; injection h with _ h; exact e h)]
      exact hk a
  unfold putM
  by_cases e : a = x
  · subst e
    refine ⟨.slice none 0 0, atKey_del_same _, ?_⟩
    simp only [if_true]
    exact ⟨none, 0, rfl, Nat.zero_le _, fun h => absurd rfl h⟩
  · obtain ⟨v', e', r⟩ := h2 a h3 h4
    refine ⟨v', (atKey_del_other (by intro h; injection h with _ h; exact e h) _).trans e', ?_⟩
    simp only [if_neg e]
    exact r.far (fun b hb => hb) hg
theorem foldl_take {α β : Type} [Inhabited β] (f : α → β → α) (d : β) (M : α) (qs : List β) (k : Nat) (h : k < qs.length) : (qs.take (k + 1)).foldl f M = f ((qs.take k).foldl f M) (qs.getD k d) := by
  rw [List.take_succ_eq_append_getElem h, List.foldl_append]
  simp [List.getD, h]

set_option maxHeartbeats 2000000 in
set_option maxRecDepth 4000 in
theorem seenPut {T : Nat → Prop} {w : World} {B n : Nat} {M : Int → List Int} {v : Value} {qs : List (Int × List Int)} (hs : SeenAt w B n M) (hq : RdP T w v qs) (hT : ∀ b, T b → b ≠ B) (hqa : ∀ i, i < qs.length → 0 ≤ (qs.getD i (0, [])).1 ∧ (qs.getD i (0, [])).1 < 40) (hn : n + qs.length ≤ 1048576) :
    Calls Tryz.prog 40 #[.map (some B), v] w fun e w' => e = .returned (.tuple #[]) ∧ w.grownBy w' (some B) ∧ SeenAt w' B (n + qs.length) (qs.foldl putM M) := by
  obtain ⟨ao, c, rfl, hm⟩ := hq.shape
  have HQ := hide hq
  have HS := hide hs
  have HT := hide hT
  have HqA := hide hqa
  have HF := hide (foldl_take putM (0, []) M qs)
  obtain ⟨m, hmm⟩ : ∃ m, qs.length = m := ⟨_, rfl⟩
  have HM := hide hmm
  rw [hmm] at HQ HqA HF hn hm ⊢
  clear hq hs hT hqa hmm
  go_enter Tryz.func40, Tryz.ntmps40
  go_wp2
  go_loopw [8] (fun i wr => ∃ k : Nat, k ≤ m ∧ i = .int .i64 k ∧ Hid (w.grownBy wr (some B)) ∧ Hid (SeenAt wr B (n + k) ((qs.take k).foldl putM M))) (fun i _ => m - (intOf i).toNat)
  case atStart => exact ⟨0, Nat.zero_le _, rfl, grown_below (Below.refl _ _), HS.out⟩
  case round =>
    obtain ⟨k, hk, rfl, HG, HSw⟩ := hrel
    by_cases hlt : k < m
    · obtain ⟨b, off, V, rfl, q1, q2, q3⟩ := HQ.out.at (k := k) (by rw [HM.out]; exact hlt)
      have HFk := hide (HF.out k hlt)
      have hx40 := HqA.out k hlt
      have far : ∀ o x, w.cell? ⟨b, o, none⟩ = some x → wr.cell? ⟨b, o, none⟩ = some x := fun o x h => (World.cell?_of_block (HG.out.block b (World.block_lt_of_cell? _ _ h) (fun e => HT.out b (RdP_blk HQ.out (by rw [HM.out]; omega)) (Option.some.inj e)))).trans h
      have g1 := far _ _ q1
      have g2 := far _ _ q2
      have r3 := (q3.far (fun b hb => HT.out b hb) HG.out).narrow (fun _ b hb => HT.out b hb)
      obtain ⟨a3, c3, rfl⟩ := q3.shape
      obtain ⟨p, hp⟩ : ∃ p, qs.getD k (0, []) = p := ⟨_, rfl⟩
      rw [hp] at g1 g2 r3 hx40 HFk
      obtain ⟨x, ws⟩ := p
      dsimp only at g1 g2 r3 hx40
      obtain ⟨l, hl⟩ : ∃ l, ws.length = l := ⟨_, rfl⟩
      have HL := hide hl
      rw [hl] at g2 r3
      obtain ⟨hx1, hx2⟩ := hx40
      have hkey : Hid (keyOf Tryz.prog 2 (.int .i64 x) = some (.int .i64 x)) := keyOf_int_mk Tryz.underlying2 (WalkArith.wf_i64 (by omega))
      obtain ⟨D, hown, hD, hK⟩ := HSw.out
      have HK := hide hK
      have HR := hide r3
      have HD := hide hD
      have HO := hide hown
      have bA := hide (below_alloc wr (.cells #[.int .i64 x, .slice a3 l c3] 38))
      have HO2 := hide (hown.alloc (.cells #[.int .i64 x, .slice a3 l c3] 38))
      clear far q1 q2 q3 r3 hp hl hown hD hK
      by_cases hl0 : l = 0
      · subst hl0
        have hws : ws = [] := List.length_eq_zero_iff.1 HL.out
        subst hws
        go_wp2_with (at_delete; refine wpList_delete_own _ rfl _ _ 75 2 rfl 24 lawI64 Tryz.underlying75 _ B (n + k) D rfl HO2.out _ _ rfl hkey.out ?_; intro w1 hown1 hturn1)
        have hg1 := grown_on (grown_below (row := some B) bA.out) hturn1.grown
        have HS1 := hide ((SeenAt.del HD.out HK.out hown1 hg1).mono (by omega : n + k ≤ n + (k + 1)))
        rw [← HFk.out] at HS1
        have HG1 := hide (grown_on HG.out hg1)
        clear hown1 hturn1 hg1
        go_wp2
        go_roundw
        case rel => exact ⟨k + 1, hlt, by go_num, HG1.out, HS1.out⟩
        case measure => simp [intOf]; omega
      · have hl0' : ¬ (l : Int) = 0 := by omega
        go_wp2_with (at_mapUpdate; refine wpList_mapUpdate_own _ rfl _ _ _ 75 rfl 2 24 lawI64 Tryz.underlying75 _ B (n + k) _ rfl HO2.out (by unfold maxLen; omega) _ _ _ rfl rfl hkey.out _ [] (rfl : asIs _ = _) ?_; intro w1 hown1 hgrow1)
        have hg1 := grown_on (grown_below (row := some B) bA.out) hgrow1
        have HS1 := hide (SeenAt.put HO.out HD.out HK.out ⟨hx1, hx2⟩ (by rintro rfl; exact hl0 HL.out.symm) HR.out hown1 hg1)
        rw [← HFk.out] at HS1
        have HG1 := hide (grown_on HG.out hg1)
        clear hown1 hgrow1 hg1
        go_wp2
        go_roundw
        case rel => exact ⟨k + 1, hlt, by go_num, HG1.out, HS1.out⟩
        case measure => simp [intOf]; omega
    · have hkm : k = m := by omega
      subst hkm
      have hfin : qs.take k = qs := by rw [← HM.out]; simp
      rw [hfin] at HSw
      go_wp2
      exact bodyPost_end (v := .tuple #[]) (by simp [results, Tryz.results40, go_sem]) rfl ⟨rfl, HG.out, HSw.out⟩

theorem foldl_len {qs : List (Int × List Int)} {M : Int → List Int} {a : Int} {C : Nat} (hM : (M a).length ≤ C) (hq : ∀ i, i < qs.length → (qs.getD i (0, [])).2.length ≤ C) : (qs.foldl putM M a).length ≤ C := by
  have h : ∀ k, k ≤ qs.length → ((qs.take k).foldl putM M a).length ≤ C := by
    intro k
    induction k with
    | zero => intro _; simpa using hM
    | succ k ih =>
      intro hk
      rw [foldl_take putM (0, []) M qs k (by omega)]
      unfold putM
      split
      · exact hq k (by omega)
      · exact ih (by omega)
  have := h qs.length (Nat.le_refl _)
  simpa using this
theorem foldl_none {qs : List (Int × List Int)} {M : Int → List Int} {a : Int} (hq : ∀ i, i < qs.length → (qs.getD i (0, [])).1 ≠ a) : qs.foldl putM M a = M a := by
  have h : ∀ k, k ≤ qs.length → (qs.take k).foldl putM M a = M a := by
    intro k
    induction k with
    | zero => intro _; rfl
    | succ k ih =>
      intro hk
      rw [foldl_take putM (0, []) M qs k (by omega)]
      unfold putM
      rw [if_neg (fun e => hq k (by omega) e.symm)]
      exact ih (by omega)
  have := h qs.length (Nat.le_refl _)
  simpa using this
theorem foldl_last {qs : List (Int × List Int)} {M : Int → List Int} {a : Int} {i : Nat} (hi : i < qs.length) (ha : (qs.getD i (0, [])).1 = a) (hq : ∀ j, i < j → j < qs.length → (qs.getD j (0, [])).1 ≠ a) : qs.foldl putM M a = (qs.getD i (0, [])).2 := by
  have h : ∀ k, i < k → k ≤ qs.length → (qs.take k).foldl putM M a = (qs.getD i (0, [])).2 := by
    intro k
    induction k with
    | zero => intro h; omega
    | succ k ih =>
      intro h hk
      rw [foldl_take putM (0, []) M qs k (by omega)]
      unfold putM
      by_cases e : i = k
      · subst e; rw [if_pos ha.symm]
      · rw [if_neg (fun e' => hq k (by omega) (by omega) e'.symm)]
        exact ih (by omega) (by omega)
  have := h qs.length hi (Nat.le_refl _)
  simpa using this
end Go.Proofs.YtamknomapabmfaaGreat
/- Chapter 4: the program's 'seenIn' and the model's 'l4Last', walked; what stands last in a log. -/
namespace Go.Proofs.YtamknomapabmfaaGreat
open Go.RowKit Go.Maps

theorem RdP_narrow {S S' : Nat → Prop} {w : World} {v : Value} {ps : List (Int × List Int)} (h : RdP S w v ps) (hP : ∀ b, S b → S' b) : RdP S' w v ps := by
  obtain ⟨ao, c, e1, e2, e3⟩ := h
  refine ⟨ao, c, e1, e2, fun hne => ?_⟩
  obtain ⟨b, off, V, f1, f2, f3⟩ := e3 hne
  exact ⟨b, off, V, f1, hP b f2, fun i hi => ⟨(f3 i hi).1, (f3 i hi).2.1, (f3 i hi).2.2.narrow (fun _ b hb => hP b hb)⟩⟩
theorem SeenAt.congr {w : World} {B n : Nat} {M M' : Int → List Int} (h : SeenAt w B n M) (hM : ∀ a : Int, 0 ≤ a → a < 40 → M a = M' a) : SeenAt w B n M' := by
  obtain ⟨D, h1, h2, hk⟩ := h
  exact ⟨D, h1, fun a h3 h4 => by rw [← hM a h3 h4]; exact h2 a h3 h4, fun a => (hk a).trans ⟨fun h => ⟨h.1, h.2.1, by rw [← hM a h.1 h.2.1]; exact h.2.2⟩, fun h => ⟨h.1, h.2.1, by rw [hM a h.1 h.2.1]; exact h.2.2⟩⟩⟩
/-- What stands in the home blocks. -/
def homeM (xss : List (List Int)) (ps : List (Int × List Int)) (k : Nat) : Int → List Int := fun a => if a < (k : Int) then blkTo xss ps (26 + a) ps.length else []
theorem homeM_step (xss : List (List Int)) (ps : List (Int × List Int)) (k : Nat) (a : Int) : putM (homeM xss ps k) ((k : Int), blkTo xss ps (26 + (k : Int)) ps.length) a = homeM xss ps (k + 1) a := by
  unfold putM homeM
  by_cases e : a = (k : Int)
  · subst e; simp only [if_true]; rw [if_pos (by omega)]
  · simp only [if_neg e]
    by_cases h : a < (k : Int)
    · rw [if_pos h, if_pos (by omega)]
    · rw [if_neg h, if_neg (by omega)]

end Go.Proofs.YtamknomapabmfaaGreat
/- Chapter 4: 'ReadHome' of the program, walked; what stands last in a log. -/
namespace Go.Proofs.YtamknomapabmfaaGreat
open Go.RowKit Go.Maps

/-- The code of 'ReadHome', and its words. -/
def rhF (xss : List (List Int)) (ps : List (Int × List Int)) (a : Int) : Int := if inF xss ps = 0 then (if 0 ≤ a ∧ a < 40 then 0 else 3) else inF xss ps
def rhXs (xss : List (List Int)) (ps : List (Int × List Int)) (a : Int) : List Int := if inF xss ps = 0 ∧ 0 ≤ a ∧ a < 40 then (lgP xss ps).foldl putM (homeM xss ps 40) a else []

/-- What is known of the log of a disk that has a header. -/
theorem lg_facts {xss : List (List Int)} {ps : List (Int × List Int)} (hs : Small xss ps) (h0 : inF xss ps = 0) :
    xss.length = 66 ∧ (lgP xss ps).length ≤ 24 ∧ ∀ i, i < (lgP xss ps).length → (0 ≤ ((lgP xss ps).getD i (0, [])).1 ∧ ((lgP xss ps).getD i (0, [])).1 < 40) ∧ ((lgP xss ps).getD i (0, [])).2.length ≤ 1048576 := by
  obtain ⟨_, h66, hhd⟩ := in_ok h0
  obtain ⟨_, hA24, hA39⟩ := headF_zero hhd
  unfold lgP
  rw [if_pos h0]
  refine ⟨h66, by rw [logPs_len]; exact hA24, fun i hi => ?_⟩
  rw [logPs_len] at hi
  rw [logPs_at _ _ _ _ _ hi]
  have := hA39 i hi
  exact ⟨⟨this.1, by dsimp only; omega⟩, slotW_len hs h66 _ _⟩
theorem rh_len {xss : List (List Int)} {ps : List (Int × List Int)} (hs : Small xss ps) (h0 : inF xss ps = 0) {a : Int} (h1 : 0 ≤ a) (h2 : a < 40) : ((lgP xss ps).foldl putM (homeM xss ps 40) a).length ≤ 1048576 := by
  obtain ⟨h66, _, h⟩ := lg_facts hs h0
  refine foldl_len ?_ (fun i hi => (h i hi).2)
  unfold homeM
  rw [if_pos (by omega)]
  exact blkTo_len hs _ (Nat.le_refl _) (by omega) (by rw [h66]; omega)
theorem rh_bound {xss : List (List Int)} {ps : List (Int × List Int)} (hs : Small xss ps) (a : Int) : (rhXs xss ps a).length ≤ 1048576 := by
  unfold rhXs
  split
  · rename_i h; exact rh_len hs h.1 h.2.1 h.2.2
  · simp

end Go.Proofs.YtamknomapabmfaaGreat
/- Chapter 4, the model's side: 'l4Last', 'l4Puts', walked. -/
namespace Go.Proofs.YtamknomapabmfaaGreat
open Go.RowKit

set_option maxHeartbeats 1000000 in
set_option maxRecDepth 4000 in
theorem l4Last {S : Nat → Prop} {w : World} {v : Value} {qs : List (Int × List Int)} (a : Int) (hv : RdP S w v qs) :
    Calls Tryz.prog 29 #[v, .int .i64 a] w fun e w' => w' = w ∧ ((e = .returned (.int .i64 (-1)) ∧ ∀ j, j < qs.length → (qs.getD j (0, [])).1 ≠ a) ∨ ∃ i : Nat, e = .returned (.int .i64 (i : Int)) ∧ i < qs.length ∧ (qs.getD i (0, [])).1 = a ∧ ∀ j, i < j → j < qs.length → (qs.getD j (0, [])).1 ≠ a) := by
  obtain ⟨ao, c, rfl, hm⟩ := hv.shape
  have HV := hide hv
  obtain ⟨n, hn⟩ : ∃ n, qs.length = n := ⟨_, rfl⟩
  have HN := hide hn
  rw [hn] at HV hm ⊢
  clear hv hn
  have hw0 : IntKind.i64.wrap ((n : Int) - 1) = (n : Int) - 1 := by simp [IntKind.wrap, IntKind.bits, IntKind.signed]; omega
  go_enter Tryz.func29, Tryz.ntmps29
  go_wp2
  go_loopw [5] (fun i wr => ∃ k : Nat, k ≤ n ∧ i = .int .i64 ((k : Int) - 1) ∧ Hid (∀ j, k ≤ j → j < n → (qs.getD j (0, [])).1 ≠ a) ∧ wr = w) (fun i _ => (intOf i + 1).toNat)
  case atStart => exact ⟨n, Nat.le_refl _, rfl, fun j h1 h2 => by omega, rfl⟩
  case round =>
    obtain ⟨k, hk, rfl, HA, rfl⟩ := hrel
    by_cases hk0 : k = 0
    · subst hk0
      have HR : Hid (∀ j, j < n → (qs.getD j (0, [])).1 ≠ a) := fun j hj => HA.out j (Nat.zero_le _) hj
      go_wp2
      go_ret
      exact ⟨rfl, Or.inl ⟨rfl, HR.out⟩⟩
    · obtain ⟨i, rfl⟩ : ∃ i, k = i + 1 := ⟨k - 1, by omega⟩
      have e1 : ((i + 1 : Nat) : Int) - 1 = (i : Int) := by omega
      rw [e1]
      obtain ⟨b, off, V, rfl, q1, _, _⟩ := HV.out.at (k := i) (by rw [HN.out]; omega)
      obtain ⟨x, hx⟩ : ∃ x, (qs.getD i (0, [])).1 = x := ⟨_, rfl⟩
      have HX := hide hx
      rw [hx] at q1
      have hi0 : (0 : Int) ≤ (i : Int) := Int.natCast_nonneg _
      have hi1 : (i : Int) < (n : Int) := by omega
      have hwi : IntKind.i64.wrap ((i : Int) - 1) = (i : Int) - 1 := by simp [IntKind.wrap, IntKind.bits, IntKind.signed]; omega
      clear hx e1
      by_cases hxa : x = a
      · subst hxa
        have HR : Hid (∀ j, i < j → j < n → (qs.getD j (0, [])).1 ≠ x) := fun j h1 h2 => HA.out j h1 h2
        go_wp2
        go_ret
        exact ⟨rfl, Or.inr ⟨i, rfl, by omega, HX.out, HR.out⟩⟩
      · have HA2 : Hid (∀ j, i ≤ j → j < n → (qs.getD j (0, [])).1 ≠ a) := by
          intro j h1 h2
          by_cases e : j = i
          · subst e; rw [HX.out]; exact hxa
          · exact HA.out j (by omega) h2
        go_wp2
        go_roundw
        case rel => exact ⟨i, by omega, by first | rfl | go_num, HA2.out, by simp⟩
        case measure => simp [intOf]; try omega

set_option maxHeartbeats 1000000 in
set_option maxRecDepth 4000 in
theorem l4Puts {T : Nat → Prop} {w : World} {v : Value} {ps : List (Int × List Int)} (hv : RdP T w v ps) :
    Calls Tryz.prog 56 #[v] w fun e w' => e = .returned (.int .i64 (hpF 60 ps)) ∧ ∃ q, w' = w.drewN q := by
  obtain ⟨ao, c, rfl, hm'⟩ := hv.shape
  have HV := hide hv
  obtain ⟨m, hm⟩ : ∃ m, ps.length = m := ⟨_, rfl⟩
  have HM := hide hm
  rw [hm] at HV hm' ⊢
  clear hv hm
  by_cases h70 : 60 < m
  · have HZ := hide (show hpF 60 ps = 2 by unfold hpF; rw [if_pos (by rw [HM.out]; exact h70)])
    go_enter Tryz.func56, Tryz.ntmps56
    go_wp2
    go_ret
    exact ⟨ret_int HZ.out.symm, 0, rfl⟩
  · have HE := hide (show hpF 60 ps = firstP 40 ps by unfold hpF; rw [if_neg (by rw [HM.out]; exact h70)])
    go_enter Tryz.func56, Tryz.ntmps56
    go_wp2
    go_loopw [3] (fun i wr => ∃ j : Nat, j ≤ m ∧ i = .int .i64 j ∧ Hid (firstP 40 ps = firstP 40 (ps.drop j)) ∧ Hid (∃ q, wr = w.drewN q)) (fun i _ => m - (intOf i).toNat)
    case atStart => exact ⟨0, Nat.zero_le _, rfl, by simp [Hid], ⟨0, rfl⟩⟩
    case round =>
      obtain ⟨j, hj, rfl, HG, HB2⟩ := hrel
      by_cases hlt2 : j < m
      · obtain ⟨b2, off2, V2, rfl, q1, q2, q3⟩ := HV.out.at (k := j) (by rw [HM.out]; exact hlt2)
        have g1 := (drewN_cell HB2.out _).trans q1
        have g2 := (drewN_cell HB2.out _).trans q2
        have R2 : Hid (RdI T wr V2 (ps.getD j (0, [])).2) := by obtain ⟨q, rfl⟩ := HB2; exact q3
        obtain ⟨x, hx⟩ : ∃ x, (ps.getD j (0, [])).1 = x := ⟨_, rfl⟩
        have HX := hide hx
        rw [hx] at g1
        clear q1 q2 q3 hx
        by_cases hat : 0 ≤ x ∧ x < 40
        · obtain ⟨ha1, ha2⟩ := hat
          by_cases hw : wordsF (ps.getD j (0, [])).2 = 0
          · have HF2 := hide (HG.out.trans (firstP_ok (by rw [HM.out]; exact hlt2) (by rw [HX.out]; exact ⟨ha1, ha2⟩) hw))
            have HW := hide hw
            clear hw
            go_wp2_with fail
            refine (l2Home_yes x ha1 (by omega) _).mono ?_
            rintro e w1 ⟨rfl, rfl⟩
            go_wp2_with fail
            refine (l1Words R2.out).mono ?_
            rintro e w' ⟨he, hq⟩
            rw [HW.out] at he
            subst he
            have HB3 := hide (drewN_on HB2.out hq)
            clear hq
            go_wp2
            go_roundw
            case rel => exact ⟨j + 1, by omega, by go_num, HF2.out, HB3.out⟩
            case measure => simp [intOf]; omega
          · have HF2 := hide (HE.out.trans (HG.out.trans (firstP_no (by rw [HM.out]; exact hlt2) (by rw [HX.out]; exact ⟨ha1, ha2⟩) hw)))
            obtain ⟨z, hz⟩ : ∃ z, wordsF (ps.getD j (0, [])).2 = z := ⟨_, rfl⟩
            have HW := hide hz
            rw [hz] at hw
            clear hz
            go_wp2_with fail
            refine (l2Home_yes x ha1 (by omega) _).mono ?_
            rintro e w1 ⟨rfl, rfl⟩
            go_wp2_with fail
            refine (l1Words R2.out).mono ?_
            rintro e w' ⟨he, hq⟩
            rw [HW.out] at he
            subst he
            have HB3 := hide (drewN_on HB2.out hq)
            clear hq
            go_wp2
            go_ret
            exact ⟨ret_int (by rw [HF2.out, HW.out]), HB3.out⟩
        · have HZ := hide (HE.out.trans (HG.out.trans (firstP_at (n := 40) (by rw [HM.out]; exact hlt2) (by rw [HX.out]; exact hat))))
          have HA := hide (show x < 0 ∨ 39 < x by omega)
          clear hat
          go_wp2_with fail
          refine (l2Home_no x HA.out _).mono ?_
          rintro e w1 ⟨rfl, rfl⟩
          go_wp2
          go_ret
          exact ⟨ret_int HZ.out.symm, HB2.out⟩
      · have HZ := hide (HE.out.trans (HG.out.trans (firstP_end (by rw [HM.out]; omega))))
        go_wp2
        go_ret
        exact ⟨ret_int HZ.out.symm, HB2.out⟩
end Go.Proofs.YtamknomapabmfaaGreat
/- Chapter 4, the model's side: 'l4Last', 'l4Read' and 'ReadHome', walked. -/
namespace Go.Proofs.YtamknomapabmfaaGreat
open Go.RowKit

set_option maxHeartbeats 1000000 in
set_option maxRecDepth 4000 in
theorem l4Read {S T L : Nat → Prop} {w : World} {bd : Nat} {ao ao' : Option Addr} {c c' : Nat} {z : Value} {xss : List (List Int)} {ps lps : List (Int × List Int)} (a : Int) (hd0 : w.cell? ⟨bd, 0, none⟩ = some (.slice ao xss.length c)) (hd1 : w.cell? ⟨bd, 1, none⟩ = some (.slice ao' ps.length c')) (hu : RdII S w (.slice ao xss.length c) xss) (hv : RdP T w (.slice ao' ps.length c') ps) (hs : Small xss ps) (h66 : xss.length = 66) (hz : RdP L w z lps) (hzl : ∀ i, i < lps.length → (lps.getD i (0, [])).2.length ≤ 1048576) (ha1 : 0 ≤ a) (ha2 : a < 40) :
    Calls Tryz.prog 47 #[.pointer (some ⟨bd, 0, none⟩), z, .int .i64 a] w fun e w' => ∃ y, e = .returned y ∧ Below w.heap.size w w' ∧ OwI w.heap.size w' y (lps.foldl putM (homeM xss ps 40) a) := by
  obtain ⟨az, cz, rfl, _⟩ := hz.shape
  obtain ⟨_, _, _, hm63⟩ := hv.shape
  have HLa := hide (l4Last a hz)
  have HAt := hide (l1At_cells xss ps xss.length ps.length bd ao ao' c c' w (26 + a) rfl rfl hm63 hd0 hd1 hu hv (by omega) (by rw [h66]; omega))
  have HBl := hide (blkTo_len hs (at_ := 26 + a) ps.length (Nat.le_refl _) (by omega) (by rw [h66]; omega))
  have HNo := hide (fun (h : ∀ j, j < lps.length → (lps.getD j (0, [])).1 ≠ a) => (foldl_none (M := homeM xss ps 40) h).trans (by unfold homeM; rw [if_pos (by omega)] : homeM xss ps 40 a = blkTo xss ps (26 + a) ps.length))
  have HYes := hide (fun (i : Nat) (h1 : i < lps.length) (h2 : (lps.getD i (0, [])).1 = a) (h3 : ∀ j, i < j → j < lps.length → (lps.getD j (0, [])).1 ≠ a) => foldl_last (M := homeM xss ps 40) h1 h2 h3)
  have HZ := hide hz
  have HZl := hide hzl
  obtain ⟨rs, hrs⟩ : ∃ rs, lps.foldl putM (homeM xss ps 40) a = rs := ⟨_, rfl⟩
  rw [hrs] at HNo HYes ⊢
  generalize blkTo xss ps (26 + a) ps.length = bs at HAt HBl HNo
  obtain ⟨l, hl⟩ : ∃ l, lps.length = l := ⟨_, rfl⟩
  have HL := hide hl
  rw [hl] at HLa HZ HZl HNo HYes ⊢
  have hwa : IntKind.i64.wrap (26 + a) = 26 + a := by simp [IntKind.wrap, IntKind.bits, IntKind.signed]; omega
  clear hd0 hd1 hu hv hs h66 hz hzl hrs hl
  go_enter Tryz.func47, Tryz.ntmps47
  go_wp2_with fail
  refine HLa.out.mono ?_
  rintro e w' ⟨hw', hres⟩
  have hw2 := hw'.symm
  subst hw2
  clear hw'
  rcases hres with ⟨rfl, hno⟩ | ⟨i, rfl, hi, hia, hil⟩
  · have hrs := HNo.out hno
    subst hrs
    clear hno
    go_wp2_with fail
    refine HAt.out.mono ?_
    rintro e w1 ⟨z1, rfl, ⟨q, rfl⟩, hr1⟩
    have HCp := hide (l1Ints hr1 HBl.out)
    obtain ⟨a1, k1, rfl⟩ := hr1.shape
    clear hr1
    go_wp2_with fail
    refine HCp.out.mono ?_
    rintro e w2 ⟨z2, rfl, hb2, ho2⟩
    have HB2 := hide (below_on (below_drewN w q) hb2)
    have HO2 := hide ho2
    clear hb2 ho2
    go_wp2
    go_ret
    exact ⟨_, rfl, HB2.out, HO2.out⟩
  · have hrs := HYes.out i hi hia hil
    obtain ⟨b, off, V, rfl, _, q2, q3⟩ := HZ.out.at (k := i) (by rw [HL.out]; exact hi)
    rw [← hrs] at q3
    have HCp := hide (l1Ints q3 (by rw [hrs]; exact HZl.out i hi))
    obtain ⟨a3, c3, rfl⟩ := q3.shape
    have hi0 : (0 : Int) ≤ (i : Int) := Int.natCast_nonneg _
    have hi1 : (i : Int) < (l : Int) := by omega
    clear hrs q3 hia hil
    go_wp2_with fail
    refine HCp.out.mono ?_
    rintro e w2 ⟨z2, rfl, hb2, ho2⟩
    have HB2 := hide hb2
    have HO2 := hide ho2
    clear hb2 ho2
    go_wp2
    go_ret
    exact ⟨_, rfl, HB2.out, HO2.out⟩

end Go.Proofs.YtamknomapabmfaaGreat
/- The laws' helpers over Object. Made by program (genobj.py). -/
namespace Go.Proofs.YtamknomapabmfaaGreat
open Go.RowKit
end Go.Proofs.YtamknomapabmfaaGreat
