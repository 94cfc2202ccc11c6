/- Chapter 6, the program's side: the values of a map of locks, told one by one ('maps.Values'), laid behind a list ('slices.AppendSeq'): walked at owners. -/
import Derived.Test.YtkpkoapcmnapoabLkHeld
import Derived.RangeFuncNested
import Derived.RangeFuncBound
import Derived.RangeFuncCalls
import Derived.RangeFuncLeaves
import Derived.RangeFuncBox
import Derived.Shelf.Abstract
import Derived.Shelf.RegionOpen
import Derived.WalkKit
import Derived.OwnWalkIn
import Derived.TacticsInMore
import Derived.LoopNIn
import Derived.LoopIn
import Derived.Maps.OwnIn
import Derived.Sort.MapsRangeIn
namespace Go.Proofs.Ytkpkoapcmnapoab
open Go.RowKit Go.Maps Go.Shelf
attribute [local go_sem] Oper.semAt_some

/-- An owner as it is handed to a round. -/
def encW (x : Wn) : Array Value := #[.agg #[.int .i64 x.1, .int .i64 x.2]]
/-- All of t's locks, each once. -/
def AllW (p : Int → Prop) (t : Int) (xs : List Wn) : Prop := xs.Nodup ∧ ∀ o, o ∈ xs ↔ (p o.1 ∧ o.2 = t)
theorem colL_all {p : Int → Prop} {left : Lit → Bool} {ss : List Int} {t : Int} (h : ColL p left ss) (hl : ∀ kl, left kl = false) : AllW p t (ss.map fun a => (a, t)) := by
  refine ⟨?_, fun o => ?_⟩
  · rw [List.nodup_iff_pairwise_ne, List.pairwise_map]
    exact (List.nodup_iff_pairwise_ne.1 h.1).imp (fun h1 h2 => h1 (Prod.mk.inj h2).1)
  · rw [List.mem_map]
    constructor
    · rintro ⟨a, ha, rfl⟩
      exact ⟨((h.2 a).1 ha).1, rfl⟩
    · rintro ⟨h1, h2⟩
      exact ⟨o.1, (h.2 o.1).2 ⟨h1, hl _⟩, by rw [← h2]⟩

set_option maxRecDepth 100000 in
set_option maxHeartbeats 2000000 in
/-- The iterator that 'maps.Values' hands back: every one of the locks comes once. -/
theorem valStops {w : World} {b n Bm : Nat} {t : Int} {p : Int → Prop} {D : DataW Value} (H : LocksD w b n t p D) (hp : ∀ a, p a → wfI a) (hm : w.cell? ⟨Bm, 0, none⟩ = some (.map (some b))) (m : Nat) :
    SeqStopsK Fence.wide m Try.prog 43 #[.pointer (some ⟨Bm, 0, none⟩)] encW KeepsWalks (AllW p t) (fun _ => True) (Maps.size D) w := fun l J Jx W hW hJ _ hY h0 => by
  have hown : W.ownsMap Try.prog 63 asV b n D := H.1.kept (grown_belowW (row := none) hW) (by simp)
  have hmW : W.cell? ⟨Bm, 0, none⟩ = some (.map (some b)) := cell_later hW hm
  refine callsIn_of_wp Try.func43 rfl trivial ?_ rfl
  simp only [Try.ntmps43, List.size_toArray, List.length_cons, List.length_nil, Nat.reduceAdd, Nat.reduceSub, Array.replicate_succ, Array.replicate_zero, List.push_toArray, List.append_toArray, List.nil_append, List.cons_append]
  gi_wp2_with (first
    | (gi_at_range; refine wpListIn_range_own _ rfl _ 52 rfl 63 40 lawL Try.underlying52 _ b n _ rfl hown ?_; intro w0 hrg0 hg0 hs0)
    | gi_in)
  go_frame
  gi_loopw [7] (fun _ wr => ∃ (left : Lit → Bool) (cnt : Nat) (ss : List Int), wr.ranges Try.prog 63 asV b W.heap.size n D left cnt ∧ ss.length + cnt ≤ Maps.size D ∧ ColL p left ss ∧ J (ss.map fun a => (a, t)) wr) (fun _ wr => wr.rangeLeft b W.heap.size)
  case atStart =>
    exact ⟨_, _, [], hrg0, by simp, ⟨List.nodup_nil, fun x => ⟨fun h => absurd h (by simp), fun ⟨h, hl⟩ => by rw [(H.2.1 x (hp x h)).2 h] at hl; cases hl⟩⟩, hJ [] W w0 none h0 hg0 (fun r e => by cases e)⟩
  case round =>
    obtain ⟨left, cnt, ss, hrg, hcs, hC, hJs⟩ := hrel
    gi_wp2_with (first
      | (gi_at_next; refine wpListIn_next_ranges _ rfl _ rfl 63 lawL asV (fun x : Int => .agg #[.int .i64 x]) (fun v : Value => v) (fun key kl hk => by obtain ⟨x, e, _⟩ := keyL_inv hk; exact ⟨x, e⟩) (fun v _ _ => ⟨v, rfl⟩) b W.heap.size n D left cnt rfl hrg ?_ ?_)
      | gi_in)
    · intro hc0 hl0
      gi_wp2
      go_end0
      exact ⟨⟨_, rfl⟩, .inl ⟨_, colL_all hC hl0, hJs⟩⟩
    · intro x c kl yd yp w2 cnt2 hkey hlk hv hat hrg2 hlt hg2 hs2 hen
      obtain ⟨x', e, wx, rfl⟩ := keyL_inv hkey
      obtain rfl : x = x' := by
        injection e with e
        injection e with e
        injection e with e
        injection e
      have hy : yd = .held c := by
        simp [asV] at hv
        exact hv.1.symm
      subst hy
      have hpx : p x := (H.2.1 x wx).1 (has_of_at hat)
      have hc : c = .agg #[.int .i64 x, .int .i64 t] := by
        have h1 := hat (.held (.map none))
        rw [H.2.2 x hpx] at h1
        injection h1 with h1
        exact h1.symm
      subst hc
      have hC2 := hC.step hp hpx hlk
      have hJ2 : J (ss.map fun a => (a, t)) w2 := hJ _ wr w2 (some W.heap.size) hJs hg2 (fun r e => by cases e; exact ⟨Nat.le_refl _, hrg.iter_walk⟩)
      have hJ3 : J (ss.map fun a => (a, t)) (w2.alloc (.cells #[.int .i64 x, .int .i64 t] 40)) := hJ _ w2 _ none hJ2 (World.grownBy_alloc w2 _ none) (fun r e => by cases e)
      have hrg3 := hrg2.kept (World.grownBy_alloc w2 (.cells #[.int .i64 x, .int .i64 t] 40) none) (by simp) (by simp)
      obtain ⟨fn, tmps, assign, body, hyy, hR⟩ := hY (ss.map fun a => (a, t)) (x, t) _ hJ3 (by simp; omega)
      have hyy' : (Instr.yield l #[.agg #[.int .i64 x, .int .i64 t]]).run Try.prog (w2.alloc (.cells #[.int .i64 x, .int .i64 t] 40)) = .ok (.round l fn tmps assign body) (w2.alloc (.cells #[.int .i64 x, .int .i64 t] 40)) := hyy
      clear hs2 hyy hkey hv hat
      gi_wp2
      refine ⟨fun h => by simp [Fence.wide] at h, hR.mono ?_⟩
      rintro e W3 (⟨rfl, hJ4, hk3⟩ | ⟨rfl, hJx3⟩)
      · gi_wp2
        have hrg4 := hrg3.of_walks hk3
        go_roundw
        case rel => exact ⟨_, cnt2, ss ++ [x], hrg4, by simp; omega, hC2, by simpa using hJ4⟩
        case measure => rw [hrg4.left_eq, hrg.left_eq]; exact hlt
      · gi_wp2
        refine bodyPost_ret (results_none rfl _ _ _) rfl ?_
        exact ⟨⟨_, rfl⟩, .inr ⟨_, trivial, hJx3⟩⟩

/-- The cells of a row of owners. -/
def cellsW (xs : List Wn) : List Value := xs.flatMap fun o => [.int .i64 o.1, .int .i64 o.2]
theorem cellsW_len (xs : List Wn) : (cellsW xs).length = xs.length * 2 := by
  induction xs with
  | nil => rfl
  | cons x xs ih => simp [cellsW] at ih ⊢; omega
theorem cellsW_snoc (xs : List Wn) (o : Wn) : cellsW (xs ++ [o]) = cellsW xs ++ [.int .i64 o.1, .int .i64 o.2] := by simp [cellsW]
theorem ownFrom_walks {β : Type} {B : Nat} {w0 : World} (hB : w0.heap.size ≤ B) : OwnFrom B (fun (_ : β) W => KeepsWalks w0 W) :=
  fun _ W W' row hs hg hr => ⟨Nat.le_trans hs.size hg.size, fun k o hk ho => by
    have h1 := hs.same k o hk ho
    refine (hg.block k (Array.getElem?_eq_some_iff.1 h1).1 (fun e => ?_)).trans h1
    have := (hr k e.symm).1
    have := (Array.getElem?_eq_some_iff.1 hk).1
    omega⟩
/-- A struct of two numbers in a block of its own. -/
def Box2 (W : World) (B : Nat) (x y : Int) : Prop := W.heap[B]? = some (.cells #[.int .i64 x, .int .i64 y] 40 (0, 0))
theorem box2_own {β : Type} (B : Nat) (x y : Int) : _root_.Go.Own (fun (_ : β) W => Box2 W B x y) := fun _ X Y row hs hg hrow => by
  refine (hg.block B (Array.getElem?_eq_some_iff.1 hs).1 (fun e => ?_)).trans hs
  obtain ⟨o, ho, hc⟩ := hrow B e.symm
  rw [show X.heap[B]? = _ from hs] at ho
  cases ho
  cases hc
theorem Box2.cells {W : World} {B : Nat} {x y : Int} (h : Box2 W B x y) : W.cell? ⟨B, 0, none⟩ = some (.int .i64 x) ∧ W.cell? ⟨B, 1, none⟩ = some (.int .i64 y) := by
  constructor <;> simp [World.cell?, show W.heap[B]? = _ from h]

set_option maxRecDepth 100000 in
set_option maxHeartbeats 4000000 in
/-- 'slices.AppendSeq' of a list of the call's own and an iterator over owners: what comes stands behind it. -/
theorem appendSeqW {w : World} {n0 k : Nat} {v : Value} {xs0 : List Wn} {g : Nat} {lb : Array Value} {S : List Wn → Prop} {N : Nat} (hrow : w.ownsRow n0 40 2 v k (cellsW xs0)) (hn0 : n0 ≤ w.heap.size)
    (eg : ∀ args w, (callFunc g args).run Try.prog w = .ok (.enter g args) w) (hseq : ∀ m, SeqStopsK Fence.wide m Try.prog g lb encW KeepsWalks S (fun _ => True) N w) (hN : k + N ≤ 1048576) :
    Calls Try.prog 34 #[v, .func (.func g) #[] lb] w fun e w' => ∃ u xs, e = .returned u ∧ S xs ∧ xs.length ≤ N ∧ w'.ownsRow n0 40 2 u (k + xs.length) (cellsW (xs0 ++ xs)) ∧ Below n0 w w' ∧ KeepsWalks w w' := by
  obtain ⟨ao, c, rfl⟩ : ∃ ao c, v = .slice ao k c := by
    rcases hrow.2 with ⟨rfl, rfl⟩ | ⟨g, cap, cur, rfl, _⟩
    · exact ⟨_, _, rfl⟩
    · exact ⟨_, _, rfl⟩
  refine (callsIn_wide (n := 3)).1 ?_
  obtain ⟨i0, hi, hz0, hz1, hz2⟩ := info_parts Try.infoOwner
  refine callsIn_of_wp_marks Try.func34 rfl trivial ?_ rfl
  simp only [Try.ntmps34, List.size_toArray, List.length_cons, List.length_nil, Nat.reduceAdd, Nat.reduceSub, Array.replicate_succ, Array.replicate_zero, List.push_toArray, List.append_toArray, List.nil_append, List.cons_append]
  obtain ⟨W0, hW0⟩ : ∃ W0, w.alloc (.cells #[.slice ao k c] 24) = W0 := ⟨_, rfl⟩
  have hs0 : W0.heap.size = w.heap.size + 1 := by rw [← hW0]; simp
  have hb0 : Below w.heap.size w W0 := by rw [← hW0]; exact below_alloc _ _
  have hx0 : Boxed W0 w.heap.size 24 (.slice ao k c) := by rw [← hW0]; exact Boxed.new w _ _
  have hk0 : KeepsWalks w W0 := by rw [← hW0]; exact (KeepsOthers.alloc _ _).walks
  have hr0 : W0.ownsRow n0 40 2 (.slice ao k c) (k + 0) (cellsW (xs0 ++ [])) := by rw [← hW0, List.append_nil]; exact hrow.alloc _
  gi_wp2
  clear hW0
  have hI : OwnFrom W0.heap.size (fun (pre : List Wn) W => (∃ u, Boxed W w.heap.size 24 u ∧ W.ownsRow n0 40 2 u (k + pre.length) (cellsW (xs0 ++ pre)) ∧ True) ∧ Below n0 w W ∧ KeepsWalks w W ∧ pre.length ≤ N) :=
    OwnFrom.and ((holdsRow_own n0 w.heap.size 24 40 2 (fun pre : List Wn => k + pre.length) (fun pre => cellsW (xs0 ++ pre)) (fun _ _ => True)).from _) (OwnFrom.and (ownFrom_below hn0 (by omega)) (OwnFrom.and (ownFrom_walks (by omega)) (ownFrom_pure _ (fun pre : List Wn => pre.length ≤ N))))
  refine wpIn_rangeFunc_ownH (F := Fence.wide) (n := 3) rfl (by decide) (gf := g) (lb := lb) rfl trivial eg (hseq 2) walksK_t walksK_b hb0 (fun _ => rfl) _ (fun _ _ _ => False) hI (fun _ => fun _ _ _ _ hs _ _ => hs) ⟨⟨_, hx0, hr0, trivial⟩, hb0.mono hn0, hk0, Nat.zero_le _⟩
    (fun x a' W => ∃ Bx, Box2 W Bx x.1 x.2 ∧ a' = { tmps := #[.slice ao k c, .func (.func g) #[] lb, .pointer (some ⟨w.heap.size, 0, none⟩), undef, .slice none 0 0, .pointer (some ⟨Bx, 0, none⟩), .func (.func g) #[] lb, .agg #[.int .i64 x.1, .int .i64 x.2], undef, undef, undef, undef, undef], defers := [] })
    (fun x a' s W W' row hs hg hr => by obtain ⟨Bx, h1, h2⟩ := hs; exact ⟨Bx, (box2_own (β := Unit) Bx x.1 x.2).from _ s W W' row h1 hg hr, h2⟩) ?assign ?body ?done ?stop
  case assign =>
    rintro l pre ⟨x, y⟩ W K hi hK
    have hnew : (W.alloc (.cells #[.int .i64 x, .int .i64 y] 40)).heap[W.heap.size]? = some (.cells #[.int .i64 x, .int .i64 y] 40 (0, 0)) := World.alloc_heap_new W _
    have hend := hK { tmps := #[.slice ao k c, .func (.func g) #[] lb, .pointer (some ⟨w.heap.size, 0, none⟩), undef, .slice none 0 0, .pointer (some ⟨W.heap.size, 0, none⟩), .func (.func g) #[] lb, .agg #[.int .i64 x, .int .i64 y], undef, undef, undef, undef, undef], defers := [] } (W.alloc (.cells #[.int .i64 x, .int .i64 y] 40)) ((KeepsOthers.alloc _ _).from _) (KeepsOthers.alloc _ _).walks (hI.alloc _ hi) ⟨W.heap.size, hnew, rfl⟩
    clear hK hi hnew
    simp only [encW]
    gi_wp2
    exact hend
  case body =>
    rintro l pre ⟨x, y⟩ a' W hl _ ⟨⟨u, hu, hr, _⟩, hB, hKW, hpl⟩ ⟨Bx, hbx, rfl⟩ hlt
    obtain ⟨au, cu, rfl⟩ : ∃ au cu, u = .slice au (k + pre.length) cu := by
      rcases hr.2 with ⟨rfl, h0⟩ | ⟨g, cap, cur, rfl, _⟩
      · exact ⟨none, 0, by rw [h0]⟩
      · exact ⟨_, _, rfl⟩
    obtain ⟨j, hj⟩ : ∃ j, k + pre.length = j := ⟨_, rfl⟩
    have HJ := hide hj
    rw [hj] at hu hr
    have hj2 : j + 1 ≤ 1048576 := by omega
    clear hj
    have hc := hu.cell
    obtain ⟨hb1, hb2⟩ := hbx.cells
    dsimp only at hb1 hb2
    have hzB := hB.size
    gi_wp2_with (first
      | (gi_at_builtin; refine wpListIn_append_own _ rfl _ _ 24 rfl n0 40 i0 (.agg #[.int .i64 0, .int .i64 0]) 2 16 Try.underlying24 hi hz0 hz1 hz2 rfl (by decide) _ _ _ rfl (hr.alloc _) ⟨W.heap.size, 0, none⟩ 1 1 [.int .i64 x, .int .i64 y] rfl rfl (World.news_of_block (cs := #[.int .i64 x, .int .i64 y]) (t := 40) (fr := (0, 0)) (World.alloc_heap_new W _)) (by simp [Value.oneCell']) (by unfold maxLen; omega) (by omega) (by simp; omega) ?_; intro v' w1 hown' hgrow _; obtain ⟨g', cap', rfl⟩ := ownsRow_succ hown'; obtain ⟨hv1, hv2, hr2, hk2, hbb⟩ := hu.appended (by decide) hr (by omega) (by omega) hown' hgrow; have hc1 := hv1.cell; have hf1 := hv1.frozen)
      | gi_in)
    refine ⟨hk2.from _, hk2.walks, ⟨_, hv2, ?_⟩, hB.trans hbb, hKW.trans hk2.walks, by simp; omega⟩
    have e1 : k + (pre ++ [(x, y)]).length = j + 1 := by rw [← HJ.out]; simp; omega
    have e2 : cellsW (xs0 ++ (pre ++ [(x, y)])) = cellsW (xs0 ++ pre) ++ [.int .i64 x, .int .i64 y] := by rw [← List.append_assoc, cellsW_snoc]
    rw [e1, e2]
    exact hr2
  case done =>
    rintro D xs W hD hS ⟨⟨u, hu, hr, _⟩, hB, hKW, hpl⟩ hK
    have hc := hu.cell
    gi_wp2
    refine ⟨by simp, .inl ⟨_, _, rfl, run_takeDeferred hK, ?_⟩⟩
    exact ⟨_, results_tmp rfl _ _ _, u, xs, rfl, hS, hpl, ownsRow_putObj hr _ hK rfl, hB.grown (grownBy_putObj' _ D _) (by have := hB.size; omega) (fun r e => by cases e; omega), hKW.trans (KeepsWalks.putObj _ hK rfl)⟩
  case stop =>
    rintro D c pre W _ _ h _
    exact h.elim
end Go.Proofs.Ytkpkoapcmnapoab
