/- Mp2 Mp3 Rs Fi FiS ObZ FiZ in one text: what each says stands at its head below. -/
import Derived.Test.YtbfdnjhdlnfpmaaG08
import Derived.Test.YtbfdnjhdlnfpmaaG09
import Derived.Test.YtbfdnjhdlnfpmaaG06
import Derived.Deep.AppendLies
import Derived.Deep.RegionLaw
import Derived.Test.YtbfdnjhdlnfpmaaG03
import Derived.Test.YtbfdnjhdlnfpmaaG05
import Derived.Test.YtbfdnjhdlnfpmaaG02
/- Chapter 7: which blocks are taken is a closure; the blocks that it tells, rising. -/
namespace Go.Proofs.Ytbfdnjhdlnfpmaa
open Go.RowKit

/-- The blocks that a map can have. -/
def allB : List Int := [3, 4, 5, 6, 7, 8, 9, 10, 11, 12, 13, 14, 15, 16, 17, 18, 19, 20, 21, 22]
def blkTo (p : Int → Bool) (i : Nat) : List Int := (allB.take i).filter p
def blk (p : Int → Bool) : List Int := allB.filter p
theorem blkTo_all (p : Int → Bool) : blkTo p 20 = blk p := by unfold blkTo blk; rw [List.take_of_length_le (by decide)]
theorem allB_at : ∀ i : Nat, i < 20 → allB[i]? = some (3 + (i : Int)) := by decide
theorem blkTo_succ (p : Int → Bool) {i : Nat} (h : i < 20) : blkTo p (i + 1) = blkTo p i ++ if p (3 + (i : Int)) then [3 + (i : Int)] else [] := by
  unfold blkTo
  rw [List.take_add_one, allB_at i h, List.filter_append]
  by_cases hp : p (3 + (i : Int)) = true
  · simp [hp]
  · simp [hp]
theorem blkTo_len (p : Int → Bool) (i : Nat) : (blkTo p i).length ≤ i := by
  unfold blkTo
  refine Nat.le_trans (List.length_filter_le _ _) ?_
  rw [List.length_take]; omega
/-- A function value that answers p of a block. -/
def Fp (w : World) (f : Value) (p : Int → Bool) : Prop :=
  ∃ (N : Nat) (caps : Array Value), f = .func (.func N) #[] caps ∧ (∀ args w', Sem.run Try.prog (callFunc N args) w' = .ok (.enter N args) w') ∧ ∀ w', Below w.heap.size w w' → ∀ x : Int, 3 ≤ x → x ≤ 22 → Calls Try.prog N (#[.int .i64 x] ++ caps) w' fun e w'' => e = .returned (.bool (p x)) ∧ Below w'.heap.size w' w''
theorem Fp.later {w w' : World} {f : Value} {p : Int → Bool} (h : Fp w f p) (hb : Below w.heap.size w w') : Fp w' f p := by
  obtain ⟨N, caps, e, hn, h⟩ := h
  exact ⟨N, caps, e, hn, fun w'' h' => h w'' (below_on hb h')⟩

theorem owns_shapeM {w : World} {B e s : Nat} {v : Value} {n : Nat} {xs : List Value} (h : w.ownsRow B e s v n xs) : ∃ ao c, v = .slice ao n c := by
  rcases h.2 with ⟨rfl, rfl⟩ | ⟨g, cap, cur, rfl, _⟩
  · exact ⟨_, _, rfl⟩
  · exact ⟨_, _, rfl⟩
theorem enter_of {f : FuncId} {fn : Func} (hf : Try.prog.funcs[f]? = some fn) (hn : (fn.name == "runtime.NumGoroutine") = false) (hb : fn.body.isNone = false) (args : Array Value) (w : World) : Sem.run Try.prog (callFunc f args) w = .ok (.enter f args) w := by
  have h1 : fn.name ≠ "runtime.NumGoroutine" := by simpa using hn
  have h2 : fn.body ≠ none := by intro h; rw [h] at hb; cases hb
  simp [callFunc, hf, h1, h2]
end Go.Proofs.Ytbfdnjhdlnfpmaa
/- Chapter 7: 'IsUsed' of the program and of the model, walked. -/
namespace Go.Proofs.Ytbfdnjhdlnfpmaa
open Go.RowKit

theorem ret_boolM {a b : Bool} (h : a = b) : Ending.returned (.bool a) = .returned (.bool b) := by rw [h]
/-- Whether a block is in use. -/
def usedB (xs : List Int) (x : Int) : Bool := decide (mapF xs = 0) && decide (x ∈ xs)

set_option maxHeartbeats 1000000 in
set_option maxRecDepth 4000 in
theorem l7Among {S : Nat → Prop} {w : World} {u : Value} {xs : List Int} (x : Int) (hu : RdI S w u xs) :
    Calls Try.prog 55 #[u, .int .i64 x] w fun e w' => w' = w ∧ e = .returned (.bool (decide (x ∈ xs))) := by
  have hml := hu.max
  obtain ⟨au, cu, rfl⟩ := hu.shape
  have HU := hide hu
  obtain ⟨n, hn⟩ : ∃ n, xs.length = n := ⟨_, rfl⟩
  have HN := hide hn
  rw [hn] at HU hml ⊢
  clear hu hn
  obtain ⟨B, hB⟩ : ∃ B, decide (x ∈ xs) = B := ⟨_, rfl⟩
  rw [hB]
  have HB := hide hB
  clear hB
  go_enter Try.func55, Try.ntmps55
  go_wp2
  go_loopw [5] (fun i wr => ∃ k : Nat, k ≤ n ∧ i = .int .i64 (k : Int) ∧ Hid (∀ j, j < k → xs.getD j 0 ≠ x) ∧ wr = w) (fun i _ => n - (RowKit.intOf i).toNat)
  case atStart => exact ⟨0, Nat.zero_le _, rfl, fun j hj => absurd hj (Nat.not_lt_zero _), rfl⟩
  case round =>
    obtain ⟨k, hk, rfl, HA, rfl⟩ := hrel
    by_cases hlt : k < n
    · obtain ⟨b, off, rfl, q1⟩ := HU.out.at (k := k) (by rw [HN.out]; exact hlt)
      obtain ⟨y, hy⟩ : ∃ y, xs.getD k 0 = y := ⟨_, rfl⟩
      rw [hy] at q1
      have HY := hide hy
      have hk0 : (0 : Int) ≤ (k : Int) := by omega
      have hk1 : (k : Int) < (n : Int) := by omega
      clear hy
      by_cases hxy : y = x
      · subst hxy
        have HIn : Hid (true = B) := by
          rw [Hid, ← HB.out]
          refine (decide_eq_true ?_).symm
          rw [← HY.out]
          simp [List.getD, show k < xs.length by rw [HN.out]; exact hlt]
        go_wp2
        go_ret
        exact ⟨rfl, ret_boolM HIn.out⟩
      · have HA' : Hid (∀ j, j < k + 1 → xs.getD j 0 ≠ x) := fun j hj => by
          by_cases e : j = k
          · subst e; rw [HY.out]; exact hxy
          · exact HA.out j (by omega)
        have hxb : (y == x) = false := by simpa using hxy
        go_wp2
        go_roundw
        case rel => exact ⟨k + 1, hlt, by go_num, HA'.out, by first | rfl | trivial⟩
        case measure => simp [RowKit.intOf]; omega
    · have hkn : k = n := by omega
      subst hkn
      have HNo : Hid (false = B) := by
        rw [Hid, ← HB.out]
        refine (decide_eq_false fun h => ?_).symm
        obtain ⟨j, hj⟩ := List.mem_iff_getElem?.1 h
        have hl := (List.getElem?_eq_some_iff.1 hj).1
        exact HA.out j (by rw [HN.out] at hl; exact hl) (by simp [List.getD, hj])
      go_wp2
      go_ret
      exact ⟨rfl, ret_boolM HNo.out⟩

end Go.Proofs.Ytbfdnjhdlnfpmaa
/- The variable of a result; what append does at a step of a region that draws. -/
namespace Go.Proofs.Ytbfdnjhdlnfpmaa
open Go.RowKit

/-- The variable of the result (a code, a list) as it was made. -/
structure ResF (w wr : World) : Prop where
  below : Below w.heap.size w wr
  c0 : wr.cell? ⟨w.heap.size, 0, none⟩ = some (.int .i64 0)
  c1 : wr.cell? ⟨w.heap.size, 1, none⟩ = some (.slice none 0 0)
  fr : ∀ o, wr.frozen? ⟨w.heap.size, o, none⟩ = false
theorem ResF.lt {w wr : World} (h : ResF w wr) : w.heap.size < wr.heap.size := World.block_lt_of_cell? _ _ h.c0
theorem ResF.later {w wr w1 : World} (h : ResF w wr) (hb : Below wr.heap.size wr w1) : ResF w w1 :=
  ⟨below_on h.below hb, cell_later hb h.c0, cell_later hb h.c1, fun o => ((bcell hb).2 _ _ h.lt).trans (h.fr o)⟩
theorem ResF.start (w : World) (t : TypeId) : ResF w (w.alloc (.cells #[.int .i64 0, .slice none 0 0] t)) :=
  ⟨below_alloc _ _, by simp [go_sem], by simp [go_sem], fun o => by simp [go_sem]⟩
theorem ResF.shut {w wr : World} (h : ResF w wr) (x y : Value) : Below w.heap.size w ((wr.setCell ⟨w.heap.size, 0, none⟩ x).setCell ⟨w.heap.size, 1, none⟩ y) := (h.below.setCell (Nat.le_refl _) _).setCell (Nat.le_refl _) _

theorem owns_shapeR {w : World} {B e s : Nat} {v : Value} {n : Nat} {xs : List Value} (h : w.ownsRow B e s v n xs) : ∃ ao c, v = .slice ao n c := by
  rcases h.2 with ⟨rfl, rfl⟩ | ⟨g, cap, cur, rfl, _⟩
  · exact ⟨_, _, rfl⟩
  · exact ⟨_, _, rfl⟩
theorem ownsRow_fullF (w : World) (cs : List Value) (e : TypeId) (hm : cs.length ≤ 1048576) : (w.alloc (.cells cs.toArray e)).ownsRow w.heap.size e 1 (.slice (some ⟨w.heap.size, 0, none⟩) cs.length cs.length) cs.length cs :=
  ⟨by simp, .inr ⟨w.heap.size, cs.length, cs.toArray, rfl, Nat.le_refl _, heap_alloc_new w _, Nat.le_refl _, by unfold maxLen; omega, by simp, by simp⟩⟩
/-- An append at a step of a region that draws, of a slice of whatever address where it holds nothing. -/
theorem step_append_fi {P : Program} (w : World) {ops : Array Oper} {o : Oper} {a : Act} {K : Act → World → Prop} {Q : Exit → Act → World → Prop} {E : Prop} (hgd : o.guard = none) (s x : Operand) (t : TypeId)
    (ho : o.op = .call { callee := .builtin .append, args := #[s, x], argTypes := #[t, t] })
    (base : Nat) (e : TypeId) (i : TypeInfo) (z : Value) (size bytes : Nat) (ht : P.underlying t = some (.slice e)) (hi : P.info? e = some i) (hz : i.zero = some z)
    (hsize : i.size = size) (hby : i.bytes = bytes) (hzs : z.cells.size = size) (hsz : 0 < size)
    (v : Value) (n : Nat) (xs : List Value) (hs : a.eval s = v) (hown : w.ownsRow base e size v n xs)
    (ao : Option Addr) (m c : Nat) (news : List Value) (hx : a.eval x = .slice ao m c) (hl : news.length = m * size)
    (hnews : m ≠ 0 → ∃ ad, ao = some ad ∧ ∀ j u, news[j]? = some u → w.cell? (ad.add j) = some u) (h1 : ∀ u ∈ news, u.oneCell' = true)
    (h63 : n + m ≤ maxLen) (hbytes : (n + m) * bytes ≤ 140737488355328) (hbase : base ≤ w.heap.size)
    (h : ∀ v' w', w'.ownsRow base e size v' (n + m) (xs ++ news) → w.grownBy w' v.ownBlock → K (a.put o.dst v') w') :
    if Region.wanted o (yielded ops a.tmps) = true then Oper.wp P o a w K Q else E := by
  by_cases hm : m = 0
  · subst hm
    have hn : news = [] := List.eq_nil_of_length_eq_zero (by simpa using hl)
    subst hn
    have hw : Region.wanted o (yielded ops a.tmps) = true := by simp [Region.wanted, hgd]
    rw [if_pos hw]
    have hv : ∃ ad k, v = .slice ad n k ∧ n ≤ k := by
      rcases hown.2 with ⟨rfl, rfl⟩ | ⟨g, cap, cur, rfl, _, _, hnc, _⟩
      · exact ⟨_, _, rfl, Nat.le_refl _⟩
      · exact ⟨_, _, rfl, hnc⟩
    obtain ⟨ad, k, rfl, hk⟩ := hv
    have hrun := run_append_zero (P := P) w t o.type e i ht hi ad n k hk ao c
    have hh := h _ w (by simpa using hown) (World.grownBy.refl _ _)
    unfold Oper.wp execOp
    simp only [ho, resolve, invoke, builtin, Sem.run_bind, Sem.run_pure, Result.andThen_ok, List.map_toArray, List.map_cons, List.map_nil, hs, hx, hrun]
    exact hh
  · obtain ⟨ad, rfl, hc⟩ := hnews hm
    exact step_append_lies w hgd s x t ho base e i z size bytes ht hi hz hsize hby hzs hsz v n xs hs hown ad m c news hx hl hc h1 (by omega) h63 hbytes hbase _ rfl (fun g cap w' h2 h3 _ _ => h _ w' h2 h3)
end Go.Proofs.Ytbfdnjhdlnfpmaa
/- The laws' helpers over File. Made by program (genfi.py). -/
namespace Go.Proofs.Ytbfdnjhdlnfpmaa
open Go.RowKit
end Go.Proofs.Ytbfdnjhdlnfpmaa
/- Chapter 8: lists of files: the laws' helpers over them. Made by program (genfi.py). -/
namespace Go.Proofs.Ytbfdnjhdlnfpmaa
open Go.RowKit
end Go.Proofs.Ytbfdnjhdlnfpmaa
/- Chapter 5: lists of objects: how much they hold, and copies of them. Made by program (genobz.py). -/
namespace Go.Proofs.Ytbfdnjhdlnfpmaa
open Go.RowKit

def totX (ps : List Oj) (i : Nat) : Nat := ((ps.take i).map fun p => p.2.2.length).sum
theorem totX_zero (ps : List Oj) : totX ps 0 = 0 := by simp [totX]
theorem totX_succ (ps : List Oj) (i : Nat) (h : i < ps.length) : totX ps (i + 1) = totX ps i + (ps.getD i oj0).2.2.length := by
  unfold totX
  rw [List.take_succ_eq_append_getElem h]
  simp only [List.map_append, List.sum_append, List.map_cons, List.map_nil, List.sum_cons, List.sum_nil]
  simp [List.getD, h]
theorem totX_le (ps : List Oj) : ∀ (i j : Nat), i ≤ j → totX ps i ≤ totX ps j := by
  intro i j h
  unfold totX
  have : ps.take j = ps.take i ++ (ps.drop i).take (j - i) := by
    rw [← List.take_add]; congr 1; omega
  rw [this]; simp
/-- What the loop that copies objects knows behind j of them. -/
def ToJ (os : List Oj) (w : World) (j : Nat) (wr : World) : Prop :=
  Below w.heap.size w wr ∧ w.heap.size < wr.heap.size ∧ (∀ o, wr.frozen? ⟨w.heap.size, o, none⟩ = false) ∧ (∀ o, o < os.length * 3 → ∃ x, wr.cell? ⟨w.heap.size, o, none⟩ = some x) ∧
    ∃ (V : Nat → Value) (Bk : Nat → Nat), Inner (w.heap.size ≤ ·) wr (some w.heap.size) j V Bk (fun i => (os.getD i oj0).2.2) ∧
      ∀ i, i < j → wr.cell? ⟨w.heap.size, i * 3, none⟩ = some (.int .i64 (os.getD i oj0).1) ∧ wr.cell? ⟨w.heap.size, i * 3 + 1, none⟩ = some (.int .i64 (os.getD i oj0).2.1) ∧ wr.cell? ⟨w.heap.size, i * 3 + 2, none⟩ = some (V i)
def setJ (w : World) (B j : Nat) (a f : Int) (z : Value) : World := ((w.setCell ⟨B, j * 3, none⟩ (.int .i64 a)).setCell ⟨B, j * 3 + 1, none⟩ (.int .i64 f)).setCell ⟨B, j * 3 + 2, none⟩ z
theorem setJ_other (w : World) (B j : Nat) (a f : Int) (z : Value) (p : Addr) (h : p.block ≠ B ∨ (p.off ≠ j * 3 ∧ p.off ≠ j * 3 + 1 ∧ p.off ≠ j * 3 + 2)) : (setJ w B j a f z).cell? p = w.cell? p := by
  unfold setJ
  rw [World.cell?_setCell_other _ _ _ _ (by rintro rfl; simp at h), World.cell?_setCell_other _ _ _ _ (by rintro rfl; simp at h), World.cell?_setCell_other _ _ _ _ (by rintro rfl; simp at h)]
theorem grown_onJ {w w' w'' : World} {row : Option Nat} (h : w.grownBy w' row) (h' : w'.grownBy w'' row) : w.grownBy w'' row :=
  ⟨h'.os.trans h.os, h'.tape.trans h.tape, h'.output.trans h.output, Nat.le_trans h.size h'.size, fun b hb hne => (h'.block b (Nat.lt_of_lt_of_le hb h.size) hne).trans (h.block b hb hne)⟩
theorem setJ_grown (w : World) (B j : Nat) (a f : Int) (z : Value) : w.grownBy (setJ w B j a f z) (some B) := by
  have g : ∀ (w : World) (o : Nat) (x : Value), w.grownBy (w.setCell ⟨B, o, none⟩ x) (some B) := fun w o x => by
    have hw : Wr (· = B) w (w.setCell ⟨B, o, none⟩ x) := (Wr.refl (· = B) w).setCell (p := ⟨B, o, none⟩) rfl _
    exact ⟨hw.os, hw.tape, hw.output, hw.size, fun b hb hne => hw.block b hb (fun e => hne (by rw [e]))⟩
  exact grown_onJ (grown_onJ (g _ _ _) (g _ _ _)) (g _ _ _)
theorem ToJ.step {os : List Oj} {w : World} {j : Nat} {wr w1 : World} {z : Value} (h : ToJ os w j wr) (hj : j < os.length) (hb : Below wr.heap.size wr w1) (hz : OwI wr.heap.size w1 z (os.getD j oj0).2.2) :
    ToJ os w (j + 1) (setJ w1 w.heap.size j (os.getD j oj0).1 (os.getD j oj0).2.1 z) := by
  obtain ⟨h1, h2, h3, h4, V, Bk, h5, h6⟩ := h
  have hs := hb.size
  have hc : ∀ o, w1.cell? ⟨w.heap.size, o, none⟩ = wr.cell? ⟨w.heap.size, o, none⟩ := fun o => (bcell hb).1 _ _ h2
  have hf : ∀ o, w1.frozen? ⟨w.heap.size, o, none⟩ = false := fun o => ((bcell hb).2 _ _ h2).trans (h3 o)
  obtain ⟨x0, e0⟩ := h4 (j * 3) (by omega)
  obtain ⟨x1, e1⟩ := h4 (j * 3 + 1) (by omega)
  obtain ⟨x2, e2⟩ := h4 (j * 3 + 2) (by omega)
  have s2 : (setJ w1 w.heap.size j (os.getD j oj0).1 (os.getD j oj0).2.1 z).cell? ⟨w.heap.size, j * 3 + 2, none⟩ = some z := by
    unfold setJ
    refine World.cell?_setCell_same (u := x2) _ _ _ ?_
    rw [World.cell?_setCell_other _ _ _ _ (by simp), World.cell?_setCell_other _ _ _ _ (by simp), hc]; exact e2
  have s1 : (setJ w1 w.heap.size j (os.getD j oj0).1 (os.getD j oj0).2.1 z).cell? ⟨w.heap.size, j * 3 + 1, none⟩ = some (.int .i64 (os.getD j oj0).2.1) := by
    unfold setJ
    rw [World.cell?_setCell_other _ _ _ _ (by simp)]
    refine World.cell?_setCell_same (u := x1) _ _ _ ?_
    rw [World.cell?_setCell_other _ _ _ _ (by simp), hc]; exact e1
  have s0 : (setJ w1 w.heap.size j (os.getD j oj0).1 (os.getD j oj0).2.1 z).cell? ⟨w.heap.size, j * 3, none⟩ = some (.int .i64 (os.getD j oj0).1) := by
    unfold setJ
    rw [World.cell?_setCell_other _ _ _ _ (by simp), World.cell?_setCell_other _ _ _ _ (by simp)]
    refine World.cell?_setCell_same (u := x0) _ _ _ ?_
    rw [hc]; exact e0
  obtain ⟨Bk', hI⟩ := h5.step (P' := (w.heap.size ≤ ·)) (fun _ h => h) (fun b hb' => by have := h1.size; omega) (fun r hr => by injection hr with hr; omega) hb hz (Below.refl _ _) (setJ_grown w1 w.heap.size j (os.getD j oj0).1 (os.getD j oj0).2.1 z) (Or.inl rfl)
  refine ⟨?_, ?_, fun o => ?_, fun o ho => ?_, _, Bk', hI, fun i hi => ?_⟩
  · unfold setJ
    exact (((below_on h1 hb).setCell (Nat.le_refl _) _).setCell (Nat.le_refl _) _).setCell (Nat.le_refl _) _
  · unfold setJ; simp; omega
  · unfold setJ; rw [World.frozen?_setCell, World.frozen?_setCell, World.frozen?_setCell]; exact hf o
  · by_cases a0 : o = j * 3
    · subst a0; exact ⟨_, s0⟩
    · by_cases a1 : o = j * 3 + 1
      · subst a1; exact ⟨_, s1⟩
      · by_cases a2 : o = j * 3 + 2
        · subst a2; exact ⟨_, s2⟩
        · obtain ⟨x, hx⟩ := h4 o ho
          exact ⟨x, by rw [setJ_other _ _ _ _ _ _ _ (Or.inr ⟨a0, a1, a2⟩), hc]; exact hx⟩
  · by_cases e : i = j
    · subst e
      simp only [if_true]
      exact ⟨s0, s1, s2⟩
    · simp only [if_neg e]
      obtain ⟨k0, k1, k2⟩ := h6 i (by omega)
      exact ⟨by rw [setJ_other _ _ _ _ _ _ _ (Or.inr ⟨by dsimp only; omega, by dsimp only; omega, by dsimp only; omega⟩), hc]; exact k0, by rw [setJ_other _ _ _ _ _ _ _ (Or.inr ⟨by dsimp only; omega, by dsimp only; omega, by dsimp only; omega⟩), hc]; exact k1, by rw [setJ_other _ _ _ _ _ _ _ (Or.inr ⟨by dsimp only; omega, by dsimp only; omega, by dsimp only; omega⟩), hc]; exact k2⟩
theorem ToJ.start (os : List Oj) (w : World) (n : Nat) (hn : os.length = n) (t : TypeId) : ToJ os w 0 (w.alloc (.cells (madeCells #[.int .i64 0, .int .i64 0, .slice none 0 0] (n * 3)) t)) := by
  refine ⟨below_alloc _ _, by simp, fun o => by simp [go_sem], fun o ho => ?_, fun _ => .bool false, fun _ => 0, Inner.zero _ _ _ _ _ _, fun i hi => absurd hi (Nat.not_lt_zero _)⟩
  subst hn
  have h : o < (madeCells #[Value.int .i64 0, .int .i64 0, .slice none 0 0] (os.length * 3)).size := by rw [size_madeCells]; exact ho
  exact ⟨_, by simp [go_sem, h]; rfl⟩

end Go.Proofs.Ytbfdnjhdlnfpmaa
/- Chapter 8: lists of files: how much they hold, and copies of them. Made by program (genfi.py). -/
namespace Go.Proofs.Ytbfdnjhdlnfpmaa
open Go.RowKit
theorem Try.infoFile : (Try.prog.info? 35).map (fun i => (i.zero, i.size, i.bytes)) = some (some (.agg #[.int .i64 0, .int .i64 0, .slice none 0 0]), 3, 40) := by kernel_rfl

theorem run_make_file (n : Nat) (hn : n ≤ 1048576) (w : World) :
    (Instr.makeSlice 26 (.int .i64 (n : Int)) (.int .i64 (n : Int))).run Try.prog w = .ok (.slice (some ⟨w.heap.size, 0, none⟩) n n) (w.alloc (.cells (madeCells #[.int .i64 0, .int .i64 0, .slice none 0 0] (n * 3)) 35)) := by
  obtain ⟨i, hi, hz, hs, hb⟩ := info_parts Try.infoFile
  have hr := run_make (P := Try.prog) w 26 35 i (.agg #[.int .i64 0, .int .i64 0, .slice none 0 0]) Try.underlying26 hi hz .i64 .i64 n n (by omega) (Int.le_refl _) (by rw [hb]; omega) (by omega)
  simp only [Int.toNat_natCast, hs] at hr
  exact hr

/-- The cap of a slice is no smaller than its length. -/
def capOk : Value → Prop
  | .slice _ n c => n ≤ c
  | _ => True
end Go.Proofs.Ytbfdnjhdlnfpmaa
