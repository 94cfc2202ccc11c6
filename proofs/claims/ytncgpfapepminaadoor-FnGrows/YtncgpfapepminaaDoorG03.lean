/- Tear Draw2 Eq Sz Small Mark Held in one text: what each says stands at its head below. -/
import Derived.Test.YtncgpfapepminaaDoorG02
import Derived.Deep.AppendLies
import Derived.Test.YtncgpfapepminaaDoorG01
/- What a block holds if just so much of what was put is there: 'spec.l1Half', 'spec.l1Tear', walked. -/
namespace Go.Proofs.YtncgpfapepminaaDoor
open Go.RowKit
theorem RdI_nil (S : Nat → Prop) (w : World) (ao : Option Addr) (c : Nat) : RdI S w (.slice ao 0 c) [] := ⟨ao, c, by simp, by simp, fun h => absurd rfl h⟩

/-- What a block holds behind a tear. -/
def tearA (old next : List Int) (pick : Int) : List Int := if pick = 1 ∨ pick = 2 then next.take 32 else old.take 32
def tearB (old next : List Int) (pick : Int) : List Int := if pick = 1 ∨ pick = 3 then next.drop 32 else old.drop 32
/-- a, filled up with words 0 where b is not empty, and b behind it. -/
def joinT (a b : List Int) : List Int := if b = [] then a else a ++ List.replicate (32 - a.length) 0 ++ b
def tear (old next : List Int) (pick : Int) : List Int := joinT (tearA old next pick) (tearB old next pick)

theorem ownsRow_shape {w : World} {B e z n : Nat} {v : Value} {xs : List Value} (h : w.ownsRow B e z v n xs) : ∃ ao c, v = .slice ao n c := by
  rcases h.2 with ⟨rfl, e⟩ | ⟨g, cap, cur, rfl, _⟩
  · exact ⟨none, 0, by rw [e]⟩
  · exact ⟨_, _, rfl⟩

theorem snoc_zero (a : List Int) (j : Nat) : (a ++ List.replicate (j + 1) 0).map (Value.int .i64) = a.map (Value.int .i64) ++ (List.replicate j (.int .i64 0) ++ [.int .i64 0]) := by
  rw [List.replicate_succ']
  simp


/-- How long the slice in a slot is. -/
def sliceLen : Value → Nat
  | .slice _ n _ => n
  | _ => 0

theorem joinT_none (a : List Int) : joinT a [] = a := by unfold joinT; rw [if_pos rfl]
theorem joinT_some {a b : List Int} (h : b ≠ []) : joinT a b = a ++ List.replicate (32 - a.length) 0 ++ b := by unfold joinT; rw [if_neg h]

theorem tear_all {old next : List Int} (h : next.length ≤ 64) : tear old next 1 = next := by
  unfold tear tearA tearB
  rw [if_pos (Or.inl rfl), if_pos (Or.inl rfl)]
  by_cases hd : next.drop 32 = []
  · rw [hd, joinT_none]
    exact List.take_of_length_le (by have := congrArg List.length hd; simp at this; omega)
  · rw [joinT_some hd]
    have hl : 32 < next.length := by
      apply Nat.lt_of_not_le
      intro hle
      exact hd (List.drop_eq_nil_of_le hle)
    have e : (next.take 32).length = 32 := by simp; omega
    rw [e]
    simp

theorem tear_len {old next : List Int} {p : Int} (h1 : old.length ≤ 64) (h2 : next.length ≤ 64) : (tear old next p).length ≤ 64 := by
  have hA : (tearA old next p).length ≤ 32 := by unfold tearA; split <;> simp <;> omega
  have hB : (tearB old next p).length ≤ 32 := by unfold tearB; split <;> simp <;> omega
  unfold tear joinT
  split
  · omega
  · simp; omega
theorem RdI.at {S : Nat → Prop} {w : World} {ao : Option Addr} {n c : Nat} {xs : List Int} (h : RdI S w (.slice ao n c) xs) {k : Nat} (hk : k < xs.length) : ∃ b off, ao = some ⟨b, off, none⟩ ∧ w.cell? ⟨b, off + k, none⟩ = some (.int .i64 (xs.getD k 0)) := by
  obtain ⟨ao', c', e1, e2, e3⟩ := h
  obtain ⟨b, off, f1, f2, f3⟩ := e3 (by rintro rfl; simp at hk)
  injection e1 with e1 _ _
  exact ⟨b, off, by rw [e1, f1], f3 k hk⟩
end Go.Proofs.YtncgpfapepminaaDoor
/- The model's draws of lists: 'spec.l1Pick', 'spec.l1Source', 'spec.l1DrawWords', walked. -/
namespace Go.Proofs.YtncgpfapepminaaDoor
open Go.RowKit

theorem Wr.onBelow {S : Nat → Prop} {a w w' : World} (h : Wr S a w) (k : Below a.heap.size w w') : Wr S a w' :=
  ⟨k.os.trans h.os, k.tape.trans h.tape, k.output.trans h.output, Nat.le_trans h.size k.size, fun i hi hs => (k.block i hi).trans (h.block i hi hs), fun b o hb => (k.frozen (p := ⟨b, o, none⟩) hb).trans (h.frz b o hb)⟩

theorem Drawn.on {M N s : Nat} {v : Value} {bs : List Nat} {t t' t'' : Nat} {a b c : World} (h : Drawn M s v bs t t' a b) (k : Drawn N s v bs t' t'' b c) : Drawn (M + N) s v bs t t'' a c :=
  ⟨k.1, h.2.1.trans k.2.1, by have := h.2.2; have := k.2.2; omega⟩
theorem Drawn.refl {s : Nat} {v : Value} {bs : List Nat} {t : Nat} {w : World} (h : Src s v bs w t) : Drawn 0 s v bs t t w w := ⟨h, Wr.refl _ _, Nat.le_refl _⟩
theorem Drawn.later {N s : Nat} {v : Value} {bs : List Nat} {t t' : Nat} {a b c : World} (h : Drawn N s v bs t t' a b) (hb : Below b.heap.size b c) : Drawn N s v bs t t' a c :=
  ⟨h.1.later hb, h.2.1.on hb, h.2.2⟩
theorem Drawn.mono {M N s : Nat} {v : Value} {bs : List Nat} {t t' : Nat} {a b : World} (h : Drawn M s v bs t t' a b) (hN : M ≤ N) : Drawn N s v bs t t' a b := ⟨h.1, h.2.1, by have := h.2.2; omega⟩

theorem l1Source {w : World} {v : Value} {bs : List Nat} (hv : RdB w.heap.size w v bs) :
    Calls Tryd.prog 23 #[v] w fun e w' => e = .returned (.pointer (some ⟨w.heap.size, 0, none⟩)) ∧ Below w.heap.size w w' ∧ w'.heap.size = w.heap.size + 1 ∧ Src w.heap.size v bs w' 0 := by
  have HV := hide hv
  obtain ⟨ao, c, rfl, h2, h3⟩ := hv
  go_enter Tryd.func23, Tryd.ntmps23
  go_wp2
  go_ret
  refine ⟨rfl, below_alloc _ _, by simp, by simp [go_sem], by simp [go_sem], fun o => by simp [go_sem], ?_⟩
  obtain ⟨ao', c', e1, e2, e3⟩ := HV.out
  refine ⟨ao', c', e1, e2, fun hne => ?_⟩
  obtain ⟨b, off, f1, f2, f3⟩ := e3 hne
  exact ⟨b, off, f1, f2, fun i hi => ⟨cell_later (below_alloc _ _) (f3 i hi).1, (f3 i hi).2⟩⟩

set_option maxHeartbeats 1000000 in
/-- 'l1Pick': one of the list. -/
theorem l1Pick {s : Nat} {v u : Value} {bs : List Nat} {w : World} {t : Nat} {xs : List Int} (hS : Src s v bs w t) (ht : t ≤ 1073741824) (hu : RdI (· ≠ s) w u xs) (hx0 : xs ≠ []) (hxl : xs.length ≤ 1048576) :
    Calls Tryd.prog 25 #[.pointer (some ⟨s, 0, none⟩), u] w fun e w' => ∃ i, i < xs.length ∧ e = .returned (.int .i64 (xs.getD i 0)) ∧ ∃ t', Drawn 1 s v bs t t' w w' := by
  have HS := hide hS
  obtain ⟨ao, c, rfl, h2, h3⟩ := hu
  obtain ⟨b, off, rfl, hb, hc⟩ := h3 hx0
  have HC := hide hc
  obtain ⟨k, hk⟩ : ∃ k, xs.length = k := ⟨_, rfl⟩
  have HK := hide hk
  have hk0 : 0 < k := by rw [← hk]; exact List.length_pos_iff.2 hx0
  rw [hk] at hxl ⊢
  clear hS h2 h3 hc hk hx0
  go_enter Tryd.func25, Tryd.ntmps25
  go_wp2_with fail
  refine (l1Next (k : Int) HS.out ht (by omega) (by omega)).mono ?_
  rintro e w1 ⟨r, rfl, hr0, hr1, t', hd⟩
  have hr2 : r < (k : Int) := hr1 (by omega)
  obtain ⟨i, rfl⟩ : ∃ i : Nat, r = (i : Int) := ⟨r.toNat, (Int.toNat_of_nonneg hr0).symm⟩
  have hi : i < k := by omega
  have g1 := cell_wr hd.2.1 (HC.out i (by rw [HK.out]; exact hi)) hb
  obtain ⟨x, hx⟩ : ∃ x, xs.getD i 0 = x := ⟨_, rfl⟩
  have HX := hide hx
  rw [hx] at g1
  have HD := hide hd
  clear hr1 hd hx
  go_wp2
  go_ret
  exact ⟨i, hi, ret_int HX.out.symm, t', HD.out⟩
theorem RdI_new (s : Nat) (w : World) (xs : List Int) (t : TypeId) (hs : s < w.heap.size) (hl : xs.length ≤ 1048576) : RdI (· ≠ s) (w.alloc (.cells (xs.map (Value.int .i64)).toArray t)) (.slice (some ⟨w.heap.size, 0, none⟩) xs.length xs.length) xs := by
  refine ⟨_, 0, by simp, by omega, fun _ => ⟨w.heap.size, 0, rfl, by omega, fun i hi => ?_⟩⟩
  simp [go_sem]
  rw [List.getElem?_eq_getElem hi]
  rfl

theorem Drawn.onBelow {N s : Nat} {v : Value} {bs : List Nat} {t0 t t' : Nat} {a b c : World} (h0 : Src s v bs a t0) (h : Drawn N s v bs t t' a b) (hb : Below a.heap.size b c) : Drawn N s v bs t t' a c := by
  have hl := h0.lt
  have hw := h.2.1.onBelow hb
  exact ⟨⟨(hb.cell (p := ⟨s, 0, none⟩) hl).trans h.1.code, (hb.cell (p := ⟨s, 1, none⟩) hl).trans h.1.at_, fun o => (hb.frozen (p := ⟨s, o, none⟩) hl).trans (h.1.free o), h0.rd.wr hw⟩, hw, h.2.2⟩

theorem ownsRow_wr {w w' : World} {B e z s : Nat} {v : Value} {n : Nat} {xs : List Value} (h : w.ownsRow B e z v n xs) (hw : Wr (· = s) w w') (hs : v.ownBlock ≠ some s) : w'.ownsRow B e z v n xs := by
  obtain ⟨h1, h2⟩ := h
  refine ⟨h1, ?_⟩
  rcases h2 with h2 | ⟨g, cap, cur, hv, hg, hh, r⟩
  · exact Or.inl h2
  · exact Or.inr ⟨g, cap, cur, hv, hg, by rw [hw.block g (Array.getElem?_eq_some_iff.1 hh).1 (fun e => hs (by rw [hv, e]; rfl))]; exact hh, r⟩
theorem ownBlock_ne {w : World} {B e z s : Nat} {v : Value} {n : Nat} {xs : List Value} (h : w.ownsRow B e z v n xs) (hs : s < B) : v.ownBlock ≠ some s := fun e => by have := (h.lt _ e).1; omega

theorem made_ints (w : World) (n : Nat) (hn : n ≤ 1048576) (t : TypeId) : OwI w.heap.size (w.alloc (.cells (madeCells #[.int .i64 0] n) t)) (.slice (some ⟨w.heap.size, 0, none⟩) n n) (List.replicate n 0) := by
  refine ⟨w.heap.size, ⟨_, 0, by simp, by simp; omega, fun _ => ⟨w.heap.size, 0, rfl, rfl, fun i hi => ?_⟩⟩, fun _ => ⟨Nat.le_refl _, by simp, fun o => by simp [go_sem]⟩⟩
  have hi' : i < n := by simpa using hi
  have := (World.rowIs_made w (.int .i64 0) n t).cell hi'
  simpa [List.getD, hi'] using this

end Go.Proofs.YtncgpfapepminaaDoor
/- The walks of the laws' comparing functions: two readings of one datum are equal. -/
namespace Go.Proofs.YtncgpfapepminaaDoor
open Go.RowKit
end Go.Proofs.YtncgpfapepminaaDoor
/- The walks of the laws' functions that reckon sizes. -/
namespace Go.Proofs.YtncgpfapepminaaDoor
open Go.RowKit

/-- What is left of 'left' behind s; -1 where it does not suffice. -/
def szv (left s : Int) : Int := if s ≤ left then left - s else -1
theorem szv_yes {left s : Int} (h : s ≤ left) : szv left s = left - s := by unfold szv; rw [if_pos h]
theorem szv_no {left s : Int} (h : left < s) : szv left s = -1 := by unfold szv; rw [if_neg (by omega)]

/-- How many words the first i puts hold. -/
def totW (ps : List (Int × List Int)) (i : Nat) : Nat := ((ps.take i).map fun p => p.2.length).sum
theorem totW_zero (ps : List (Int × List Int)) : totW ps 0 = 0 := by simp [totW]
theorem totW_succ (ps : List (Int × List Int)) (i : Nat) (h : i < ps.length) : totW ps (i + 1) = totW ps i + (ps.getD i (0, [])).2.length := by
  unfold totW
  rw [List.take_succ_eq_append_getElem h]
  simp only [List.map_append, List.sum_append, List.map_cons, List.map_nil, List.sum_cons, List.sum_nil]
  simp [List.getD, h]
theorem totW_le (ps : List (Int × List Int)) : ∀ (i j : Nat), i ≤ j → totW ps i ≤ totW ps j := by
  intro i j h
  unfold totW
  have : ps.take j = ps.take i ++ (ps.drop i).take (j - i) := by
    rw [← List.take_add]; congr 1; omega
  rw [this]; simp
theorem totP_eq (ps : List (Int × List Int)) : ∀ j, j ≤ ps.length → totP ps j = totW ps j + j := by
  intro j
  induction j with
  | zero => intro _; simp [totP, totW]
  | succ j ih => intro h; rw [totP_succ ps j h, totW_succ ps j h, ih (by omega)]; omega

/-- How much a disk holds. -/
def szD (xss : List (List Int)) (ps : List (Int × List Int)) : Int := (xss.length : Int) + (tot xss xss.length : Int) + ((ps.length : Int) + (totW ps ps.length : Int))

end Go.Proofs.YtncgpfapepminaaDoor
/- What is small enough to be copied; a disk that lies in blocks of its own. -/
namespace Go.Proofs.YtncgpfapepminaaDoor
open Go.RowKit

theorem len_le_tot (xss : List (List Int)) (i : Nat) (h : i < xss.length) : (xss.getD i []).length ≤ tot xss xss.length := by
  have h1 := tot_succ xss i h
  have h2 := tot_le xss (i + 1) xss.length h
  omega
theorem len_le_totW (ps : List (Int × List Int)) (i : Nat) (h : i < ps.length) : (ps.getD i (0, [])).2.length ≤ totW ps ps.length := by
  have h1 := totW_succ ps i h
  have h2 := totW_le ps (i + 1) ps.length h
  omega

/-- What is small enough to be copied. -/
structure Small (xss : List (List Int)) (ps : List (Int × List Int)) : Prop where
  rows : xss.length ≤ 1048576
  row : ∀ i, i < xss.length → (xss.getD i []).length ≤ 1048576
  puts : ps.length ≤ 1048576
  put : ∀ i, i < ps.length → (ps.getD i (0, [])).2.length ≤ 1048576
  all : tot xss xss.length + totW ps ps.length ≤ 1048576

theorem Small.of {xss : List (List Int)} {ps : List (Int × List Int)} (h : szD xss ps ≤ 1048576) : Small xss ps := by
  unfold szD at h
  exact ⟨by omega, fun i hi => by have := len_le_tot xss i hi; omega, by omega, fun i hi => by have := len_le_totW ps i hi; omega, by omega⟩

theorem OwD.rdII {B : Nat} {w : World} {u v : Value} {xss : List (List Int)} {ps : List (Int × List Int)} (h : OwD B w u v xss ps) : RdII (fun b => B ≤ b ∧ b < w.heap.size) w u xss := by
  obtain ⟨S, T, h1, h2, h3, h4, h5⟩ := h
  exact (h4.mono h1).rd
theorem OwD.rdP {B : Nat} {w : World} {u v : Value} {xss : List (List Int)} {ps : List (Int × List Int)} (h : OwD B w u v xss ps) : RdP (fun b => B ≤ b ∧ b < w.heap.size) w v ps := by
  obtain ⟨S, T, h1, h2, h3, h4, h5⟩ := h
  exact (h5.mono h2).rd
theorem OwD.shape {B : Nat} {w : World} {u v : Value} {xss : List (List Int)} {ps : List (Int × List Int)} (h : OwD B w u v xss ps) : ∃ ao c ao' c', u = .slice ao xss.length c ∧ v = .slice ao' ps.length c' := by
  obtain ⟨S, T, h1, h2, h3, h4, h5⟩ := h
  obtain ⟨ao, c, rfl⟩ := h4.shape
  obtain ⟨ao', c', rfl⟩ := h5.shape
  exact ⟨_, _, _, _, rfl, rfl⟩
end Go.Proofs.YtncgpfapepminaaDoor
/- The walks of the laws' marking functions: what is marked holds one number behind the other, and nothing else is written. -/
namespace Go.Proofs.YtncgpfapepminaaDoor
open Go.RowKit

/-- What a loop that marks n cells of block b knows behind j rounds. -/
structure MarkAt (b off n : Nat) (k : Int) (w : World) (j : Nat) (wr : World) : Prop where
  done : ∀ i, i < j → wr.cell? ⟨b, off + i, none⟩ = some (.int .i64 (k + (i : Int)))
  there : ∀ i, i < n → ∃ x, wr.cell? ⟨b, off + i, none⟩ = some x
  free : ∀ o, wr.frozen? ⟨b, o, none⟩ = false
  wr : Wr (· = b) w wr

theorem MarkAt.step {b off n : Nat} {k : Int} {w wr : World} {j : Nat} (h : MarkAt b off n k w j wr) (hj : j < n) :
    MarkAt b off n k w (j + 1) (wr.setCell ⟨b, off + j, none⟩ (.int .i64 (k + (j : Int)))) := by
  obtain ⟨x, hx⟩ := h.there j hj
  refine ⟨fun i hi => ?_, fun i hi => ?_, fun o => by rw [World.frozen?_setCell]; exact h.free o, h.wr.setCell rfl _⟩
  · by_cases e : i = j
    · subst e; exact World.cell?_setCell_same _ _ _ hx
    · rw [World.cell?_setCell_other _ _ _ _ (by simp <;> omega)]; exact h.done i (by omega)
  · by_cases e : i = j
    · subst e; exact ⟨_, World.cell?_setCell_same _ _ _ hx⟩
    · rw [World.cell?_setCell_other _ _ _ _ (by simp <;> omega)]; exact h.there i hi

/-- What the loop that marks n rows knows behind j of them. -/
structure MarkAt2 (xss : List (List Int)) (b off : Nat) (V : Nat → Value) (B : Nat → Nat) (k : Int) (w : World) (j : Nat) (wr : World) : Prop where
  cell : ∀ i, i < xss.length → wr.cell? ⟨b, off + i, none⟩ = some (V i)
  done : ∀ i, i < j → i < xss.length → RdI (· = B i) wr (V i) (mkI (k + (tot xss i : Int)) (xss.getD i []).length)
  todo : ∀ i, j ≤ i → i < xss.length → RdI (· = B i) wr (V i) (xss.getD i [])
  free : ∀ i, i < xss.length → xss.getD i [] ≠ [] → B i ≠ b ∧ (∀ o, wr.frozen? ⟨B i, o, none⟩ = false) ∧ ∀ j, j < xss.length → xss.getD j [] ≠ [] → B j = B i → j = i
  wr : Wr (fun x => ∃ i, i < xss.length ∧ xss.getD i [] ≠ [] ∧ x = B i) w wr

theorem mkI_ne {k : Int} {n : Nat} : mkI k n ≠ [] ↔ n ≠ 0 := by
  rw [← List.length_pos_iff, mkI_len]; omega

theorem MarkAt2.step {xss : List (List Int)} {b off : Nat} {V : Nat → Value} {B : Nat → Nat} {k : Int} {w : World} {j : Nat} {wr w' : World}
    (h : MarkAt2 xss b off V B k w j wr) (hj : j < xss.length) (h1 : RdI (· = B j) w' (V j) (mkI (k + (tot xss j : Int)) (xss.getD j []).length)) (h2 : Wr (fun x => x = B j ∧ xss.getD j [] ≠ []) wr w') :
    MarkAt2 xss b off V B k w (j + 1) w' := by
  have other : ∀ i, i < xss.length → i ≠ j → ∀ {xs : List Int}, (xs ≠ [] → xss.getD i [] ≠ []) → RdI (· = B i) wr (V i) xs → RdI (· = B i) w' (V i) xs := by
    intro i hi hij xs hxs hr
    obtain ⟨ao, c, e1, e2, e3⟩ := hr
    refine ⟨ao, c, e1, e2, fun hne => ?_⟩
    obtain ⟨b', off', f1, f2, f3⟩ := e3 hne
    refine ⟨b', off', f1, f2, fun t ht => ?_⟩
    rw [h2.cell (World.block_lt_of_cell? _ _ (f3 t ht)) (by rintro ⟨e, hne'⟩; exact hij ((h.free j hj hne').2.2 i hi (hxs hne) (f2.symm.trans e)))]
    exact f3 t ht
  refine ⟨fun i hi => ?_, fun i hi hi' => ?_, fun i hi hi' => other i hi' (by omega) id (h.todo i (by omega) hi'), fun i hi hne => ?_, h.wr.trans (h2.mono ?_)⟩
  · rw [h2.cell (World.block_lt_of_cell? _ _ (h.cell i hi)) (by rintro ⟨e, hne'⟩; exact (h.free j hj hne').1 e.symm)]
    exact h.cell i hi
  · by_cases e : i = j
    · subst e; exact h1
    · exact other i hi' e (fun hne => by rw [mkI_ne] at hne; intro e0; rw [e0] at hne; exact hne rfl) (h.done i (by omega) hi')
  · obtain ⟨f1, f2, f3⟩ := h.free i hi hne
    refine ⟨f1, fun o => ?_, f3⟩
    have hlt : B i < wr.heap.size := by
      by_cases e : i < j
      · obtain ⟨b', hb, hl⟩ := (h.done i e hi).lt (mkI_ne.2 (fun e0 => hne (List.eq_nil_of_length_eq_zero e0)))
        exact hb ▸ hl
      · obtain ⟨b', hb, hl⟩ := (h.todo i (by omega) hi).lt hne
        exact hb ▸ hl
    rw [h2.frz _ _ hlt]; exact f2 o
  · rintro x ⟨rfl, hne⟩; exact ⟨j, hj, hne, rfl⟩

/-- What the loop that marks n puts knows behind j of them. -/
structure MarkAt3 (ps : List (Int × List Int)) (b off : Nat) (V : Nat → Value) (B : Nat → Nat) (k : Int) (w : World) (j : Nat) (wr : World) : Prop where
  cell : ∀ i, i < ps.length → wr.cell? ⟨b, off + i * 2 + 1, none⟩ = some (V i)
  there : ∀ i, i < ps.length → ∃ x, wr.cell? ⟨b, off + i * 2, none⟩ = some x
  num : ∀ i, i < j → i < ps.length → wr.cell? ⟨b, off + i * 2, none⟩ = some (.int .i64 (k + (totP ps i : Int)))
  done : ∀ i, i < j → i < ps.length → RdI (· = B i) wr (V i) (mkI (k + (totP ps i : Int) + 1) (ps.getD i (0, [])).2.length)
  todo : ∀ i, j ≤ i → i < ps.length → RdI (· = B i) wr (V i) (ps.getD i (0, [])).2
  own : ∀ o, wr.frozen? ⟨b, o, none⟩ = false
  free : ∀ i, i < ps.length → (ps.getD i (0, [])).2 ≠ [] → B i ≠ b ∧ (∀ o, wr.frozen? ⟨B i, o, none⟩ = false) ∧ ∀ j, j < ps.length → (ps.getD j (0, [])).2 ≠ [] → B j = B i → j = i
  wr : Wr (fun x => x = b ∨ ∃ i, i < ps.length ∧ (ps.getD i (0, [])).2 ≠ [] ∧ x = B i) w wr

theorem RdI.setOther {b b' o : Nat} {w : World} {v u : Value} {xs : List Int} (h : RdI (· = b) w v xs) (hne : xs ≠ [] → b ≠ b') : RdI (· = b) (w.setCell ⟨b', o, none⟩ u) v xs := by
  obtain ⟨ao, c, e1, e2, e3⟩ := h
  refine ⟨ao, c, e1, e2, fun hn => ?_⟩
  obtain ⟨b1, off', f1, f2, f3⟩ := e3 hn
  refine ⟨b1, off', f1, f2, fun t ht => ?_⟩
  rw [World.cell?_setCell_other _ _ _ _ (by intro e; exact hne hn (f2.symm.trans (congrArg Addr.block e).symm))]
  exact f3 t ht

theorem MarkAt3.mid {ps : List (Int × List Int)} {b off : Nat} {V : Nat → Value} {B : Nat → Nat} {k : Int} {w : World} {j : Nat} {wr : World} (h : MarkAt3 ps b off V B k w j wr) (hj : j < ps.length) (u : Value) :
    RdI (· = B j) (wr.setCell ⟨b, off + j * 2, none⟩ u) (V j) (ps.getD j (0, [])).2 ∧ ((ps.getD j (0, [])).2 ≠ [] → ∀ o, (wr.setCell ⟨b, off + j * 2, none⟩ u).frozen? ⟨B j, o, none⟩ = false) :=
  ⟨(h.todo j (Nat.le_refl _) hj).setOther fun hn => (h.free j hj hn).1, fun hn o => by rw [World.frozen?_setCell]; exact (h.free j hj hn).2.1 o⟩

theorem MarkAt3.step {ps : List (Int × List Int)} {b off : Nat} {V : Nat → Value} {B : Nat → Nat} {k : Int} {w : World} {j : Nat} {wr w' : World}
    (h : MarkAt3 ps b off V B k w j wr) (hj : j < ps.length) (h1 : RdI (· = B j) w' (V j) (mkI (k + (totP ps j : Int) + 1) (ps.getD j (0, [])).2.length))
    (h2 : Wr (fun x => x = B j ∧ (ps.getD j (0, [])).2 ≠ []) (wr.setCell ⟨b, off + j * 2, none⟩ (.int .i64 (k + (totP ps j : Int)))) w') :
    MarkAt3 ps b off V B k w (j + 1) w' := by
  have keepb : ∀ o v, (wr.setCell ⟨b, off + j * 2, none⟩ (.int .i64 (k + (totP ps j : Int)))).cell? ⟨b, o, none⟩ = some v → w'.cell? ⟨b, o, none⟩ = some v := by
    intro o v hv
    rw [h2.cell (World.block_lt_of_cell? _ _ hv) (by rintro ⟨e, hne'⟩; exact (h.free j hj hne').1 e.symm)]
    exact hv
  have setb : ∀ o v, o ≠ off + j * 2 → wr.cell? ⟨b, o, none⟩ = some v → w'.cell? ⟨b, o, none⟩ = some v := by
    intro o v ho hv
    exact keepb o v (by rw [World.cell?_setCell_other _ _ _ _ (by intro e; exact ho (congrArg Addr.off e).symm)]; exact hv)
  have seta : w'.cell? ⟨b, off + j * 2, none⟩ = some (.int .i64 (k + (totP ps j : Int))) := by
    obtain ⟨x, hx⟩ := h.there j hj
    exact keepb _ _ (World.cell?_setCell_same _ _ _ hx)
  have other : ∀ i, i < ps.length → i ≠ j → ∀ {xs : List Int}, (xs ≠ [] → (ps.getD i (0, [])).2 ≠ []) → RdI (· = B i) wr (V i) xs → RdI (· = B i) w' (V i) xs := by
    intro i hi hij xs hxs hr
    obtain ⟨ao, c, e1, e2, e3⟩ := hr.setOther (o := off + j * 2) (u := .int .i64 (k + (totP ps j : Int))) (fun hn => (h.free i hi (hxs hn)).1)
    refine ⟨ao, c, e1, e2, fun hne => ?_⟩
    obtain ⟨b', off', f1, f2, f3⟩ := e3 hne
    refine ⟨b', off', f1, f2, fun t ht => ?_⟩
    rw [h2.cell (World.block_lt_of_cell? _ _ (f3 t ht)) (by rintro ⟨e, hne'⟩; exact hij ((h.free j hj hne').2.2 i hi (hxs hne) (f2.symm.trans e)))]
    exact f3 t ht
  have hsz : (wr.setCell ⟨b, off + j * 2, none⟩ (.int .i64 (k + (totP ps j : Int)))).heap.size = wr.heap.size := by simp
  refine ⟨fun i hi => setb _ _ (by omega) (h.cell i hi), fun i hi => ?_, fun i hi hi' => ?_, fun i hi hi' => ?_, fun i hi hi' => other i hi' (by omega) id (h.todo i (by omega) hi'), fun o => ?_, fun i hi hne => ?_, ?_⟩
  · by_cases e : i = j
    · subst e; exact ⟨_, seta⟩
    · obtain ⟨x, hx⟩ := h.there i hi
      exact ⟨x, setb _ _ (by omega) hx⟩
  · by_cases e : i = j
    · subst e; exact seta
    · exact setb _ _ (by omega) (h.num i (by omega) hi')
  · by_cases e : i = j
    · subst e; exact h1
    · exact other i hi' e (fun hne => by rw [mkI_ne] at hne; intro e0; rw [e0] at hne; exact hne rfl) (h.done i (by omega) hi')
  · obtain ⟨x, hx⟩ := h.there j hj
    rw [h2.frz _ _ (by rw [hsz]; exact World.block_lt_of_cell? _ _ hx), World.frozen?_setCell]; exact h.own o
  · obtain ⟨f1, f2, f3⟩ := h.free i hi hne
    refine ⟨f1, fun o => ?_, f3⟩
    have hlt : B i < wr.heap.size := by
      by_cases e : i < j
      · obtain ⟨b', hb, hl⟩ := (h.done i e hi).lt (mkI_ne.2 (fun e0 => hne (List.eq_nil_of_length_eq_zero e0)))
        exact hb ▸ hl
      · obtain ⟨b', hb, hl⟩ := (h.todo i (by omega) hi).lt hne
        exact hb ▸ hl
    rw [h2.frz _ _ (by rw [hsz]; exact hlt), World.frozen?_setCell]; exact f2 o
  · exact (h.wr.setCell (p := ⟨b, off + j * 2, none⟩) (Or.inl rfl) _).trans (h2.mono fun x ⟨e, hne⟩ => Or.inr ⟨j, hj, hne, e⟩)

end Go.Proofs.YtncgpfapepminaaDoor
/- The walks of the laws' functions that ask whether marks still stand. -/
namespace Go.Proofs.YtncgpfapepminaaDoor
open Go.RowKit
end Go.Proofs.YtncgpfapepminaaDoor
