/- Cont Mp2 in one text: what each says stands at its head below. -/
import Derived.Test.YtiommfabhchgdaaG08
import Derived.Test.YtiommfabhchgdaaG29
import Derived.Test.YtiommfabhchgdaaG14
import Derived.Deep.AppendLies
/- slices.Index, slices.Contains over numbers, walked. -/
namespace Go.Proofs.Ytiommfabhchgdaa
open Go.RowKit

set_option maxHeartbeats 1000000 in
set_option maxRecDepth 4000 in
theorem indexI {S : Nat → Prop} {w : World} {u : Value} {xs : List Int} (x : Int) (hu : RdI S w u xs) :
    Calls Try.prog 116 #[u, .int .i64 x] w fun e w' => w' = w ∧ ((e = .returned (.int .i64 (-1)) ∧ x ∉ xs) ∨ ∃ i : Nat, e = .returned (.int .i64 (i : Int)) ∧ x ∈ xs) := by
  have hml : xs.length ≤ 9223372036854775807 := by obtain ⟨_, _, _, h, _⟩ := hu; exact h
  obtain ⟨au, cu, rfl⟩ := hu.shape
  have HU := hide hu
  obtain ⟨n, hn⟩ : ∃ n, xs.length = n := ⟨_, rfl⟩
  have HN := hide hn
  rw [hn] at HU hml ⊢
  clear hu hn
  go_enter Try.func116, Try.ntmps116
  go_wp2
  go_loopw [8] (fun i wr => ∃ k : Nat, k ≤ n ∧ i = .int .i64 (k : Int) ∧ Hid (∀ j, j < k → xs.getD j 0 ≠ x) ∧ wr = w) (fun i _ => n - (RowKit.intOf i).toNat)
  case atStart => exact ⟨0, Nat.zero_le _, rfl, fun j hj => absurd hj (Nat.not_lt_zero _), rfl⟩
  case round =>
    obtain ⟨k, hk, rfl, HA, rfl⟩ := hrel
    by_cases hlt : k < n
    · obtain ⟨b, off, rfl, q1⟩ := HU.out.at (k := k) (by rw [HN.out]; exact hlt)
      obtain ⟨y, hy⟩ : ∃ y, xs.getD k 0 = y := ⟨_, rfl⟩
      rw [hy] at q1
      have HY := hide hy
      have hk0 : (0 : Int) ≤ (k : Int) := by omega
      have hk1 : (k : Int) < (n : Int) := by omega
      clear hy
      by_cases hxy : x = y
      · subst hxy
        have HIn : Hid (x ∈ xs) := by
          rw [Hid, ← HY.out]
          simp [List.getD, show k < xs.length by rw [HN.out]; exact hlt]
        go_wp2
        go_ret
        exact ⟨rfl, Or.inr ⟨k, rfl, HIn.out⟩⟩
      · have HA' : Hid (∀ j, j < k + 1 → xs.getD j 0 ≠ x) := fun j hj => by
          by_cases e : j = k
          · subst e; rw [HY.out]; exact fun e => hxy e.symm
          · exact HA.out j (by omega)
        have hxb : (x == y) = false := by simpa using hxy
        go_wp2
        go_roundw
        case rel => exact ⟨k + 1, hlt, by go_num, HA'.out, by first | rfl | trivial⟩
        case measure => simp [RowKit.intOf]; omega
    · have hkn : k = n := by omega
      subst hkn
      have HNo : Hid (x ∉ xs) := fun h => by
        obtain ⟨j, hj⟩ := List.mem_iff_getElem?.1 h
        have hl := (List.getElem?_eq_some_iff.1 hj).1
        exact HA.out j (by rw [HN.out] at hl; exact hl) (by simp [List.getD, hj])
      go_wp2
      go_ret
      exact ⟨rfl, Or.inl ⟨rfl, HNo.out⟩⟩
theorem containsI {S : Nat → Prop} {w : World} {u : Value} {xs : List Int} (x : Int) (hu : RdI S w u xs) :
    Calls Try.prog 109 #[u, .int .i64 x] w fun e w' => w' = w ∧ e = .returned (.bool (decide (x ∈ xs))) := by
  have HI := hide (indexI x hu)
  obtain ⟨au, cu, rfl⟩ := hu.shape
  clear hu
  go_enter Try.func109, Try.ntmps109
  go_wp2_with fail
  refine HI.out.mono ?_
  rintro e w' ⟨hw, h⟩
  have hw := hw.symm
  subst hw
  rcases h with ⟨rfl, h⟩ | ⟨i, rfl, h⟩
  · go_wp2
    go_ret
    exact ⟨rfl, by simp [h]⟩
  · have h0 : (0 : Int) ≤ (i : Int) := by omega
    go_wp2
    go_ret
    exact ⟨rfl, by simp [h]⟩
end Go.Proofs.Ytiommfabhchgdaa
/- Chapter 7: which blocks are taken is a closure; the blocks that it tells, rising. -/
namespace Go.Proofs.Ytiommfabhchgdaa
open Go.RowKit

/-- The blocks that a map can have. -/
def allB : List Int := [3, 4, 5, 6, 7, 8, 9, 10, 11, 12, 13, 14, 15, 16, 17, 18, 19, 20, 21, 22]
def blkTo (p : Int → Bool) (i : Nat) : List Int := (allB.take i).filter p
def blk (p : Int → Bool) : List Int := allB.filter p
theorem blkTo_all (p : Int → Bool) : blkTo p 20 = blk p := by unfold blkTo blk; rw [List.take_of_length_le (by decide)]
theorem allB_at : ∀ i : Nat, i < 20 → allB[i]? = some (3 + (i : Int)) := by decide
theorem blkTo_succ (p : Int → Bool) {i : Nat} (h : i < 20) : blkTo p (i + 1) = blkTo p i ++ if p (3 + (i : Int)) then [3 + (i : Int)] else [] := by
  unfold blkTo
  rw [List.take_add_one, allB_at i h, List.filter_append]
  by_cases hp : p (3 + (i : Int)) = true
  · simp [hp]
  · simp [hp]
theorem blkTo_len (p : Int → Bool) (i : Nat) : (blkTo p i).length ≤ i := by
  unfold blkTo
  refine Nat.le_trans (List.length_filter_le _ _) ?_
  rw [List.length_take]; omega
/-- A function value that answers p of a block. -/
def Fp (w : World) (f : Value) (p : Int → Bool) : Prop :=
  ∃ (N : Nat) (caps : Array Value), f = .func (.func N) #[] caps ∧ (∀ args w', Sem.run Try.prog (callFunc N args) w' = .ok (.enter N args) w') ∧ ∀ w', Below w.heap.size w w' → ∀ x : Int, 3 ≤ x → x ≤ 22 → Calls Try.prog N (#[.int .i64 x] ++ caps) w' fun e w'' => e = .returned (.bool (p x)) ∧ Below w'.heap.size w' w''
theorem Fp.later {w w' : World} {f : Value} {p : Int → Bool} (h : Fp w f p) (hb : Below w.heap.size w w') : Fp w' f p := by
  obtain ⟨N, caps, e, hn, h⟩ := h
  exact ⟨N, caps, e, hn, fun w'' h' => h w'' (below_on hb h')⟩

set_option maxHeartbeats 1000000 in
set_option maxRecDepth 4000 in
theorem blocksOf {w : World} {f : Value} {p : Int → Bool} (hf : Fp w f p) :
    Calls Try.prog 94 #[f] w fun e w' => ∃ z, e = .returned z ∧ Below w.heap.size w w' ∧ w'.ownsRow w.heap.size 2 1 z (blk p).length ((blk p).map (Value.int .i64)) := by
  obtain ⟨N, caps, rfl, hcf, hc⟩ := hf
  have HC := hide hc
  clear hc
  obtain ⟨i0, hi, hz0, hz1, hz2⟩ := info_parts Try.infoInt
  go_enter Try.func94, Try.ntmps94
  go_wp2
  go_loopw [3, 5] (fun v i wr => ∃ (k j : Nat), k ≤ 20 ∧ i = .int .i64 k ∧ Hid ((blkTo p k).length = j) ∧ Hid (wr.ownsRow w.heap.size 2 1 v j ((blkTo p k).map (Value.int .i64))) ∧ Hid (Below w.heap.size w wr)) (fun _ i _ => 20 - (RowKit.intOf i).toNat)
  case atStart => exact ⟨0, 0, by omega, rfl, rfl, ⟨rfl, .inl ⟨rfl, rfl⟩⟩, Below.refl _ _⟩
  case round =>
    obtain ⟨k, j, hk, rfl, HJ, HRow, HB⟩ := hrel
    by_cases hlt : k < 20
    · have hlti : (k : Int) < 20 := by omega
      have HSn := hide (blkTo_succ p hlt)
      have hjk : j ≤ 20 := by have := blkTo_len p k; rw [HJ.out] at this; omega
      have HRd := hide (HC.out _ HB.out (3 + (k : Int)) (by omega) (by omega))
      obtain ⟨P, hP⟩ : ∃ P, blkTo p k = P := ⟨_, rfl⟩
      rw [hP] at HJ HRow HSn
      obtain ⟨B, hB⟩ : ∃ B, p (3 + (k : Int)) = B := ⟨_, rfl⟩
      rw [hB] at HRd HSn
      clear hP hB
      cases B with
      | true =>
        rw [if_pos rfl] at HSn
        go_wp2_with fail
        refine HRd.out.mono ?_
        rintro e w1 ⟨rfl, hb⟩
        have HB1 := hide (below_on HB.out hb)
        have HRow1 := hide (ownsRow_later HRow.out hb)
        have hzz := HB1.out.size
        clear hb
        go_wp2_with (at_builtin; refine wpList_append_lies _ rfl _ _ _ rfl w.heap.size 2 i0 (.int .i64 0) 1 8 Try.underlying22 hi hz0 hz1 hz2 rfl (by omega) _ j _ (by rfl) (HRow1.out.alloc (.cells #[.int .i64 (3 + (k : Int))] 2)) ⟨w1.heap.size, 0, none⟩ 1 1 [.int .i64 (3 + (k : Int))] (by rfl) (by rfl) (World.news_of_block (cs := #[.int .i64 (3 + (k : Int))]) (t := 2) (fr := (0, 0)) (heap_alloc_new w1 _)) (by simp [Value.oneCell']) (by omega) (by unfold maxLen; omega) (by omega) (by simp; omega) (w1.heap.size + 1) (by simp) ?_; intro g cap w4 hown3 hgrow hat hlt3)
        have HRow4 : Hid (w4.ownsRow w.heap.size 2 1 (.slice (some ⟨g, 0, none⟩) (j + 1) cap) (j + 1) ((blkTo p (k + 1)).map (Value.int .i64))) := by
          rw [Hid, HSn.out]
          simpa using hown3
        have HB4 := hide ((below_on HB1.out (below_alloc w1 (.cells #[.int .i64 (3 + (k : Int))] 2))).grown hgrow (by simp; omega) (fun r hr => (HRow1.out.lt r hr).1))
        have HJ4 : Hid ((blkTo p (k + 1)).length = j + 1) := by rw [Hid, HSn.out, List.length_append, HJ.out]; rfl
        clear hown3 hgrow hat hlt3
        go_wp2
        go_roundw
        case rel => exact ⟨k + 1, j + 1, by omega, by go_num, HJ4.out, HRow4.out, HB4.out⟩
        case measure => simp [RowKit.intOf]; omega
      | false =>
        rw [if_neg (by simp), List.append_nil] at HSn
        go_wp2_with fail
        refine HRd.out.mono ?_
        rintro e w1 ⟨rfl, hb⟩
        have HB1 := hide (below_on HB.out hb)
        have HRow1 : Hid (w1.ownsRow w.heap.size 2 1 u3 j ((blkTo p (k + 1)).map (Value.int .i64))) := by
          rw [Hid, HSn.out]
          exact ownsRow_later HRow.out hb
        have HJ4 : Hid ((blkTo p (k + 1)).length = j) := by rw [Hid, HSn.out, HJ.out]
        clear hb
        go_wp2
        go_roundw
        case rel => exact ⟨k + 1, j, by omega, by go_num, HJ4.out, HRow1.out, HB1.out⟩
        case measure => simp [RowKit.intOf]; omega
    · have hk20 : k = 20 := by omega
      subst hk20
      have HF : Hid (wr.ownsRow w.heap.size 2 1 u3 (blk p).length ((blk p).map (Value.int .i64))) := by
        rw [Hid, ← blkTo_all, HJ.out]
        exact HRow.out
      go_wp2
      go_ret
      exact ⟨_, rfl, HB.out, HF.out⟩

theorem owns_shapeM {w : World} {B e s : Nat} {v : Value} {n : Nat} {xs : List Value} (h : w.ownsRow B e s v n xs) : ∃ ao c, v = .slice ao n c := by
  rcases h.2 with ⟨rfl, rfl⟩ | ⟨g, cap, cur, rfl, _⟩
  · exact ⟨_, _, rfl⟩
  · exact ⟨_, _, rfl⟩
theorem enter_of {f : FuncId} {fn : Func} (hf : Try.prog.funcs[f]? = some fn) (hn : (fn.name == "runtime.NumGoroutine") = false) (hb : fn.body.isNone = false) (args : Array Value) (w : World) : Sem.run Try.prog (callFunc f args) w = .ok (.enter f args) w := by
  have h1 : fn.name ≠ "runtime.NumGoroutine" := by simpa using hn
  have h2 : fn.body ≠ none := by intro h; rw [h] at hb; cases hb
  simp [callFunc, hf, h1, h2]
/-- 'takenIn$1': whether a block is in the list. -/
theorem takenIn1 {S : Nat → Prop} {w : World} {u : Value} {xs : List Int} {b : Nat} (x : Int) (hc : w.cell? ⟨b, 0, none⟩ = some u) (hu : RdI S w u xs) :
    Calls Try.prog 108 #[.int .i64 x, .pointer (some ⟨b, 0, none⟩)] w fun e w' => w' = w ∧ e = .returned (.bool (decide (x ∈ xs))) := by
  obtain ⟨ao, c, rfl⟩ := hu.shape
  have HU := hide hu
  clear hu
  go_enter Try.func108, Try.ntmps108
  go_wp2_with fail
  refine (containsI x HU.out).mono ?_
  rintro e w' ⟨hw, rfl⟩
  have hw := hw.symm
  subst hw
  go_wp2
  go_ret
  exact ⟨rfl, rfl⟩
/-- What 'takenIn' leaves: a function value with its list in a cell. -/
def TkIn (w : World) (f : Value) (xs : List Int) : Prop := ∃ (b : Nat) (u : Value) (S : Nat → Prop), f = .func (.func 108) #[] #[.pointer (some ⟨b, 0, none⟩)] ∧ w.cell? ⟨b, 0, none⟩ = some u ∧ RdI S w u xs
theorem TkIn.later {w w' : World} {f : Value} {xs : List Int} (h : TkIn w f xs) (hb : Below w.heap.size w w') : TkIn w' f xs := by
  obtain ⟨b, u, S, e, h1, h2⟩ := h
  exact ⟨b, u, S, e, cell_later hb h1, h2.later hb⟩
theorem TkIn.fp {w : World} {f : Value} {xs : List Int} (h : TkIn w f xs) : Fp w f (fun x => decide (x ∈ xs)) := by
  obtain ⟨b, u, S, e, h1, h2⟩ := h
  refine ⟨_, _, e, fun args w' => ?_, fun w' hb x _ _ => ?_⟩
  · exact enter_of Try.func108 (by kernel_rfl) (by kernel_rfl) args w'
  · exact (takenIn1 x (cell_later hb h1) (h2.later hb)).mono fun e w'' ⟨hw, he⟩ => ⟨he, hw ▸ Below.refl _ _⟩
theorem takenIn {S : Nat → Prop} {w : World} {u : Value} {xs : List Int} (hu : RdI S w u xs) :
    Calls Try.prog 93 #[u] w fun e w' => ∃ f, e = .returned f ∧ Below w.heap.size w w' ∧ TkIn w' f xs := by
  obtain ⟨ao, c, rfl⟩ := hu.shape
  have HU := hide hu
  clear hu
  have hmf : ∀ (fn : Fn) (first cap : Array Value) (w : World), (Instr.makeFunc fn first cap).run Try.prog w = .ok (.func fn first cap) w := fun _ _ _ _ => rfl
  go_enter Try.func93, Try.ntmps93
  go_wp2
  go_ret
  exact ⟨_, rfl, below_alloc _ _, _, _, _, rfl, by simp [go_sem], HU.out.later (below_alloc _ _)⟩
end Go.Proofs.Ytiommfabhchgdaa
