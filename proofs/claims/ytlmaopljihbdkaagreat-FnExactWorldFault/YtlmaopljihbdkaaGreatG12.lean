/- Mp2 Mp3 Mp4 Built2 Ret in one text: what each says stands at its head below. -/
import Derived.Test.YtlmaopljihbdkaaGreatG11
import Derived.Test.YtlmaopljihbdkaaGreatG06
import Derived.Deep.AppendLies
import Derived.Deep.RegionLaw
namespace Go.Proofs.YtlmaopljihbdkaaGreat
open Go.RowKit
def allB : List Int := [3, 4, 5, 6, 7, 8, 9, 10, 11, 12, 13, 14, 15, 16, 17, 18, 19, 20, 21, 22]
def blkTo (p : Int → Bool) (i : Nat) : List Int := (allB.take i).filter p
def blk (p : Int → Bool) : List Int := allB.filter p
theorem blkTo_all (p : Int → Bool) : blkTo p 20 = blk p := by unfold blkTo blk; rw [List.take_of_length_le (by decide)]
theorem allB_at : ∀ i : Nat, i < 20 → allB[i]? = some (3 + (i : Int)) := by decide
theorem blkTo_succ (p : Int → Bool) {i : Nat} (h : i < 20) : blkTo p (i + 1) = blkTo p i ++ if p (3 + (i : Int)) then [3 + (i : Int)] else [] := by
  unfold blkTo
  rw [List.take_add_one, allB_at i h, List.filter_append]
  by_cases hp : p (3 + (i : Int)) = true
  · simp [hp]
  · simp [hp]
theorem blkTo_len (p : Int → Bool) (i : Nat) : (blkTo p i).length ≤ i := by
  unfold blkTo
  refine Nat.le_trans (List.length_filter_le _ _) ?_
  rw [List.length_take]; omega
def Fp (w : World) (f : Value) (p : Int → Bool) : Prop :=
  ∃ (N : Nat) (caps : Array Value), f = .func (.func N) #[] caps ∧ (∀ args w', Sem.run Tryz.prog (callFunc N args) w' = .ok (.enter N args) w') ∧ ∀ w', Below w.heap.size w w' → ∀ x : Int, 3 ≤ x → x ≤ 22 → Calls Tryz.prog N (#[.int .i64 x] ++ caps) w' fun e w'' => e = .returned (.bool (p x)) ∧ Below w'.heap.size w' w''
theorem Fp.later {w w' : World} {f : Value} {p : Int → Bool} (h : Fp w f p) (hb : Below w.heap.size w w') : Fp w' f p := by
  obtain ⟨N, caps, e, hn, h⟩ := h
  exact ⟨N, caps, e, hn, fun w'' h' => h w'' (below_on hb h')⟩
set_option maxHeartbeats 1000000 in
set_option maxRecDepth 4000 in
theorem blocksOf {w : World} {f : Value} {p : Int → Bool} (hf : Fp w f p) :
    Calls Tryz.prog 194 #[f] w fun e w' => ∃ z, e = .returned z ∧ Below w.heap.size w w' ∧ w'.ownsRow w.heap.size 2 1 z (blk p).length ((blk p).map (Value.int .i64)) := by
  obtain ⟨N, caps, rfl, hcf, hc⟩ := hf
  have HC := hide hc
  clear hc
  obtain ⟨i0, hi, hz0, hz1, hz2⟩ := info_parts Tryz.infoInt
  go_enter Tryz.func194, Tryz.ntmps194
  go_wp2
  go_loopw [3, 5] (fun v i wr => ∃ (k j : Nat), k ≤ 20 ∧ i = .int .i64 k ∧ Hid ((blkTo p k).length = j) ∧ Hid (wr.ownsRow w.heap.size 2 1 v j ((blkTo p k).map (Value.int .i64))) ∧ Hid (Below w.heap.size w wr)) (fun _ i _ => 20 - (RowKit.intOf i).toNat)
  case atStart => exact ⟨0, 0, by omega, rfl, rfl, ⟨rfl, .inl ⟨rfl, rfl⟩⟩, Below.refl _ _⟩
  case round =>
    obtain ⟨k, j, hk, rfl, HJ, HRow, HB⟩ := hrel
    by_cases hlt : k < 20
    · have hlti : (k : Int) < 20 := by omega
      have HSn := hide (blkTo_succ p hlt)
      have hjk : j ≤ 20 := by have := blkTo_len p k; rw [HJ.out] at this; omega
      have HRd := hide (HC.out _ HB.out (3 + (k : Int)) (by omega) (by omega))
      obtain ⟨P, hP⟩ : ∃ P, blkTo p k = P := ⟨_, rfl⟩
      rw [hP] at HJ HRow HSn
      obtain ⟨B, hB⟩ : ∃ B, p (3 + (k : Int)) = B := ⟨_, rfl⟩
      rw [hB] at HRd HSn
      clear hP hB
      cases B with
      | true =>
        rw [if_pos rfl] at HSn
        go_wp2_with fail
        refine HRd.out.mono ?_
        rintro e w1 ⟨rfl, hb⟩
        have HB1 := hide (below_on HB.out hb)
        have HRow1 := hide (ownsRow_later HRow.out hb)
        have hzz := HB1.out.size
        clear hb
        go_wp2_with (at_builtin; refine wpList_append_lies _ rfl _ _ _ rfl w.heap.size 2 i0 (.int .i64 0) 1 8 Tryz.underlying22 hi hz0 hz1 hz2 rfl (by omega) _ j _ (by rfl) (HRow1.out.alloc (.cells #[.int .i64 (3 + (k : Int))] 2)) ⟨w1.heap.size, 0, none⟩ 1 1 [.int .i64 (3 + (k : Int))] (by rfl) (by rfl) (World.news_of_block (cs := #[.int .i64 (3 + (k : Int))]) (t := 2) (fr := (0, 0)) (heap_alloc_new w1 _)) (by simp [Value.oneCell']) (by omega) (by unfold maxLen; omega) (by omega) (by simp; omega) (w1.heap.size + 1) (by simp) ?_; intro g cap w4 hown3 hgrow hat hlt3)
        have HRow4 : Hid (w4.ownsRow w.heap.size 2 1 (.slice (some ⟨g, 0, none⟩) (j + 1) cap) (j + 1) ((blkTo p (k + 1)).map (Value.int .i64))) := by
          rw [Hid, HSn.out]
          simpa using hown3
        have HB4 := hide ((below_on HB1.out (below_alloc w1 (.cells #[.int .i64 (3 + (k : Int))] 2))).grown hgrow (by simp; omega) (fun r hr => (HRow1.out.lt r hr).1))
        have HJ4 : Hid ((blkTo p (k + 1)).length = j + 1) := by rw [Hid, HSn.out, List.length_append, HJ.out]; rfl
        clear hown3 hgrow hat hlt3
        go_wp2
        go_roundw
        case rel => exact ⟨k + 1, j + 1, by omega, by go_num, HJ4.out, HRow4.out, HB4.out⟩
        case measure => simp [RowKit.intOf]; omega
      | false =>
        rw [if_neg (by simp), List.append_nil] at HSn
        go_wp2_with fail
        refine HRd.out.mono ?_
        rintro e w1 ⟨rfl, hb⟩
        have HB1 := hide (below_on HB.out hb)
        have HRow1 : Hid (w1.ownsRow w.heap.size 2 1 u3 j ((blkTo p (k + 1)).map (Value.int .i64))) := by
          rw [Hid, HSn.out]
          exact ownsRow_later HRow.out hb
        have HJ4 : Hid ((blkTo p (k + 1)).length = j) := by rw [Hid, HSn.out, HJ.out]
        clear hb
        go_wp2
        go_roundw
        case rel => exact ⟨k + 1, j, by omega, by go_num, HJ4.out, HRow1.out, HB1.out⟩
        case measure => simp [RowKit.intOf]; omega
    · have hk20 : k = 20 := by omega
      subst hk20
      have HF : Hid (wr.ownsRow w.heap.size 2 1 u3 (blk p).length ((blk p).map (Value.int .i64))) := by
        rw [Hid, ← blkTo_all, HJ.out]
        exact HRow.out
      go_wp2
      go_ret
      exact ⟨_, rfl, HB.out, HF.out⟩
theorem owns_shapeM {w : World} {B e s : Nat} {v : Value} {n : Nat} {xs : List Value} (h : w.ownsRow B e s v n xs) : ∃ ao c, v = .slice ao n c := by
  rcases h.2 with ⟨rfl, rfl⟩ | ⟨g, cap, cur, rfl, _⟩
  · exact ⟨_, _, rfl⟩
  · exact ⟨_, _, rfl⟩
theorem enter_of {f : FuncId} {fn : Func} (hf : Tryz.prog.funcs[f]? = some fn) (hn : (fn.name == "runtime.NumGoroutine") = false) (hb : fn.body.isNone = false) (args : Array Value) (w : World) : Sem.run Tryz.prog (callFunc f args) w = .ok (.enter f args) w := by
  have h1 : fn.name ≠ "runtime.NumGoroutine" := by simpa using hn
  have h2 : fn.body ≠ none := by intro h; rw [h] at hb; cases hb
  simp [callFunc, hf, h1, h2]
theorem takenIn1 {S : Nat → Prop} {w : World} {u : Value} {xs : List Int} {b : Nat} (x : Int) (hc : w.cell? ⟨b, 0, none⟩ = some u) (hu : RdI S w u xs) :
    Calls Tryz.prog 197 #[.int .i64 x, .pointer (some ⟨b, 0, none⟩)] w fun e w' => w' = w ∧ e = .returned (.bool (decide (x ∈ xs))) := by
  obtain ⟨ao, c, rfl⟩ := hu.shape
  have HU := hide hu
  clear hu
  go_enter Tryz.func197, Tryz.ntmps197
  go_wp2_with fail
  refine (containsI x HU.out).mono ?_
  rintro e w' ⟨hw, rfl⟩
  have hw := hw.symm
  subst hw
  go_wp2
  go_ret
  exact ⟨rfl, rfl⟩
def TkIn (w : World) (f : Value) (xs : List Int) : Prop := ∃ (b : Nat) (u : Value) (S : Nat → Prop), f = .func (.func 197) #[] #[.pointer (some ⟨b, 0, none⟩)] ∧ w.cell? ⟨b, 0, none⟩ = some u ∧ RdI S w u xs
theorem TkIn.later {w w' : World} {f : Value} {xs : List Int} (h : TkIn w f xs) (hb : Below w.heap.size w w') : TkIn w' f xs := by
  obtain ⟨b, u, S, e, h1, h2⟩ := h
  exact ⟨b, u, S, e, cell_later hb h1, h2.later hb⟩
theorem TkIn.fp {w : World} {f : Value} {xs : List Int} (h : TkIn w f xs) : Fp w f (fun x => decide (x ∈ xs)) := by
  obtain ⟨b, u, S, e, h1, h2⟩ := h
  refine ⟨_, _, e, fun args w' => ?_, fun w' hb x _ _ => ?_⟩
  · exact enter_of Tryz.func197 (by kernel_rfl) (by kernel_rfl) args w'
  · exact (takenIn1 x (cell_later hb h1) (h2.later hb)).mono fun e w'' ⟨hw, he⟩ => ⟨he, hw ▸ Below.refl _ _⟩
theorem takenIn {S : Nat → Prop} {w : World} {u : Value} {xs : List Int} (hu : RdI S w u xs) :
    Calls Tryz.prog 174 #[u] w fun e w' => ∃ f, e = .returned f ∧ Below w.heap.size w w' ∧ TkIn w' f xs := by
  obtain ⟨ao, c, rfl⟩ := hu.shape
  have HU := hide hu
  clear hu
  have hmf : ∀ (fn : Fn) (first cap : Array Value) (w : World), (Instr.makeFunc fn first cap).run Tryz.prog w = .ok (.func fn first cap) w := fun _ _ _ _ => rfl
  go_enter Tryz.func174, Tryz.ntmps174
  go_wp2
  go_ret
  exact ⟨_, rfl, below_alloc _ _, _, _, _, rfl, by simp [go_sem], HU.out.later (below_alloc _ _)⟩
end Go.Proofs.YtlmaopljihbdkaaGreat
namespace Go.Proofs.YtlmaopljihbdkaaGreat
open Go.RowKit
theorem ret_boolM {a b : Bool} (h : a = b) : Ending.returned (.bool a) = .returned (.bool b) := by rw [h]
set_option maxHeartbeats 1000000 in
set_option maxRecDepth 4000 in
theorem l7Among {S : Nat → Prop} {w : World} {u : Value} {xs : List Int} (x : Int) (hu : RdI S w u xs) :
    Calls Tryz.prog 158 #[u, .int .i64 x] w fun e w' => w' = w ∧ e = .returned (.bool (decide (x ∈ xs))) := by
  have hml := hu.max
  obtain ⟨au, cu, rfl⟩ := hu.shape
  have HU := hide hu
  obtain ⟨n, hn⟩ : ∃ n, xs.length = n := ⟨_, rfl⟩
  have HN := hide hn
  rw [hn] at HU hml ⊢
  clear hu hn
  obtain ⟨B, hB⟩ : ∃ B, decide (x ∈ xs) = B := ⟨_, rfl⟩
  rw [hB]
  have HB := hide hB
  clear hB
  go_enter Tryz.func158, Tryz.ntmps158
  go_wp2
  go_loopw [5] (fun i wr => ∃ k : Nat, k ≤ n ∧ i = .int .i64 (k : Int) ∧ Hid (∀ j, j < k → xs.getD j 0 ≠ x) ∧ wr = w) (fun i _ => n - (RowKit.intOf i).toNat)
  case atStart => exact ⟨0, Nat.zero_le _, rfl, fun j hj => absurd hj (Nat.not_lt_zero _), rfl⟩
  case round =>
    obtain ⟨k, hk, rfl, HA, rfl⟩ := hrel
    by_cases hlt : k < n
    · obtain ⟨b, off, rfl, q1⟩ := HU.out.at (k := k) (by rw [HN.out]; exact hlt)
      obtain ⟨y, hy⟩ : ∃ y, xs.getD k 0 = y := ⟨_, rfl⟩
      rw [hy] at q1
      have HY := hide hy
      have hk0 : (0 : Int) ≤ (k : Int) := by omega
      have hk1 : (k : Int) < (n : Int) := by omega
      clear hy
      by_cases hxy : y = x
      · subst hxy
        have HIn : Hid (true = B) := by
          rw [Hid, ← HB.out]
          refine (decide_eq_true ?_).symm
          rw [← HY.out]
          simp [List.getD, show k < xs.length by rw [HN.out]; exact hlt]
        go_wp2
        go_ret
        exact ⟨rfl, ret_boolM HIn.out⟩
      · have HA' : Hid (∀ j, j < k + 1 → xs.getD j 0 ≠ x) := fun j hj => by
          by_cases e : j = k
          · subst e; rw [HY.out]; exact hxy
          · exact HA.out j (by omega)
        have hxb : (y == x) = false := by simpa using hxy
        go_wp2
        go_roundw
        case rel => exact ⟨k + 1, hlt, by go_num, HA'.out, by first | rfl | trivial⟩
        case measure => simp [RowKit.intOf]; omega
    · have hkn : k = n := by omega
      subst hkn
      have HNo : Hid (false = B) := by
        rw [Hid, ← HB.out]
        refine (decide_eq_false fun h => ?_).symm
        obtain ⟨j, hj⟩ := List.mem_iff_getElem?.1 h
        have hl := (List.getElem?_eq_some_iff.1 hj).1
        exact HA.out j (by rw [HN.out] at hl; exact hl) (by simp [List.getD, hj])
      go_wp2
      go_ret
      exact ⟨rfl, ret_boolM HNo.out⟩
end Go.Proofs.YtlmaopljihbdkaaGreat
namespace Go.Proofs.YtlmaopljihbdkaaGreat
open Go.RowKit
def pkStep (s : Int × Int) (x : Int) : Int × Int := if x < 13 then (bits .or .i64 s.1 (2 ^ (x - 3).toNat), s.2) else (s.1, bits .or .i64 s.2 (2 ^ (x - 13).toNat))
def pk (xs : List Int) : Int × Int := xs.foldl pkStep (0, 0)
def pkL (xs : List Int) : List Int := [(pk xs).1, (pk xs).2]
theorem pk_snoc (xs : List Int) (k : Nat) (h : k < xs.length) : pk (xs.take (k + 1)) = pkStep (pk (xs.take k)) (xs.getD k 0) := by
  have e : xs.getD k 0 = xs[k] := by simp [List.getD, h]
  unfold pk
  rw [List.take_add_one, List.getElem?_eq_getElem h, List.foldl_append, e]
  rfl
theorem blk_at (p : Int → Bool) (k : Nat) (h : k < (blk p).length) : 3 ≤ (blk p).getD k 0 ∧ (blk p).getD k 0 ≤ 22 := by
  have hm : (blk p).getD k 0 ∈ blk p := by simp [List.getD, h]
  have := (List.mem_filter.1 hm).1
  revert this
  generalize (blk p).getD k 0 = x
  intro hx
  simp only [allB, List.mem_cons, List.not_mem_nil, or_false] at hx
  omega
theorem blk_len (p : Int → Bool) : (blk p).length ≤ 20 := by rw [← blkTo_all]; exact blkTo_len p 20
theorem shl_ok : ∀ y : Nat, y < 10 → IntKind.i64.wrap (2 ^ y) = 2 ^ y := by decide
set_option maxHeartbeats 1000000 in
set_option maxRecDepth 4000 in
theorem packedMap {w : World} {f : Value} {p : Int → Bool} (hf : Fp w f p) :
    Calls Tryz.prog 173 #[f] w fun e w' => ∃ z, e = .returned z ∧ Below w.heap.size w w' ∧ OwI w.heap.size w' z (pkL (blk p)) := by
  have HLn := hide (blk_len p)
  have HAt := hide (blk_at p)
  have HSn := hide (pk_snoc (blk p))
  have HF := hide (fun (w' : World) (hb : Below w.heap.size w w') => blocksOf (hf.later hb))
  obtain ⟨N, caps, rfl, _⟩ := hf
  generalize blk p = G at HLn HAt HSn HF ⊢
  obtain ⟨n, hn⟩ : ∃ n, G.length = n := ⟨_, rfl⟩
  have HN := hide hn
  rw [hn] at HLn HAt HSn
  simp only [hn] at HF
  clear hn
  have hn20 := HLn.out
  have hmk : ∀ w, (Instr.makeSlice 22 (.int .i64 2) (.int .i64 2)).run Tryz.prog w = .ok (.slice (some ⟨w.heap.size, 0, none⟩) 2 2) (w.alloc (.cells (madeCells #[.int .i64 0] 2) 2)) := run_make_row' (P := Tryz.prog) 22 2 (.int .i64 0) 8 Tryz.underlying22 Tryz.infoInt rfl .i64 .i64 2 (by omega) (by omega)
  go_enter Tryz.func173, Tryz.ntmps173
  go_wp2_with fail
  have bA := below_alloc w (.cells (madeCells #[.int .i64 0] 2) 2)
  refine (HF.out _ bA).mono ?_
  rintro e w1 ⟨z, rfl, hb, ho⟩
  obtain ⟨ao, c, rfl⟩ := owns_shapeM ho
  have HO : Hid (RdI (fun b => w.heap.size + 1 ≤ b ∧ b < w1.heap.size) w1 (.slice ao n c) G) := by unfold Hid; simpa using (ow_of_owns HN.out ho (by rw [HN.out]; omega)).rd
  have HB1 := hide (below_on bA hb)
  have C0 : Hid (w1.cell? ⟨w.heap.size, 0, none⟩ = some (.int .i64 0)) := cell_later hb (by simp [go_sem, madeCells])
  have C1 : Hid (w1.cell? ⟨w.heap.size, 1, none⟩ = some (.int .i64 0)) := cell_later hb (by simp [go_sem, madeCells])
  have CF : Hid (∀ o, w1.frozen? ⟨w.heap.size, o, none⟩ = false) := fun o => ((bcell hb).2 _ _ (by simp)).trans (by simp [go_sem])
  have hw1 : w.heap.size < w1.heap.size := World.block_lt_of_cell? _ _ C0.out
  clear hb ho bA HF
  go_wp2
  go_loopw [11] (fun i wr => ∃ (k : Nat) (a b : Int), k ≤ n ∧ i = .int .i64 k ∧ Hid (pk (G.take k) = (a, b)) ∧ Hid (Wr (· = w.heap.size) w1 wr) ∧ wr.cell? ⟨w.heap.size, 0, none⟩ = some (.int .i64 a) ∧ wr.cell? ⟨w.heap.size, 1, none⟩ = some (.int .i64 b)) (fun i _ => n - (RowKit.intOf i).toNat)
  case atStart => exact ⟨0, 0, 0, Nat.zero_le _, rfl, rfl, Wr.refl _ _, C0.out, C1.out⟩
  case round =>
    obtain ⟨k, a, b, hk, rfl, HPk, HW, g0, g1⟩ := hrel
    by_cases hlt : k < n
    · have HSk := hide (HSn.out k hlt)
      have hx := HAt.out k hlt
      obtain ⟨bb, off, rfl, q1⟩ := (HO.out.wr HW.out (fun _ b h => by show ¬ b = w.heap.size; omega)).at (k := k) (by rw [HN.out]; exact hlt)
      obtain ⟨x, hxe⟩ : ∃ x, G.getD k 0 = x := ⟨_, rfl⟩
      rw [hxe] at hx q1 HSk
      rw [HPk.out] at HSk
      clear hxe
      have F0 : wr.frozen? ⟨w.heap.size, 0, none⟩ = false := (HW.out.frz _ _ hw1).trans (CF.out 0)
      have F1 : wr.frozen? ⟨w.heap.size, 1, none⟩ = false := (HW.out.frz _ _ hw1).trans (CF.out 1)
      by_cases h13 : x < 13
      · obtain ⟨y, hy0⟩ : ∃ y : Nat, x - 3 = (y : Int) := ⟨(x - 3).toNat, by omega⟩
        have hy : y < 10 := by omega
        have hdiv : IntKind.i64.wrap (Int.tdiv (x - 3) 10) = 0 := by rw [Int.tdiv_eq_ediv_of_nonneg (by omega), show (x - 3) / 10 = 0 by omega]; decide
        have hmod : Int.tmod (x - 3) 10 = (y : Int) := by rw [Int.tmod_eq_emod_of_nonneg (by omega)]; omega
        have hshl : IntKind.i64.wrap (2 ^ y) = 2 ^ y := shl_ok y hy
        have HPk2 : Hid (pk (G.take (k + 1)) = (bits .or .i64 a (2 ^ y), b)) := by
          rw [Hid, HSk.out, pkStep, if_pos h13, hy0]; rfl
        clear hy0 HSk
        go_wp2_with fail
        go_region_law (fail)
        have HW2 : Hid (Wr (· = w.heap.size) w1 (wr.setCell ⟨w.heap.size, 0, none⟩ (.int .i64 (bits .or .i64 a (2 ^ y)))).drew) := (HW.out.setCell (p := ⟨w.heap.size, 0, none⟩) rfl _).drewN 1
        go_wp2
        go_roundw
        case rel => exact ⟨k + 1, _, _, by omega, by go_num, HPk2.out, HW2.out, World.cell?_setCell_same _ _ _ g0, (World.cell?_setCell_other _ _ _ _ (by simp)).trans g1⟩
        case measure => simp [RowKit.intOf]; omega
      · obtain ⟨y, hy0⟩ : ∃ y : Nat, x - 13 = (y : Int) := ⟨(x - 13).toNat, by omega⟩
        have hy : y < 10 := by omega
        have hdiv : IntKind.i64.wrap (Int.tdiv (x - 3) 10) = 1 := by rw [Int.tdiv_eq_ediv_of_nonneg (by omega), show (x - 3) / 10 = 1 by omega]; decide
        have hmod : Int.tmod (x - 3) 10 = (y : Int) := by rw [Int.tmod_eq_emod_of_nonneg (by omega)]; omega
        have hshl : IntKind.i64.wrap (2 ^ y) = 2 ^ y := shl_ok y hy
        have HPk2 : Hid (pk (G.take (k + 1)) = (a, bits .or .i64 b (2 ^ y))) := by
          rw [Hid, HSk.out, pkStep, if_neg h13, hy0]; rfl
        clear hy0 HSk
        go_wp2_with fail
        go_region_law (fail)
        have HW2 : Hid (Wr (· = w.heap.size) w1 (wr.setCell ⟨w.heap.size, 1, none⟩ (.int .i64 (bits .or .i64 b (2 ^ y)))).drew) := (HW.out.setCell (p := ⟨w.heap.size, 1, none⟩) rfl _).drewN 1
        go_wp2
        go_roundw
        case rel => exact ⟨k + 1, _, _, by omega, by go_num, HPk2.out, HW2.out, (World.cell?_setCell_other _ _ _ _ (by simp)).trans g0, World.cell?_setCell_same _ _ _ g1⟩
        case measure => simp [RowKit.intOf]; omega
    · have hkn : k = n := by omega
      subst hkn
      have hfin : G.take k = G := by rw [← HN.out]; simp
      rw [hfin] at HPk
      have HFin : Hid (Below w.heap.size w wr ∧ OwI w.heap.size wr (.slice (some ⟨w.heap.size, 0, none⟩) 2 2) (pkL G)) := by
        refine ⟨HB1.out.trans (HW.out.below (by omega) (fun b hb => by subst hb; exact Nat.le_refl _)), w.heap.size, ⟨_, 0, ?_, ?_, fun _ => ⟨w.heap.size, 0, rfl, rfl, fun i hi => ?_⟩⟩, fun _ => ⟨Nat.le_refl _, Nat.lt_of_lt_of_le hw1 HW.out.size, fun o => (HW.out.frz _ _ hw1).trans (CF.out o)⟩⟩
        · rfl
        · simp [pkL]
        · simp only [pkL, List.length_cons, List.length_nil] at hi
          unfold pkL
          rw [HPk.out]
          match i, hi with
          | 0, _ => exact g0
          | 1, _ => exact g1
      go_wp2
      go_ret
      exact ⟨_, rfl, HFin.out.1, HFin.out.2⟩
end Go.Proofs.YtlmaopljihbdkaaGreat
namespace Go.Proofs.YtlmaopljihbdkaaGreat
open Go.RowKit
def cellsP (ps : List (Int × List Int)) (k : Nat) (V : Nat → Value) : List Value :=
  (List.range (k * 2)).map fun t => if t % 2 = 0 then .int .i64 (ps.getD (t / 2) (0, [])).1 else V (t / 2)
theorem cellsP_len (ps : List (Int × List Int)) (k : Nat) (V : Nat → Value) : (cellsP ps k V).length = k * 2 := by simp [cellsP]
theorem cellsP_num (ps : List (Int × List Int)) (k : Nat) (V : Nat → Value) (i : Nat) (h : i < k) : (cellsP ps k V)[i * 2]? = some (.int .i64 (ps.getD i (0, [])).1) := by
  unfold cellsP
  rw [List.getElem?_map, List.getElem?_range (by omega)]
  simp only [Option.map_some]
  rw [if_pos (by omega), show i * 2 / 2 = i by omega]
theorem cellsP_words (ps : List (Int × List Int)) (k : Nat) (V : Nat → Value) (i : Nat) (h : i < k) : (cellsP ps k V)[i * 2 + 1]? = some (V i) := by
  unfold cellsP
  rw [List.getElem?_map, List.getElem?_range (by omega)]
  simp only [Option.map_some]
  rw [if_neg (by omega), show (i * 2 + 1) / 2 = i by omega]
theorem cellsP_succ (ps : List (Int × List Int)) (k : Nat) (V : Nat → Value) (z : Value) : cellsP ps (k + 1) (fun i => if i = k then z else V i) = cellsP ps k V ++ [.int .i64 (ps.getD k (0, [])).1, z] := by
  unfold cellsP
  rw [show (k + 1) * 2 = k * 2 + 1 + 1 by omega, List.range_succ, List.range_succ]
  simp only [List.map_append, List.append_assoc, List.map_cons, List.map_nil, List.singleton_append]
  congr 1
  · refine List.map_congr_left fun i hi => ?_
    have := List.mem_range.1 hi
    by_cases e : i % 2 = 0
    · rw [if_pos e, if_pos e]
    · rw [if_neg e, if_neg e, if_neg (by omega)]
  · rw [if_pos (by omega), if_neg (by omega), show k * 2 / 2 = k by omega, show (k * 2 + 1) / 2 = k by omega, if_pos rfl]
def BuiltP (P : Nat → Prop) (w : World) (v : Value) (k : Nat) (ps : List (Int × List Int)) : Prop :=
  ∃ V Bk, w.ownsRow 0 74 2 v k (cellsP ps k V) ∧ (∀ r, v.ownBlock = some r → P r) ∧ Inner P w v.ownBlock k V Bk (fun i => (ps.getD i (0, [])).2)
theorem BuiltP.nil (P : Nat → Prop) (w : World) (ps : List (Int × List Int)) : BuiltP P w (.slice none 0 0) 0 ps :=
  ⟨fun _ => .bool false, fun _ => 0, World.ownsRow_nil _ _ _ _, fun _ h => (by cases h), Inner.zero _ _ _ _ _ _⟩
theorem BuiltP.later {P : Nat → Prop} {w w' : World} {v : Value} {k : Nat} {ps : List (Int × List Int)} (h : BuiltP P w v k ps) (hb : Below w.heap.size w w') : BuiltP P w' v k ps := by
  obtain ⟨V, Bk, h1, h2, h3⟩ := h
  exact ⟨V, Bk, ownsRow_later h1 hb, h2, h3.later hb⟩
theorem BuiltP.mono {P P' : Nat → Prop} {w : World} {v : Value} {k : Nat} {ps : List (Int × List Int)} (h : BuiltP P w v k ps) (hP : ∀ b, P b → b < w.heap.size → P' b) : BuiltP P' w v k ps := by
  obtain ⟨V, Bk, h1, h2, h3⟩ := h
  exact ⟨V, Bk, h1, fun r hr => hP r (h2 r hr) (h1.lt r hr).2, h3.mono hP⟩
theorem BuiltP.step {P P' : Nat → Prop} {w w1 w2 w3 : World} {v z : Value} {k g cap : Nat} {V : Nat → Value} {Bk : Nat → Nat} {ps : List (Int × List Int)} (hi : Inner P w v.ownBlock k V Bk (fun i => (ps.getD i (0, [])).2)) (hr : w.ownsRow 0 74 2 v k (cellsP ps k V)) (hpr : ∀ r, v.ownBlock = some r → P r)
    (hP : ∀ b, P b → P' b) (hN : ∀ b, w.heap.size ≤ b → P' b) (hb1 : Below w.heap.size w w1) (hz : OwI w.heap.size w1 z (ps.getD k (0, [])).2) (hb2 : Below w1.heap.size w1 w2)
    (hown : w3.ownsRow 0 74 2 (.slice (some ⟨g, 0, none⟩) (k + 1) cap) (k + 1) (cellsP ps k V ++ [.int .i64 (ps.getD k (0, [])).1, z])) (hg : w2.grownBy w3 v.ownBlock) (hat : v.ownBlock = some g ∨ g = w2.heap.size) :
    BuiltP P' w3 (.slice (some ⟨g, 0, none⟩) (k + 1) cap) (k + 1) ps := by
  obtain ⟨Bk', h⟩ := hi.step hP hN (fun r hr' => (hr.lt r hr').2) hb1 hz hb2 hg hat
  refine ⟨_, Bk', by rw [cellsP_succ]; exact hown, fun r hr' => ?_, h⟩
  injection hr' with hr'
  subst hr'
  rcases hat with hat | hat
  · exact hP _ (hpr _ hat)
  · have h1 := hb1.size
    have h2 := hb2.size
    exact hN _ (by dsimp only; omega)
theorem BuiltP.ow {P : Nat → Prop} {w : World} {v : Value} {k : Nat} {ps : List (Int × List Int)} (h : BuiltP P w v k ps) (hk : ps.length = k) (hm : k ≤ 9223372036854775807) : OwP (fun b => P b ∧ b < w.heap.size) w v ps := by
  obtain ⟨V, Bk, h1, hpr, h2⟩ := h
  subst hk
  rcases h1.2 with ⟨rfl, e⟩ | ⟨g, cap, cur, rfl, hg, hh, _⟩
  · have : ps = [] := List.eq_nil_of_length_eq_zero e
    subst this
    exact OwP_nil _ _
  · refine ⟨_, cap, g, 0, V, Bk, rfl, hm, fun _ => ⟨rfl, ⟨hpr g rfl, (Array.getElem?_eq_some_iff.1 hh).1⟩, fun o => h1.frozenAt o⟩, fun i hi => ⟨?_, ?_, h2.rd i hi, fun hn => ?_⟩⟩
    · rw [Nat.zero_add, h1.cellAt (i * 2) (by omega)]
      exact cellsP_num _ _ _ _ hi
    · rw [Nat.zero_add, h1.cellAt (i * 2 + 1) (by omega)]
      exact cellsP_words _ _ _ _ hi
    · obtain ⟨k1, k2, k3, k4, k5⟩ := h2.own i hi hn
      exact ⟨⟨k1, k2⟩, fun e => k4 (by rw [e]; rfl), k3, k5⟩
theorem BuiltP.shape {P : Nat → Prop} {w : World} {v : Value} {k : Nat} {ps : List (Int × List Int)} (h : BuiltP P w v k ps) : ∃ ao c, v = .slice ao k c := by
  obtain ⟨V, Bk, h1, _⟩ := h
  rcases h1.2 with ⟨rfl, e⟩ | ⟨g, cap, cur, rfl, _⟩
  · exact ⟨none, 0, by rw [e]⟩
  · exact ⟨_, _, rfl⟩
theorem cells2_one {x : Int} {ao : Option Addr} {n c : Nat} : ∀ u ∈ ([.int .i64 x, .slice ao n c] : List Value), u.oneCell' = true := by
  intro u hu
  simp at hu
  rcases hu with rfl | rfl <;> rfl
end Go.Proofs.YtlmaopljihbdkaaGreat
namespace Go.Proofs.YtlmaopljihbdkaaGreat
open Go.RowKit
theorem ret_ints {w w3 : World} {B r : Nat} {z : Value} {xs : List Int} {x : Value} (hb : Below w.heap.size w w3) (hr : w.heap.size ≤ r) (ho : OwI B w3 z xs) (hB : r < B) :
    Below w.heap.size w ((w3.setCell ⟨r, 0, none⟩ x).setCell ⟨r, 1, none⟩ z) ∧ OwI w.heap.size ((w3.setCell ⟨r, 0, none⟩ x).setCell ⟨r, 1, none⟩ z) z xs := by
  have hw : Wr (fun y => y = r) w3 ((w3.setCell ⟨r, 0, none⟩ x).setCell ⟨r, 1, none⟩ z) := ((Wr.refl (fun y => y = r) _).setCell (p := ⟨r, 0, none⟩) rfl _).setCell (p := ⟨r, 1, none⟩) rfl _
  exact ⟨(hb.setCell (p := ⟨r, 0, none⟩) hr _).setCell (p := ⟨r, 1, none⟩) hr _, (ho.wr hw (fun b h1 _ e => by omega)).mono (by omega)⟩
end Go.Proofs.YtlmaopljihbdkaaGreat
