/- St1 View Apply ApplyM in one text: what each says stands at its head below. -/
import Derived.Test.YtlmaopljihbdkaaGreatG29
import Derived.Test.YtlmaopljihbdkaaGreatG22
import Derived.Test.YtlmaopljihbdkaaGreatG30
import Derived.Test.YtlmaopljihbdkaaGreatG15
import Derived.Test.YtlmaopljihbdkaaGreatG28
import Derived.Test.YtlmaopljihbdkaaGreatG14
import Derived.Test.YtlmaopljihbdkaaGreatG13
import Derived.Shelf.SortM.Plain
import Derived.Shelf.SortM.SortNone
import Derived.Deep.AppendLies
import Derived.Test.YtlmaopljihbdkaaGreatG23
/- Chapter 11: the blocks of a store, told one by one: of its directory, of its numbers, of its entries: the iterators' contracts. -/
namespace Go.Proofs.YtlmaopljihbdkaaGreat
open Go.RowKit Go.Shelf
attribute [local go_sem] Oper.semAt_some

def meP (r : Rf) : List (Int × List Int) := [(2, [r.tm, r.vt, r.si, r.st, (r.lg.length : Int)])]
def flP (r : Rf) : List (Int × List Int) := if sfL r = [] then [] else [(0, pmR (sbL r)), (1, pdR (sfL r))]
def enP (r : Rf) : List (Int × List Int) := r.lg.map fun p => (sfV p.1, peR p)

theorem Tryz.fldIs1 (x y : Value) (w : World) : (Instr.field 166 (.agg #[x, y]) 1).run Tryz.prog w = .ok y w := by
  simp [Instr.field, run_underlying Tryz.underlying166, asAgg, part, isAgg, run_underlying Tryz.underlying22]
theorem Tryz.fldIr1 (x y : Value) (w : World) : (Instr.field 142 (.agg #[x, y]) 1).run Tryz.prog w = .ok y w := by
  simp [Instr.field, run_underlying Tryz.underlying142, asAgg, part, isAgg, run_underlying Tryz.underlying2]

theorem ow_five {w : World} {a b c d e : Int} : OwI w.heap.size (w.alloc (.cells #[.int .i64 a, .int .i64 b, .int .i64 c, .int .i64 d, .int .i64 e] 2)) (.slice (some ⟨w.heap.size, 0, none⟩) 5 5) [a, b, c, d, e] := by
  refine ⟨w.heap.size, ⟨_, 0, rfl, by simp, fun _ => ⟨w.heap.size, 0, rfl, rfl, fun i hi => ?_⟩⟩, fun _ => ⟨Nat.le_refl _, by simp, fun o => by simp [go_sem]⟩⟩
  have : i < 5 := by simpa using hi
  rcases (by omega : i = 0 ∨ i = 1 ∨ i = 2 ∨ i = 3 ∨ i = 4) with rfl | rfl | rfl | rfl | rfl <;> simp [go_sem]

set_option maxRecDepth 100000 in
set_option maxHeartbeats 4000000 in
theorem metaSeq {w : World} {Bp : Nat} {az : Option Addr} {cz : Nat} (r : Rf) (v0 : w.cell? ⟨Bp, 0, none⟩ = some (.int .i64 r.tm)) (v1 : w.cell? ⟨Bp, 1, none⟩ = some (.int .i64 r.vt)) (v2 : w.cell? ⟨Bp, 2, none⟩ = some (.int .i64 r.si)) (v3 : w.cell? ⟨Bp, 3, none⟩ = some (.int .i64 r.st)) (v5 : w.cell? ⟨Bp, 5, none⟩ = some (.slice az r.lg.length cz)) (R : Nat → Prop) (m : Nat) :
    SeqG m Tryz.prog 132 #[.pointer (some ⟨Bp, 0, none⟩)] R (meP r) w := fun l J Jx D0 W hW _ hJ hJx _ _ hJb hY h0 => by
  have u0 := cell_later hW v0
  have u1 := cell_later hW v1
  have u2 := cell_later hW v2
  have u3 := cell_later hW v3
  have u5 := cell_later hW v5
  obtain ⟨fn, tmps, assign, body, hyy0, hR⟩ := hY D0 0 2 _ W _ h0 (below_alloc _ _) (by simp [meP]) (by simp [meP]) (by simpa [meP] using ow_five (w := W) (a := r.tm) (b := r.vt) (c := r.si) (d := r.st) (e := (r.lg.length : Int)))
  have hyy : (Instr.yield l #[.agg #[.int .i64 2, .slice (some ⟨W.heap.size, 0, none⟩) 5 5]]).run Tryz.prog (W.alloc (.cells #[.int .i64 r.tm, .int .i64 r.vt, .int .i64 r.si, .int .i64 r.st, .int .i64 (r.lg.length : Int)] 2)) = .ok (.round l fn tmps assign body) (W.alloc (.cells #[.int .i64 r.tm, .int .i64 r.vt, .int .i64 r.si, .int .i64 r.st, .int .i64 (r.lg.length : Int)] 2)) := hyy0
  clear hyy0 hY hJ hJx hJb h0 hW v0 v1 v2 v3 v5
  refine callsIn_of_wp Tryz.func132 rfl trivial ?_ rfl
  simp only [Tryz.ntmps132, List.size_toArray, List.length_cons, List.length_nil, Nat.reduceAdd, Nat.reduceSub, Array.replicate_succ, Array.replicate_zero, List.push_toArray, List.append_toArray, List.nil_append, List.cons_append]
  gi_wp2
  refine ⟨fun h => by simp [Fence.wide] at h, hR.mono ?_⟩
  rintro e W3 (⟨rfl, D', hJ3, hk3, hD3⟩ | ⟨rfl, hJx3, _⟩)
  · have HJ3 := hide hJ3
    clear hJ3 hk3 hD3
    gi_wp2
    go_end0
    exact ⟨⟨_, rfl⟩, .inl ⟨D', HJ3.out⟩⟩
  · have HJ3 := hide hJx3
    clear hJx3
    gi_wp2
    go_end0
    exact ⟨⟨_, rfl⟩, .inr HJ3.out⟩

theorem RdI.capW {S : Nat → Prop} {w : World} {v : Value} {xs : List Int} (h : RdI S w v xs) : capE v := by
  obtain ⟨ao, c, rfl, _⟩ := h
  exact Nat.le_add_right _ _
theorem OwJ.ku {S D : Nat → Prop} {w w' : World} {v : Value} {fs : List Oj} (h : OwJ S w v fs) (hw : Ku D w w') (hd : ∀ b, S b → ¬ D b) : RdJ S w' v fs := by
  obtain ⟨ao, c, e1, e2, e3⟩ := h.rd
  refine ⟨ao, c, e1, e2, fun hne => ?_⟩
  obtain ⟨b, off, V, f1, f2, f3⟩ := e3 hne
  exact ⟨b, off, V, f1, f2, fun i hi => ⟨hw.cell (f3 i hi).1 (hd b f2), hw.cell (f3 i hi).2.1 (hd b f2), hw.cell (f3 i hi).2.2.1 (hd b f2), (f3 i hi).2.2.2.ku hw (fun _ => hd)⟩⟩
theorem RdJ.ku {S D : Nat → Prop} {w w' : World} {v : Value} {fs : List Oj} (h : RdJ S w v fs) (hw : Ku D w w') (hd : ∀ b, S b → ¬ D b) : RdJ S w' v fs := by
  obtain ⟨ao, c, e1, e2, e3⟩ := h
  refine ⟨ao, c, e1, e2, fun hne => ?_⟩
  obtain ⟨b, off, V, f1, f2, f3⟩ := e3 hne
  exact ⟨b, off, V, f1, f2, fun i hi => ⟨hw.cell (f3 i hi).1 (hd b f2), hw.cell (f3 i hi).2.1 (hd b f2), hw.cell (f3 i hi).2.2.1 (hd b f2), (f3 i hi).2.2.2.ku hw (fun _ => hd)⟩⟩

set_option maxRecDepth 100000 in
set_option maxHeartbeats 4000000 in
theorem fileSeq {S T : Nat → Prop} {w : World} {Bp : Nat} {y z : Value} (r : Rf) (v0 : w.cell? ⟨Bp, 0, none⟩ = some (.int .i64 r.tm)) (v1 : w.cell? ⟨Bp, 1, none⟩ = some (.int .i64 r.vt)) (v2 : w.cell? ⟨Bp, 2, none⟩ = some (.int .i64 r.si)) (v3 : w.cell? ⟨Bp, 3, none⟩ = some (.int .i64 r.st)) (v4 : w.cell? ⟨Bp, 4, none⟩ = some y) (v5 : w.cell? ⟨Bp, 5, none⟩ = some z)
    (hy : RdI S w y r.sn) (hz : RdJ T w z r.lg) (hl : r.sn.length ≤ 40) (R : Nat → Prop) (m : Nat) :
    SeqG m Tryz.prog 127 #[.pointer (some ⟨Bp, 0, none⟩)] R (flP r) w := fun l J Jx D0 W hW _ hJ hJx _ _ hJb hY h0 => by
  obtain ⟨ay, cy, rfl⟩ := hy.shape
  obtain ⟨az, cz, rfl, _⟩ := hz.shape
  have u0 := cell_later hW v0
  have u1 := cell_later hW v1
  have u2 := cell_later hW v2
  have u3 := cell_later hW v3
  have u4 := cell_later hW v4
  have u5 := cell_later hW v5
  have HF := hide (snapFilesI r (hy.later hW) (hz.later hW) hl)
  have HSrt := hide (srt_snap r)
  have hbl : (blksF (sfL r)).length ≤ 1048576 := by
    rw [← srtF_len, srt_snap r]
    have := (sbL_some hl).1
    omega
  have HBl := hide hbl
  have HJ := hide hJ
  have HJb := hide (hJb _ _ _ h0)
  have HYd := hide hY
  have H0 := hide h0
  have fld := Tryz.fldIs1
  clear v0 v1 v2 v3 v4 v5 hy hz hW hbl hJ hJx hJb hY h0 hl
  refine callsIn_of_wp Tryz.func127 rfl trivial ?_ rfl
  simp only [Tryz.ntmps127, List.size_toArray, List.length_cons, List.length_nil, Nat.reduceAdd, Nat.reduceSub, Array.replicate_succ, Array.replicate_zero, List.push_toArray, List.append_toArray, List.nil_append, List.cons_append]
  gi_wp2
  refine ⟨trivial, fun h => (by simp [Fence.wide] at h), (callsIn_wide.2 HF.out).mono ?_⟩
  rintro e w1 ⟨f1, rfl, hb1, ho1⟩
  have HO1 := hide ho1
  have HB1 := hide hb1
  obtain ⟨a1, c1, rfl, _⟩ := ho1.rd.shape
  obtain ⟨nf, hnf⟩ : ∃ n, (sfL r).length = n := ⟨_, rfl⟩
  rw [hnf] at HO1 ⊢
  have hs1 := hb1.size
  clear u0 u1 u2 u3 u4 u5 HF ho1 hb1
  by_cases h0 : sfL r = []
  · have hn0 : nf = 0 := by rw [← hnf, h0]; rfl
    subst hn0
    have HJ1 := hide (HJ.out _ _ _ _ H0.out HB1.out)
    have hfl : (flP r).length = 0 := by unfold flP; rw [if_pos h0]; rfl
    gi_wp2
    refine bodyPost_ret (results_none rfl _ _ _) rfl ?_
    exact ⟨⟨_, rfl⟩, .inl ⟨D0, by rw [hfl]; exact HJ1.out⟩⟩
  · have hn1 : nf ≠ 0 := by rw [← hnf]; intro h; exact h0 (List.length_eq_zero_iff.1 h)
    have hn1i : ¬ (nf : Int) = 0 := by omega
    have hfl : flP r = [(0, pmR (sbL r)), (1, pdR (sfL r))] := by unfold flP; rw [if_neg h0]
    rw [hfl] at HYd
    clear hnf
    gi_wp2_with (first
      | (refine ⟨trivial, fun h => (by simp [Fence.wide] at h), ?_⟩; gi_at_call 130; refine (callsIn_wide.2 (sortedBlocksI HO1.out.rd HBl.out)).mono ?_; rintro e w2 ⟨f2, rfl, hb2, ho2⟩; rw [HSrt.out] at ho2; obtain ⟨a2, c2, rfl⟩ := ho2.shape; have HO2 := hide ho2; have HB2 := hide (below_on HB1.out hb2); have hs2 := hb2.size; have HOf := hide (HO1.out.laterR hb2); clear hb2 ho2)
      | (refine ⟨trivial, fun h => (by simp [Fence.wide] at h), ?_⟩; gi_at_call 129; obtain ⟨_, hrb, _⟩ := HO2.out; refine (callsIn_wide.2 (implPackMap hrb)).mono ?_; rintro e w3 ⟨f3, rfl, hb3, ho3⟩; have hs3 := hb3.size; have HB3 := hide (below_on HB2.out hb3); have HOg := hide (HOf.out.laterR hb3); obtain ⟨a3, c3, hz3⟩ := ho3.shape; obtain ⟨n3, hn3⟩ : ∃ n, (pmR (sbL r)).length = n := ⟨_, rfl⟩; rw [hn3] at hz3; subst hz3; clear hn3; obtain ⟨fn, tmps, assign, body, hyy0, hR⟩ := HYd.out D0 0 0 _ W w3 H0.out HB3.out (by simp) (by simp) (by simpa using ho3.mono (by omega)); have hyy : (Instr.yield l #[.agg #[.int .i64 0, .slice a3 n3 c3]]).run Tryz.prog w3 = .ok (.round l fn tmps assign body) w3 := hyy0; clear hyy0 hb3 ho3 hrb)
      | gi_in)
    refine ⟨fun h => by simp [Fence.wide] at h, hR.mono ?_⟩
    rintro e W3 (⟨rfl, D', hJ3, hk3, hD3⟩ | ⟨rfl, hJx3, _⟩)
    · have hrf := HOg.out.ku hk3 (fun b hb hd => by have := HJb.out b hd; omega)
      have HJ3 := hide hJ3
      have HRf := hide hrf
      clear hJ3 hk3 hD3 hrf hyy
      gi_wp2_with (first
        | (refine ⟨trivial, fun h => (by simp [Fence.wide] at h), ?_⟩; gi_at_call 131; refine (callsIn_wide.2 (implPackDir HRf.out)).mono ?_; rintro e w4 ⟨f4, rfl, hb4, ho4⟩; obtain ⟨a4, c4, hz4⟩ := ho4.shape; obtain ⟨n4, hn4⟩ : ∃ n, (pdR (sfL r)).length = n := ⟨_, rfl⟩; rw [hn4] at hz4; subst hz4; clear hn4; obtain ⟨fn2, tmps2, assign2, body2, hyy0, hR2⟩ := HYd.out D' 1 1 _ W3 w4 HJ3.out hb4 (by simp) (by simp) (by simpa using ho4); have hyy : (Instr.yield l #[.agg #[.int .i64 1, .slice a4 n4 c4]]).run Tryz.prog w4 = .ok (.round l fn2 tmps2 assign2 body2) w4 := hyy0; clear hyy0 hb4 ho4)
        | gi_in)
      refine ⟨fun h => by simp [Fence.wide] at h, hR2.mono ?_⟩
      rintro e W5 (⟨rfl, D5, hJ5, hk5, hD5⟩ | ⟨rfl, hJx5, _⟩)
      · have HJ5 := hide hJ5
        clear hJ5 hk5 hD5
        gi_wp2
        go_end0
        exact ⟨⟨_, rfl⟩, .inl ⟨D5, by rw [hfl]; exact HJ5.out⟩⟩
      · have HJ5 := hide hJx5
        clear hJx5
        gi_wp2
        go_end0
        exact ⟨⟨_, rfl⟩, .inr HJ5.out⟩
    · have HJ3 := hide hJx3
      clear hJx3
      gi_wp2
      go_end0
      exact ⟨⟨_, rfl⟩, .inr HJ3.out⟩
end Go.Proofs.YtlmaopljihbdkaaGreat
/- Chapter 4, the program's side: '(seen).view', walked: what the map has, rising. -/
namespace Go.Proofs.YtlmaopljihbdkaaGreat
open Go.RowKit Go.Maps Go.Sort Go.Shelf

theorem Tryz.sorts (m : Nat) : AnyZI.SortsIn Tryz.prog Tryz.sortedA_ren Fence.wide m :=
  have _ : (152 : Nat) = 152 := rfl
  ⟨fun blk off cap ss W hH hblk hsz => callsIn_wide.2 (AnyM.slices_Sort_int Tryz.sortA blk off cap ss W hH hblk hsz),
   fun p cap W => callsIn_wide.2 (AnyM.slices_Sort_int_none Tryz.sortA p cap W)⟩

theorem keysOf (B : Nat) (W : World) : Calls Tryz.prog 153 #[.map (some B)] W fun e w' => e = .returned (.func (.func 188) #[] #[.pointer (some ⟨W.heap.size, 0, none⟩)]) ∧ w' = W.alloc (.cells #[.map (some B)] 93) :=
  (callsIn_wide (n := 5)).1 (AnyZI.keys_in Tryz.keysA Fence.wide 5 trivial rfl (some B) W)

theorem sortedOf {w : World} {B nn : Nat} {D0 : DataW Value} (hown : w.ownsMap Tryz.prog 2 asIs B nn D0) (hnn : nn ≤ 1048576) :
    Calls Tryz.prog 152 #[.func (.func 188) #[] #[.pointer (some ⟨w.heap.size, 0, none⟩)]] (w.alloc (.cells #[.map (some B)] 93)) fun e w' => ∃ (v : Value) (ss : List Int), e = .returned v ∧ ss.Perm (intKeys D0) ∧
      w'.ownsRow (w.heap.size + 1) 2 1 v ss.length ((ss.mergeSort leI).map (Value.int .i64)) ∧ Below w.heap.size w w' := by
  have hbl := hown.lt
  have hsz := hown.size_le
  have hseq : SeqGives Fence.wide 2 Tryz.prog 188 #[.pointer (some ⟨w.heap.size, 0, none⟩)] encZ (fun ss => ss.Perm (intKeys D0)) (Maps.size D0) (w.alloc (.cells #[.map (some B)] 93)) :=
    AnyZI.keys_gives (ρ := Tryz.keysA_ren) { Tryz.keysA with } Fence.wide _ trivial rfl (by omega) w.heap.size B nn D0 _ (by simp) (by simp) (by
      obtain ⟨es, clock, hb, Ft, hs, hD⟩ := hown
      exact ⟨es, clock, (Below.heap_alloc _ _ B hbl).trans hb, Ft, hs, hD⟩)
  have cS := AnyZI.sorted_in Tryz.sortedA Fence.wide 5 trivial trivial trivial trivial rfl (by omega) (Tryz.sorts _) (enters_of Tryz.func175 (by kernel_rfl) rfl) 188 #[.pointer (some ⟨w.heap.size, 0, none⟩)] trivial (enters_of Tryz.func188 (by kernel_rfl) rfl) _ _ (by unfold maxLen; omega) (by omega) _ hseq
  change CallsIn _ _ Tryz.prog 152 _ _ _ at cS
  refine ((callsIn_wide (n := 5)).1 cS).mono ?_
  rintro e w' ⟨v, ss, rfl, hS, hrow, hnil, hb⟩
  exact ⟨v, ss, rfl, hS, by have h := hrow; rw [World.size_alloc] at h; exact h, (below_alloc w _).trans (hb.mono (by simp))⟩

/-- The home blocks below k that have words. -/
def keysTo (M : Int → List Int) (k : Nat) : List Int := ((List.range k).map fun (i : Nat) => (i : Int)).filter fun a => decide (M a ≠ [])
/-- .. with their words: a view. -/
def viewTo (M : Int → List Int) (k : Nat) : List (Int × List Int) := (keysTo M k).map fun a => (a, M a)
theorem keysTo_succ (M : Int → List Int) (k : Nat) : keysTo M (k + 1) = keysTo M k ++ if M (k : Int) = [] then [] else [(k : Int)] := by
  unfold keysTo
  rw [List.range_succ, List.map_append, List.filter_append]
  by_cases h : M (k : Int) = []
  · simp [h]
  · simp [h]
theorem viewTo_succ (M : Int → List Int) (k : Nat) : viewTo M (k + 1) = viewTo M k ++ if M (k : Int) = [] then [] else [((k : Int), M (k : Int))] := by
  unfold viewTo
  rw [keysTo_succ, List.map_append]
  by_cases h : M (k : Int) = []
  · simp [h]
  · simp [h]
theorem keysTo_mem (M : Int → List Int) (k : Nat) (a : Int) : a ∈ keysTo M k ↔ 0 ≤ a ∧ a < (k : Int) ∧ M a ≠ [] := by
  unfold keysTo
  rw [List.mem_filter, List.mem_map]
  constructor
  · rintro ⟨⟨i, hi, rfl⟩, h⟩
    rw [List.mem_range] at hi
    exact ⟨by omega, by omega, by simpa using h⟩
  · rintro ⟨h1, h2, h3⟩
    exact ⟨⟨a.toNat, List.mem_range.2 (by omega), by omega⟩, by simpa using h3⟩
theorem keysTo_lt (M : Int → List Int) (k : Nat) : (keysTo M k).Pairwise (· < ·) := by
  induction k with
  | zero => simp [keysTo]
  | succ k ih =>
    rw [keysTo_succ]
    by_cases h : M (k : Int) = []
    · simpa [h] using ih
    · simp only [h, if_false]
      refine List.pairwise_append.2 ⟨ih, by simp, fun a ha b hb => ?_⟩
      simp at hb
      subst hb
      exact ((keysTo_mem M k a).1 ha).2.1
theorem keysTo_len (M : Int → List Int) (k : Nat) : (keysTo M k).length ≤ k := by
  unfold keysTo
  refine Nat.le_trans (List.length_filter_le _ _) ?_
  simp
theorem keys_sorted {w : World} {B nn : Nat} {D0 : DataW Value} {M : Int → List Int} {ss : List Int} (hown : w.ownsMap Tryz.prog 2 asIs B nn D0) (hk : ∀ a : Int, has D0 (.int .i64 a) = true ↔ 0 ≤ a ∧ a < 40 ∧ M a ≠ []) (hp : ss.Perm (intKeys D0)) : ss.mergeSort leI = keysTo M 40 := by
  have hlt := keysTo_lt M 40
  have h1 : (keysTo M 40).Perm (intKeys D0) := CollectedI.perm (left := fun _ => false) ⟨hlt.imp (fun h => by omega), fun x => by rw [keysTo_mem, hk x]; simp⟩ hown lawI64 Tryz.underlying2 (fun _ => rfl)
  rw [mergeSort_of_perm_i (hp.trans h1.symm)]
  exact List.mergeSort_of_pairwise (hlt.imp (fun h => by simp [leI]; omega))

set_option maxHeartbeats 2000000 in
set_option maxRecDepth 4000 in
/-- '(seen).view': what the map has, rising, in new memory. -/
theorem seenView {w : World} {B n : Nat} {M : Int → List Int} (hs : SeenAt w B n M) (hn : n ≤ 1048576) (hl : ∀ a : Int, 0 ≤ a → a < 40 → (M a).length ≤ 1048576) :
    Calls Tryz.prog 111 #[.map (some B)] w fun e w' => ∃ z, e = .returned z ∧ Below w.heap.size w w' ∧ OwP (fun b => w.heap.size ≤ b ∧ b < w'.heap.size) w' z (viewTo M 40) := by
  have HS := hide hs
  obtain ⟨D, hown, hD, hK⟩ := hs
  obtain ⟨i0, hi, hz0, hz1, hz2⟩ := info_parts Tryz.infoPut
  have HSo := hide (sortedOf hown hn)
  have HKs := hide (fun ss => keys_sorted (ss := ss) hown hK)
  have HLn := hide hl
  have HKm := hide (keysTo_mem M 40)
  have HVl : Hid ((viewTo M 40).length = (keysTo M 40).length) := by simp [Hid, viewTo]
  have HVa : Hid (∀ i, i < (keysTo M 40).length → (viewTo M 40).getD i (0, []) = ((keysTo M 40).getD i 0, M ((keysTo M 40).getD i 0))) := fun i hi => by simp [viewTo, List.getD, hi]
  have HL40 := hide (keysTo_len M 40)
  obtain ⟨L, hL⟩ : ∃ L, viewTo M 40 = L := ⟨_, rfl⟩
  obtain ⟨K, hKK⟩ : ∃ K, keysTo M 40 = K := ⟨_, rfl⟩
  rw [hL] at HVl HVa ⊢
  rw [hKK] at HKs HKm HVl HVa HL40
  obtain ⟨m, hm⟩ : ∃ m, K.length = m := ⟨_, rfl⟩
  have HM := hide hm
  rw [hm] at HVl HVa HL40
  have hm40 : m ≤ 40 := HL40.out
  clear hown hD hK hl hL hKK hm HL40
  go_enter Tryz.func111, Tryz.ntmps111
  go_wp2_with fail
  refine (keysOf B w).mono ?_
  rintro e w1 ⟨rfl, rfl⟩
  go_wp2_with fail
  refine HSo.out.mono ?_
  rintro e w2 ⟨v, ss, rfl, hp, hrow, hb⟩
  have hss := HKs.out ss hp
  have hsl : ss.length = m := by rw [← List.length_mergeSort (le := leI) ss, hss]; exact HM.out
  rw [hss, hsl] at hrow
  have HR : Hid (RdI (fun b => b < w2.heap.size) w2 v K) := by
    have h := ow_of_owns HM.out hrow (by rw [HM.out]; omega)
    exact RdI.narrow h.rd (fun _ b hb => hb.2)
  obtain ⟨av, cv, rfl⟩ : ∃ av cv, v = .slice av m cv := by
    obtain ⟨av, cv, h⟩ := HR.out.shape
    rw [HM.out] at h
    exact ⟨av, cv, h⟩
  have HB2 := hide hb
  have HS2 := hide (HS.out.later hb)
  clear hp hrow hb hss hsl HSo HKs HS
  go_wp2
  go_loopw [3, 10] (fun v i wr => ∃ k : Nat, k ≤ m ∧ i = .int .i64 k ∧ Hid (BuiltP (w2.heap.size ≤ ·) wr v k L) ∧ Hid (Below w2.heap.size w2 wr)) (fun _ i _ => m - (RowKit.intOf i).toNat)
  case atStart => exact ⟨0, Nat.zero_le _, rfl, BuiltP.nil _ _ _, Below.refl _ _⟩
  case round =>
    obtain ⟨k, hk, rfl, HBu, HB⟩ := hrel
    by_cases hlt : k < m
    · obtain ⟨b, off, rfl, hx⟩ := (HR.out).at (k := k) (by rw [HM.out]; exact hlt)
      have hx' := cell_later HB.out hx
      have hmem : K.getD k 0 ∈ K := by
        have h : k < K.length := by rw [HM.out]; exact hlt
        simp [List.getD, h]
      obtain ⟨ha1, ha2, _⟩ := (HKm.out _).1 hmem
      have HX := hide (HVa.out k hlt)
      obtain ⟨a, ha⟩ : ∃ a, K.getD k 0 = a := ⟨_, rfl⟩
      rw [ha] at hx' HX ha1 ha2
      have ha2' : a < 40 := by omega
      have hkey : Hid (keyOf Tryz.prog 2 (.int .i64 a) = some (.int .i64 a)) := keyOf_int_mk Tryz.underlying2 (WalkArith.wf_i64 (by omega))
      obtain ⟨D', hown, hD, _⟩ := HS2.out.later HB.out
      obtain ⟨v3, hat, hr3⟩ := hD a ha1 ha2'
      obtain ⟨v', p', hrun, hv'⟩ := hown.lookup lawI64 Tryz.underlying93 (zeroWords wr) (zd := .held (.slice none 0 0)) (zp := []) rfl hkey.out
      have hvv : v' = v3 := by
        rw [hat] at hv'
        injection hv' with h1
        injection h1 with h2
        injection h2
      subst hvv
      obtain ⟨a3, k3, rfl⟩ := hr3.shape
      have HCp := hide (copyWords hr3 (HLn.out a ha1 ha2'))
      obtain ⟨ws, hws⟩ : ∃ ws, M a = ws := ⟨_, rfl⟩
      rw [hws] at HCp HX hrun hr3
      obtain ⟨V2, Bk2, hown2, hpr, hin⟩ := HBu.out
      have HOw0 := hide hown2
      have HPr := hide hpr
      have HIn := hide hin
      have hz := HB.out.size
      clear hx hmem ha hD hown hat hv' hr3 hws hown2 hpr hin
      go_wp2_with fail
      refine HCp.out.mono ?_
      rintro e w3 ⟨z3, rfl, hb3, ho3⟩
      obtain ⟨ao4, c4, rfl⟩ := ho3.shape
      have HB1 := hide hb3
      have HO1 := hide ho3
      have hzz := hb3.size
      clear hb3 ho3 hrun
      go_wp2_with (at_builtin; refine wpList_append_lies _ rfl _ _ _ rfl 0 74 i0 (.agg #[.int .i64 0, .slice none 0 0]) 2 32 Tryz.underlying27 hi hz0 hz1 hz2 rfl (by omega) _ k _ (by rfl) (ownsRow_later (ownsRow_later HOw0.out HB1.out) (below_alloc w3 (.cells #[.int .i64 a, .slice ao4 ws.length c4] 74))) ⟨w3.heap.size, 0, none⟩ 1 1 [.int .i64 a, .slice ao4 ws.length c4] (by rfl) (by rfl) (World.news_of_block (cs := #[.int .i64 a, .slice ao4 ws.length c4]) (t := 74) (fr := (0, 0)) (heap_alloc_new w3 _)) cells2_one (by omega) (by unfold maxLen; omega) (by omega) (Nat.zero_le _) (w3.heap.size + 1) (by simp) ?_)
      intro g cap w4 hown3 hgrow hat hlt3
      have HSt := hide (BuiltP.step (P' := (w2.heap.size ≤ ·)) (ps := L) HIn.out HOw0.out HPr.out (fun _ h => h) (fun b hb => Nat.le_trans hz hb) HB1.out (by rw [HX.out]; exact HO1.out) (below_alloc w3 (.cells #[.int .i64 a, .slice ao4 ws.length c4] 74)) (by rw [HX.out]; exact hown3) hgrow (by simpa using hat))
      have HB3 := hide ((below_on (below_on HB.out HB1.out) (below_alloc w3 (.cells #[.int .i64 a, .slice ao4 ws.length c4] 74))).grown hgrow (by simp; omega) (fun r hr => HPr.out r hr))
      clear hown3 hgrow hat hlt3
      go_wp2
      go_roundw
      case rel => exact ⟨k + 1, hlt, by go_num, HSt.out, HB3.out⟩
      case measure => simp [RowKit.intOf]; omega
    · have hkn : k = m := by omega
      subst hkn
      go_wp2
      go_ret
      exact ⟨_, rfl, below_on HB2.out HB.out, (HBu.out.ow HVl.out (by omega)).mono (fun b hb => ⟨by have := HB2.out.size; have := hb.1; omega, hb.2⟩)⟩
end Go.Proofs.YtlmaopljihbdkaaGreat
/- Chapter 4: what ApplyPuts asks and does, the program's side, walked. -/
namespace Go.Proofs.YtlmaopljihbdkaaGreat
open Go.RowKit Go.Maps

/-- Puts that are a view: each has words, At rises. -/
def isVw (ps : List (Int × List Int)) : Prop := ∀ i, i < ps.length → (ps.getD i (0, [])).2 ≠ [] ∧ (0 < i → (ps.getD (i - 1) (0, [])).1 < (ps.getD i (0, [])).1)

set_option maxHeartbeats 2000000 in
set_option maxRecDepth 4000 in
theorem isViewP {S : Nat → Prop} {w : World} {u : Value} {ps : List (Int × List Int)} (hu : RdP S w u ps) :
    Calls Tryz.prog 97 #[u] w fun e w' => (∃ r : Bool, e = .returned (.bool r) ∧ (r = true ↔ isVw ps)) ∧ Below w.heap.size w w' := by
  obtain ⟨au, cu, rfl, hml⟩ := hu.shape
  have HU := hide hu
  obtain ⟨n, hn⟩ : ∃ n, ps.length = n := ⟨_, rfl⟩
  have HN := hide hn
  rw [hn] at HU hml ⊢
  clear hu hn
  go_enter Tryz.func97, Tryz.ntmps97
  go_wp2
  go_loopw [7] (fun i wr => ∃ k : Nat, k ≤ n ∧ i = .int .i64 (k : Int) ∧ Hid (∀ i, i < k → (ps.getD i (0, [])).2 ≠ [] ∧ (0 < i → (ps.getD (i - 1) (0, [])).1 < (ps.getD i (0, [])).1)) ∧ Hid (Below w.heap.size w wr)) (fun i _ => n - (RowKit.intOf i).toNat)
  case atStart => exact ⟨0, Nat.zero_le _, rfl, fun i hi => absurd hi (Nat.not_lt_zero _), Below.refl _ _⟩
  case round =>
    obtain ⟨k, hk, rfl, HA, HB⟩ := hrel
    by_cases hlt : k < n
    · obtain ⟨b, off, V, rfl, q1, q2, q3⟩ := HU.out.at (k := k) (by rw [HN.out]; exact hlt)
      obtain ⟨a3, c3, rfl⟩ := q3.shape
      have g1 := cell_later HB.out q1
      have g2 := cell_later HB.out q2
      obtain ⟨x, hx⟩ : ∃ x, (ps.getD k (0, [])).1 = x := ⟨_, rfl⟩
      obtain ⟨l, hl⟩ : ∃ l, (ps.getD k (0, [])).2.length = l := ⟨_, rfl⟩
      rw [hx] at g1
      rw [hl] at g2
      have HX := hide hx
      have HL := hide hl
      clear q1 q2 q3 hx hl
      have hnw : w.heap.size ≤ wr.heap.size := HB.out.size
      have bA := hide (below_alloc wr (.cells #[.int .i64 x, .slice a3 l c3] 74))
      by_cases hl0 : l = 0
      · subst hl0
        have HNo : Hid (¬ isVw ps) := fun h => (h k (by rw [HN.out]; exact hlt)).1 (List.eq_nil_of_length_eq_zero HL.out)
        go_wp2_with fail
        go_quiet (fail)
        have HBq := hide (below_on (below_on HB.out bA.out) (below_drewN _ nq))
        go_wp2
        go_ret
        exact ⟨⟨false, rfl, ⟨fun h => (by cases h), fun h => absurd h HNo.out⟩⟩, HBq.out⟩
      · have hl0' : ¬ ((l : Int) = 0) := by omega
        have hl0b : ((l : Int) == 0) = false := by simpa using hl0
        have HNe : Hid ((ps.getD k (0, [])).2 ≠ []) := fun h => hl0 (by rw [← HL.out, h]; rfl)
        by_cases hk0 : k = 0
        · subst hk0
          have g1' : wr.cell? ⟨b, off, none⟩ = some (.int .i64 x) := by simpa using g1
          have g2' : wr.cell? ⟨b, off + 1, none⟩ = some (.slice a3 l c3) := by simpa using g2
          clear g1 g2
          have HA' : Hid (∀ i, i < 0 + 1 → (ps.getD i (0, [])).2 ≠ [] ∧ (0 < i → (ps.getD (i - 1) (0, [])).1 < (ps.getD i (0, [])).1)) := fun i hi => by
            have : i = 0 := by omega
            subst this
            exact ⟨HNe.out, fun h => absurd h (Nat.lt_irrefl _)⟩
          go_wp2_with fail
          go_quiet (fail)
          have HBq := hide (below_on (below_on HB.out bA.out) (below_drewN _ nq))
          go_wp2
          go_roundw
          case rel => exact ⟨0 + 1, by omega, by go_num, HA'.out, HBq.out⟩
          case measure => simp [RowKit.intOf]; omega
        · have hkp : 0 < k := by omega
          obtain ⟨j, hjk⟩ : ∃ j, k = j + 1 := ⟨k - 1, by omega⟩
          obtain ⟨b', off', V', e', q1', _, _⟩ := HU.out.at (k := j) (by rw [HN.out]; omega)
          injection e' with e'
          injection e' with e1 e2
          subst e1 e2
          have g0 := cell_later (below_on HB.out bA.out) q1'
          obtain ⟨y, hy⟩ : ∃ y, (ps.getD j (0, [])).1 = y := ⟨_, rfl⟩
          rw [hy] at g0
          have HY := hide hy
          clear hy q1'
          have hw1 : IntKind.i64.wrap ((k : Int) - 1) = (j : Int) := by simp [IntKind.wrap, IntKind.bits, IntKind.signed]; omega
          have hj0 : (0 : Int) < (k : Int) := by omega
          have hjp : (0 : Int) ≤ (j : Int) := by omega
          have hjn : (j : Int) < (n : Int) := by omega
          have HJK := hide hjk
          clear hk0 hjk
          by_cases hxy : x ≤ y
          · have HNo : Hid (¬ isVw ps) := fun h => by
              have := (h k (by rw [HN.out]; exact hlt)).2 (by have := HJK.out; omega)
              rw [HX.out, show k - 1 = j by have := HJK.out; omega, HY.out] at this
              omega
            go_wp2_with fail
            go_quiet (fail)
            have HBq := hide (below_on (below_on HB.out bA.out) (below_drewN _ nq))
            go_wp2
            go_ret
            exact ⟨⟨false, rfl, ⟨fun h => (by cases h), fun h => absurd h HNo.out⟩⟩, HBq.out⟩
          · have hxy' : y < x := by omega
            have HA' : Hid (∀ i, i < k + 1 → (ps.getD i (0, [])).2 ≠ [] ∧ (0 < i → (ps.getD (i - 1) (0, [])).1 < (ps.getD i (0, [])).1)) := fun i hi => by
              by_cases e : i = k
              · subst e
                exact ⟨HNe.out, fun _ => by rw [HX.out, show i - 1 = j by have := HJK.out; omega, HY.out]; exact hxy'⟩
              · exact HA.out i (by omega)
            go_wp2_with fail
            go_quiet (fail)
            have HBq := hide (below_on (below_on HB.out bA.out) (below_drewN _ nq))
            go_wp2
            go_roundw
            case rel => exact ⟨k + 1, by omega, by go_num, HA'.out, HBq.out⟩
            case measure => simp [RowKit.intOf]; omega
    · have hkn : k = n := by omega
      subst hkn
      have HYes : Hid (isVw ps) := fun i hi => HA.out i (by rw [HN.out] at hi; exact hi)
      go_wp2
      go_ret
      exact ⟨⟨true, rfl, ⟨fun _ => HYes.out, fun _ => rfl⟩⟩, HB.out⟩
end Go.Proofs.YtlmaopljihbdkaaGreat
/- Views as maps: what a put does to one. -/
namespace Go.Proofs.YtlmaopljihbdkaaGreat
open Go.Maps

theorem firstP_all {n : Nat} {ps : List (Int × List Int)} (h : firstP n ps = 0) : ∀ i, i < ps.length → 0 ≤ (ps.getD i (0, [])).1 ∧ (ps.getD i (0, [])).1 < (n : Int) ∧ wordsF (ps.getD i (0, [])).2 = 0 := by
  have key : ∀ k, k ≤ ps.length → firstP n (ps.drop k) = 0 ∧ ∀ i, i < k → 0 ≤ (ps.getD i (0, [])).1 ∧ (ps.getD i (0, [])).1 < (n : Int) ∧ wordsF (ps.getD i (0, [])).2 = 0 := by
    intro k
    induction k with
    | zero => intro _; exact ⟨by simpa using h, fun i hi => absurd hi (Nat.not_lt_zero _)⟩
    | succ k ih =>
      intro hk
      obtain ⟨h1, h2⟩ := ih (by omega)
      by_cases ha : 0 ≤ (ps.getD k (0, [])).1 ∧ (ps.getD k (0, [])).1 < (n : Int)
      · by_cases hw : wordsF (ps.getD k (0, [])).2 = 0
        · rw [firstP_ok (by omega) ha hw] at h1
          refine ⟨h1, fun i hi => ?_⟩
          by_cases e : i = k
          · subst e; exact ⟨ha.1, ha.2, hw⟩
          · exact h2 i (by omega)
        · rw [firstP_no (by omega) ha hw] at h1
          exact absurd h1 hw
      · rw [firstP_at (by omega) ha] at h1
        exact absurd h1 (by decide)
  exact fun i hi => (key ps.length (Nat.le_refl _)).2 i hi
theorem hpF_all {most : Nat} {ps : List (Int × List Int)} (h : hpF most ps = 0) : ps.length ≤ most ∧ ∀ i, i < ps.length → 0 ≤ (ps.getD i (0, [])).1 ∧ (ps.getD i (0, [])).1 < 40 ∧ (ps.getD i (0, [])).2.length ≤ 64 := by
  unfold hpF at h
  split at h
  · exact absurd h (by decide)
  · rename_i h1
    refine ⟨by omega, fun i hi => ?_⟩
    obtain ⟨a, b, c⟩ := firstP_all h i hi
    refine ⟨a, b, ?_⟩
    by_cases h64 : 64 < (ps.getD i (0, [])).2.length
    · unfold wordsF at c
      rw [wF_many h64] at c
      exact absurd c (by decide)
    · omega

theorem view_mem (M : Int → List Int) (k : Nat) (x : Int × List Int) : x ∈ viewTo M k ↔ 0 ≤ x.1 ∧ x.1 < (k : Int) ∧ x.2 ≠ [] ∧ x.2 = M x.1 := by
  unfold viewTo
  rw [List.mem_map]
  constructor
  · rintro ⟨a, ha, rfl⟩
    obtain ⟨h1, h2, h3⟩ := (keysTo_mem M k a).1 ha
    exact ⟨h1, h2, h3, rfl⟩
  · rintro ⟨h1, h2, h3, h4⟩
    exact ⟨x.1, (keysTo_mem M k x.1).2 ⟨h1, h2, by rw [← h4]; exact h3⟩, by rw [← h4]⟩
theorem view_lt (M : Int → List Int) (k : Nat) : (viewTo M k).Pairwise fun a b => a.1 < b.1 := List.pairwise_map.2 (keysTo_lt M k)
theorem rising_eq {l m : List (Int × List Int)} (h1 : l.Pairwise fun a b => a.1 < b.1) (h2 : m.Pairwise fun a b => a.1 < b.1) (h : ∀ x, x ∈ l ↔ x ∈ m) : l = m := by
  have nd : ∀ {l : List (Int × List Int)}, (l.Pairwise fun a b => a.1 < b.1) → l.Nodup := fun h => h.imp (fun h e => by rw [e] at h; omega)
  exact List.Perm.eq_of_pairwise (fun a b _ _ h1 h2 => by omega) h1 h2 ((List.perm_ext_iff_of_nodup (nd h1) (nd h2)).2 h)
theorem vw_lt {ps : List (Int × List Int)} (h : isVw ps) : ps.Pairwise fun a b => a.1 < b.1 := by
  have key : ∀ (d i : Nat), i + d + 1 < ps.length → (ps.getD i (0, [])).1 < (ps.getD (i + d + 1) (0, [])).1 := by
    intro d
    induction d with
    | zero => intro i hi; have := (h (i + 1) hi).2 (by omega); simpa using this
    | succ d ih =>
      intro i hi
      have h1 := ih i (by omega)
      have h2 := (h (i + (d + 1) + 1) hi).2 (by omega)
      rw [show i + (d + 1) + 1 - 1 = i + d + 1 by omega] at h2
      omega
  rw [List.pairwise_iff_getElem]
  intro i j hi hj hij
  have := key (j - i - 1) i (by omega)
  rw [show i + (j - i - 1) + 1 = j by omega] at this
  simpa [List.getD, hi, hj] using this
/-- A view is told by what it puts. -/
theorem vw_eq {ps : List (Int × List Int)} (h : isVw ps) (hr : ∀ i, i < ps.length → 0 ≤ (ps.getD i (0, [])).1 ∧ (ps.getD i (0, [])).1 < 40) : ps = viewTo (ps.foldl putM fun _ => []) 40 := by
  have hlt := vw_lt h
  have hinj : ∀ i j, i < ps.length → j < ps.length → i < j → (ps.getD i (0, [])).1 < (ps.getD j (0, [])).1 := fun i j hi hj hij => by
    have := List.pairwise_iff_getElem.1 hlt i j hi hj hij
    simpa [List.getD, hi, hj] using this
  refine rising_eq hlt (view_lt _ _) fun x => ?_
  rw [view_mem]
  constructor
  · intro hx
    obtain ⟨i, hi, rfl⟩ := List.getElem_of_mem hx
    have e : ps.getD i (0, []) = ps[i] := by simp [List.getD, hi]
    have hl := foldl_last (qs := ps) (M := fun _ => []) (a := ps[i].1) (i := i) hi (by rw [e]) (fun j h1 h2 => by have := hinj i j hi h2 h1; rw [e] at this; omega)
    have hri := hr i hi
    have hne := (h i hi).1
    rw [e] at hl hri hne
    exact ⟨hri.1, hri.2, hne, hl.symm⟩
  · rintro ⟨h1, h2, h3, h4⟩
    by_cases hex : ∃ i, i < ps.length ∧ (ps.getD i (0, [])).1 = x.1
    · obtain ⟨i, hi, hix⟩ := hex
      have hl := foldl_last (qs := ps) (M := fun _ => []) (a := x.1) (i := i) hi hix (fun j h1 h2 => by have := hinj i j hi h2 h1; omega)
      have e : ps.getD i (0, []) = ps[i] := by simp [List.getD, hi]
      have : x = ps[i] := by
        rw [← e]
        exact Prod.ext hix.symm (h4.trans hl)
      rw [this]
      exact List.getElem_mem hi
    · have := foldl_none (qs := ps) (M := fun _ => []) (a := x.1) (fun i hi e => hex ⟨i, hi, e⟩)
      rw [this] at h4
      exact absurd h4 h3
end Go.Proofs.YtlmaopljihbdkaaGreat
