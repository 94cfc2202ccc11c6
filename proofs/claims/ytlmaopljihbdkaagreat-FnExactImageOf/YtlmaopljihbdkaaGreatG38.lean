/- Fi5 St1 in one text: what each says stands at its head below. -/
import Derived.Test.YtlmaopljihbdkaaGreatG37
import Derived.Test.YtlmaopljihbdkaaGreatG21
import Derived.Test.YtlmaopljihbdkaaGreatG27
import Derived.Deep.RegionLaw
import Derived.Test.YtlmaopljihbdkaaGreatG36
import Derived.Test.YtlmaopljihbdkaaGreatG31
import Derived.Test.YtlmaopljihbdkaaGreatG22
/- Chapter 8: 'PackDir' of both sides, walked. -/
namespace Go.Proofs.YtlmaopljihbdkaaGreat
open Go.RowKit

/-- The words of files, one behind the other. -/
def bdF : List Oj → List Int
  | [] => []
  | p :: r => p.1 :: p.2.1 :: (p.2.2 ++ bdF r)
theorem bdF_snoc : ∀ (fs : List Oj) (p : Oj), bdF (fs ++ [p]) = bdF fs ++ ([p.1, p.2.1] ++ p.2.2)
  | [], p => by simp [bdF]
  | q :: r, p => by simp [bdF, bdF_snoc r p]
def pkF (fs : List Oj) : List Int := (fs.length : Int) :: bdF fs
theorem bdF_len : ∀ (fs : List Oj), (bdF fs).length = (blksF fs).length + 2 * fs.length
  | [] => rfl
  | p :: r => by simp [bdF, blksF, bdF_len r]; omega
def pkTo (n : Nat) (fs : List Oj) (k : Nat) : List Int := (n : Int) :: bdF (fs.take k)
theorem pkTo_succ (n : Nat) (fs : List Oj) (k : Nat) (h : k < fs.length) : pkTo n fs (k + 1) = pkTo n fs k ++ [(fs.getD k oj0).1, (fs.getD k oj0).2.1] ++ (fs.getD k oj0).2.2 := by
  unfold pkTo
  rw [List.take_succ_eq_append_getElem h, bdF_snoc]
  simp [List.getD, h]
theorem pkTo_len (n : Nat) (fs : List Oj) (k : Nat) (hk : k ≤ fs.length) : (pkTo n fs k).length ≤ (pkF fs).length := by
  unfold pkTo pkF
  simp only [List.length_cons, bdF_len, List.length_take]
  have := blks_take_len fs k
  omega
theorem pkTo_all {n : Nat} {fs : List Oj} (h : fs.length = n) : pkTo n fs n = pkF fs := by unfold pkTo pkF; rw [← h]; simp
theorem pkF_small {fs : List Oj} (h : filF fs = 0) : (pkF fs).length ≤ 29 := by
  have hi := filF_iff.1 h
  have h1 := blksF_len hi.one
  have h2 := hi.len
  unfold pkF
  simp only [List.length_cons, bdF_len]
  omega
def pdR (fs : List Oj) : List Int := if filF fs = 0 then pkF fs else []
theorem pdR_len (fs : List Oj) : (pdR fs).length ≤ 1048576 := by
  unfold pdR
  by_cases h : filF fs = 0
  · rw [if_pos h]; have := pkF_small h; omega
  · rw [if_neg h]; simp
def pdC (fs : List Oj) : Int := filF fs

set_option maxHeartbeats 4000000 in
set_option maxRecDepth 4000 in
theorem implPackDir {S : Nat → Prop} {w : World} {v : Value} {fs : List Oj} (hv : RdJ S w v fs) :
    Calls Tryz.prog 131 #[v] w (EndsI (pdC fs) (pdR fs) w) := by
  obtain ⟨av, cv, rfl, hm⟩ := hv.shape
  have HV := hide hv
  obtain ⟨n, hn⟩ : ∃ n, fs.length = n := ⟨_, rfl⟩
  have HN := hide hn
  rw [hn] at HV hm ⊢
  clear hv hn
  unfold pdC pdR
  obtain ⟨z, hz⟩ : ∃ z, filF fs = z := ⟨_, rfl⟩
  have HZ := hide hz
  rw [hz]
  clear hz
  have HC := hide (implFilesFault (HV.out.later (below_alloc w (.cells #[.int .i64 0, .slice none 0 0] 166))))
  rw [HZ.out] at HC
  by_cases h0 : z = 0
  · subst h0
    rw [if_pos rfl]
    have hsm := pkF_small HZ.out
    obtain ⟨i0, hi, hz0, hz1, hz2⟩ := info_parts Tryz.infoInt
    have HAll := hide (pkTo_all HN.out)
    have HLs := hide (fun k hk => pkTo_len n fs k hk)
    obtain ⟨R, hR⟩ : ∃ R, pkF fs = R := ⟨_, rfl⟩
    rw [hR] at HAll HLs hsm ⊢
    clear hR
    go_enter Tryz.func131, Tryz.ntmps131
    go_wp2_with fail
    refine HC.out.mono ?_
    rintro e w1 ⟨rfl, hb⟩
    have HRs := hide ((ResF.start w 166).later hb)
    clear hb HC
    have hw1 := HRs.out.lt
    have HRow0 : Hid ((w1.alloc (.cells #[.int .i64 (n : Int)] 2)).ownsRow w1.heap.size 2 1 (.slice (some ⟨w1.heap.size, 0, none⟩) 1 1) 1 ((pkTo n fs 0).map (Value.int .i64))) :=
      ownsRow_fullF w1 [.int .i64 (n : Int)] 2 (by simp)
    have HB0 := hide (below_alloc w1 (.cells #[.int .i64 (n : Int)] 2))
    go_wp2
    go_loopw [4, 18] (fun v i wr => ∃ (k j : Nat), k ≤ n ∧ i = .int .i64 k ∧ Hid ((pkTo n fs k).length = j) ∧ Hid (wr.ownsRow w1.heap.size 2 1 v j ((pkTo n fs k).map (Value.int .i64))) ∧ Hid (Below w1.heap.size w1 wr)) (fun _ i _ => n - (RowKit.intOf i).toNat)
    case atStart => exact ⟨0, 1, Nat.zero_le _, rfl, rfl, HRow0.out, HB0.out⟩
    case round =>
      clear HRow0 HB0
      obtain ⟨k, j, hk, rfl, HJ, HRow, HB⟩ := hrel
      by_cases hlt : k < n
      · obtain ⟨b, off, rfl, y, q0, q1, q2, q3⟩ := HV.out.file (k := k) (by rw [HN.out]; exact hlt)
        have HSn := hide (pkTo_succ n fs k (by rw [HN.out]; exact hlt))
        have hjl : j + 2 + (fs.getD k oj0).2.2.length ≤ 29 := by
          have h1 := HLs.out (k + 1) (by rw [HN.out]; exact hlt)
          rw [HSn.out] at h1
          simp only [List.length_append, HJ.out, List.length_cons, List.length_nil] at h1
          omega
        obtain ⟨p, hp⟩ : ∃ p, fs.getD k oj0 = p := ⟨_, rfl⟩
        rw [hp] at q0 q1 q3 HSn hjl
        obtain ⟨a, s, xs⟩ := p
        dsimp only at q0 q1 q3 HSn hjl
        have hB2 := below_on HRs.out.below HB.out
        have g0 := cell_later hB2 q0
        have g1 := cell_later hB2 q1
        have g2 := cell_later hB2 q2
        obtain ⟨a3, c3, rfl⟩ := q3.shape
        obtain ⟨l, hl⟩ : ∃ l, xs.length = l := ⟨_, rfl⟩
        rw [hl] at g2 q3 hjl
        have HQ3 := hide q3
        have HL := hide hl
        have hzz := HB.out.size
        clear hp q0 q1 q2 q3 hl hB2
        have hk0 : (0 : Int) ≤ (k : Int) := by omega
        have hk1 : (k : Int) < (n : Int) := by omega
        obtain ⟨P, hP⟩ : ∃ P, pkTo n fs k = P := ⟨_, rfl⟩
        rw [hP] at HJ HRow HSn
        clear hP
        have bA := below_alloc wr (.cells #[.int .i64 a, .int .i64 s, .slice a3 l c3] 114)
        have HBa := hide (below_on HB.out bA)
        have HRowA := hide (ownsRow_later HRow.out bA)
        have HRlt := hide (fun r hr => HRow.out.lt r hr)
        clear bA HRow HB
        have HPk : Hid (∀ (cap g : Nat) (w4 : World), w4.ownsRow w1.heap.size 2 1 (.slice (some ⟨g, 0, none⟩) (j + 2) cap) (j + 2) (P.map (Value.int .i64) ++ [.int .i64 a, .int .i64 s]) → ((wr.alloc (.cells #[.int .i64 a, .int .i64 s, .slice a3 l c3] 114)).alloc (.cells #[.int .i64 a, .int .i64 s] 2)).grownBy w4 u4.ownBlock →
            w4.cell? ⟨wr.heap.size, 2, none⟩ = some (.slice a3 l c3) ∧ Below w1.heap.size w1 w4 ∧ w1.heap.size ≤ w4.heap.size ∧ (l ≠ 0 → ∃ ad, a3 = some ad ∧ ∀ j u, (xs.map (Value.int .i64))[j]? = some u → w4.cell? (ad.add j) = some u)) := by
          intro cap g w4 hown3 hgrow
          have bB := below_alloc (wr.alloc (.cells #[.int .i64 a, .int .i64 s, .slice a3 l c3] 114)) (.cells #[.int .i64 a, .int .i64 s] 2)
          have d2 : w4.cell? ⟨wr.heap.size, 2, none⟩ = some (.slice a3 l c3) := (hgrow.cell_far ⟨wr.heap.size, 2, none⟩ (by simp; omega) (fun e => by have := (HRlt.out _ e.symm).2; dsimp only at this; omega)).trans (cell_later bB (by simp [go_sem]))
          have HB4 := (below_on HBa.out bB).grown hgrow (by simp; omega) (fun r hr => (HRlt.out r hr).1)
          obtain ⟨a4, c4, e4, hsrc⟩ := (HQ3.out.later (below_on HRs.out.below HB4)).src
          injection e4 with e5 _ e6
          subst e5
          rw [HL.out] at hsrc
          exact ⟨d2, HB4, HB4.size, hsrc⟩
        go_wp2_with (first
          | (at_builtin; refine wpList_append_any _ rfl _ _ 22 rfl w1.heap.size 2 i0 (.int .i64 0) 1 8 Tryz.underlying22 hi hz0 hz1 hz2 rfl (by decide) _ (j + 2) _ (by rfl) HRow4.out a3 l c3 (xs.map (Value.int .i64)) (by rfl) (by simp [HL.out]) HS.out (ints_oneCell _ _) (by unfold maxLen; omega) (by omega) (by omega) ?_; intro v' w5 hown hgrow)
          | (at_builtin; refine wpList_append_lies _ rfl _ _ _ rfl w1.heap.size 2 i0 (.int .i64 0) 1 8 Tryz.underlying22 hi hz0 hz1 hz2 rfl (by omega) _ j _ (by rfl) (HRowA.out.alloc (.cells #[.int .i64 a, .int .i64 s] 2)) ⟨wr.heap.size + 1, 0, none⟩ 2 2 [.int .i64 a, .int .i64 s] (by rfl) (by rfl) (by have h := World.news_of_block (cs := #[.int .i64 a, .int .i64 s]) (t := 2) (fr := (0, 0)) (heap_alloc_new (wr.alloc (.cells #[.int .i64 a, .int .i64 s, .slice a3 l c3] 114)) (.cells #[.int .i64 a, .int .i64 s] 2)); simpa using h) (by simp [Value.oneCell']) (by omega) (by unfold maxLen; omega) (by omega) (by simp; omega) (wr.heap.size + 1 + 1) (by simp) ?_; intro g cap w4 hown3 hgrow3 hat hlt3; obtain ⟨d2, hb4, hz4, hsrc⟩ := HPk.out cap g w4 hown3 hgrow3; have HB4 := hide hb4; have HS := hide hsrc; have HRow4 := hide hown3; clear hown3 hgrow3 hat hlt3 hb4 hsrc HPk))
        have HRow5 : Hid (w5.ownsRow w1.heap.size 2 1 v' (j + 2 + l) ((pkTo n fs (k + 1)).map (Value.int .i64))) := by
          rw [Hid, HSn.out, List.map_append, List.map_append]
          exact hown
        have HB5 := hide (HB4.out.grown hgrow (by omega) (fun r hr => (HRow4.out.lt r hr).1))
        have HJ5 : Hid ((pkTo n fs (k + 1)).length = j + 2 + l) := by rw [Hid, HSn.out, List.length_append, List.length_append, HJ.out, HL.out]; rfl
        clear hown hgrow
        go_wp2
        go_roundw
        case rel => exact ⟨k + 1, j + 2 + l, by omega, by go_num, HJ5.out, HRow5.out, HB5.out⟩
        case measure => simp [RowKit.intOf]; omega
      · have hkn : k = n := by omega
        subst hkn
        rw [HAll.out] at HJ HRow
        obtain ⟨az, cz, hz⟩ := owns_shapeM HRow.out
        subst hz
        have hO := ow_of_owns HJ.out HRow.out (by omega)
        have HRs2 := hide (HRs.out.later HB.out)
        have HFn := hide (ret_ints (x := .int .i64 0) HRs2.out.below (Nat.le_refl _) hO hw1)
        have c0 := HRs2.out.c0
        have c1 := HRs2.out.c1
        have F0 := HRs2.out.fr 0
        have F1 := HRs2.out.fr 1
        clear hO
        go_wp2
        refine bodyPost_ret (v := .agg #[.int .i64 0, .slice az j cz]) (by simp [results, Tryz.results131, go_sem, c0, c1]) rfl ⟨_, rfl, HFn.out.1, HFn.out.2⟩
  · rw [if_neg h0]
    have h0b : (z == 0) = false := by simpa using h0
    go_enter Tryz.func131, Tryz.ntmps131
    go_wp2_with fail
    refine HC.out.mono ?_
    rintro e w1 ⟨rfl, hb⟩
    have HRs := hide ((ResF.start w 166).later hb)
    have c0 := HRs.out.c0
    have c1 := HRs.out.c1
    have F0 := HRs.out.fr 0
    have F1 := HRs.out.fr 1
    clear hb
    go_wp2
    refine bodyPost_ret (v := .agg #[.int .i64 z, .slice none 0 0]) (by simp [results, Tryz.results131, go_sem, c0, c1]) rfl ⟨_, rfl, HRs.out.shut _ _, OwI_nil _ _⟩
end Go.Proofs.YtlmaopljihbdkaaGreat
/- Chapter 11: the blocks of a store, told one by one: of its directory, of its numbers, of its entries: the iterators' contracts. -/
namespace Go.Proofs.YtlmaopljihbdkaaGreat
open Go.RowKit Go.Shelf
attribute [local go_sem] Oper.semAt_some

def meP (r : Rf) : List (Int × List Int) := [(2, [r.tm, r.vt, r.si, r.st, (r.lg.length : Int)])]
def flP (r : Rf) : List (Int × List Int) := if sfL r = [] then [] else [(0, pmR (sbL r)), (1, pdR (sfL r))]
def enP (r : Rf) : List (Int × List Int) := r.lg.map fun p => (sfV p.1, peR p)

theorem Tryz.fldIs1 (x y : Value) (w : World) : (Instr.field 166 (.agg #[x, y]) 1).run Tryz.prog w = .ok y w := by
  simp [Instr.field, run_underlying Tryz.underlying166, asAgg, part, isAgg, run_underlying Tryz.underlying22]
theorem Tryz.fldIr1 (x y : Value) (w : World) : (Instr.field 142 (.agg #[x, y]) 1).run Tryz.prog w = .ok y w := by
  simp [Instr.field, run_underlying Tryz.underlying142, asAgg, part, isAgg, run_underlying Tryz.underlying2]

theorem ow_five {w : World} {a b c d e : Int} : OwI w.heap.size (w.alloc (.cells #[.int .i64 a, .int .i64 b, .int .i64 c, .int .i64 d, .int .i64 e] 2)) (.slice (some ⟨w.heap.size, 0, none⟩) 5 5) [a, b, c, d, e] := by
  refine ⟨w.heap.size, ⟨_, 0, rfl, by simp, fun _ => ⟨w.heap.size, 0, rfl, rfl, fun i hi => ?_⟩⟩, fun _ => ⟨Nat.le_refl _, by simp, fun o => by simp [go_sem]⟩⟩
  have : i < 5 := by simpa using hi
  rcases (by omega : i = 0 ∨ i = 1 ∨ i = 2 ∨ i = 3 ∨ i = 4) with rfl | rfl | rfl | rfl | rfl <;> simp [go_sem]

set_option maxRecDepth 100000 in
set_option maxHeartbeats 4000000 in
theorem metaSeq {w : World} {Bp : Nat} {az : Option Addr} {cz : Nat} (r : Rf) (v0 : w.cell? ⟨Bp, 0, none⟩ = some (.int .i64 r.tm)) (v1 : w.cell? ⟨Bp, 1, none⟩ = some (.int .i64 r.vt)) (v2 : w.cell? ⟨Bp, 2, none⟩ = some (.int .i64 r.si)) (v3 : w.cell? ⟨Bp, 3, none⟩ = some (.int .i64 r.st)) (v5 : w.cell? ⟨Bp, 5, none⟩ = some (.slice az r.lg.length cz)) (R : Nat → Prop) (m : Nat) :
    SeqG m Tryz.prog 132 #[.pointer (some ⟨Bp, 0, none⟩)] R (meP r) w := fun l J Jx D0 W hW _ hJ hJx _ _ hJb hY h0 => by
  have u0 := cell_later hW v0
  have u1 := cell_later hW v1
  have u2 := cell_later hW v2
  have u3 := cell_later hW v3
  have u5 := cell_later hW v5
  obtain ⟨fn, tmps, assign, body, hyy0, hR⟩ := hY D0 0 2 _ W _ h0 (below_alloc _ _) (by simp [meP]) (by simp [meP]) (by simpa [meP] using ow_five (w := W) (a := r.tm) (b := r.vt) (c := r.si) (d := r.st) (e := (r.lg.length : Int)))
  have hyy : (Instr.yield l #[.agg #[.int .i64 2, .slice (some ⟨W.heap.size, 0, none⟩) 5 5]]).run Tryz.prog (W.alloc (.cells #[.int .i64 r.tm, .int .i64 r.vt, .int .i64 r.si, .int .i64 r.st, .int .i64 (r.lg.length : Int)] 2)) = .ok (.round l fn tmps assign body) (W.alloc (.cells #[.int .i64 r.tm, .int .i64 r.vt, .int .i64 r.si, .int .i64 r.st, .int .i64 (r.lg.length : Int)] 2)) := hyy0
  clear hyy0 hY hJ hJx hJb h0 hW v0 v1 v2 v3 v5
  refine callsIn_of_wp Tryz.func132 rfl trivial ?_ rfl
  simp only [Tryz.ntmps132, List.size_toArray, List.length_cons, List.length_nil, Nat.reduceAdd, Nat.reduceSub, Array.replicate_succ, Array.replicate_zero, List.push_toArray, List.append_toArray, List.nil_append, List.cons_append]
  gi_wp2
  refine ⟨fun h => by simp [Fence.wide] at h, hR.mono ?_⟩
  rintro e W3 (⟨rfl, D', hJ3, hk3, hD3⟩ | ⟨rfl, hJx3, _⟩)
  · have HJ3 := hide hJ3
    clear hJ3 hk3 hD3
    gi_wp2
    go_end0
    exact ⟨⟨_, rfl⟩, .inl ⟨D', HJ3.out⟩⟩
  · have HJ3 := hide hJx3
    clear hJx3
    gi_wp2
    go_end0
    exact ⟨⟨_, rfl⟩, .inr HJ3.out⟩

theorem RdI.capW {S : Nat → Prop} {w : World} {v : Value} {xs : List Int} (h : RdI S w v xs) : capE v := by
  obtain ⟨ao, c, rfl, _⟩ := h
  exact Nat.le_add_right _ _
theorem OwJ.ku {S D : Nat → Prop} {w w' : World} {v : Value} {fs : List Oj} (h : OwJ S w v fs) (hw : Ku D w w') (hd : ∀ b, S b → ¬ D b) : RdJ S w' v fs := by
  obtain ⟨ao, c, e1, e2, e3⟩ := h.rd
  refine ⟨ao, c, e1, e2, fun hne => ?_⟩
  obtain ⟨b, off, V, f1, f2, f3⟩ := e3 hne
  exact ⟨b, off, V, f1, f2, fun i hi => ⟨hw.cell (f3 i hi).1 (hd b f2), hw.cell (f3 i hi).2.1 (hd b f2), hw.cell (f3 i hi).2.2.1 (hd b f2), (f3 i hi).2.2.2.ku hw (fun _ => hd)⟩⟩
theorem RdJ.ku {S D : Nat → Prop} {w w' : World} {v : Value} {fs : List Oj} (h : RdJ S w v fs) (hw : Ku D w w') (hd : ∀ b, S b → ¬ D b) : RdJ S w' v fs := by
  obtain ⟨ao, c, e1, e2, e3⟩ := h
  refine ⟨ao, c, e1, e2, fun hne => ?_⟩
  obtain ⟨b, off, V, f1, f2, f3⟩ := e3 hne
  exact ⟨b, off, V, f1, f2, fun i hi => ⟨hw.cell (f3 i hi).1 (hd b f2), hw.cell (f3 i hi).2.1 (hd b f2), hw.cell (f3 i hi).2.2.1 (hd b f2), (f3 i hi).2.2.2.ku hw (fun _ => hd)⟩⟩

set_option maxRecDepth 100000 in
set_option maxHeartbeats 4000000 in
theorem fileSeq {S T : Nat → Prop} {w : World} {Bp : Nat} {y z : Value} (r : Rf) (v0 : w.cell? ⟨Bp, 0, none⟩ = some (.int .i64 r.tm)) (v1 : w.cell? ⟨Bp, 1, none⟩ = some (.int .i64 r.vt)) (v2 : w.cell? ⟨Bp, 2, none⟩ = some (.int .i64 r.si)) (v3 : w.cell? ⟨Bp, 3, none⟩ = some (.int .i64 r.st)) (v4 : w.cell? ⟨Bp, 4, none⟩ = some y) (v5 : w.cell? ⟨Bp, 5, none⟩ = some z)
    (hy : RdI S w y r.sn) (hz : RdJ T w z r.lg) (hl : r.sn.length ≤ 40) (R : Nat → Prop) (m : Nat) :
    SeqG m Tryz.prog 127 #[.pointer (some ⟨Bp, 0, none⟩)] R (flP r) w := fun l J Jx D0 W hW _ hJ hJx _ _ hJb hY h0 => by
  obtain ⟨ay, cy, rfl⟩ := hy.shape
  obtain ⟨az, cz, rfl, _⟩ := hz.shape
  have u0 := cell_later hW v0
  have u1 := cell_later hW v1
  have u2 := cell_later hW v2
  have u3 := cell_later hW v3
  have u4 := cell_later hW v4
  have u5 := cell_later hW v5
  have HF := hide (snapFilesI r (hy.later hW) (hz.later hW) hl)
  have HSrt := hide (srt_snap r)
  have hbl : (blksF (sfL r)).length ≤ 1048576 := by
    rw [← srtF_len, srt_snap r]
    have := (sbL_some hl).1
    omega
  have HBl := hide hbl
  have HJ := hide hJ
  have HJb := hide (hJb _ _ _ h0)
  have HYd := hide hY
  have H0 := hide h0
  have fld := Tryz.fldIs1
  clear v0 v1 v2 v3 v4 v5 hy hz hW hbl hJ hJx hJb hY h0 hl
  refine callsIn_of_wp Tryz.func127 rfl trivial ?_ rfl
  simp only [Tryz.ntmps127, List.size_toArray, List.length_cons, List.length_nil, Nat.reduceAdd, Nat.reduceSub, Array.replicate_succ, Array.replicate_zero, List.push_toArray, List.append_toArray, List.nil_append, List.cons_append]
  gi_wp2
  refine ⟨trivial, fun h => (by simp [Fence.wide] at h), (callsIn_wide.2 HF.out).mono ?_⟩
  rintro e w1 ⟨f1, rfl, hb1, ho1⟩
  have HO1 := hide ho1
  have HB1 := hide hb1
  obtain ⟨a1, c1, rfl, _⟩ := ho1.rd.shape
  obtain ⟨nf, hnf⟩ : ∃ n, (sfL r).length = n := ⟨_, rfl⟩
  rw [hnf] at HO1 ⊢
  have hs1 := hb1.size
  clear u0 u1 u2 u3 u4 u5 HF ho1 hb1
  by_cases h0 : sfL r = []
  · have hn0 : nf = 0 := by rw [← hnf, h0]; rfl
    subst hn0
    have HJ1 := hide (HJ.out _ _ _ _ H0.out HB1.out)
    have hfl : (flP r).length = 0 := by unfold flP; rw [if_pos h0]; rfl
    gi_wp2
    refine bodyPost_ret (results_none rfl _ _ _) rfl ?_
    exact ⟨⟨_, rfl⟩, .inl ⟨D0, by rw [hfl]; exact HJ1.out⟩⟩
  · have hn1 : nf ≠ 0 := by rw [← hnf]; intro h; exact h0 (List.length_eq_zero_iff.1 h)
    have hn1i : ¬ (nf : Int) = 0 := by omega
    have hfl : flP r = [(0, pmR (sbL r)), (1, pdR (sfL r))] := by unfold flP; rw [if_neg h0]
    rw [hfl] at HYd
    clear hnf
    gi_wp2_with (first
      | (refine ⟨trivial, fun h => (by simp [Fence.wide] at h), ?_⟩; gi_at_call 130; refine (callsIn_wide.2 (sortedBlocksI HO1.out.rd HBl.out)).mono ?_; rintro e w2 ⟨f2, rfl, hb2, ho2⟩; rw [HSrt.out] at ho2; obtain ⟨a2, c2, rfl⟩ := ho2.shape; have HO2 := hide ho2; have HB2 := hide (below_on HB1.out hb2); have hs2 := hb2.size; have HOf := hide (HO1.out.laterR hb2); clear hb2 ho2)
      | (refine ⟨trivial, fun h => (by simp [Fence.wide] at h), ?_⟩; gi_at_call 129; obtain ⟨_, hrb, _⟩ := HO2.out; refine (callsIn_wide.2 (implPackMap hrb)).mono ?_; rintro e w3 ⟨f3, rfl, hb3, ho3⟩; have hs3 := hb3.size; have HB3 := hide (below_on HB2.out hb3); have HOg := hide (HOf.out.laterR hb3); obtain ⟨a3, c3, hz3⟩ := ho3.shape; obtain ⟨n3, hn3⟩ : ∃ n, (pmR (sbL r)).length = n := ⟨_, rfl⟩; rw [hn3] at hz3; subst hz3; clear hn3; obtain ⟨fn, tmps, assign, body, hyy0, hR⟩ := HYd.out D0 0 0 _ W w3 H0.out HB3.out (by simp) (by simp) (by simpa using ho3.mono (by omega)); have hyy : (Instr.yield l #[.agg #[.int .i64 0, .slice a3 n3 c3]]).run Tryz.prog w3 = .ok (.round l fn tmps assign body) w3 := hyy0; clear hyy0 hb3 ho3 hrb)
      | gi_in)
    refine ⟨fun h => by simp [Fence.wide] at h, hR.mono ?_⟩
    rintro e W3 (⟨rfl, D', hJ3, hk3, hD3⟩ | ⟨rfl, hJx3, _⟩)
    · have hrf := HOg.out.ku hk3 (fun b hb hd => by have := HJb.out b hd; omega)
      have HJ3 := hide hJ3
      have HRf := hide hrf
      clear hJ3 hk3 hD3 hrf hyy
      gi_wp2_with (first
        | (refine ⟨trivial, fun h => (by simp [Fence.wide] at h), ?_⟩; gi_at_call 131; refine (callsIn_wide.2 (implPackDir HRf.out)).mono ?_; rintro e w4 ⟨f4, rfl, hb4, ho4⟩; obtain ⟨a4, c4, hz4⟩ := ho4.shape; obtain ⟨n4, hn4⟩ : ∃ n, (pdR (sfL r)).length = n := ⟨_, rfl⟩; rw [hn4] at hz4; subst hz4; clear hn4; obtain ⟨fn2, tmps2, assign2, body2, hyy0, hR2⟩ := HYd.out D' 1 1 _ W3 w4 HJ3.out hb4 (by simp) (by simp) (by simpa using ho4); have hyy : (Instr.yield l #[.agg #[.int .i64 1, .slice a4 n4 c4]]).run Tryz.prog w4 = .ok (.round l fn2 tmps2 assign2 body2) w4 := hyy0; clear hyy0 hb4 ho4)
        | gi_in)
      refine ⟨fun h => by simp [Fence.wide] at h, hR2.mono ?_⟩
      rintro e W5 (⟨rfl, D5, hJ5, hk5, hD5⟩ | ⟨rfl, hJx5, _⟩)
      · have HJ5 := hide hJ5
        clear hJ5 hk5 hD5
        gi_wp2
        go_end0
        exact ⟨⟨_, rfl⟩, .inl ⟨D5, by rw [hfl]; exact HJ5.out⟩⟩
      · have HJ5 := hide hJx5
        clear hJx5
        gi_wp2
        go_end0
        exact ⟨⟨_, rfl⟩, .inr HJ5.out⟩
    · have HJ3 := hide hJx3
      clear hJx3
      gi_wp2
      go_end0
      exact ⟨⟨_, rfl⟩, .inr HJ3.out⟩
end Go.Proofs.YtlmaopljihbdkaaGreat
