/- 'impl.cellsOf', walked. -/
import Derived.Test.YtojcjipelgjglaaFlt
import Derived.Test.YtojcjipelgjglaaTear
import Derived.Deep.MidRow
namespace Go.Proofs.Ytojcjipelgjglaa
open Go.RowKit

@[go_sem] theorem run_store_complex (P : Program) (w : World) (a : Addr) (m : Mode) (k : FloatKind) (x y : Nat) : (store a (.complex k x y) m).run P w = stored P w a (.complex k x y) m := run_store P w a _ m rfl

theorem Try.sizeCells : (Try.prog.info? 126).map (·.size) = some 64 := by kernel_rfl
theorem Try.sizeHalf : (Try.prog.info? 124).map (·.size) = some 32 := by kernel_rfl

def zc : Value := .complex .f64 0 0
/-- The cell of the i-th of the words. -/
def cellV (xs : List Int) (i : Nat) : Value := if i < xs.length then .complex .f64 (fl (xs.getD i 0).toNat) (fl (i + 1)) else zc
/-- The first k cells are laid. -/
def cellsTo (xs : List Int) (k : Nat) : List Value := (List.range 64).map fun i => if i < k then cellV xs i else zc

theorem cellsTo_len (xs : List Int) (k : Nat) : (cellsTo xs k).length = 64 := by simp [cellsTo]
theorem cellsTo_at (xs : List Int) (k i : Nat) (h : i < 64) : (cellsTo xs k)[i]? = some (if i < k then cellV xs i else zc) := by simp [cellsTo, h]
theorem cellsTo_zero (xs : List Int) : cellsTo xs 0 = List.replicate 64 zc := by
  refine List.ext_getElem? fun i => ?_
  by_cases h : i < 64
  · rw [cellsTo_at xs 0 i h, if_neg (Nat.not_lt_zero _), List.getElem?_replicate, if_pos h]
  · rw [List.getElem?_eq_none (by rw [cellsTo_len]; omega), List.getElem?_eq_none (by simp; omega)]

theorem setCells_size (b : Nat) : ∀ (vs : List Value) (o : Nat) (w : World), (w.setCells b o vs).heap.size = w.heap.size
  | [], _, _ => rfl
  | v :: r, o, w => by simp only [World.setCells]; rw [setCells_size b r]; simp
theorem Below.setCells {B b : Nat} {a w : World} (h : Below B a w) (hb : B ≤ b) : ∀ (o : Nat) (vs : List Value), Below B a (w.setCells b o vs) := by
  intro o vs
  induction vs generalizing o w with
  | nil => exact h
  | cons v r ih => exact ih (h.setCell (p := ⟨b, o, none⟩) hb v) (o + 1)

theorem range_new (w : World) (cs : List Value) (t : TypeId) : (w.alloc (.cells cs.toArray t)).rangeAt w.heap.size 0 cs := by
  intro j v hv
  have h := World.rangeAt_of_block (heap_alloc_new w (.cells cs.toArray t)) 0 cs.length
  simp at h
  have := h j v hv
  simpa using this
theorem there_new (w : World) (cs : List Value) (t : TypeId) (n : Nat) (hn : cs.length = n) : (w.alloc (.cells cs.toArray t)).there w.heap.size 0 n := by
  intro j hj
  refine ⟨(range_new w cs t).isSome j (by omega), by simp [go_sem]⟩

theorem cellsTo_one (xs : List Int) (k : Nat) : ∀ v ∈ cellsTo xs k, v.oneCell' = true := by
  intro v hv
  simp only [cellsTo, List.mem_map] at hv
  obtain ⟨i, _, rfl⟩ := hv
  unfold cellV zc
  split
  · split <;> rfl
  · rfl

/-- What the loop of 'cellsOf' knows behind k words. -/
structure CellsAt (xs : List Int) (w : World) (k : Nat) (wr : World) : Prop where
  below : Below w.heap.size w wr
  size : wr.heap.size = w.heap.size + 2
  res : wr.there w.heap.size 0 64
  free : ∀ o, wr.frozen? ⟨w.heap.size + 1, o, none⟩ = false
  cells : wr.rangeAt (w.heap.size + 1) 0 (cellsTo xs k)

theorem CellsAt.step {xs : List Int} {w wr : World} {k : Nat} (h : CellsAt xs w k wr) (hk : k < 64) (hkx : k < xs.length) : CellsAt xs w (k + 1) (wr.setCell ⟨w.heap.size + 1, k, none⟩ (.complex .f64 (fl (xs.getD k 0).toNat) (fl (k + 1)))) := by
  refine ⟨h.below.setCell (by simp) _, by simpa using h.size, fun j hj => ?_, fun o => by rw [World.frozen?_setCell]; exact h.free o, fun j v hv => ?_⟩
  · rw [World.cell?_setCell_other _ _ _ _ (by simp), World.frozen?_setCell]
    exact h.res j hj
  · have hj : j < 64 := by
      have := (List.getElem?_eq_some_iff.1 hv).1
      rwa [cellsTo_len] at this
    rw [cellsTo_at xs (k + 1) j hj] at hv
    injection hv with hv
    have hold := h.cells j _ (cellsTo_at xs k j hj)
    rw [Nat.zero_add] at hold ⊢
    by_cases e : j = k
    · subst e
      rw [World.cell?_setCell_same _ _ _ hold, ← hv, if_pos (by omega)]
      simp only [cellV]
      rw [if_pos hkx]
    · rw [World.cell?_setCell_other _ _ _ _ (by intro h'; injection h' with _ h2; exact e h2.symm), hold, ← hv]
      by_cases h2 : j < k
      · rw [if_pos h2, if_pos (by omega)]
      · rw [if_neg h2, if_neg (by omega)]

set_option maxHeartbeats 2000000 in
theorem cellsOf {S : Nat → Prop} {w : World} {v : Value} {xs : List Int} (hv : RdI S w v xs) (hl : xs.length ≤ 64) (hw : ∀ i, i < xs.length → 0 ≤ xs.getD i 0 ∧ xs.getD i 0 ≤ 65535) :
    Calls Try.prog 89 #[v] w fun e w' => e = .returned (.agg (cellsTo xs xs.length).toArray) ∧ Below w.heap.size w w' := by
  have HV := hide hv
  have HW := hide hw
  obtain ⟨ao, c, rfl⟩ := hv.shape
  obtain ⟨n, hn⟩ : ∃ n, xs.length = n := ⟨_, rfl⟩
  have HN := hide hn
  rw [hn] at hl HV ⊢
  clear hv hw hn
  go_enter Try.func89, Try.ntmps89
  go_wp2
  go_loopw [8] (fun i wr => ∃ k : Nat, k ≤ n ∧ i = .int .i64 k ∧ Hid (CellsAt xs w k wr)) (fun i _ => n - (intOf i).toNat)
  case atStart =>
    refine ⟨0, Nat.zero_le _, rfl, below_on (below_alloc _ _) (below_alloc _ _), by simp, ?_, fun o => ?_, ?_⟩
    · exact World.there_alloc (there_new w (List.replicate 64 zc) _ 64 rfl) _
    · simp [go_sem]
    · rw [cellsTo_zero]
      have := range_new (w.alloc (.cells (List.replicate 64 zc).toArray 126)) (List.replicate 64 zc) 126
      rw [World.size_alloc] at this
      exact this
  case round =>
    obtain ⟨k, hk, rfl, HC⟩ := hrel
    by_cases hlt : k < n
    · have hkx : k < xs.length := by rw [HN.out]; exact hlt
      obtain ⟨b, off, rfl, q1⟩ := HV.out.at hkx
      have g1 := cell_later HC.out.below q1
      obtain ⟨x, hx⟩ : ∃ x : Nat, xs.getD k 0 = (x : Int) := ⟨_, (Int.toNat_of_nonneg (HW.out k hkx).1).symm⟩
      rw [hx] at g1
      have HX := hide hx
      clear hx q1
      have fz := HC.out.free k
      have cz := HC.out.cells k _ (cellsTo_at xs k k (by omega))
      rw [Nat.zero_add, if_neg (Nat.lt_irrefl _), zc] at cz
      have HSt := hide (HC.out.step (by omega) hkx)
      rw [HX.out] at HSt
      rw [show fl ((x : Int)).toNat = floatOfInt .f64 (x : Int) from rfl, show fl (k + 1) = floatOfInt .f64 ((k : Int) + 1) from rfl] at HSt
      by_cases h32 : k < 32
      · have d1 : Int.tdiv (k : Int) 32 = 0 := by rw [Int.tdiv_eq_ediv_of_nonneg (by omega)]; omega
        have d2 : Int.tmod (k : Int) 32 = (k : Int) := by rw [Int.tmod_eq_emod_of_nonneg (by omega)]; omega
        go_wp2
        go_roundw
        case rel => exact ⟨k + 1, hlt, by go_num, HSt.out⟩
        case measure => simp [intOf]; omega
      · have d1 : Int.tdiv (k : Int) 32 = 1 := by rw [Int.tdiv_eq_ediv_of_nonneg (by omega)]; omega
        obtain ⟨j, hj⟩ : ∃ j, k = 32 + j := ⟨k - 32, by omega⟩
        have d2 : Int.tmod (k : Int) 32 = (j : Int) := by rw [Int.tmod_eq_emod_of_nonneg (by omega)]; omega
        have hj2 : (j : Int) < 32 := by omega
        have cz2 : wr.cell? ⟨w.heap.size + 1, 32 + j, none⟩ = some (.complex .f64 0 0) := by rw [← hj]; exact cz
        have fz2 : wr.frozen? ⟨w.heap.size + 1, 32 + j, none⟩ = false := by rw [← hj]; exact fz
        have HSt2 : Hid (CellsAt xs w (k + 1) (wr.setCell ⟨w.heap.size + 1, 32 + j, none⟩ (.complex .f64 (floatOfInt .f64 (x : Int)) (floatOfInt .f64 ((k : Int) + 1))))) := by rw [← hj]; exact HSt.out
        clear cz fz hj
        go_wp2
        go_roundw
        case rel => exact ⟨k + 1, hlt, by go_num, HSt2.out⟩
        case measure => simp [intOf]; omega
    · have hkn : k = n := by omega
      subst hkn
      have hth := hide (show wr.there w.heap.size 0 (cellsTo xs k).toArray.size by simpa [cellsTo_len] using HC.out.res)
      have hsz := hide (show (Try.prog.info? 126).map (·.size) = some (cellsTo xs k).toArray.size by rw [List.size_toArray, cellsTo_len]; exact Try.sizeCells)
      go_wp2_with (first | (refine wpList_load_mid rfl 126 _ rfl (w.heap.size + 1) 0 (by rfl) (cellsTo xs k) _ HC.out.cells Try.underlying126 rfl hsz.out ?_) | (refine wpList_store_mid rfl 126 _ _ rfl w.heap.size 0 (cellsTo xs k).toArray (by rfl) (by rfl) hth.out hsz.out (all_oneCell_toArray (cellsTo_one xs k)) ?_))
      have hres := run_loadVar_mid (P := Try.prog) (wr.setCells w.heap.size 0 (cellsTo xs k)) w.heap.size 0 126 (cellsTo xs k) _ (World.rangeAt_setCells_same _ _ _ _ (by simpa using hth.out)) Try.underlying126 rfl (by simpa using hsz.out)
      refine bodyPost_ret (v := .agg (cellsTo xs k).toArray) ?_ rfl ⟨rfl, Below.setCells HC.out.below (Nat.le_refl _) _ _⟩
      simp [results, Try.results89, Act.put]
      simp only [asAddr, Sem.run_pure, Result.andThen_ok]
      exact hres
end Go.Proofs.Ytojcjipelgjglaa
