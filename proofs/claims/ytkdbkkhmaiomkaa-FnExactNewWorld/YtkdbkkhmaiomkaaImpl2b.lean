/- Chapter 2, the program's side: 'impl.halfOf', walked. -/
import Derived.Test.YtkdbkkhmaiomkaaImpl2
import Derived.Test.YtkdbkkhmaiomkaaSpec2b
import Derived.Test.YtkdbkkhmaiomkaaCells
import Derived.Deep.CutRange
namespace Go.Proofs.Ytkdbkkhmaiomkaa
open Go.RowKit

theorem Try.sizeHHalf : (Try.prog.info? 60).map (·.size) = some 32 := by kernel_rfl

/-- The cells of a row of words of 16 bits. -/
def u16s (L : List Int) : List Value := L.map (Value.int .u16)
theorem u16s_len (L : List Int) : (u16s L).length = L.length := by simp [u16s]
theorem u16s_at {L : List Int} {i : Nat} (h : i < L.length) : (u16s L)[i]? = some (.int .u16 (L.getD i 0)) := by simp [u16s, List.getD, h]
theorem u16s_one (L : List Int) : ∀ v ∈ u16s L, v.oneCell' = true := by
  intro v hv
  simp only [u16s, List.mem_map] at hv
  obtain ⟨i, _, rfl⟩ := hv
  rfl
theorem u16s_set (L : List Int) (i : Nat) (x : Int) : (u16s L).set i (.int .u16 x) = u16s (L.set i x) := by simp [u16s, List.map_set]

theorem rangeAt_set {w : World} {b : Nat} {cs : List Value} (h : w.rangeAt b 0 cs) (i : Nat) (x : Value) : (w.setCell ⟨b, i, none⟩ x).rangeAt b 0 (cs.set i x) := by
  intro j v hv
  rw [Nat.zero_add]
  have hj : j < cs.length := by
    have := (List.getElem?_eq_some_iff.1 hv).1
    simpa using this
  have hold := h j _ (List.getElem?_eq_getElem hj)
  rw [Nat.zero_add] at hold
  by_cases e : i = j
  · subst e
    rw [List.getElem?_set_self hj] at hv
    injection hv with hv
    rw [World.cell?_setCell_same _ _ _ hold, hv]
  · rw [List.getElem?_set_ne e] at hv
    rw [World.cell?_setCell_other _ _ _ _ (by intro h'; injection h' with _ h2; exact e h2), hold, ← hv, List.getElem?_eq_getElem hj]

/-- Of the world that the walk stands in no more is kept than R. -/
theorem forget {P : Program} {c : Code} {Q : Exit → Act → World → Prop} {a : Act} {w0 : World} (R : World → Prop) (h0 : R w0) (h : ∀ w, R w → c.wp P Q a w) : c.wp P Q a w0 := h _ h0

/-- An array in a block of the call's own, beside the result's one. -/
structure ArrAt (w : World) (r v n : Nat) (cs : List Value) (wr : World) : Prop where
  below : Below w.heap.size w wr
  res : wr.there r 0 n
  free : ∀ o, wr.frozen? ⟨v, o, none⟩ = false
  cells : wr.rangeAt v 0 cs

theorem ArrAt.step {w wr : World} {r v n : Nat} {cs : List Value} (h : ArrAt w r v n cs wr) (hv : w.heap.size ≤ v) (hrv : r ≠ v) (i : Nat) (x : Value) : ArrAt w r v n (cs.set i x) (wr.setCell ⟨v, i, none⟩ x) := by
  refine ⟨h.below.setCell hv _, fun j hj => ?_, fun o => by rw [World.frozen?_setCell]; exact h.free o, rangeAt_set h.cells i x⟩
  rw [World.cell?_setCell_other _ _ _ _ (by intro h'; injection h' with h2 _; exact hrv h2.symm), World.frozen?_setCell]
  exact h.res j hj

theorem wrap_u16 {x : Int} (h0 : 0 ≤ x) (h1 : x ≤ 65535) : IntKind.u16.wrap x = x := by simp [IntKind.wrap, IntKind.bits, IntKind.signed]; omega

/-- A half of which k addresses are laid. -/
def halfTo (s t n : Int) (xs : List Int) (k : Nat) : List Int := [s, t, n] ++ xs.take k ++ List.replicate (29 - k) 0
theorem halfTo_len {s t n : Int} {xs : List Int} {k : Nat} (h : k ≤ xs.length) (h2 : xs.length ≤ 29) : (halfTo s t n xs k).length = 32 := by simp [halfTo]; omega
theorem halfTo_step {s t n : Int} {xs : List Int} {k : Nat} (h : k < xs.length) (h2 : xs.length ≤ 29) : (halfTo s t n xs k).set (3 + k) (xs.getD k 0) = halfTo s t n xs (k + 1) := by
  unfold halfTo
  have hl : ([s, t, n] ++ xs.take k).length = 3 + k := by simp; omega
  rw [show 29 - k = (29 - (k + 1)) + 1 by omega, List.replicate_succ, List.set_append_right _ _ (by rw [hl]; exact Nat.le_refl _), hl, Nat.sub_self, List.set_cons_zero, List.take_succ_eq_append_getElem h]
  simp only [List.getD, List.getElem?_eq_getElem h, Option.getD_some, List.append_assoc, List.cons_append, List.nil_append]
theorem halfTo_end {s t : Int} {xs : List Int} : halfTo s t (xs.length : Int) xs xs.length = packH s t xs := by simp [halfTo, packH]

set_option maxHeartbeats 4000000 in
set_option maxRecDepth 4000 in
theorem halfOf {S : Nat → Prop} {w : World} {y : Value} {xs : List Int} (s t : Int) (hy : RdI S w y xs) (hf : headF s t xs = 0) :
    Calls Try.prog 28 #[.agg #[.int .i64 s, .int .i64 t, y]] w fun e w' => e = .returned (.agg (u16s (packH s t xs)).toArray) ∧ Below w.heap.size w w' := by
  obtain ⟨⟨hs1, hs2, ht1, ht2⟩, hxl, hxr⟩ := headF_zero hf
  have HX := hide hxr
  have HY := hide hy
  obtain ⟨ay, cy, rfl⟩ := hy.shape
  obtain ⟨n, hn⟩ : ∃ n, xs.length = n := ⟨_, rfl⟩
  have HN := hide hn
  rw [hn] at HY hxl ⊢
  clear hy hn hxr hf
  have ws : IntKind.u16.wrap s = s := wrap_u16 (by omega) (by omega)
  have wt : IntKind.u16.wrap t = t := wrap_u16 (by omega) (by omega)
  have wn : IntKind.u16.wrap (n : Int) = (n : Int) := wrap_u16 (by omega) (by omega)
  obtain ⟨C0, hC0⟩ : ∃ C0, u16s (halfTo s t (n : Int) xs 0) = C0 := ⟨_, rfl⟩
  have HC0 := hide hC0
  have HCa : Hid ((#[Value.int .u16 s, Value.int .u16 t, Value.int .u16 (n : Int), Value.int .u16 0, Value.int .u16 0, Value.int .u16 0, Value.int .u16 0, Value.int .u16 0, Value.int .u16 0, Value.int .u16 0, Value.int .u16 0, Value.int .u16 0, Value.int .u16 0, Value.int .u16 0, Value.int .u16 0, Value.int .u16 0, Value.int .u16 0, Value.int .u16 0, Value.int .u16 0, Value.int .u16 0, Value.int .u16 0, Value.int .u16 0, Value.int .u16 0, Value.int .u16 0, Value.int .u16 0, Value.int .u16 0, Value.int .u16 0, Value.int .u16 0, Value.int .u16 0, Value.int .u16 0, Value.int .u16 0, Value.int .u16 0] : Array Value) = C0.toArray) := by unfold Hid; rw [← hC0]; exact congrArg List.toArray (show _ = u16s ([s, t, (n : Int)] ++ [] ++ List.replicate 29 0) by rfl)
  have hCl : C0.length = 32 := by rw [← hC0, u16s_len]; simp [halfTo]
  have hCs : C0.toArray.size = 32 := by simp [hCl]
  have hth : (((w.alloc (.cells #[.int .i64 s, .int .i64 t, .slice ay n cy] 49)).alloc (.cells (List.replicate 32 (Value.int .u16 0)).toArray 60)).alloc (.cells (List.replicate 32 (Value.int .u16 0)).toArray 60)).there (w.heap.size + 1 + 1) 0 C0.toArray.size := by
    rw [hCs]
    have := there_new ((w.alloc (.cells #[.int .i64 s, .int .i64 t, .slice ay n cy] 49)).alloc (.cells (List.replicate 32 (Value.int .u16 0)).toArray 60)) (List.replicate 32 (Value.int .u16 0)) 60 32 rfl
    rw [World.size_alloc, World.size_alloc] at this
    exact this
  have HA0 : Hid (ArrAt w (w.heap.size + 1) (w.heap.size + 1 + 1) 32 C0 ((((w.alloc (.cells #[.int .i64 s, .int .i64 t, .slice ay n cy] 49)).alloc (.cells (List.replicate 32 (Value.int .u16 0)).toArray 60)).alloc (.cells (List.replicate 32 (Value.int .u16 0)).toArray 60)).setCells (w.heap.size + 1 + 1) 0 C0)) := by
    refine ⟨Below.setCells (below_on (below_on (below_alloc _ _) (below_alloc _ _)) (below_alloc _ _)) (by omega) _ _, World.there_setCells ?_ _ _ _, fun o => by rw [World.frozen?_setCells]; simp [go_sem], World.rangeAt_setCells_same _ _ _ _ (by simpa using hth)⟩
    have := World.there_alloc (there_new (w.alloc (.cells #[.int .i64 s, .int .i64 t, .slice ay n cy] 49)) (List.replicate 32 (Value.int .u16 0)) 60 32 rfl) (.cells (List.replicate 32 (Value.int .u16 0)).toArray 60)
    rw [World.size_alloc] at this
    exact this
  have b0 : ((((w.alloc (.cells #[.int .i64 s, .int .i64 t, .slice ay n cy] 49)).alloc (.cells (List.replicate 32 (Value.int .u16 0)).toArray 60)).alloc (.cells (List.replicate 32 (Value.int .u16 0)).toArray 60)).setCells (w.heap.size + 1 + 1) 0 C0).cell? ⟨w.heap.size, 2, none⟩ = some (.slice ay n cy) := by
    rw [World.cell?_setCells_out _ _ _ _ _ (fun hb _ => by simp at hb; omega)]; simp [go_sem]
  have hsz0 := hide (show (Try.prog.info? 60).map (·.size) = some C0.toArray.size by rw [hCs]; exact Try.sizeHHalf)
  have hone0 := hide (show C0.toArray.all (·.oneCell') = true by rw [← hC0]; exact all_oneCell_toArray (u16s_one _))
  have HT := hide hth
  clear hth hCl hCs hC0
  go_enter Try.func28, Try.ntmps28
  go_upto_region 2 with (refine wpList_store_mid rfl 60 _ _ rfl (w.heap.size + 1 + 1) 0 C0.toArray (by rfl) (congrArg Value.agg HCa.out) HT.out hsz0.out hone0.out ?_)
  refine forget (fun wx => ArrAt w (w.heap.size + 1) (w.heap.size + 1 + 1) 32 C0 wx ∧ wx.cell? ⟨w.heap.size, 2, none⟩ = some (.slice ay n cy)) ⟨HA0.out, b0⟩ ?_
  clear HA0 b0 HT hsz0 hone0 HCa
  rintro W0 ⟨hA0, b0⟩
  have HA0 : Hid (ArrAt w (w.heap.size + 1) (w.heap.size + 1 + 1) 32 (u16s (halfTo s t (n : Int) xs 0)) W0) := by rw [HC0.out]; exact hA0
  clear hA0 HC0
  go_wp2
  go_loopw [20] (fun i wr => ∃ k : Nat, k ≤ n ∧ i = .int .i64 k ∧ Hid (ArrAt w (w.heap.size + 1) (w.heap.size + 1 + 1) 32 (u16s (halfTo s t (n : Int) xs k)) wr)) (fun i _ => n - (intOf i).toNat)
  case atStart => exact ⟨0, Nat.zero_le _, rfl, HA0.out⟩
  case round =>
    obtain ⟨k, hk, rfl, HC⟩ := hrel
    by_cases hlt : k < n
    · have hkx : k < xs.length := by rw [HN.out]; exact hlt
      obtain ⟨b, off, rfl, q1⟩ := HY.out.at hkx
      have g1 := cell_later HC.out.below q1
      have hr := HX.out k hkx
      have HSt := hide (HC.out.step (by omega) (by omega) (3 + k) (.int .u16 (xs.getD k 0)))
      rw [u16s_set, halfTo_step hkx (by rw [HN.out]; omega)] at HSt
      have cz := HC.out.cells (3 + k) _ (u16s_at (by rw [halfTo_len (by omega) (by rw [HN.out]; omega)]; omega))
      have fz := HC.out.free (3 + k)
      rw [Nat.zero_add] at cz
      obtain ⟨x0, hx0⟩ : ∃ x0, (halfTo s t (n : Int) xs k).getD (3 + k) 0 = x0 := ⟨_, rfl⟩
      rw [hx0] at cz
      obtain ⟨x, hx⟩ : ∃ x, xs.getD k 0 = x := ⟨_, rfl⟩
      rw [hx] at g1 hr HSt
      have wx : IntKind.u16.wrap x = x := wrap_u16 (by omega) (by omega)
      clear q1 hx0 hx
      go_wp2
      go_roundw
      case rel => exact ⟨k + 1, hlt, by go_num, HSt.out⟩
      case measure => simp [intOf]; omega
    · have hkn : k = n := by omega
      subst hkn
      have HE : Hid (u16s (halfTo s t (k : Int) xs k) = u16s (packH s t xs)) := by
        have := halfTo_end (s := s) (t := t) (xs := xs)
        rw [HN.out] at this
        unfold Hid
        rw [this]
      rw [HE.out] at HC
      have hl32 : (u16s (packH s t xs)).length = 32 := by rw [u16s_len, packH_len (by rw [HN.out]; omega)]
      have hone := hide (all_oneCell_toArray (u16s_one (packH s t xs)))
      obtain ⟨C, hC⟩ : ∃ C, u16s (packH s t xs) = C := ⟨_, rfl⟩
      rw [hC] at HC hl32 hone
      have HCe := hide hC
      have hth := hide (show wr.there (w.heap.size + 1) 0 C.toArray.size by simpa [hl32] using HC.out.res)
      have hsz := hide (show (Try.prog.info? 60).map (·.size) = some C.toArray.size by rw [List.size_toArray, hl32]; exact Try.sizeHHalf)
      clear hC HE hl32
      go_wp2_with (first | (refine wpList_load_mid rfl 60 _ rfl (w.heap.size + 1 + 1) 0 (by rfl) C _ HC.out.cells Try.underlying60 rfl hsz.out ?_) | (refine wpList_store_mid rfl 60 _ _ rfl (w.heap.size + 1) 0 C.toArray (by rfl) (by rfl) hth.out hsz.out hone.out ?_))
      have hres := run_loadVar_mid (P := Try.prog) (wr.setCells (w.heap.size + 1) 0 C) (w.heap.size + 1) 0 60 C _ (World.rangeAt_setCells_same _ _ _ _ (by simpa using hth.out)) Try.underlying60 rfl (by simpa using hsz.out)
      refine bodyPost_ret (v := .agg C.toArray) ?_ rfl ⟨by rw [HCe.out], Below.setCells HC.out.below (by omega) _ _⟩
      simp [results, Try.results28, Act.put]
      simp only [asAddr, Sem.run_pure, Result.andThen_ok]
      exact hres
end Go.Proofs.Ytkdbkkhmaiomkaa
