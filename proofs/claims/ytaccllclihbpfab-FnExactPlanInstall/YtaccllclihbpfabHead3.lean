/- Chapter 3, the model's side: 'l3Head', walked. -/
import Derived.Test.YtaccllclihbpfabBuiltT
import Derived.Test.YtaccllclihbpfabSlot
import Derived.Test.YtaccllclihbpfabSpec2b
namespace Go.Proofs.Ytaccllclihbpfab
open Go.RowKit

/-- The nine cells of a flush, a header and a flush. -/
def nine (p : Int) (z : Value) : List Value := [.bool true, .int .i64 0, .slice none 0 0, .bool false, .int .i64 p, z, .bool true, .int .i64 0, .slice none 0 0]

set_option maxHeartbeats 1000000 in
set_option maxRecDepth 4000 in
/-- 'l3Head' of a header: where its nine cells lie. -/
theorem l3Head {S : Nat → Prop} {w : World} {y : Value} {xs : List Int} (s t : Int) (hy : RdI S w y xs) (hl : xs.length ≤ 24) (hs : 0 ≤ s) :
    Calls Try.prog 93 #[.agg #[.int .i64 s, .int .i64 t, y]] w fun e w' => ∃ g a4 k4 w4, e = .returned (.slice (some ⟨g, 0, none⟩) 3 3) ∧ Below w.heap.size w w4 ∧ OwI w.heap.size w4 (.slice a4 (packL s t xs).length k4) (packL s t xs) ∧ g = w4.heap.size ∧ w' = w4.alloc (.cells (nine (s % 2) (.slice a4 (packL s t xs).length k4)).toArray 27) := by
  obtain ⟨ay, cy, rfl⟩ := hy.shape
  have hmod : Int.tmod s 2 = s % 2 := Int.tmod_eq_emod_of_nonneg hs
  obtain ⟨l, hl'⟩ : ∃ l, xs.length = l := ⟨_, rfl⟩
  obtain ⟨W, hW⟩ : ∃ W, w.alloc (.cells #[.int .i64 s, .int .i64 t, .slice ay l cy] 77) = W := ⟨_, rfl⟩
  have BW : Hid (Below w.heap.size w W) := by rw [← hW]; exact below_alloc _ _
  have hHd : HdAt W w.heap.size 0 s t (.slice ay l cy) := by rw [← hW]; exact HdAt_new _ _ _ _ _
  rw [hl'] at hy ⊢
  have HPk := hide (l2Pack (w := W.drewN 1) ⟨hHd.seq, hHd.start, hHd.addrs⟩ ((hy.later BW.out).drewN 1) (by omega))
  have c0 := hHd.seq
  have hWs : w.heap.size < W.heap.size := World.block_lt_of_cell? _ _ c0
  generalize packL s t xs = ws at HPk ⊢
  obtain ⟨p, hp⟩ : ∃ p, s % 2 = p := ⟨_, rfl⟩
  rw [hp] at hmod ⊢
  clear hy hp hl' hHd
  go_enter Try.func93, Try.ntmps93
  go_wp2_with fail
  go_region_held3 (fun w' => w'.cell? ⟨w.heap.size, 0, none⟩ = some (.int .i64 s)) (first | exact c0 | exact e0 | exact cell_later (below_alloc w4 _) e0)
    (first | (go_at_call 114; refine HPk.out.mono ?_; rintro e w4 ⟨z4, rfl, hb4, ho4⟩; obtain ⟨a4, k4, rfl⟩ := ho4.shape; have e0 := cell_later hb4 c0; have HB4 := hide (below_on (below_drewN W 1) hb4); have HO4 := hide ho4; clear hb4 ho4))
  go_wp2
  go_ret
  have hz := BW.out.size
  exact ⟨_, a4, k4, w4, rfl, below_on BW.out HB4.out, HO4.out.mono (by simpa using hz), rfl, rfl⟩
end Go.Proofs.Ytaccllclihbpfab
