/- Chapter 9: lists of entries: how much they hold, and copies of them. Made by program (genen.py). -/
import Derived.Test.YtkdbkkhmaiomkaaEnS
import Derived.Test.YtkdbkkhmaiomkaaObZ
namespace Go.Proofs.Ytkdbkkhmaiomkaa
open Go.RowKit
theorem Try.infoEntry : (Try.prog.info? 77).map (fun i => (i.zero, i.size, i.bytes)) = some (some (.agg #[.int .i64 0, .int .i64 0, .slice none 0 0]), 3, 40) := by kernel_rfl

theorem run_make_entry (n : Nat) (hn : n ≤ 1048576) (w : World) :
    (Instr.makeSlice 27 (.int .i64 (n : Int)) (.int .i64 (n : Int))).run Try.prog w = .ok (.slice (some ⟨w.heap.size, 0, none⟩) n n) (w.alloc (.cells (madeCells #[.int .i64 0, .int .i64 0, .slice none 0 0] (n * 3)) 77)) := by
  obtain ⟨i, hi, hz, hs, hb⟩ := info_parts Try.infoEntry
  have hr := run_make (P := Try.prog) w 27 77 i (.agg #[.int .i64 0, .int .i64 0, .slice none 0 0]) Try.underlying27 hi hz .i64 .i64 n n (by omega) (Int.le_refl _) (by rw [hb]; omega) (by omega)
  simp only [Int.toNat_natCast, hs] at hr
  exact hr

end Go.Proofs.Ytkdbkkhmaiomkaa
