/- 'impl.NewDisk' and 'spec.NewDisk' walked, and the law over them. -/
import Derived.Test.YtaccllclihbpfaaEq
import Derived.Test.YtaccllclihbpfaaMark
import Derived.Test.YtaccllclihbpfaaHeld
import Derived.Test.YtaccllclihbpfaaTo
import Derived.Test.YtaccllclihbpfaaFault
import Derived.Deep.OwnRows
namespace Go.Proofs.Ytaccllclihbpfaa
open Go.RowKit

/-- n nil rows at the head of a block that was just made. -/
theorem made_rows (w : World) (n : Nat) (hn : n ≤ 9223372036854775807) (e : TypeId) : OwII (· = w.heap.size) (w.alloc (.cells (madeCells #[.slice none 0 0] n) e)) (.slice (some ⟨w.heap.size, 0, none⟩) n n) (List.replicate n []) := by
  refine ⟨_, n, w.heap.size, 0, fun _ => .slice none 0 0, fun _ => 0, by simp, by simpa using hn, fun _ => ⟨rfl, rfl⟩, fun i hi => ?_⟩
  have hi' : i < n := by simpa using hi
  have e1 : (List.replicate n ([] : List Int)).getD i [] = [] := by simp [List.getD, hi']
  rw [e1]
  refine ⟨?_, ⟨none, 0, by simp, by simp, fun h => absurd rfl h⟩, fun h => absurd rfl h⟩
  have := (World.rowIs_made w (.slice none 0 0) n e).cell hi'
  simpa using this

theorem implNew_yes (n : Nat) (hn : n ≤ 70) (w : World) :
    Calls Try.prog 19 #[.int .i64 (n : Int)] w fun e w' => ∃ u, e = .returned (.agg #[.int .i64 0, u, .slice none 0 0]) ∧ Below w.heap.size w w' ∧ OwII (fun b => w.heap.size ≤ b ∧ b < w'.heap.size) w' u (List.replicate n []) := by
  have hmk := run_make_row' (P := Try.prog) 24 28 (.slice none 0 0) 24 Try.underlying24 Try.infoInts rfl .i64 .i64 n (by omega) (by omega)
  go_enter Try.func19, Try.ntmps19
  go_wp2
  refine bodyPost_ret (v := .agg #[.int .i64 0, .slice (some ⟨w.heap.size + 1, 0, none⟩) n n, .slice none 0 0]) (by simp [results, Try.results19, go_sem]) rfl ⟨_, rfl, below_on (below_alloc _ _) (below_alloc _ _), ?_⟩
  have h := made_rows (w.alloc (.cells #[.int .i64 0, .slice (some ⟨w.heap.size + 1, 0, none⟩) n n, .slice none 0 0] 32)) n (by omega) 28
  simp only [World.size_alloc] at h
  exact h.mono fun b hb => by subst hb; simp

theorem implNew_no (s : Int) (hs : s < 0 ∨ 70 < s) (w : World) :
    Calls Try.prog 19 #[.int .i64 s] w fun e w' => e = .returned (.agg #[.int .i64 3, .slice none 0 0, .slice none 0 0]) ∧ Below w.heap.size w w' := by
  by_cases h : s < 0
  · go_enter Try.func19, Try.ntmps19
    go_wp2
    exact bodyPost_ret (v := .agg #[.int .i64 3, .slice none 0 0, .slice none 0 0]) (by simp [results, Try.results19, go_sem]) rfl ⟨rfl, below_alloc _ _⟩
  · have h' : 70 < s := by omega
    clear hs
    go_enter Try.func19, Try.ntmps19
    go_wp2
    exact bodyPost_ret (v := .agg #[.int .i64 3, .slice none 0 0, .slice none 0 0]) (by simp [results, Try.results19, go_sem]) rfl ⟨rfl, below_alloc _ _⟩

theorem l1New (n : Nat) (hn : n ≤ 70) (w : World) :
    Calls Try.prog 113 #[.int .i64 (n : Int)] w fun e w' => ∃ u, e = .returned (.agg #[u, .slice none 0 0]) ∧ Below w.heap.size w w' ∧ OwII (fun b => w.heap.size ≤ b ∧ b < w'.heap.size) w' u (List.replicate n []) := by
  have hmk := run_make_row' (P := Try.prog) 24 28 (.slice none 0 0) 24 Try.underlying24 Try.infoInts rfl .i64 .i64 n (by omega) (by omega)
  go_enter Try.func113, Try.ntmps113
  go_wp2
  refine bodyPost_ret (v := .agg #[.slice (some ⟨w.heap.size + 1, 0, none⟩) n n, .slice none 0 0]) (by simp [results, Try.results113, go_sem]) rfl ⟨_, rfl, below_on (below_alloc _ _) (below_alloc _ _), ?_⟩
  have h := made_rows (w.alloc (.cells #[.slice (some ⟨w.heap.size + 1, 0, none⟩) n n, .slice none 0 0] 27)) n (by omega) 28
  simp only [World.size_alloc] at h
  exact h.mono fun b hb => by subst hb; simp

/-- Three cells of a variable. -/
def VarN3 (w : World) (b : Nat) (x y z : Value) : Prop := w.cell? ⟨b, 0, none⟩ = some x ∧ w.cell? ⟨b, 1, none⟩ = some y ∧ w.cell? ⟨b, 2, none⟩ = some z

theorem VarN3.later {w w' : World} {b : Nat} {x y z : Value} (h : VarN3 w b x y z) (hb : Below w.heap.size w w') : VarN3 w' b x y z :=
  ⟨cell_later hb h.1, cell_later hb h.2.1, cell_later hb h.2.2⟩
theorem VarN3.wr {S : Nat → Prop} {w w' : World} {b : Nat} {x y z : Value} (h : VarN3 w b x y z) (hb : Wr S w w') (hd : ¬ S b) : VarN3 w' b x y z :=
  ⟨cell_wr hb h.1 hd, cell_wr hb h.2.1 hd, cell_wr hb h.2.2 hd⟩
theorem VarN3.lt {w : World} {b : Nat} {x y z : Value} (h : VarN3 w b x y z) : b < w.heap.size := World.block_lt_of_cell? _ _ h.1
theorem VarN3_new (w : World) (x y z : Value) (t : TypeId) : VarN3 (w.alloc (.cells #[x, y, z] t)) w.heap.size x y z := by
  refine ⟨?_, ?_, ?_⟩ <;> simp [go_sem]

end Go.Proofs.Ytaccllclihbpfaa
