/- Chapter 9: entries among the arguments; a code with entries. Made by program (genen.py). -/
import Derived.Test.YtkdbkkhmaiomkaaEnZ
import Derived.Test.YtkdbkkhmaiomkaaObV
namespace Go.Proofs.Ytkdbkkhmaiomkaa
open Go.RowKit


/-- What a call that ends in a code and entries is to leave. -/
def EndsEn (x : Int) (rs : List Oj) (w : World) (e : Ending) (w' : World) : Prop :=
  ∃ z, e = .returned (.agg #[.int .i64 x, z]) ∧ Below w.heap.size w w' ∧ OwJ (fun b => w.heap.size ≤ b ∧ b < w'.heap.size) w' z rs

/-- 'markEntryS' of what lies in [lo, hi). -/
theorem markEnMk {lo hi : Nat} {w : World} {v : Value} {ps : List Oj} {k : Int} (h : IvJ lo hi w v ps) (hk0 : 0 ≤ k) (hk : k + (totJ ps ps.length : Int) ≤ 9223372036854775807) :
    Calls Try.prog 37 #[v, .int .i64 k] w fun e w' => e = .returned (.int .i64 (k + (totJ ps ps.length : Int))) ∧ MkJs k lo hi w' v ps ∧ Wr (fun b => lo ≤ b ∧ b < hi) w w' := by
  obtain ⟨S, h0, h1, h2⟩ := h
  exact markEn (h2.mono h1) hk0 hk

theorem markEnIv {lo hi : Nat} {w : World} {v : Value} {ps : List Oj} {k : Int} (h : IvJ lo hi w v ps) (hk0 : 0 ≤ k) (hk : k + (totJ ps ps.length : Int) ≤ 9223372036854775807) :
    Calls Try.prog 37 #[v, .int .i64 k] w fun e w' => e = .returned (.int .i64 (k + (totJ ps ps.length : Int))) ∧ Wr (fun b => lo ≤ b ∧ b < hi) w w' :=
  (markEnMk h hk0 hk).mono fun _ _ ⟨h1, _, h3⟩ => ⟨h1, h3⟩

theorem IvJ.monoE {lo hi lo' : Nat} {w : World} {v : Value} {ps : List Oj} (h : IvJ lo hi w v ps) (h1 : lo' ≤ lo) : IvJ lo' hi w v ps := by
  obtain ⟨S, k0, k1, k2⟩ := h
  exact ⟨S, k0, fun b hb => ⟨Nat.le_trans h1 (k1 b hb).1, (k1 b hb).2⟩, k2⟩
end Go.Proofs.Ytkdbkkhmaiomkaa
