/- Chapter 9: entries among the arguments; a code with entries. Made by program (genen.py). -/
import Derived.Test.YtchadekpiegfgaaDoorEnZ
import Derived.Test.YtchadekpiegfgaaDoorObV
namespace Go.Proofs.YtchadekpiegfgaaDoor
open Go.RowKit


/-- What a call that ends in a code and entries is to leave. -/
def EndsEn (x : Int) (rs : List Oj) (w : World) (e : Ending) (w' : World) : Prop :=
  ∃ z, e = .returned (.agg #[.int .i64 x, z]) ∧ Below w.heap.size w w' ∧ OwJ (fun b => w.heap.size ≤ b ∧ b < w'.heap.size) w' z rs

/-- 'markEntryS' of what lies in [lo, hi). -/
theorem markEnMk {lo hi : Nat} {w : World} {v : Value} {ps : List Oj} {k : Int} (h : IvJ lo hi w v ps) (hk0 : 0 ≤ k) (hk : k + (totJ ps ps.length : Int) ≤ 9223372036854775807) :
    Calls Tryd.prog 29 #[v, .int .i64 k] w fun e w' => e = .returned (.int .i64 (k + (totJ ps ps.length : Int))) ∧ MkJs k lo hi w' v ps ∧ Wr (fun b => lo ≤ b ∧ b < hi) w w' := by
  obtain ⟨S, h0, h1, h2⟩ := h
  exact markEn (h2.mono h1) hk0 hk

theorem markEnIv {lo hi : Nat} {w : World} {v : Value} {ps : List Oj} {k : Int} (h : IvJ lo hi w v ps) (hk0 : 0 ≤ k) (hk : k + (totJ ps ps.length : Int) ≤ 9223372036854775807) :
    Calls Tryd.prog 29 #[v, .int .i64 k] w fun e w' => e = .returned (.int .i64 (k + (totJ ps ps.length : Int))) ∧ Wr (fun b => lo ≤ b ∧ b < hi) w w' :=
  (markEnMk h hk0 hk).mono fun _ _ ⟨h1, _, h3⟩ => ⟨h1, h3⟩

/-- 'eqEntriesResult' of two readings of one result. -/
theorem eqEntriesResult {S T : Nat → Prop} {w : World} {x : Int} {u v : Value} {ts : List Oj} (hu : RdJ S w u ts) (hv : RdJ T w v ts) :
    Calls Tryd.prog 21 #[.agg #[.int .i64 x, u], .agg #[.int .i64 x, v]] w fun e w' => e = .returned (.bool true) ∧ Below w.heap.size w w' := by
  have HU := hide hu
  have HV := hide hv
  obtain ⟨ao, c, rfl, _⟩ := hu.shape
  obtain ⟨ao', c', rfl, _⟩ := hv.shape
  clear hu hv
  go_enter Tryd.func21, Tryd.ntmps21
  go_wp2_with fail
  refine (eqEn ((HU.out.later (below_alloc _ _)).later (below_alloc _ _)) ((HV.out.later (below_alloc _ _)).later (below_alloc _ _))).mono ?_
  rintro e w' ⟨rfl, hb⟩
  have HB := hide (below_on (below_on (below_alloc _ _) (below_alloc _ _)) hb)
  clear hb
  go_wp2
  go_ret
  exact ⟨rfl, HB.out⟩

/-- 'markEntriesResult' of entries in [lo, hi). -/
theorem markEntriesResult {lo hi : Nat} {w : World} {x : Int} {u : Value} {ts : List Oj} {k : Int} (hu : IvJ lo hi w u ts) (hk0 : 0 ≤ k) (hk : k + (totJ ts ts.length : Int) ≤ 9223372036854775807) :
    Calls Tryd.prog 22 #[.agg #[.int .i64 x, u], .int .i64 k] w fun e w' => e = .returned (.int .i64 (k + (totJ ts ts.length : Int))) ∧ MkJs k lo hi w' u ts ∧ Wr (fun b => lo ≤ b ∧ b < hi) w w' := by
  have HY := hide hu
  obtain ⟨ao, c, rfl, _⟩ := hu.rd.shape
  clear hu
  obtain ⟨M, hM⟩ : ∃ M, k + (totJ ts ts.length : Int) = M := ⟨_, rfl⟩
  have HM := hide hM
  have HK := hide hk
  rw [hM]
  clear hM hk
  go_enter Tryd.func22, Tryd.ntmps22
  go_wp2_with fail
  refine (markEnMk (HY.out.later (below_alloc _ _)) hk0 HK.out).mono ?_
  rintro e w1 ⟨he, hm, hw⟩
  rw [HM.out] at he
  subst he
  have HMk := hide hm
  have HW := hide (wr_on (below_alloc _ _) hw)
  clear hm hw
  go_wp2
  go_ret
  exact ⟨rfl, HMk.out, HW.out⟩

/-- 'heldEntriesResult' of entries whose marks stand. -/
theorem heldEntriesResult {lo hi : Nat} {w : World} {x : Int} {u : Value} {ts : List Oj} {k : Int} (hu : MkJs k lo hi w u ts) (hk0 : 0 ≤ k) (hk : k + (totJ ts ts.length : Int) ≤ 9223372036854775807) :
    Calls Tryd.prog 23 #[.agg #[.int .i64 x, u], .int .i64 k] w fun e w' => e = .returned (.int .i64 (k + (totJ ts ts.length : Int))) ∧ Below w.heap.size w w' := by
  have HY := hide hu
  obtain ⟨ao, c, rfl, _⟩ := RdJ.shape hu
  clear hu
  rw [mkJ_len] at HY ⊢
  obtain ⟨M, hM⟩ : ∃ M, k + (totJ ts ts.length : Int) = M := ⟨_, rfl⟩
  have HM := hide hM
  have HK := hide hk
  have hpos : 0 ≤ M := by omega
  rw [hM]
  clear hM hk
  go_enter Tryd.func23, Tryd.ntmps23
  go_wp2_with fail
  refine (heldEn (RdJ.later HY.out (below_alloc _ _)) hk0 HK.out).mono ?_
  rintro e w1 ⟨he, q, rfl⟩
  rw [HM.out] at he
  subst he
  go_wp2
  go_ret
  exact ⟨rfl, below_on (below_alloc _ _) (below_drewN _ _)⟩
theorem szEnU {S : Nat → Prop} {w : World} {v : Value} {ps : List Oj} {left : Int} (hv : RdJ S w v ps) (h0 : 0 ≤ left) (h1 : left ≤ 1048576) :
    Calls Tryd.prog 24 #[v, .int .i64 left] w fun e w' => e = .returned (.int .i64 (szv left (szU ps))) ∧ Below w.heap.size w w' := szEn hv h0 h1

theorem IvJ.monoE {lo hi lo' : Nat} {w : World} {v : Value} {ps : List Oj} (h : IvJ lo hi w v ps) (h1 : lo' ≤ lo) : IvJ lo' hi w v ps := by
  obtain ⟨S, k0, k1, k2⟩ := h
  exact ⟨S, k0, fun b hb => ⟨Nat.le_trans h1 (k1 b hb).1, (k1 b hb).2⟩, k2⟩
end Go.Proofs.YtchadekpiegfgaaDoor
