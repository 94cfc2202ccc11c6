/- The laws' helpers over a code with steps. -/
import Derived.Test.YtdjdfkhgkadhgaaStS
namespace Go.Proofs.Ytdjdfkhgkadhgaa
open Go.RowKit

/-- What a call that ends in a code and steps is to leave. -/
def EndsT (x : Int) (rs : List St) (w : World) (e : Ending) (w' : World) : Prop :=
  ∃ z, e = .returned (.agg #[.int .i64 x, z]) ∧ Below w.heap.size w w' ∧ OwT (fun b => w.heap.size ≤ b ∧ b < w'.heap.size) w' z rs

/-- Steps in [lo, hi). -/
def IvT (lo hi : Nat) (w : World) (v : Value) (ts : List St) : Prop :=
  ∃ S : Nat → Prop, hi ≤ w.heap.size ∧ (∀ b, S b → lo ≤ b ∧ b < hi) ∧ OwT S w v ts
theorem OwT.iv {B : Nat} {w : World} {v : Value} {ts : List St} (h : OwT (fun b => B ≤ b ∧ b < w.heap.size) w v ts) : IvT B w.heap.size w v ts :=
  ⟨_, Nat.le_refl _, fun _ hb => hb, h⟩
theorem IvT.wr {lo hi : Nat} {V : Nat → Prop} {w w' : World} {v : Value} {ts : List St} (h : IvT lo hi w v ts) (hw : Wr V w w') (hd : ∀ b, lo ≤ b → b < hi → ¬ V b) : IvT lo hi w' v ts := by
  obtain ⟨S, h0, h1, h2⟩ := h
  exact ⟨S, Nat.le_trans h0 hw.size, h1, h2.wr hw fun b hb => hd b (h1 b hb).1 (h1 b hb).2⟩
theorem IvT.later {lo hi : Nat} {w w' : World} {v : Value} {ts : List St} (h : IvT lo hi w v ts) (hb : Below w.heap.size w w') : IvT lo hi w' v ts :=
  h.wr (Wr.of_below hb fun _ => False) fun _ _ _ => id
theorem IvT.rd {lo hi : Nat} {w : World} {v : Value} {ts : List St} (h : IvT lo hi w v ts) : RdT (fun b => lo ≤ b ∧ b < hi) w v ts := by
  obtain ⟨S, h0, h1, h2⟩ := h
  exact (h2.mono h1).rd

/-- Steps in [lo, hi) whose marks stand from k on. -/
def MkTs (k : Int) (lo hi : Nat) (w : World) (v : Value) (ts : List St) : Prop := RdT (fun b => lo ≤ b ∧ b < hi) w v (mkS k ts)
theorem MkTs.wr {k : Int} {lo hi : Nat} {V : Nat → Prop} {w w' : World} {v : Value} {ts : List St} (h : MkTs k lo hi w v ts) (hw : Wr V w w') (hd : ∀ b, lo ≤ b → b < hi → ¬ V b) : MkTs k lo hi w' v ts :=
  RdT.wr h hw fun b hb => hd b hb.1 hb.2
theorem MkTs.later {k : Int} {lo hi : Nat} {w w' : World} {v : Value} {ts : List St} (h : MkTs k lo hi w v ts) (hb : Below w.heap.size w w') : MkTs k lo hi w' v ts := RdT.later h hb

/-- 'markStepS' of what lies in [lo, hi). -/
theorem markTMk {lo hi : Nat} {w : World} {v : Value} {ts : List St} {k : Int} (h : IvT lo hi w v ts) (hk0 : 0 ≤ k) (hk : k + (totS ts ts.length : Int) ≤ 9223372036854775807) :
    Calls Try.prog 48 #[v, .int .i64 k] w fun e w' => e = .returned (.int .i64 (k + (totS ts ts.length : Int))) ∧ MkTs k lo hi w' v ts ∧ Wr (fun b => lo ≤ b ∧ b < hi) w w' := by
  obtain ⟨S, h0, h1, h2⟩ := h
  exact markT (h2.mono h1) hk0 hk
theorem markTIv {lo hi : Nat} {w : World} {v : Value} {ts : List St} {k : Int} (h : IvT lo hi w v ts) (hk0 : 0 ≤ k) (hk : k + (totS ts ts.length : Int) ≤ 9223372036854775807) :
    Calls Try.prog 48 #[v, .int .i64 k] w fun e w' => e = .returned (.int .i64 (k + (totS ts ts.length : Int))) ∧ Wr (fun b => lo ≤ b ∧ b < hi) w w' :=
  (markTMk h hk0 hk).mono fun _ _ ⟨h1, _, h3⟩ => ⟨h1, h3⟩

/-- 'eqStepsResult' of two readings of one result. -/
theorem eqStepsResult {S T : Nat → Prop} {w : World} {x : Int} {u v : Value} {ts : List St} (hu : RdT S w u ts) (hv : RdT T w v ts) :
    Calls Try.prog 12 #[.agg #[.int .i64 x, u], .agg #[.int .i64 x, v]] w fun e w' => e = .returned (.bool true) ∧ Below w.heap.size w w' := by
  have HU := hide hu
  have HV := hide hv
  obtain ⟨ao, c, rfl, _⟩ := hu.shape
  obtain ⟨ao', c', rfl, _⟩ := hv.shape
  clear hu hv
  go_enter Try.func12, Try.ntmps12
  go_wp2_with fail
  refine (eqT ((HU.out.later (below_alloc _ _)).later (below_alloc _ _)) ((HV.out.later (below_alloc _ _)).later (below_alloc _ _))).mono ?_
  rintro e w' ⟨rfl, hb⟩
  have HB := hide (below_on (below_on (below_alloc _ _) (below_alloc _ _)) hb)
  clear hb
  go_wp2
  go_ret
  exact ⟨rfl, HB.out⟩

/-- 'markStepsResult' of steps in [lo, hi). -/
theorem markStepsResult {lo hi : Nat} {w : World} {x : Int} {u : Value} {ts : List St} {k : Int} (hu : IvT lo hi w u ts) (hk0 : 0 ≤ k) (hk : k + (totS ts ts.length : Int) ≤ 9223372036854775807) :
    Calls Try.prog 15 #[.agg #[.int .i64 x, u], .int .i64 k] w fun e w' => e = .returned (.int .i64 (k + (totS ts ts.length : Int))) ∧ MkTs k lo hi w' u ts ∧ Wr (fun b => lo ≤ b ∧ b < hi) w w' := by
  have HY := hide hu
  obtain ⟨ao, c, rfl, _⟩ := hu.rd.shape
  clear hu
  obtain ⟨M, hM⟩ : ∃ M, k + (totS ts ts.length : Int) = M := ⟨_, rfl⟩
  have HM := hide hM
  have HK := hide hk
  rw [hM]
  clear hM hk
  go_enter Try.func15, Try.ntmps15
  go_wp2_with fail
  refine (markTMk (HY.out.later (below_alloc _ _)) hk0 HK.out).mono ?_
  rintro e w1 ⟨he, hm, hw⟩
  rw [HM.out] at he
  subst he
  have HMk := hide hm
  have HW := hide (wr_on (below_alloc _ _) hw)
  clear hm hw
  go_wp2
  go_ret
  exact ⟨rfl, HMk.out, HW.out⟩

/-- 'heldStepsResult' of steps whose marks stand. -/
theorem heldStepsResult {lo hi : Nat} {w : World} {x : Int} {u : Value} {ts : List St} {k : Int} (hu : MkTs k lo hi w u ts) (hk0 : 0 ≤ k) (hk : k + (totS ts ts.length : Int) ≤ 9223372036854775807) :
    Calls Try.prog 16 #[.agg #[.int .i64 x, u], .int .i64 k] w fun e w' => e = .returned (.int .i64 (k + (totS ts ts.length : Int))) ∧ Below w.heap.size w w' := by
  have HY := hide hu
  obtain ⟨ao, c, rfl, _⟩ := RdT.shape hu
  clear hu
  rw [mkS_len] at HY ⊢
  obtain ⟨M, hM⟩ : ∃ M, k + (totS ts ts.length : Int) = M := ⟨_, rfl⟩
  have HM := hide hM
  have HK := hide hk
  have hpos : 0 ≤ M := by omega
  rw [hM]
  clear hM hk
  go_enter Try.func16, Try.ntmps16
  go_wp2_with fail
  refine (heldT (RdT.later HY.out (below_alloc _ _)) hk0 HK.out).mono ?_
  rintro e w1 ⟨he, q, rfl⟩
  rw [HM.out] at he
  subst he
  go_wp2
  go_ret
  exact ⟨rfl, below_on (below_alloc _ _) (below_drewN _ _)⟩
end Go.Proofs.Ytdjdfkhgkadhgaa
