/- The laws' helpers over a code with puts; puts among the arguments. -/
import Derived.Test.YtiommfabhchgdaaIv
import Derived.Test.YtiommfabhchgdaaSz
import Derived.Test.YtiommfabhchgdaaSmall
import Derived.Test.YtiommfabhchgdaaFault2
namespace Go.Proofs.Ytiommfabhchgdaa
open Go.RowKit

/-- What a call that ends in a code and puts is to leave. -/
def EndsP (x : Int) (rs : List (Int × List Int)) (w : World) (e : Ending) (w' : World) : Prop :=
  ∃ z, e = .returned (.agg #[.int .i64 x, z]) ∧ Below w.heap.size w w' ∧ OwP (fun b => w.heap.size ≤ b ∧ b < w'.heap.size) w' z rs

theorem szD_nonneg (xss : List (List Int)) (ps : List (Int × List Int)) : 0 ≤ szD xss ps := by unfold szD; omega
def szQ (qs : List (Int × List Int)) : Int := (qs.length : Int) + (totW qs qs.length : Int)
theorem szQ_nonneg (qs : List (Int × List Int)) : 0 ≤ szQ qs := by unfold szQ; omega
theorem smallQ {qs : List (Int × List Int)} (h : szQ qs ≤ 1048576) : qs.length ≤ 1048576 ∧ (∀ i, i < qs.length → (qs.getD i (0, [])).2.length ≤ 1048576) ∧ (totP qs qs.length : Int) ≤ 2097152 := by
  unfold szQ at h
  have h3 := totP_eq qs qs.length (Nat.le_refl _)
  exact ⟨by omega, fun i hi => by have := len_le_totW qs i hi; omega, by omega⟩

/-- Puts in [lo, hi). -/
def IvP (lo hi : Nat) (w : World) (v : Value) (ps : List (Int × List Int)) : Prop :=
  ∃ S : Nat → Prop, hi ≤ w.heap.size ∧ (∀ b, S b → lo ≤ b ∧ b < hi) ∧ OwP S w v ps
theorem OwP.iv {B : Nat} {w : World} {v : Value} {ps : List (Int × List Int)} (h : OwP (fun b => B ≤ b ∧ b < w.heap.size) w v ps) : IvP B w.heap.size w v ps :=
  ⟨_, Nat.le_refl _, fun _ hb => hb, h⟩
theorem IvP.wr {lo hi : Nat} {V : Nat → Prop} {w w' : World} {v : Value} {ps : List (Int × List Int)} (h : IvP lo hi w v ps) (hw : Wr V w w') (hd : ∀ b, lo ≤ b → b < hi → ¬ V b) : IvP lo hi w' v ps := by
  obtain ⟨S, h0, h1, h2⟩ := h
  exact ⟨S, Nat.le_trans h0 hw.size, h1, h2.wr hw fun b hb => hd b (h1 b hb).1 (h1 b hb).2⟩
theorem IvP.later {lo hi : Nat} {w w' : World} {v : Value} {ps : List (Int × List Int)} (h : IvP lo hi w v ps) (hb : Below w.heap.size w w') : IvP lo hi w' v ps :=
  h.wr (Wr.of_below hb fun _ => False) fun _ _ _ => id
theorem IvP.rd {lo hi : Nat} {w : World} {v : Value} {ps : List (Int × List Int)} (h : IvP lo hi w v ps) : RdP (fun b => lo ≤ b ∧ b < hi) w v ps := by
  obtain ⟨S, h0, h1, h2⟩ := h
  exact (h2.mono h1).rd

/-- Puts in [lo, hi) whose marks stand from k on. -/
def MkPs (k : Int) (lo hi : Nat) (w : World) (v : Value) (ps : List (Int × List Int)) : Prop := RdP (fun b => lo ≤ b ∧ b < hi) w v (mkP k ps)
theorem MkPs.wr {k : Int} {lo hi : Nat} {V : Nat → Prop} {w w' : World} {v : Value} {ps : List (Int × List Int)} (h : MkPs k lo hi w v ps) (hw : Wr V w w') (hd : ∀ b, lo ≤ b → b < hi → ¬ V b) : MkPs k lo hi w' v ps :=
  RdP.wr h hw fun b hb => hd b hb.1 hb.2
theorem MkPs.later {k : Int} {lo hi : Nat} {w w' : World} {v : Value} {ps : List (Int × List Int)} (h : MkPs k lo hi w v ps) (hb : Below w.heap.size w w') : MkPs k lo hi w' v ps := RdP.later h hb

/-- 'markPutS' of what lies in [lo, hi). -/
theorem markPMk {lo hi : Nat} {w : World} {v : Value} {ps : List (Int × List Int)} {k : Int} (h : IvP lo hi w v ps) (hk0 : 0 ≤ k) (hk : k + (totP ps ps.length : Int) ≤ 9223372036854775807) :
    Calls Try.prog 19 #[v, .int .i64 k] w fun e w' => e = .returned (.int .i64 (k + (totP ps ps.length : Int))) ∧ MkPs k lo hi w' v ps ∧ Wr (fun b => lo ≤ b ∧ b < hi) w w' := by
  obtain ⟨S, h0, h1, h2⟩ := h
  exact markP (h2.mono h1) hk0 hk
theorem markPIv {lo hi : Nat} {w : World} {v : Value} {ps : List (Int × List Int)} {k : Int} (h : IvP lo hi w v ps) (hk0 : 0 ≤ k) (hk : k + (totP ps ps.length : Int) ≤ 9223372036854775807) :
    Calls Try.prog 19 #[v, .int .i64 k] w fun e w' => e = .returned (.int .i64 (k + (totP ps ps.length : Int))) ∧ Wr (fun b => lo ≤ b ∧ b < hi) w w' :=
  (markPMk h hk0 hk).mono fun _ _ ⟨h1, _, h3⟩ => ⟨h1, h3⟩

/-- 'eqPutsResult' of two readings of one result. -/
theorem eqPutsResult {S T : Nat → Prop} {w : World} {x : Int} {u v : Value} {ps : List (Int × List Int)} (hu : RdP S w u ps) (hv : RdP T w v ps) :
    Calls Try.prog 9 #[.agg #[.int .i64 x, u], .agg #[.int .i64 x, v]] w fun e w' => e = .returned (.bool true) ∧ Below w.heap.size w w' := by
  have HU := hide hu
  have HV := hide hv
  obtain ⟨ao, c, rfl, _⟩ := hu.shape
  obtain ⟨ao', c', rfl, _⟩ := hv.shape
  clear hu hv
  go_enter Try.func9, Try.ntmps9
  go_wp2_with fail
  refine (eqP ((HU.out.later (below_alloc _ _)).later (below_alloc _ _)) ((HV.out.later (below_alloc _ _)).later (below_alloc _ _))).mono ?_
  rintro e w' ⟨rfl, hb⟩
  have HB := hide (below_on (below_on (below_alloc _ _) (below_alloc _ _)) hb)
  clear hb
  go_wp2
  go_ret
  exact ⟨rfl, HB.out⟩

/-- 'markPutsResult' of puts in [lo, hi). -/
theorem markPutsResult {lo hi : Nat} {w : World} {x : Int} {u : Value} {ps : List (Int × List Int)} {k : Int} (hu : IvP lo hi w u ps) (hk0 : 0 ≤ k) (hk : k + (totP ps ps.length : Int) ≤ 9223372036854775807) :
    Calls Try.prog 12 #[.agg #[.int .i64 x, u], .int .i64 k] w fun e w' => e = .returned (.int .i64 (k + (totP ps ps.length : Int))) ∧ MkPs k lo hi w' u ps ∧ Wr (fun b => lo ≤ b ∧ b < hi) w w' := by
  have HY := hide hu
  obtain ⟨ao, c, rfl, _⟩ := hu.rd.shape
  clear hu
  obtain ⟨M, hM⟩ : ∃ M, k + (totP ps ps.length : Int) = M := ⟨_, rfl⟩
  have HM := hide hM
  have HK := hide hk
  rw [hM]
  clear hM hk
  go_enter Try.func12, Try.ntmps12
  go_wp2_with fail
  refine (markPMk (HY.out.later (below_alloc _ _)) hk0 HK.out).mono ?_
  rintro e w1 ⟨he, hm, hw⟩
  rw [HM.out] at he
  subst he
  have HMk := hide hm
  have HW := hide (wr_on (below_alloc _ _) hw)
  clear hm hw
  go_wp2
  go_ret
  exact ⟨rfl, HMk.out, HW.out⟩

/-- 'heldPutsResult' of puts whose marks stand. -/
theorem heldPutsResult {lo hi : Nat} {w : World} {x : Int} {u : Value} {ps : List (Int × List Int)} {k : Int} (hu : MkPs k lo hi w u ps) (hk0 : 0 ≤ k) (hk : k + (totP ps ps.length : Int) ≤ 9223372036854775807) :
    Calls Try.prog 13 #[.agg #[.int .i64 x, u], .int .i64 k] w fun e w' => e = .returned (.int .i64 (k + (totP ps ps.length : Int))) ∧ Below w.heap.size w w' := by
  have HY := hide hu
  obtain ⟨ao, c, rfl, _⟩ := RdP.shape hu
  clear hu
  rw [mkP_len] at HY ⊢
  obtain ⟨M, hM⟩ : ∃ M, k + (totP ps ps.length : Int) = M := ⟨_, rfl⟩
  have HM := hide hM
  have HK := hide hk
  have hpos : 0 ≤ M := by omega
  rw [hM]
  clear hM hk
  go_enter Try.func13, Try.ntmps13
  go_wp2_with fail
  refine (heldP (RdP.later HY.out (below_alloc _ _)) hk0 HK.out).mono ?_
  rintro e w1 ⟨he, q, rfl⟩
  rw [HM.out] at he
  subst he
  go_wp2
  go_ret
  exact ⟨rfl, below_on (below_alloc _ _) (below_drewN _ _)⟩
end Go.Proofs.Ytiommfabhchgdaa
