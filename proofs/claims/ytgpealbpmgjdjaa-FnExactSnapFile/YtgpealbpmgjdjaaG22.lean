/- FiZ FiV Iv4 Iv5 in one text: what each says stands at its head below. -/
import Derived.Test.YtgpealbpmgjdjaaG21
import Derived.Test.YtgpealbpmgjdjaaG15
import Derived.Test.YtgpealbpmgjdjaaG17
import Derived.Test.YtgpealbpmgjdjaaG08
/- Chapter 8: lists of files: how much they hold, and copies of them. Made by program (genfi.py). -/
namespace Go.Proofs.Ytgpealbpmgjdjaa
open Go.RowKit
theorem Try.infoFile : (Try.prog.info? 100).map (fun i => (i.zero, i.size, i.bytes)) = some (some (.agg #[.int .i64 0, .int .i64 0, .slice none 0 0]), 3, 40) := by kernel_rfl

theorem run_make_file (n : Nat) (hn : n ≤ 1048576) (w : World) :
    (Instr.makeSlice 39 (.int .i64 (n : Int)) (.int .i64 (n : Int))).run Try.prog w = .ok (.slice (some ⟨w.heap.size, 0, none⟩) n n) (w.alloc (.cells (madeCells #[.int .i64 0, .int .i64 0, .slice none 0 0] (n * 3)) 100)) := by
  obtain ⟨i, hi, hz, hs, hb⟩ := info_parts Try.infoFile
  have hr := run_make (P := Try.prog) w 39 100 i (.agg #[.int .i64 0, .int .i64 0, .slice none 0 0]) Try.underlying39 hi hz .i64 .i64 n n (by omega) (Int.le_refl _) (by rw [hb]; omega) (by omega)
  simp only [Int.toNat_natCast, hs] at hr
  exact hr

/-- The cap of a slice is no smaller than its length. -/
def capOk : Value → Prop
  | .slice _ n c => n ≤ c
  | _ => True
end Go.Proofs.Ytgpealbpmgjdjaa
/- Chapter 8: files among the arguments; a code with files. Made by program (genfi.py). -/
namespace Go.Proofs.Ytgpealbpmgjdjaa
open Go.RowKit


/-- What a call that ends in a code and files is to leave. -/
def EndsFi (x : Int) (rs : List Oj) (w : World) (e : Ending) (w' : World) : Prop :=
  ∃ z, e = .returned (.agg #[.int .i64 x, z]) ∧ Below w.heap.size w w' ∧ OwJ (fun b => w.heap.size ≤ b ∧ b < w'.heap.size) w' z rs

/-- 'markFileS' of what lies in [lo, hi). -/
theorem markFiMk {lo hi : Nat} {w : World} {v : Value} {ps : List Oj} {k : Int} (h : IvJ lo hi w v ps) (hk0 : 0 ≤ k) (hk : k + (totJ ps ps.length : Int) ≤ 9223372036854775807) :
    Calls Try.prog 47 #[v, .int .i64 k] w fun e w' => e = .returned (.int .i64 (k + (totJ ps ps.length : Int))) ∧ MkJs k lo hi w' v ps ∧ Wr (fun b => lo ≤ b ∧ b < hi) w w' := by
  obtain ⟨S, h0, h1, h2⟩ := h
  exact markFi (h2.mono h1) hk0 hk

theorem markFiIv {lo hi : Nat} {w : World} {v : Value} {ps : List Oj} {k : Int} (h : IvJ lo hi w v ps) (hk0 : 0 ≤ k) (hk : k + (totJ ps ps.length : Int) ≤ 9223372036854775807) :
    Calls Try.prog 47 #[v, .int .i64 k] w fun e w' => e = .returned (.int .i64 (k + (totJ ps ps.length : Int))) ∧ Wr (fun b => lo ≤ b ∧ b < hi) w w' :=
  (markFiMk h hk0 hk).mono fun _ _ ⟨h1, _, h3⟩ => ⟨h1, h3⟩

/-- 'eqFilesResult' of two readings of one result. -/
theorem eqFilesResult {S T : Nat → Prop} {w : World} {x : Int} {u v : Value} {ts : List Oj} (hu : RdJ S w u ts) (hv : RdJ T w v ts) :
    Calls Try.prog 19 #[.agg #[.int .i64 x, u], .agg #[.int .i64 x, v]] w fun e w' => e = .returned (.bool true) ∧ Below w.heap.size w w' := by
  have HU := hide hu
  have HV := hide hv
  obtain ⟨ao, c, rfl, _⟩ := hu.shape
  obtain ⟨ao', c', rfl, _⟩ := hv.shape
  clear hu hv
  go_enter Try.func19, Try.ntmps19
  go_wp2_with fail
  refine (eqFi ((HU.out.later (below_alloc _ _)).later (below_alloc _ _)) ((HV.out.later (below_alloc _ _)).later (below_alloc _ _))).mono ?_
  rintro e w' ⟨rfl, hb⟩
  have HB := hide (below_on (below_on (below_alloc _ _) (below_alloc _ _)) hb)
  clear hb
  go_wp2
  go_ret
  exact ⟨rfl, HB.out⟩

/-- 'markFilesResult' of files in [lo, hi). -/
theorem markFilesResult {lo hi : Nat} {w : World} {x : Int} {u : Value} {ts : List Oj} {k : Int} (hu : IvJ lo hi w u ts) (hk0 : 0 ≤ k) (hk : k + (totJ ts ts.length : Int) ≤ 9223372036854775807) :
    Calls Try.prog 22 #[.agg #[.int .i64 x, u], .int .i64 k] w fun e w' => e = .returned (.int .i64 (k + (totJ ts ts.length : Int))) ∧ MkJs k lo hi w' u ts ∧ Wr (fun b => lo ≤ b ∧ b < hi) w w' := by
  have HY := hide hu
  obtain ⟨ao, c, rfl, _⟩ := hu.rd.shape
  clear hu
  obtain ⟨M, hM⟩ : ∃ M, k + (totJ ts ts.length : Int) = M := ⟨_, rfl⟩
  have HM := hide hM
  have HK := hide hk
  rw [hM]
  clear hM hk
  go_enter Try.func22, Try.ntmps22
  go_wp2_with fail
  refine (markFiMk (HY.out.later (below_alloc _ _)) hk0 HK.out).mono ?_
  rintro e w1 ⟨he, hm, hw⟩
  rw [HM.out] at he
  subst he
  have HMk := hide hm
  have HW := hide (wr_on (below_alloc _ _) hw)
  clear hm hw
  go_wp2
  go_ret
  exact ⟨rfl, HMk.out, HW.out⟩

/-- 'heldFilesResult' of files whose marks stand. -/
theorem heldFilesResult {lo hi : Nat} {w : World} {x : Int} {u : Value} {ts : List Oj} {k : Int} (hu : MkJs k lo hi w u ts) (hk0 : 0 ≤ k) (hk : k + (totJ ts ts.length : Int) ≤ 9223372036854775807) :
    Calls Try.prog 23 #[.agg #[.int .i64 x, u], .int .i64 k] w fun e w' => e = .returned (.int .i64 (k + (totJ ts ts.length : Int))) ∧ Below w.heap.size w w' := by
  have HY := hide hu
  obtain ⟨ao, c, rfl, _⟩ := RdJ.shape hu
  clear hu
  rw [mkJ_len] at HY ⊢
  obtain ⟨M, hM⟩ : ∃ M, k + (totJ ts ts.length : Int) = M := ⟨_, rfl⟩
  have HM := hide hM
  have HK := hide hk
  have hpos : 0 ≤ M := by omega
  rw [hM]
  clear hM hk
  go_enter Try.func23, Try.ntmps23
  go_wp2_with fail
  refine (heldFi (RdJ.later HY.out (below_alloc _ _)) hk0 HK.out).mono ?_
  rintro e w1 ⟨he, q, rfl⟩
  rw [HM.out] at he
  subst he
  go_wp2
  go_ret
  exact ⟨rfl, below_on (below_alloc _ _) (below_drewN _ _)⟩
theorem IvJ.mono {lo hi lo' : Nat} {w : World} {v : Value} {ps : List Oj} (h : IvJ lo hi w v ps) (h1 : lo' ≤ lo) : IvJ lo' hi w v ps := by
  obtain ⟨S, k0, k1, k2⟩ := h
  exact ⟨S, k0, fun b hb => ⟨Nat.le_trans h1 (k1 b hb).1, (k1 b hb).2⟩, k2⟩
end Go.Proofs.Ytgpealbpmgjdjaa
/- Four cells of a variable. -/
namespace Go.Proofs.Ytgpealbpmgjdjaa
open Go.RowKit

def Var4 (w : World) (b : Nat) (x y z u : Value) : Prop := w.cell? ⟨b, 0, none⟩ = some x ∧ w.cell? ⟨b, 1, none⟩ = some y ∧ w.cell? ⟨b, 2, none⟩ = some z ∧ w.cell? ⟨b, 3, none⟩ = some u
theorem Var4.later {w w' : World} {b : Nat} {x y z u : Value} (h : Var4 w b x y z u) (hb : Below w.heap.size w w') : Var4 w' b x y z u :=
  ⟨cell_later hb h.1, cell_later hb h.2.1, cell_later hb h.2.2.1, cell_later hb h.2.2.2⟩
theorem Var4.wr {S : Nat → Prop} {w w' : World} {b : Nat} {x y z u : Value} (h : Var4 w b x y z u) (hb : Wr S w w') (hd : ¬ S b) : Var4 w' b x y z u :=
  ⟨cell_wr hb h.1 hd, cell_wr hb h.2.1 hd, cell_wr hb h.2.2.1 hd, cell_wr hb h.2.2.2 hd⟩
theorem Var4.lt {w : World} {b : Nat} {x y z u : Value} (h : Var4 w b x y z u) : b < w.heap.size := World.block_lt_of_cell? _ _ h.1
theorem Var4_new (w : World) (x y z u : Value) (t : TypeId) : Var4 (w.alloc (.cells #[x, y, z, u] t)) w.heap.size x y z u := by
  refine ⟨?_, ?_, ?_, ?_⟩ <;> simp [go_sem]
theorem IvI.mono {lo hi lo' hi' : Nat} {w : World} {v : Value} {xs : List Int} (h : IvI lo hi w v xs) (h1 : lo' ≤ lo) (h2 : hi ≤ hi') : IvI lo' hi' w v xs := by
  obtain ⟨b, k1, k2⟩ := h
  exact ⟨b, k1, fun hne => ⟨Nat.le_trans h1 (k2 hne).1, Nat.lt_of_lt_of_le (k2 hne).2.1 h2, (k2 hne).2.2⟩⟩
theorem set4_other {w : World} {b h o : Nat} {x y z u : Value} (hb : b ≠ h) : ((((w.setCell ⟨h, 0, none⟩ x).setCell ⟨h, 1, none⟩ y).setCell ⟨h, 2, none⟩ z).setCell ⟨h, 3, none⟩ u).cell? ⟨b, o, none⟩ = w.cell? ⟨b, o, none⟩ := by
  rw [World.cell?_setCell_other _ _ _ _ (by intro e; injection e with e1 _; exact hb e1.symm), World.cell?_setCell_other _ _ _ _ (by intro e; injection e with e1 _; exact hb e1.symm), World.cell?_setCell_other _ _ _ _ (by intro e; injection e with e1 _; exact hb e1.symm), World.cell?_setCell_other _ _ _ _ (by intro e; injection e with e1 _; exact hb e1.symm)]
/-- Of the world that a region that draws stands in no more is kept than R. -/
theorem forgetH {P : Program} {md : Region.Mode} {ops : Array Oper} {Q : Exit → Act → World → Prop} {S : World → Prop} {fuel : Nat} {listed : Array Bool} {a : Act} {w0 : World} (R : World → Prop) (h0 : R w0) (h : ∀ w, R w → wpAnyH P md ops Q S fuel listed a w) : wpAnyH P md ops Q S fuel listed a w0 := h _ h0
end Go.Proofs.Ytgpealbpmgjdjaa
/- Stores into two or three cells of a variable; what is elsewhere stays. -/
namespace Go.Proofs.Ytgpealbpmgjdjaa
open Go.RowKit

theorem set2_other {w : World} {b h o : Nat} {x y : Value} (hb : b ≠ h) : ((w.setCell ⟨h, 0, none⟩ x).setCell ⟨h, 1, none⟩ y).cell? ⟨b, o, none⟩ = w.cell? ⟨b, o, none⟩ := by
  rw [World.cell?_setCell_other _ _ _ _ (by intro e; injection e with e1 _; exact hb e1.symm), World.cell?_setCell_other _ _ _ _ (by intro e; injection e with e1 _; exact hb e1.symm)]
theorem set3_other {w : World} {b h o : Nat} {x y z : Value} (hb : b ≠ h) : (((w.setCell ⟨h, 0, none⟩ x).setCell ⟨h, 1, none⟩ y).setCell ⟨h, 2, none⟩ z).cell? ⟨b, o, none⟩ = w.cell? ⟨b, o, none⟩ := by
  rw [World.cell?_setCell_other _ _ _ _ (by intro e; injection e with e1 _; exact hb e1.symm), set2_other hb]
end Go.Proofs.Ytgpealbpmgjdjaa
