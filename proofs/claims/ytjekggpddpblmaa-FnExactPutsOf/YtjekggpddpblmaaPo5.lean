/- Chapter 5: 'impl.PutsOf', walked. -/
import Derived.Test.YtjekggpddpblmaaPo4
namespace Go.Proofs.Ytjekggpddpblmaa
open Go.RowKit Go.Maps

/-- The code of PutsOf; the puts that it tells. -/
def poC (vs : List (Int × List Int)) (os : List Oj) : Int := if vF vs = 0 then ojsF os else vF vs
def poV (vs : List (Int × List Int)) (os : List Oj) : List (Int × List Int) := if poC vs os = 0 then poR (poL os os.length) (poM (vs.foldl putM fun _ => []) os os.length) else []
theorem poC_zero {vs : List (Int × List Int)} {os : List Oj} (h : poC vs os = 0) : hpF 60 vs = 0 ∧ isVw vs ∧ os.length ≤ 12 ∧ ∀ i, i < os.length → objF (os.getD i oj0).1 (os.getD i oj0).2.1 (os.getD i oj0).2.2 = 0 := by
  unfold poC at h
  by_cases h1 : vF vs = 0
  · rw [if_pos h1] at h
    unfold ojsF at h
    by_cases h2 : 12 < os.length
    · rw [if_pos h2] at h; exact absurd h (by decide)
    · rw [if_neg h2] at h
      unfold vF at h1
      by_cases h3 : hpF 60 vs = 0
      · rw [if_pos h3] at h1
        by_cases h4 : isVw vs
        · exact ⟨h3, h4, by omega, firstJ_all h⟩
        · rw [if_neg h4] at h1; exact absurd h1 (by decide)
      · rw [if_neg h3] at h1; exact absurd h1 h3
  · rw [if_neg h1] at h; exact absurd h h1

set_option maxHeartbeats 2000000 in
set_option maxRecDepth 4000 in
theorem implPutsOf {S T : Nat → Prop} {w : World} {u v : Value} {vs : List (Int × List Int)} {os : List Oj} (hu : RdP S w u vs) (hv : RdJ T w v os) :
    Calls Try.prog 9 #[u, v] w (EndsP (poC vs os) (poV vs os) w) := by
  unfold EndsP
  obtain ⟨au, cu, rfl, _⟩ := hu.shape
  obtain ⟨av, cv, rfl, _⟩ := hv.shape
  have HF1 := hide (fun (w' : World) (hb : Below w.heap.size w w') => viewFaultP (hu.later hb))
  have HF2 := hide (fun (w' : World) (hb : Below w.heap.size w w') => objectsFaultJ (hv.later hb))
  have HPp := hide (fun (w' : World) (hb : Below w.heap.size w w') (h : poC vs os = 0) => putsOfParts (hu.later hb) (hv.later hb) (poC_zero h).1 (poC_zero h).2.2.2 (poC_zero h).2.2.1)
  have HC : Hid (poC vs os = if vF vs = 0 then ojsF os else vF vs) := rfl
  have HR : Hid (poV vs os = if poC vs os = 0 then poR (poL os os.length) (poM (vs.foldl putM fun _ => []) os os.length) else []) := rfl
  generalize vF vs = p at HF1 HC
  generalize ojsF os = q at HF2 HC
  generalize poR (poL os os.length) (poM (vs.foldl putM fun _ => []) os os.length) = VW at HR HPp
  generalize poV vs os = R at HR ⊢
  generalize poC vs os = C at HC HR HPp ⊢
  generalize vs.length = n at HF1 HPp ⊢
  generalize os.length = m at HF2 HPp ⊢
  clear hu hv
  have A0 := hide (below_alloc w (.cells #[.int .i64 0, .slice none 0 0] 28))
  by_cases hp0 : p = 0
  · subst hp0
    by_cases hq0 : q = 0
    · subst hq0
      have hC : C = 0 := by rw [HC.out, if_pos rfl]
      subst hC
      have hRn : R = VW := by rw [HR.out]; rfl
      subst hRn
      clear HC HR
      go_enter Try.func9, Try.ntmps9
      go_wp2_with fail
      refine (HF1.out _ A0.out).mono ?_
      rintro e w1 ⟨rfl, hb1⟩
      have q0 : w1.cell? ⟨w.heap.size, 0, none⟩ = some (.int .i64 0) := cell_later hb1 (by simp [go_sem])
      have q1 : w1.cell? ⟨w.heap.size, 1, none⟩ = some (.slice none 0 0) := cell_later hb1 (by simp [go_sem])
      have qf : ∀ o, w1.frozen? ⟨w.heap.size, o, none⟩ = false := fun o => ((bcell hb1).2 _ _ (by simp)).trans (by simp [go_sem])
      have hz1 : w.heap.size < w1.heap.size := World.block_lt_of_cell? _ _ q0
      have B1 := hide (below_on A0.out hb1)
      clear hb1
      go_wp2_with fail
      refine (HF2.out _ B1.out).mono ?_
      rintro e w2 ⟨rfl, hb2⟩
      have B2 := hide (below_on B1.out hb2)
      have r0 := cell_later hb2 q0
      have r1 := cell_later hb2 q1
      have f0 := ((bcell hb2).2 _ _ hz1).trans (qf 0)
      have f1 := ((bcell hb2).2 _ _ hz1).trans (qf 1)
      clear hb2 q0 q1 qf B1
      go_wp2_with fail
      refine (HPp.out _ B2.out (by trivial)).mono ?_
      rintro e w5 ⟨z5, rfl, hb5, ho5⟩
      obtain ⟨a5, k5, rfl⟩ := ho5.shape
      have hz2 : w.heap.size < w2.heap.size := World.block_lt_of_cell? _ _ r0
      have x0 := cell_later hb5 r0
      have x1 := cell_later hb5 r1
      have y0 := ((bcell hb5).2 _ _ hz2).trans f0
      have y1 := ((bcell hb5).2 _ _ hz2).trans f1
      have HFin := hide (ret_putsA (x := .int .i64 0) (below_on B2.out hb5) (r := w.heap.size) (Nat.le_refl _) ho5 (fun b hb => ⟨by omega, hb.2⟩))
      obtain ⟨lr, hlr⟩ : ∃ lr, R.length = lr := ⟨_, rfl⟩
      rw [hlr] at HFin ⊢
      clear hb5 ho5 hlr r0 r1 f0 f1
      go_wp2
      exact bodyPost_ret (v := .agg #[.int .i64 0, .slice a5 lr k5]) (by simp [results, Try.results9, go_sem, x0, x1]) rfl ⟨_, rfl, HFin.out.1, HFin.out.2⟩
    · have hCp : C = q := by rw [HC.out, if_pos rfl]
      subst hCp
      have hRn : R = [] := by rw [HR.out, if_neg hq0]
      subst hRn
      clear HC HR HPp
      go_enter Try.func9, Try.ntmps9
      go_wp2_with fail
      refine (HF1.out _ A0.out).mono ?_
      rintro e w1 ⟨rfl, hb1⟩
      have q0 : w1.cell? ⟨w.heap.size, 0, none⟩ = some (.int .i64 0) := cell_later hb1 (by simp [go_sem])
      have q1 : w1.cell? ⟨w.heap.size, 1, none⟩ = some (.slice none 0 0) := cell_later hb1 (by simp [go_sem])
      have qf : ∀ o, w1.frozen? ⟨w.heap.size, o, none⟩ = false := fun o => ((bcell hb1).2 _ _ (by simp)).trans (by simp [go_sem])
      have hz1 : w.heap.size < w1.heap.size := World.block_lt_of_cell? _ _ q0
      have B1 := hide (below_on A0.out hb1)
      clear hb1
      go_wp2_with fail
      refine (HF2.out _ B1.out).mono ?_
      rintro e w2 ⟨rfl, hb2⟩
      have B2 := hide (below_on B1.out hb2)
      have r0 := cell_later hb2 q0
      have r1 := cell_later hb2 q1
      have f0 := ((bcell hb2).2 _ _ hz1).trans (qf 0)
      have f1 := ((bcell hb2).2 _ _ hz1).trans (qf 1)
      clear hb2 q0 q1 qf B1
      go_wp2
      refine bodyPost_ret (v := .agg #[.int .i64 C, .slice none 0 0]) (by simp [results, Try.results9, go_sem, r0, r1]) rfl ⟨_, rfl, ?_, OwP_nil _ _⟩
      repeat (first | refine Below.setCell ?_ (by first | (simp; done) | (simp; omega) | omega) _ | exact B2.out)
  · have hCp : C = p := by rw [HC.out, if_neg hp0]
    subst hCp
    have hRn : R = [] := by rw [HR.out, if_neg hp0]
    subst hRn
    clear HC HR HPp
    go_enter Try.func9, Try.ntmps9
    go_wp2_with fail
    refine (HF1.out _ A0.out).mono ?_
    rintro e w1 ⟨rfl, hb1⟩
    have q0 : w1.cell? ⟨w.heap.size, 0, none⟩ = some (.int .i64 0) := cell_later hb1 (by simp [go_sem])
    have q1 : w1.cell? ⟨w.heap.size, 1, none⟩ = some (.slice none 0 0) := cell_later hb1 (by simp [go_sem])
    have f0 : w1.frozen? ⟨w.heap.size, 0, none⟩ = false := ((bcell hb1).2 _ _ (by simp)).trans (by simp [go_sem])
    have f1 : w1.frozen? ⟨w.heap.size, 1, none⟩ = false := ((bcell hb1).2 _ _ (by simp)).trans (by simp [go_sem])
    have B1 := hide (below_on A0.out hb1)
    clear hb1
    go_wp2
    refine bodyPost_ret (v := .agg #[.int .i64 C, .slice none 0 0]) (by simp [results, Try.results9, go_sem, q0, q1]) rfl ⟨_, rfl, ?_, OwP_nil _ _⟩
    repeat (first | refine Below.setCell ?_ (by first | (simp; done) | (simp; omega) | omega) _ | exact B1.out)
end Go.Proofs.Ytjekggpddpblmaa
