/- Chapter 4: 'impl.AbsorbPuts', walked. -/
import Derived.Test.YtdfndgeoaagihaaLast
namespace Go.Proofs.Ytdfndgeoaagihaa
open Go.RowKit Go.Maps

/-- The code of AbsorbPuts; the puts that it tells. -/
def abC (as' bs' : List (Int × List Int)) : Int := if hpF 60 as' = 0 then (if hpF 60 bs' = 0 then (if 60 < as'.length + bs'.length then 2 else 0) else hpF 60 bs') else hpF 60 as'
def abR (as' bs' : List (Int × List Int)) : List (Int × List Int) := if abC as' bs' = 0 then absP (as' ++ bs') (as' ++ bs').length (as' ++ bs').length else []
theorem abC_zero {vs ps : List (Int × List Int)} (h : abC vs ps = 0) : hpF 60 vs = 0 ∧ hpF 60 ps = 0 ∧ vs.length + ps.length ≤ 60 := by
  unfold abC at h
  by_cases h1 : hpF 60 vs = 0
  · rw [if_pos h1] at h
    by_cases h2 : hpF 60 ps = 0
    · rw [if_pos h2] at h
      by_cases h3 : 60 < vs.length + ps.length
      · rw [if_pos h3] at h; exact absurd h (by decide)
      · exact ⟨h1, h2, by omega⟩
    · rw [if_neg h2] at h; exact absurd h h2
  · rw [if_neg h1] at h; exact absurd h h1
theorem ab_all {vs ps : List (Int × List Int)} (h1 : hpF 60 vs = 0) (h2 : hpF 60 ps = 0) : ∀ i, i < (vs ++ ps).length → 0 ≤ ((vs ++ ps).getD i (0, [])).1 ∧ ((vs ++ ps).getD i (0, [])).1 < 40 ∧ ((vs ++ ps).getD i (0, [])).2.length ≤ 64 := by
  intro i hi
  rw [List.length_append] at hi
  by_cases h : i < vs.length
  · have e : (vs ++ ps).getD i (0, []) = vs.getD i (0, []) := by simp [List.getD, List.getElem?_append_left h]
    rw [e]
    exact (hpF_all h1).2 i h
  · have e : (vs ++ ps).getD i (0, []) = ps.getD (i - vs.length) (0, []) := by simp [List.getD, List.getElem?_append_right (show vs.length ≤ i by omega)]
    rw [e]
    exact (hpF_all h2).2 _ (by omega)

set_option maxHeartbeats 2000000 in
set_option maxRecDepth 4000 in
theorem implAbsorbPuts {S T : Nat → Prop} {w : World} {u v : Value} {vs ps : List (Int × List Int)} (hu : RdP S w u vs) (hv : RdP T w v ps) :
    Calls Try.prog 9 #[u, v] w (EndsP (abC vs ps) (abR vs ps) w) := by
  unfold EndsP
  obtain ⟨au, cu, rfl, _⟩ := hu.shape
  obtain ⟨av, cv, rfl, _⟩ := hv.shape
  have HTw := hide (fun (w' : World) (hb : Below w.heap.size w w') => twoPutsFault (hu.later hb) (hv.later hb))
  have HCt := hide (fun (w' : World) (hb : Below w.heap.size w w') (B : Nat) q0 q1 (h : abC vs ps = 0) => concatP (B := B) (hu.later hb) (hv.later hb) q0 q1 (abC_zero h).2.2)
  have HLa := hide (fun (w' : World) (z : Value) (hz : RdP (fun b => b < w'.heap.size) w' z (vs ++ ps)) (h : abC vs ps = 0) => lastOfEach hz (by rw [List.length_append]; exact (abC_zero h).2.2) (ab_all (abC_zero h).1 (abC_zero h).2.1))
  have HC : Hid (abC vs ps = if (if hpF 60 vs = 0 then hpF 60 ps else hpF 60 vs) = 0 then (if 60 < vs.length + ps.length then 2 else 0) else (if hpF 60 vs = 0 then hpF 60 ps else hpF 60 vs)) := by
    unfold Hid abC
    by_cases h1 : hpF 60 vs = 0
    · rw [if_pos h1, if_pos h1]
    · rw [if_neg h1, if_neg h1, if_neg h1]
  have HR : Hid (abR vs ps = if abC vs ps = 0 then absP (vs ++ ps) (vs ++ ps).length (vs ++ ps).length else []) := rfl
  have HSm : Hid ((if hpF 60 vs = 0 then hpF 60 ps else hpF 60 vs) = 0 → vs.length ≤ 60 ∧ ps.length ≤ 60) := fun h => by
    by_cases h1 : hpF 60 vs = 0
    · rw [if_pos h1] at h; exact ⟨(hpF_all h1).1, (hpF_all h).1⟩
    · rw [if_neg h1] at h; exact absurd h h1
  obtain ⟨p, hp⟩ : ∃ p, (if hpF 60 vs = 0 then hpF 60 ps else hpF 60 vs) = p := ⟨_, rfl⟩
  rw [hp] at HTw HC HSm
  generalize absP (vs ++ ps) (vs ++ ps).length (vs ++ ps).length = VW at HR HLa
  generalize vs ++ ps = J at HCt HLa
  generalize abR vs ps = R at HR ⊢
  generalize abC vs ps = C at HC HR HCt HLa ⊢
  obtain ⟨n, hn⟩ : ∃ n, vs.length = n := ⟨_, rfl⟩
  obtain ⟨m, hm⟩ : ∃ m, ps.length = m := ⟨_, rfl⟩
  rw [hn] at HTw HCt HC HSm ⊢
  rw [hm] at HTw HCt HC HSm ⊢
  clear hu hv hp hn hm
  have A0 := hide (below_alloc w (.cells #[.int .i64 0, .slice none 0 0] 26))
  by_cases h0 : p = 0
  · subst h0
    obtain ⟨hn60, hm60⟩ := HSm.out rfl
    have hsum : IntKind.i64.wrap ((n : Int) + (m : Int)) = ((n + m : Nat) : Int) := by simp [IntKind.wrap, IntKind.bits, IntKind.signed]; omega
    obtain ⟨N, hN⟩ : ∃ N, n + m = N := ⟨_, rfl⟩
    rw [hN] at hsum HC
    clear HSm hN
    by_cases hbig : 60 < N
    · have hC2 : C = 2 := by rw [HC.out, if_pos rfl, if_pos hbig]
      subst hC2
      have hRn : R = [] := by rw [HR.out]; rfl
      subst hRn
      have hbi : (60 : Int) < (N : Int) := by omega
      go_enter Try.func9, Try.ntmps9
      go_wp2_with fail
      refine (HTw.out _ A0.out).mono ?_
      rintro e w1 ⟨rfl, hb1⟩
      have q0 : w1.cell? ⟨w.heap.size, 0, none⟩ = some (.int .i64 0) := cell_later hb1 (by simp [go_sem])
      have q1 : w1.cell? ⟨w.heap.size, 1, none⟩ = some (.slice none 0 0) := cell_later hb1 (by simp [go_sem])
      have f0 : w1.frozen? ⟨w.heap.size, 0, none⟩ = false := ((bcell hb1).2 _ _ (by simp)).trans (by simp [go_sem])
      have f1 : w1.frozen? ⟨w.heap.size, 1, none⟩ = false := ((bcell hb1).2 _ _ (by simp)).trans (by simp [go_sem])
      have B1 := hide (below_on A0.out hb1)
      clear hb1
      go_wp2
      refine bodyPost_ret (v := .agg #[.int .i64 2, .slice none 0 0]) (by simp [results, Try.results9, go_sem, q0, q1]) rfl ⟨_, rfl, ?_, OwP_nil _ _⟩
      repeat (first | refine Below.setCell ?_ (by first | (simp; done) | (simp; omega) | omega) _ | exact B1.out)
    · have hC0 : C = 0 := by rw [HC.out, if_pos rfl, if_neg hbig]
      subst hC0
      have hRn : R = VW := by rw [HR.out]; rfl
      subst hRn
      have hbi : ¬ (60 : Int) < (N : Int) := by omega
      go_enter Try.func9, Try.ntmps9
      go_wp2_with fail
      refine (HTw.out _ A0.out).mono ?_
      rintro e w1 ⟨rfl, hb1⟩
      have q0 : w1.cell? ⟨w.heap.size, 0, none⟩ = some (.int .i64 0) := cell_later hb1 (by simp [go_sem])
      have q1 : w1.cell? ⟨w.heap.size, 1, none⟩ = some (.slice none 0 0) := cell_later hb1 (by simp [go_sem])
      have f0 : w1.frozen? ⟨w.heap.size, 0, none⟩ = false := ((bcell hb1).2 _ _ (by simp)).trans (by simp [go_sem])
      have f1 : w1.frozen? ⟨w.heap.size, 1, none⟩ = false := ((bcell hb1).2 _ _ (by simp)).trans (by simp [go_sem])
      have hz1 : w.heap.size < w1.heap.size := World.block_lt_of_cell? _ _ q0
      have B1 := hide (below_on A0.out hb1)
      have HQ0 := hide q0
      have HQ1 := hide q1
      have HF0 := hide f0
      have HF1 := hide f1
      clear hb1 q0 q1 f0 f1
      have bS := hide (below_alloc w1 (.cells #[.slice au n cu, .slice av m cv] 24))
      go_wp2_with fail
      refine (HCt.out _ (below_on B1.out bS.out) w1.heap.size (by simp [go_sem]) (by simp [go_sem]) (by trivial)).mono ?_
      rintro e w2 ⟨z2, rfl, hb2, ho2⟩
      have HB2 := hide (below_on bS.out hb2)
      have HL2 := hide (HLa.out _ _ ho2 (by trivial))
      clear hb2 ho2
      go_wp2_with fail
      refine HL2.out.mono ?_
      rintro e w5 ⟨z5, rfl, hb5, ho5⟩
      obtain ⟨a5, k5, rfl⟩ := ho5.shape
      have hz2 := HB2.out.size
      have HB5 := hide (below_on HB2.out hb5)
      have x0 := cell_later HB5.out HQ0.out
      have x1 := cell_later HB5.out HQ1.out
      have y0 := ((bcell HB5.out).2 _ _ hz1).trans HF0.out
      have y1 := ((bcell HB5.out).2 _ _ hz1).trans HF1.out
      have HFin := hide (ret_putsA (x := .int .i64 0) (below_on B1.out HB5.out) (r := w.heap.size) (Nat.le_refl _) ho5 (fun b hb => ⟨by omega, hb.2⟩))
      obtain ⟨lr, hlr⟩ : ∃ lr, R.length = lr := ⟨_, rfl⟩
      rw [hlr] at HFin ⊢
      clear hb5 ho5 hlr
      go_wp2
      exact bodyPost_ret (v := .agg #[.int .i64 0, .slice a5 lr k5]) (by simp [results, Try.results9, go_sem, x0, x1]) rfl ⟨_, rfl, HFin.out.1, HFin.out.2⟩
  · have hCp : C = p := by rw [HC.out, if_neg h0]
    subst hCp
    have hRn : R = [] := by rw [HR.out, if_neg h0]
    subst hRn
    clear HC HR
    go_enter Try.func9, Try.ntmps9
    go_wp2_with fail
    refine (HTw.out _ A0.out).mono ?_
    rintro e w1 ⟨rfl, hb1⟩
    have q0 : w1.cell? ⟨w.heap.size, 0, none⟩ = some (.int .i64 0) := cell_later hb1 (by simp [go_sem])
    have q1 : w1.cell? ⟨w.heap.size, 1, none⟩ = some (.slice none 0 0) := cell_later hb1 (by simp [go_sem])
    have f0 : w1.frozen? ⟨w.heap.size, 0, none⟩ = false := ((bcell hb1).2 _ _ (by simp)).trans (by simp [go_sem])
    have f1 : w1.frozen? ⟨w.heap.size, 1, none⟩ = false := ((bcell hb1).2 _ _ (by simp)).trans (by simp [go_sem])
    have B1 := hide (below_on A0.out hb1)
    clear hb1
    go_wp2
    refine bodyPost_ret (v := .agg #[.int .i64 C, .slice none 0 0]) (by simp [results, Try.results9, go_sem, q0, q1]) rfl ⟨_, rfl, ?_, OwP_nil _ _⟩
    repeat (first | refine Below.setCell ?_ (by first | (simp; done) | (simp; omega) | omega) _ | exact B1.out)
end Go.Proofs.Ytdfndgeoaagihaa
