/- Chapter 4: 'spec.AbsorbPuts', walked (the walk); how great the answer is. -/
import Derived.Test.YtdfndgeoaagihaaAbsS
import Derived.Test.YtdfndgeoaagihaaBuilt4
namespace Go.Proofs.Ytdfndgeoaagihaa
open Go.RowKit Go.Maps

theorem totP_mostB {ps : List (Int × List Int)} {B : Nat} (h : ∀ p ∈ ps, p.2.length ≤ B) : totP ps ps.length ≤ ps.length * (B + 1) := by
  have g : ∀ i, i ≤ ps.length → totP ps i ≤ i * (B + 1) := by
    intro i
    induction i with
    | zero => intro _; rw [totP_zero]; omega
    | succ i ih =>
      intro hi
      rw [totP_succ ps i (by omega), Nat.succ_mul]
      have := ih (by omega)
      have := h (ps.getD i (0, [])) (by simp [List.getD, show i < ps.length by omega])
      omega
  exact g _ (Nat.le_refl _)
theorem ab_bound (vs ps : List (Int × List Int)) : totP (abR vs ps) (abR vs ps).length ≤ 1073741824 := by
  unfold abR
  split
  · rename_i h
    obtain ⟨h1, h2, h3⟩ := abC_zero h
    have ha := ab_all h1 h2
    have hl : (vs ++ ps).length ≤ 60 := by rw [List.length_append]; exact h3
    generalize vs ++ ps = J at ha hl
    have hw := absP_word (ps := J) (n := J.length) (C := 64) (fun i hi => (ha i hi).2.2) J.length (Nat.le_refl _)
    have hk := absP_len J J.length J.length
    have := totP_mostB hw
    have h4 : (absP J J.length J.length).length * (64 + 1) ≤ 60 * (64 + 1) := Nat.mul_le_mul_right _ (by omega)
    omega
  · simp [totP]

theorem cellsP_next (ps : List (Int × List Int)) (k : Nat) (V : Nat → Value) : cellsP ps (k + 1) V = cellsP ps k V ++ [.int .i64 (ps.getD k (0, [])).1, V k] := by
  rw [← cellsP_succ ps k V (V k)]
  congr 1
  funext i
  by_cases e : i = k
  · subst e; rw [if_pos rfl]
  · rw [if_neg e]

/-- What the model's loop keeps: what is taken, in the variable at block O. -/
structure TkAt (W : World) (O : Nat) (cs : List Value) (j : Nat) (ao : Option Addr) (c : Nat) (wr : World) : Prop where
  row : wr.ownsRow (O + 1) 49 2 (.slice ao j c) j cs
  below : Below O W wr
  lt : O < wr.heap.size
  h0 : wr.cell? ⟨O, 0, none⟩ = some (.int .i64 0)
  h1 : wr.cell? ⟨O, 1, none⟩ = some (.slice ao j c)
  hf : ∀ o, wr.frozen? ⟨O, o, none⟩ = false
theorem TkAt.later {W wr w1 : World} {O j c : Nat} {cs : List Value} {ao : Option Addr} (h : TkAt W O cs j ao c wr) (hb : Below wr.heap.size wr w1) : TkAt W O cs j ao c w1 :=
  ⟨ownsRow_later h.row hb, h.below.trans (hb.mono (Nat.le_of_lt h.lt)), Nat.lt_of_lt_of_le h.lt hb.size, cell_later hb h.h0, cell_later hb h.h1, fun o => ((bcell hb).2 _ _ h.lt).trans (h.hf o)⟩
theorem TkAt.step {W wr w3 : World} {O j c g cap : Nat} {cs cs' : List Value} {ao : Option Addr} {o : Obj} (h : TkAt W O cs j ao c wr)
    (hown : w3.ownsRow (O + 1) 49 2 (.slice (some ⟨g, 0, none⟩) (j + 1) cap) (j + 1) cs') (hg : (wr.alloc o).grownBy w3 (Value.slice ao j c).ownBlock) :
    TkAt W O cs' (j + 1) (some ⟨g, 0, none⟩) cap (w3.setCell ⟨O, 1, none⟩ (.slice (some ⟨g, 0, none⟩) (j + 1) cap)) := by
  have hl := h.lt
  have hB : Below (O + 1) wr w3 := ((below_alloc wr o).mono (by omega)).grown hg (by simp; omega) (fun r hr' => (h.row.lt r hr').1)
  have hs := hB.size
  have hc : ∀ b o, b < O + 1 → w3.cell? ⟨b, o, none⟩ = wr.cell? ⟨b, o, none⟩ := fun b o hb => hB.cell (p := ⟨b, o, none⟩) hb
  have hz' : ∀ b o, b < O + 1 → w3.frozen? ⟨b, o, none⟩ = wr.frozen? ⟨b, o, none⟩ := fun b o hb => hB.frozen (p := ⟨b, o, none⟩) hb
  refine ⟨ownsRow_set hown (fun e => by injection e with e; have := (hown.lt g rfl).1; dsimp only at e; omega), ?_, by simp; omega, ?_, ?_, fun o => ?_⟩
  · exact (h.below.trans (hB.mono (by omega))).setCell (Nat.le_refl _) _
  · rw [World.cell?_setCell_other _ _ _ _ (by intro e; injection e with _ e; omega), hc _ _ (by omega)]; exact h.h0
  · exact World.cell?_setCell_same _ _ _ ((hc _ _ (by omega)).trans h.h1)
  · rw [World.frozen?_setCell, hz' _ _ (by omega)]; exact h.hf o

set_option maxHeartbeats 4000000 in
set_option maxRecDepth 4000 in
theorem specAbsorbPuts {S T : Nat → Prop} {w : World} {u v : Value} {vs ps : List (Int × List Int)} (hu : RdP S w u vs) (hv : RdP T w v ps) :
    Calls Try.prog 7 #[u, v] w (EndsP (abC vs ps) (abR vs ps) w) := by
  unfold EndsP
  obtain ⟨i0, hi, hz0, hz1, hz2⟩ := info_parts Try.infoPut
  obtain ⟨au, cu, rfl, _⟩ := hu.shape
  obtain ⟨av, cv, rfl, _⟩ := hv.shape
  have HF1 := hide (fun (w' : World) (hb : Below w.heap.size w w') => l4Puts (hu.later hb))
  have HF2 := hide (fun (w' : World) (hb : Below w.heap.size w w') => l4Puts (hv.later hb))
  have HC1 := hide (fun (w' : World) (hb : Below w.heap.size w w') (h : hpF 60 vs = 0) => l1Puts (hu.later hb) (by have := (hpF_all h).1; omega) (fun i hi => Nat.le_trans ((hpF_all h).2 i hi).2.2 (by omega)))
  have HC2 := hide (fun (w' : World) (hb : Below w.heap.size w w') (h : hpF 60 ps = 0) => l1Puts (hv.later hb) (by have := (hpF_all h).1; omega) (fun i hi => Nat.le_trans ((hpF_all h).2 i hi).2.2 (by omega)))
  have HC : Hid (abC vs ps = if hpF 60 vs = 0 then (if hpF 60 ps = 0 then (if 60 < vs.length + ps.length then 2 else 0) else hpF 60 ps) else hpF 60 vs) := rfl
  have HR : Hid (abR vs ps = if abC vs ps = 0 then absP (vs ++ ps) (vs ++ ps).length (vs ++ ps).length else []) := rfl
  have HS1 : Hid (hpF 60 vs = 0 → vs.length ≤ 60) := fun h => (hpF_all h).1
  have HS2 : Hid (hpF 60 ps = 0 → ps.length ≤ 60) := fun h => (hpF_all h).1
  generalize hpF 60 vs = p at HF1 HC HC1 HS1
  generalize hpF 60 ps = q at HF2 HC HC2 HS2
  generalize abR vs ps = R at HR ⊢
  generalize abC vs ps = C at HC HR ⊢
  obtain ⟨n, hn⟩ : ∃ n, vs.length = n := ⟨_, rfl⟩
  obtain ⟨m, hm⟩ : ∃ m, ps.length = m := ⟨_, rfl⟩
  have HN := hide hn
  have HM := hide hm
  rw [hn] at HF1 HC1 HC HS1 ⊢
  rw [hm] at HF2 HC2 HC HS2 ⊢
  clear hu hv hn hm
  have A0 := hide (below_alloc w (.cells #[.int .i64 0, .slice none 0 0] 26))
  by_cases hp0 : p = 0
  · subst hp0
    by_cases hq0 : q = 0
    · subst hq0
      have hn60 := HS1.out (by trivial)
      have hm60 := HS2.out (by trivial)
      have hsum : IntKind.i64.wrap ((n : Int) + (m : Int)) = ((n + m : Nat) : Int) := by simp [IntKind.wrap, IntKind.bits, IntKind.signed]; omega
      obtain ⟨N, hN⟩ : ∃ N, n + m = N := ⟨_, rfl⟩
      have HNm := hide hN
      rw [hN] at hsum HC
      clear HS1 HS2 hN
      by_cases hbig : 60 < N
      · have hC2 : C = 2 := by rw [HC.out, if_pos rfl, if_pos rfl, if_pos hbig]
        subst hC2
        have hRn : R = [] := by rw [HR.out]; rfl
        subst hRn
        have hbi : (60 : Int) < (N : Int) := by omega
        go_enter Try.func7, Try.ntmps7
        go_wp2_with fail
        refine (HF1.out _ A0.out).mono ?_
        rintro e w1 ⟨rfl, nq1, hw1⟩
        have hb1 : Below (w.alloc (.cells #[.int .i64 0, .slice none 0 0] 26)).heap.size (w.alloc (.cells #[.int .i64 0, .slice none 0 0] 26)) w1 := by rw [hw1]; exact below_drewN _ nq1
        have B1 := hide (below_on A0.out hb1)
        clear hw1
        have q0 : w1.cell? ⟨w.heap.size, 0, none⟩ = some (.int .i64 0) := cell_later hb1 (by simp [go_sem])
        have q1 : w1.cell? ⟨w.heap.size, 1, none⟩ = some (.slice none 0 0) := cell_later hb1 (by simp [go_sem])
        have qf : ∀ o, w1.frozen? ⟨w.heap.size, o, none⟩ = false := fun o => ((bcell hb1).2 _ _ (by simp)).trans (by simp [go_sem])
        have hz1' : w.heap.size < w1.heap.size := World.block_lt_of_cell? _ _ q0
        clear hb1
        go_wp2_with fail
        refine (HF2.out _ B1.out).mono ?_
        rintro e w2 ⟨rfl, nq2, hw2⟩
        have hb2 : Below w1.heap.size w1 w2 := by rw [hw2]; exact below_drewN _ nq2
        have B2 := hide (below_on B1.out hb2)
        have r0 := cell_later hb2 q0
        have r1 := cell_later hb2 q1
        have f0 := ((bcell hb2).2 _ _ hz1').trans (qf 0)
        have f1 := ((bcell hb2).2 _ _ hz1').trans (qf 1)
        have hz2' := hb2.size
        clear hw2 hb2 q0 q1 qf B1
        go_wp2
        refine bodyPost_ret (v := .agg #[.int .i64 2, .slice none 0 0]) (by simp [results, Try.results7, go_sem, r0, r1]) rfl ⟨_, rfl, ?_, OwP_nil _ _⟩
        repeat (first | refine Below.setCell ?_ (by first | (simp; done) | (simp; omega) | omega) _ | exact B2.out)
      · have hC0 : C = 0 := by rw [HC.out, if_pos rfl, if_pos rfl, if_neg hbig]
        subst hC0
        have hRn : R = absP (vs ++ ps) (vs ++ ps).length (vs ++ ps).length := by rw [HR.out]; rfl
        have HRn := hide hRn
        have hbi : ¬ (60 : Int) < (N : Int) := by omega
        clear hRn HR HC
        go_enter Try.func7, Try.ntmps7
        go_wp2_with fail
        refine (HF1.out _ A0.out).mono ?_
        rintro e w1 ⟨rfl, nq1, hw1⟩
        have hb1 : Below (w.alloc (.cells #[.int .i64 0, .slice none 0 0] 26)).heap.size (w.alloc (.cells #[.int .i64 0, .slice none 0 0] 26)) w1 := by rw [hw1]; exact below_drewN _ nq1
        have B1 := hide (below_on A0.out hb1)
        clear hw1
        have q0 : w1.cell? ⟨w.heap.size, 0, none⟩ = some (.int .i64 0) := cell_later hb1 (by simp [go_sem])
        have q1 : w1.cell? ⟨w.heap.size, 1, none⟩ = some (.slice none 0 0) := cell_later hb1 (by simp [go_sem])
        have qf : ∀ o, w1.frozen? ⟨w.heap.size, o, none⟩ = false := fun o => ((bcell hb1).2 _ _ (by simp)).trans (by simp [go_sem])
        have hz1' : w.heap.size < w1.heap.size := World.block_lt_of_cell? _ _ q0
        clear hb1
        go_wp2_with fail
        refine (HF2.out _ B1.out).mono ?_
        rintro e w2 ⟨rfl, nq2, hw2⟩
        have hb2 : Below w1.heap.size w1 w2 := by rw [hw2]; exact below_drewN _ nq2
        have B2 := hide (below_on B1.out hb2)
        have r0 := cell_later hb2 q0
        have r1 := cell_later hb2 q1
        have f0 := ((bcell hb2).2 _ _ hz1').trans (qf 0)
        have f1 := ((bcell hb2).2 _ _ hz1').trans (qf 1)
        have hz2' := hb2.size
        clear hw2 hb2 q0 q1 qf B1
        have HR0 := hide r0
        have HR1 := hide r1
        have HFz0 := hide f0
        have HFz1 := hide f1
        clear r0 r1 f0 f1
        have hdec : decide ((60 : Int) < (N : Int)) = false := decide_eq_false (by omega)
        go_wp2_with fail
        refine (HC1.out _ B2.out (by trivial)).mono ?_
        rintro e w3 ⟨z3, rfl, hb3, ho3⟩
        have HB3 := hide hb3
        obtain ⟨V1, Bk1, hr1, hp1, hi1⟩ := ho3
        have HOr1 := hide hr1
        have HOp1 := hide hp1
        have HOi1 := hide hi1
        obtain ⟨a3', c3', rfl⟩ := ownsRow_shape hr1
        clear hb3 hr1 hp1 hi1
        go_wp2_with fail
        refine (HC2.out _ (below_on B2.out HB3.out) (by trivial)).mono ?_
        rintro e w4 ⟨z4, rfl, hb4, ho4⟩
        have HB4 := hide hb4
        obtain ⟨V2, Bk2, hr2, hp2, hi2⟩ := ho4
        have HOr2 := hide hr2
        have HOi2 := hide hi2
        obtain ⟨a4', c4', rfl⟩ := ownsRow_shape hr2
        have hs3 := HB3.out.size
        have hs4 := hb4.size
        clear hb4 hr2 hp2 hi2
        by_cases hm0 : m = 0
        · subst hm0
          have hps : ps = [] := List.eq_nil_of_length_eq_zero HM.out
          have hnN : n = N := HNm.out
          subst hnN
          have HBa : Hid (BuiltP (w2.heap.size ≤ ·) w4 (.slice a3' n c3') n (vs ++ ps)) := by
            rw [Hid, hps, List.append_nil]
            exact BuiltP.later ⟨V1, Bk1, HOr1.out, HOp1.out, HOi1.out⟩ HB4.out
          have HJl : Hid ((vs ++ ps).length = n) := by rw [Hid, List.length_append, HN.out, HM.out]; rfl
          have HB5 := hide (below_on HB3.out HB4.out)
          have HOz := hide (ownsRow_later HOr1.out HB4.out)
          clear hps
          generalize vs ++ ps = J at HBa HJl HRn
          go_wp2_with (at_builtin; refine wpList_append_zeroR rfl _ _ _ rfl 0 49 i0 2 Try.underlying24 hi _ _ _ (by rfl) HOz.out _ _ (by rfl) ?_)
          clear HOr1 HOp1 HOi1 HOr2 HOi2 HOz HC1 HC2 HF1 HF2 HB3 HB4
          rw [HJl.out] at HRn
          obtain ⟨V, Bk, hra, hpa, hia⟩ := HBa.out
          have HRa := hide hra
          have HIa := hide hia
          have HRd := hide (RdP_old (HBa.out.ow HJl.out (by omega)).rd)
          have HAm := hide (absI_map J n)
          have HAs : Hid (∀ k, absI J n (k + 1) = absI J n k ++ if lastI J n (J.getD k (0, [])).1 = (k : Int) then [k] else []) := fun k => rfl
          have HAa := hide (absI_at J n)
          have HLe := hide (fun x i => lastI_eq J x n i)
          have HAl : Hid (∀ k, (absI J n k).length ≤ k) := fun k => by have := absP_len J n k; rw [absI_map, List.length_map] at this; exact this
          have HSb := hide (fun (wr : World) (z : Value) (j : Nat) (hj : (absI J n n).length = j) (hb : Below w4.heap.size w4 wr) hr => (BuiltP.sub (Q := (w2.heap.size ≤ ·)) (z := z) (wr := wr) hj HIa.out rfl hb hr (fun b hb => by have := HB5.out.size; omega)).ow (by rw [absI_map, List.length_map]; exact hj) (by have := HAl.out n; omega))
          have HRt : Hid (∀ t, t < (absI J n n).length → (absP J n n).getD t (0, []) = J.getD ((absI J n n).getD t 0) (0, [])) := fun t ht => by rw [absI_map]; simp [List.getD, ht]
          have HRl : Hid ((absP J n n).length = (absI J n n).length) := by rw [Hid, absI_map, List.length_map]
          have HA0 : Hid ((absI J n 0).length = 0) := rfl
          have HMo : Hid (∀ k, k ≤ n → (absI J n k).length ≤ (absI J n n).length) := fun k hk => by
            obtain ⟨r, hr⟩ := absI_pre J n (n - k) k
            rw [show k + (n - k) = n by omega] at hr
            rw [hr, List.length_append]; omega
          clear hra hpa hia
          rw [← HRn.out] at HRt HSb HRl
          generalize absI J n = AI at HAs HAa HAl HSb HRt HRl HA0 HMo
          generalize lastI J n = LI at HAs HAa HLe
          obtain ⟨VI, hVI⟩ : ∃ VI, (fun t => V ((AI n).getD t 0)) = VI := ⟨_, rfl⟩
          rw [hVI] at HSb
          have HVI : Hid (∀ t, VI t = V ((AI n).getD t 0)) := fun t => by rw [← hVI]
          clear hVI HAm HBa
          have hsz5 := HB5.out.size
          have HT0 : Hid (TkAt w4 w4.heap.size (cellsP R 0 VI) 0 none 0 (w4.alloc (.cells #[.int .i64 0, .slice none 0 0] 26))) :=
            ⟨World.ownsRow_nil _ _ _ _, below_alloc _ _, by simp, by simp [go_sem], by simp [go_sem], fun o => by simp [go_sem]⟩
          go_wp2
          go_loopw [9] (fun i wr => ∃ (q j : Nat) (ao : Option Addr) (c : Nat), q ≤ n ∧ i = .int .i64 (q : Int) ∧ Hid (j = (AI q).length) ∧ Hid (TkAt w4 w4.heap.size (cellsP R j VI) j ao c wr)) (fun i _ => n - (RowKit.intOf i).toNat)
          case atStart => exact ⟨0, 0, none, 0, Nat.zero_le _, rfl, HA0.out.symm, HT0.out⟩
          case round =>
            clear HT0
            obtain ⟨q, j, aj, cj, hq, rfl, HJ, HT⟩ := hrel
            have hjq : j ≤ q := by rw [HJ.out]; exact HAl.out q
            have hOl := HT.out.lt
            have hO1 := HT.out.h1
            have hOf := HT.out.hf 1
            by_cases hlt2 : q < n
            · obtain ⟨gR, eR, ec⟩ : ∃ g, a3' = some ⟨g, 0, none⟩ ∧ True := by
                rcases HRa.out.2 with ⟨_, e⟩ | ⟨g, cap, cur, e, _⟩
                · omega
                · injection e with e1 _ _
                  exact ⟨g, e1, trivial⟩
              subst eR
              have q1 : w4.cell? ⟨gR, q * 2, none⟩ = some (.int .i64 (J.getD q (0, [])).1) := (HRa.out.cellAt (q * 2) (by omega)).trans (cellsP_num _ _ _ _ hlt2)
              have q2 : w4.cell? ⟨gR, q * 2 + 1, none⟩ = some (V q) := (HRa.out.cellAt (q * 2 + 1) (by omega)).trans (cellsP_words _ _ _ _ hlt2)
              have q3 := HIa.out.rd q hlt2
              have g1 := cell_later HT.out.below q1
              have g2 := cell_later HT.out.below q2
              have HLt := hide (HRd.out.later HT.out.below)
              have HSu := hide (HAs.out q)
              have HAt := hide (HAa.out q hlt2)
              have HLq := hide (HLe.out (J.getD q (0, [])).1)
              obtain ⟨a3, c3, hVq⟩ := q3.shape
              rw [hVq] at g2
              obtain ⟨p, hp⟩ : ∃ p, J.getD q (0, []) = p := ⟨_, rfl⟩
              rw [hp] at g1 g2 HSu HAt HLq hVq
              obtain ⟨x, ws⟩ := p
              dsimp only at g1 g2 HSu HAt HLq hVq
              obtain ⟨l, hl'⟩ : ∃ l, ws.length = l := ⟨_, rfl⟩
              rw [hl'] at g2 hVq
              have HVq := hide hVq
              have HP := hide hp
              clear q1 q2 q3 hVq hp hl'
              have hq0 : (0 : Int) ≤ (q : Int) := by omega
              have hqN : (q : Int) < (n : Int) := by omega
              go_wp2_with fail
              refine (l4Last x HLt.out).mono ?_
              rintro e w' ⟨hw, h⟩
              have hw := hw.symm
              subst hw
              rcases h with ⟨rfl, hno⟩ | ⟨i, rfl, hi1, hi2, hi3⟩
              · exact absurd (by rw [HP.out]) (hno q (by rw [HJl.out]; exact hlt2))
              · rw [HJl.out] at hi1 hi3
                have hLx : LI x = (i : Int) := HLq.out i hi1 hi2 hi3
                by_cases hiq : i = q
                · subst hiq
                  have HX := hide (HAt.out hLx)
                  have HJn : Hid (j + 1 = (AI (i + 1)).length) := by rw [Hid, HSu.out, if_pos hLx, List.length_append, ← HJ.out]; rfl
                  rw [← HJ.out] at HX
                  have hjl : j < (AI n).length := by
                    have h1 : (AI (i + 1)).length ≤ (AI n).length := HMo.out (i + 1) hlt2
                    rw [← HJn.out] at h1; omega
                  have HRj := hide (HRt.out j hjl)
                  rw [HX.out, HP.out] at HRj
                  have HVj : Hid (VI j = .slice a3 l c3) := by rw [Hid, HVI.out, HX.out]; exact HVq.out
                  clear hi1 hi2 hi3 hLx hjl
                  have HTd : Hid (TkAt w4 w4.heap.size (cellsP R j VI) j aj cj wr.drew) := HT.out.later (below_drewN _ 1)
                  have HRow := hide HTd.out.row
                  have hD1 := HTd.out.h1
                  have hDf := HTd.out.hf 1
                  go_wp2_with fail
                  go_region_law (first | (refine step_append_lies _ (by rfl) _ _ _ (by rfl) (w4.heap.size + 1) 49 i0 (.agg #[.int .i64 0, .slice none 0 0]) 2 32 Try.underlying24 hi hz0 hz1 hz2 rfl (by omega) (.slice aj j cj) j _ (by rfl) (HRow.out.alloc (.cells #[.int .i64 x, .slice a3 l c3] 49)) ⟨wr.heap.size, 0, none⟩ 1 1 [.int .i64 x, .slice a3 l c3] (by rfl) (by rfl) (World.news_of_block (cs := #[.int .i64 x, .slice a3 l c3]) (t := 49) (fr := (0, 0)) (heap_alloc_new wr.drew _)) cells2_one (by omega) (by unfold maxLen; omega) (by omega) (by simp; omega) (wr.heap.size + 1) (by simp) ?_; intro g cap w6 hown hgrow hat hlt3; have y1 : w6.cell? ⟨w4.heap.size, 1, none⟩ = some (.slice aj j cj) := (hgrow.cell_far ⟨w4.heap.size, 1, none⟩ (by simp; omega) (fun e => by have := (HRow.out.lt _ e.symm).1; dsimp only at this; omega)).trans (cell_later (below_alloc _ _) hD1); have yf : w6.frozen? ⟨w4.heap.size, 1, none⟩ = false := (hgrow.frozen_far ⟨w4.heap.size, 1, none⟩ (by simp; omega) (fun e => by have := (HRow.out.lt _ e.symm).1; dsimp only at this; omega)).trans (((bcell (below_alloc wr.drew _)).2 _ _ hOl).trans hDf)))
                  all_goals
                    have HSt := hide (TkAt.step (cs' := cellsP R (j + 1) VI) HTd.out (by rw [cellsP_next, HRj.out, HVj.out]; exact hown) hgrow)
                    clear hown hgrow hat hlt3 hO1 hOf hD1 hDf g1 g2
                    go_wp2
                    go_roundw
                    case rel => exact ⟨i + 1, j + 1, some ⟨g, 0, none⟩, cap, hlt2, by go_num, HJn.out, HSt.out⟩
                    case measure => simp [RowKit.intOf]; omega
                · have hib : ((i : Int) == (q : Int)) = false := by simp; omega
                  have HJn : Hid (j = (AI (q + 1)).length) := by rw [Hid, HSu.out, if_neg (by rw [hLx]; omega), List.append_nil]; exact HJ.out
                  clear hi1 hi2 hi3 hLx
                  go_wp2
                  go_roundw
                  case rel => exact ⟨q + 1, j, aj, cj, hlt2, by go_num, HJn.out, HT.out⟩
                  case measure => simp [RowKit.intOf]; omega
            · have hqN : q = n := by omega
              subst hqN
              have hO0 := HT.out.h0
              have HBw := hide (below_on HB5.out HT.out.below)
              have v0 := cell_later HBw.out HR0.out
              have v1 := cell_later HBw.out HR1.out
              have e0 := ((bcell HBw.out).2 _ _ (show w.heap.size < w2.heap.size by omega)).trans HFz0.out
              have e1 := ((bcell HBw.out).2 _ _ (show w.heap.size < w2.heap.size by omega)).trans HFz1.out
              have HOw := hide (HSb.out wr (.slice aj j cj) j HJ.out.symm HT.out.below HT.out.row)
              have HFin := hide (ret_putsA (x := .int .i64 0) (below_on B2.out HBw.out) (r := w.heap.size) (Nat.le_refl _) HOw.out (fun b hb => ⟨by have := hb.1; omega, hb.2⟩))
              go_wp2
              exact bodyPost_ret (v := .agg #[.int .i64 0, .slice aj j cj]) (by simp [results, Try.results7, go_sem, v0, v1]) rfl ⟨_, rfl, HFin.out.1, HFin.out.2⟩
        · obtain ⟨g4, cap4, cur4, e4, _⟩ : ∃ g cap cur, (Value.slice a4' m c4') = .slice (some ⟨g, 0, none⟩) m cap ∧ w4.heap[g]? = some (.cells cur 49 (0, 0)) := by
            rcases HOr2.out.2 with ⟨_, e⟩ | ⟨g, cap, cur, e, _, h, _⟩
            · exact absurd e hm0
            · exact ⟨g, cap, cur, e, h⟩
          injection e4 with e41 e42 e43
          subst e41 e43
          have HNw : Hid (∀ j x, (cellsP ps ps.length V2)[j]? = some x → w4.cell? ((⟨g4, 0, none⟩ : Addr).add j) = some x) := by
            rw [Hid, HM.out]
            exact HOr2.out.cells rfl
          have HO1c : Hid (∀ x ∈ cellsP ps ps.length V2, x.oneCell' = true) := cellsP_one (S := fun _ => True) (w := w4) (fun i hi => (HOi2.out.rd i (by rw [← HM.out]; exact hi)).narrow (fun _ _ _ => trivial))
          have HClen : Hid ((cellsP ps ps.length V2).length = m * 2) := by rw [Hid, cellsP_len, HM.out]
          have hnN := HNm.out
          have HOz := hide (ownsRow_later HOr1.out HB4.out)
          go_wp2_with (at_builtin; refine wpList_append_lies _ rfl _ _ _ rfl 0 49 i0 (.agg #[.int .i64 0, .slice none 0 0]) 2 32 Try.underlying24 hi hz0 hz1 hz2 rfl (by omega) _ n _ (by rfl) HOz.out ⟨g4, 0, none⟩ m _ (cellsP ps ps.length V2) (by rfl) HClen.out HNw.out HO1c.out (by omega) (by unfold maxLen; omega) (by omega) (Nat.zero_le _) w4.heap.size rfl ?_)
          intro ga capa w5 howna hgrowa hata hlta
          have HBa := hide (BuiltP.join (Q := (w2.heap.size ≤ ·)) (g := ga) (cap := capa) HN.out HM.out HOr1.out HOp1.out HOi1.out HB4.out HOi2.out (fun b hb => Nat.le_trans hs3 hb) (by rw [hnN]; exact howna) hgrowa hata)
          have HB5 := hide ((below_on HB3.out HB4.out).grown hgrowa (by omega) (fun r hr => HOp1.out r hr))
          have HJl : Hid ((vs ++ ps).length = N) := by rw [Hid, List.length_append, HN.out, HM.out]; exact hnN
          rw [hnN] at HBa
          clear howna hgrowa hata hlta hnN
          generalize vs ++ ps = J at HBa HJl HRn
          clear HOr1 HOp1 HOi1 HOr2 HOi2 HOz HC1 HC2 HF1 HF2 HB3 HB4 HNw HO1c HClen
          rw [HJl.out] at HRn
          obtain ⟨V, Bk, hra, hpa, hia⟩ := HBa.out
          have HRa := hide hra
          have HIa := hide hia
          have HRd := hide (RdP_old (HBa.out.ow HJl.out (by omega)).rd)
          have HAm := hide (absI_map J N)
          have HAs : Hid (∀ k, absI J N (k + 1) = absI J N k ++ if lastI J N (J.getD k (0, [])).1 = (k : Int) then [k] else []) := fun k => rfl
          have HAa := hide (absI_at J N)
          have HLe := hide (fun x i => lastI_eq J x N i)
          have HAl : Hid (∀ k, (absI J N k).length ≤ k) := fun k => by have := absP_len J N k; rw [absI_map, List.length_map] at this; exact this
          have HSb := hide (fun (wr : World) (z : Value) (j : Nat) (hj : (absI J N N).length = j) (hb : Below w5.heap.size w5 wr) hr => (BuiltP.sub (Q := (w2.heap.size ≤ ·)) (z := z) (wr := wr) hj HIa.out rfl hb hr (fun b hb => by have := HB5.out.size; omega)).ow (by rw [absI_map, List.length_map]; exact hj) (by have := HAl.out N; omega))
          have HRt : Hid (∀ t, t < (absI J N N).length → (absP J N N).getD t (0, []) = J.getD ((absI J N N).getD t 0) (0, [])) := fun t ht => by rw [absI_map]; simp [List.getD, ht]
          have HRl : Hid ((absP J N N).length = (absI J N N).length) := by rw [Hid, absI_map, List.length_map]
          have HA0 : Hid ((absI J N 0).length = 0) := rfl
          have HMo : Hid (∀ k, k ≤ N → (absI J N k).length ≤ (absI J N N).length) := fun k hk => by
            obtain ⟨r, hr⟩ := absI_pre J N (N - k) k
            rw [show k + (N - k) = N by omega] at hr
            rw [hr, List.length_append]; omega
          clear hra hpa hia
          rw [← HRn.out] at HRt HSb HRl
          generalize absI J N = AI at HAs HAa HAl HSb HRt HRl HA0 HMo
          generalize lastI J N = LI at HAs HAa HLe
          obtain ⟨VI, hVI⟩ : ∃ VI, (fun t => V ((AI N).getD t 0)) = VI := ⟨_, rfl⟩
          rw [hVI] at HSb
          have HVI : Hid (∀ t, VI t = V ((AI N).getD t 0)) := fun t => by rw [← hVI]
          clear hVI HAm HBa
          have hsz5 := HB5.out.size
          have HT0 : Hid (TkAt w5 w5.heap.size (cellsP R 0 VI) 0 none 0 (w5.alloc (.cells #[.int .i64 0, .slice none 0 0] 26))) :=
            ⟨World.ownsRow_nil _ _ _ _, below_alloc _ _, by simp, by simp [go_sem], by simp [go_sem], fun o => by simp [go_sem]⟩
          go_wp2
          go_loopw [9] (fun i wr => ∃ (q j : Nat) (ao : Option Addr) (c : Nat), q ≤ N ∧ i = .int .i64 (q : Int) ∧ Hid (j = (AI q).length) ∧ Hid (TkAt w5 w5.heap.size (cellsP R j VI) j ao c wr)) (fun i _ => N - (RowKit.intOf i).toNat)
          case atStart => exact ⟨0, 0, none, 0, Nat.zero_le _, rfl, HA0.out.symm, HT0.out⟩
          case round =>
            clear HT0
            obtain ⟨q, j, aj, cj, hq, rfl, HJ, HT⟩ := hrel
            have hjq : j ≤ q := by rw [HJ.out]; exact HAl.out q
            have hOl := HT.out.lt
            have hO1 := HT.out.h1
            have hOf := HT.out.hf 1
            by_cases hlt2 : q < N
            · clear hq
              have q1 : w5.cell? ⟨ga, q * 2, none⟩ = some (.int .i64 (J.getD q (0, [])).1) := (HRa.out.cellAt (q * 2) (by omega)).trans (cellsP_num _ _ _ _ hlt2)
              have q2 : w5.cell? ⟨ga, q * 2 + 1, none⟩ = some (V q) := (HRa.out.cellAt (q * 2 + 1) (by omega)).trans (cellsP_words _ _ _ _ hlt2)
              have q3 := HIa.out.rd q hlt2
              have g1 := cell_later HT.out.below q1
              have g2 := cell_later HT.out.below q2
              have HLt := hide (HRd.out.later HT.out.below)
              have HSu := hide (HAs.out q)
              have HAt := hide (HAa.out q hlt2)
              have HLq := hide (HLe.out (J.getD q (0, [])).1)
              obtain ⟨a3, c3, hVq⟩ := q3.shape
              rw [hVq] at g2
              obtain ⟨p, hp⟩ : ∃ p, J.getD q (0, []) = p := ⟨_, rfl⟩
              rw [hp] at g1 g2 HSu HAt HLq hVq
              obtain ⟨x, ws⟩ := p
              dsimp only at g1 g2 HSu HAt HLq hVq
              obtain ⟨l, hl'⟩ : ∃ l, ws.length = l := ⟨_, rfl⟩
              rw [hl'] at g2 hVq
              have HVq := hide hVq
              have HP := hide hp
              clear q1 q2 q3 hVq hp hl'
              have hq0 : (0 : Int) ≤ (q : Int) := by omega
              have hqN : (q : Int) < (N : Int) := by omega
              go_wp2_with fail
              refine (l4Last x HLt.out).mono ?_
              rintro e w' ⟨hw, h⟩
              have hw := hw.symm
              subst hw
              rcases h with ⟨rfl, hno⟩ | ⟨i, rfl, hi1, hi2, hi3⟩
              · exact absurd (by rw [HP.out]) (hno q (by rw [HJl.out]; exact hlt2))
              · rw [HJl.out] at hi1 hi3
                have hLx : LI x = (i : Int) := HLq.out i hi1 hi2 hi3
                by_cases hiq : i = q
                · subst hiq
                  have HX := hide (HAt.out hLx)
                  have HJn : Hid (j + 1 = (AI (i + 1)).length) := by rw [Hid, HSu.out, if_pos hLx, List.length_append, ← HJ.out]; rfl
                  rw [← HJ.out] at HX
                  have hjl : j < (AI N).length := by
                    have h1 : (AI (i + 1)).length ≤ (AI N).length := HMo.out (i + 1) hlt2
                    rw [← HJn.out] at h1; omega
                  have HRj := hide (HRt.out j hjl)
                  rw [HX.out, HP.out] at HRj
                  have HVj : Hid (VI j = .slice a3 l c3) := by rw [Hid, HVI.out, HX.out]; exact HVq.out
                  clear hi1 hi2 hi3 hLx hjl
                  have HTd : Hid (TkAt w5 w5.heap.size (cellsP R j VI) j aj cj wr.drew) := HT.out.later (below_drewN _ 1)
                  have HRow := hide HTd.out.row
                  have hD1 := HTd.out.h1
                  have hDf := HTd.out.hf 1
                  go_wp2_with fail
                  go_region_law (first | (refine step_append_lies _ (by rfl) _ _ _ (by rfl) (w5.heap.size + 1) 49 i0 (.agg #[.int .i64 0, .slice none 0 0]) 2 32 Try.underlying24 hi hz0 hz1 hz2 rfl (by omega) (.slice aj j cj) j _ (by rfl) (HRow.out.alloc (.cells #[.int .i64 x, .slice a3 l c3] 49)) ⟨wr.heap.size, 0, none⟩ 1 1 [.int .i64 x, .slice a3 l c3] (by rfl) (by rfl) (World.news_of_block (cs := #[.int .i64 x, .slice a3 l c3]) (t := 49) (fr := (0, 0)) (heap_alloc_new wr.drew _)) cells2_one (by omega) (by unfold maxLen; omega) (by omega) (by simp; omega) (wr.heap.size + 1) (by simp) ?_; intro g cap w6 hown hgrow hat hlt3; have y1 : w6.cell? ⟨w5.heap.size, 1, none⟩ = some (.slice aj j cj) := (hgrow.cell_far ⟨w5.heap.size, 1, none⟩ (by simp; omega) (fun e => by have := (HRow.out.lt _ e.symm).1; dsimp only at this; omega)).trans (cell_later (below_alloc _ _) hD1); have yf : w6.frozen? ⟨w5.heap.size, 1, none⟩ = false := (hgrow.frozen_far ⟨w5.heap.size, 1, none⟩ (by simp; omega) (fun e => by have := (HRow.out.lt _ e.symm).1; dsimp only at this; omega)).trans (((bcell (below_alloc wr.drew _)).2 _ _ hOl).trans hDf)))
                  all_goals
                    have HSt := hide (TkAt.step (cs' := cellsP R (j + 1) VI) HTd.out (by rw [cellsP_next, HRj.out, HVj.out]; exact hown) hgrow)
                    clear hown hgrow hat hlt3 hO1 hOf hD1 hDf g1 g2
                    go_wp2
                    go_roundw
                    case rel => exact ⟨i + 1, j + 1, some ⟨g, 0, none⟩, cap, hlt2, by go_num, HJn.out, HSt.out⟩
                    case measure => simp [RowKit.intOf]; omega
                · have hib : ((i : Int) == (q : Int)) = false := by simp; omega
                  have HJn : Hid (j = (AI (q + 1)).length) := by rw [Hid, HSu.out, if_neg (by rw [hLx]; omega), List.append_nil]; exact HJ.out
                  clear hi1 hi2 hi3 hLx
                  go_wp2
                  go_roundw
                  case rel => exact ⟨q + 1, j, aj, cj, hlt2, by go_num, HJn.out, HT.out⟩
                  case measure => simp [RowKit.intOf]; omega
            · have hqN : q = N := by omega
              subst hqN
              have hO0 := HT.out.h0
              have HBw := hide (below_on HB5.out HT.out.below)
              have v0 := cell_later HBw.out HR0.out
              have v1 := cell_later HBw.out HR1.out
              have e0 := ((bcell HBw.out).2 _ _ (show w.heap.size < w2.heap.size by omega)).trans HFz0.out
              have e1 := ((bcell HBw.out).2 _ _ (show w.heap.size < w2.heap.size by omega)).trans HFz1.out
              have HOw := hide (HSb.out wr (.slice aj j cj) j HJ.out.symm HT.out.below HT.out.row)
              have HFin := hide (ret_putsA (x := .int .i64 0) (below_on B2.out HBw.out) (r := w.heap.size) (Nat.le_refl _) HOw.out (fun b hb => ⟨by have := hb.1; omega, hb.2⟩))
              go_wp2
              exact bodyPost_ret (v := .agg #[.int .i64 0, .slice aj j cj]) (by simp [results, Try.results7, go_sem, v0, v1]) rfl ⟨_, rfl, HFin.out.1, HFin.out.2⟩
    · have hCp : C = q := by rw [HC.out, if_pos rfl, if_neg hq0]
      subst hCp
      have hRn : R = [] := by rw [HR.out, if_neg hq0]
      subst hRn
      go_enter Try.func7, Try.ntmps7
      go_wp2_with fail
      refine (HF1.out _ A0.out).mono ?_
      rintro e w1 ⟨rfl, nq1, hw1⟩
      have hb1 : Below (w.alloc (.cells #[.int .i64 0, .slice none 0 0] 26)).heap.size (w.alloc (.cells #[.int .i64 0, .slice none 0 0] 26)) w1 := by rw [hw1]; exact below_drewN _ nq1
      have B1 := hide (below_on A0.out hb1)
      clear hw1
      have q0 : w1.cell? ⟨w.heap.size, 0, none⟩ = some (.int .i64 0) := cell_later hb1 (by simp [go_sem])
      have q1 : w1.cell? ⟨w.heap.size, 1, none⟩ = some (.slice none 0 0) := cell_later hb1 (by simp [go_sem])
      have qf : ∀ o, w1.frozen? ⟨w.heap.size, o, none⟩ = false := fun o => ((bcell hb1).2 _ _ (by simp)).trans (by simp [go_sem])
      have hz1' : w.heap.size < w1.heap.size := World.block_lt_of_cell? _ _ q0
      clear hb1
      go_wp2_with fail
      refine (HF2.out _ B1.out).mono ?_
      rintro e w2 ⟨rfl, nq2, hw2⟩
      have hb2 : Below w1.heap.size w1 w2 := by rw [hw2]; exact below_drewN _ nq2
      have B2 := hide (below_on B1.out hb2)
      have r0 := cell_later hb2 q0
      have r1 := cell_later hb2 q1
      have f0 := ((bcell hb2).2 _ _ hz1').trans (qf 0)
      have f1 := ((bcell hb2).2 _ _ hz1').trans (qf 1)
      have hz2' := hb2.size
      clear hw2 hb2 q0 q1 qf B1
      go_wp2
      refine bodyPost_ret (v := .agg #[.int .i64 C, .slice none 0 0]) (by simp [results, Try.results7, go_sem, r0, r1]) rfl ⟨_, rfl, ?_, OwP_nil _ _⟩
      repeat (first | refine Below.setCell ?_ (by first | (simp; done) | (simp; omega) | omega) _ | exact B2.out)
  · have hCp : C = p := by rw [HC.out, if_neg hp0]
    subst hCp
    have hRn : R = [] := by rw [HR.out, if_neg hp0]
    subst hRn
    go_enter Try.func7, Try.ntmps7
    go_wp2_with fail
    refine (HF1.out _ A0.out).mono ?_
    rintro e w1 ⟨rfl, nq1, hw1⟩
    have hb1 : Below (w.alloc (.cells #[.int .i64 0, .slice none 0 0] 26)).heap.size (w.alloc (.cells #[.int .i64 0, .slice none 0 0] 26)) w1 := by rw [hw1]; exact below_drewN _ nq1
    have B1 := hide (below_on A0.out hb1)
    clear hw1
    have q0 : w1.cell? ⟨w.heap.size, 0, none⟩ = some (.int .i64 0) := cell_later hb1 (by simp [go_sem])
    have q1 : w1.cell? ⟨w.heap.size, 1, none⟩ = some (.slice none 0 0) := cell_later hb1 (by simp [go_sem])
    have f0 : w1.frozen? ⟨w.heap.size, 0, none⟩ = false := ((bcell hb1).2 _ _ (by simp)).trans (by simp [go_sem])
    have f1 : w1.frozen? ⟨w.heap.size, 1, none⟩ = false := ((bcell hb1).2 _ _ (by simp)).trans (by simp [go_sem])
    clear hb1
    go_wp2
    refine bodyPost_ret (v := .agg #[.int .i64 C, .slice none 0 0]) (by simp [results, Try.results7, go_sem, q0, q1]) rfl ⟨_, rfl, ?_, OwP_nil _ _⟩
    repeat (first | refine Below.setCell ?_ (by first | (simp; done) | (simp; omega) | omega) _ | exact B1.out)
end Go.Proofs.Ytdfndgeoaagihaa
