/- Fault2 IvP in one text: what each says stands at its head below. -/
import Derived.Test.YtlmaopljihbdkaaGreatG07
import Derived.Test.YtlmaopljihbdkaaGreatG03
import Derived.Test.YtlmaopljihbdkaaGreatG05
/- 'DiskFault' of the program and of the model, walked. -/
namespace Go.Proofs.YtlmaopljihbdkaaGreat
open Go.RowKit

theorem isPlace_yes (n c : Nat) (ao : Option Addr) (v : Value) (at_ : Int) (w : World) (h1 : 0 ≤ at_) (h2 : at_ < (n : Int)) :
    Calls Tryz.prog 228 #[.agg #[.slice ao n c, v], .int .i64 at_] w fun e w' => e = .returned (.bool true) ∧ Below w.heap.size w w' := by
  go_enter Tryz.func228, Tryz.ntmps228
  go_wp2
  go_ret
  exact ⟨by simp, below_alloc _ _⟩

theorem isPlace_no (n c : Nat) (ao : Option Addr) (v : Value) (at_ : Int) (w : World) (h : ¬ (0 ≤ at_ ∧ at_ < (n : Int))) :
    Calls Tryz.prog 228 #[.agg #[.slice ao n c, v], .int .i64 at_] w fun e w' => e = .returned (.bool false) ∧ Below w.heap.size w w' := by
  by_cases h1 : at_ < 0
  · clear h
    go_enter Tryz.func228, Tryz.ntmps228
    go_wp2
    go_ret
    exact ⟨by simp, below_alloc _ _⟩
  · have h2 : (n : Int) ≤ at_ := by omega
    clear h
    go_enter Tryz.func228, Tryz.ntmps228
    go_wp2
    go_ret
    exact ⟨by simp [h2], below_alloc _ _⟩

theorem RdII.at {S : Nat → Prop} {w : World} {ao : Option Addr} {n c : Nat} {xss : List (List Int)} (h : RdII S w (.slice ao n c) xss) {k : Nat} (hk : k < xss.length) :
    ∃ b off V, ao = some ⟨b, off, none⟩ ∧ w.cell? ⟨b, off + k, none⟩ = some V ∧ RdI S w V (xss.getD k []) := by
  obtain ⟨ao', c', e, _, h3⟩ := h
  injection e with e1 e2 e3
  subst e1
  obtain ⟨b, off, V, rfl, _, hc⟩ := h3 (by rintro rfl; exact absurd hk (Nat.not_lt_zero _))
  exact ⟨b, off, V k, rfl, (hc k hk).1, (hc k hk).2⟩

theorem RdP.at {S : Nat → Prop} {w : World} {ao : Option Addr} {n c : Nat} {ps : List (Int × List Int)} (h : RdP S w (.slice ao n c) ps) {k : Nat} (hk : k < ps.length) :
    ∃ b off V, ao = some ⟨b, off, none⟩ ∧ w.cell? ⟨b, off + k * 2, none⟩ = some (.int .i64 (ps.getD k (0, [])).1) ∧ w.cell? ⟨b, off + k * 2 + 1, none⟩ = some V ∧ RdI S w V (ps.getD k (0, [])).2 := by
  obtain ⟨ao', c', e, _, h3⟩ := h
  injection e with e1 e2 e3
  subst e1
  obtain ⟨b, off, V, rfl, _, hc⟩ := h3 (by rintro rfl; exact absurd hk (Nat.not_lt_zero _))
  exact ⟨b, off, V k, rfl, (hc k hk).1, (hc k hk).2.1, (hc k hk).2.2⟩

theorem RdII.shape {S : Nat → Prop} {w : World} {v : Value} {xss : List (List Int)} (h : RdII S w v xss) : ∃ ao c, v = .slice ao xss.length c ∧ xss.length ≤ 9223372036854775807 := by
  obtain ⟨ao, c, h1, h2, _⟩ := h
  exact ⟨ao, c, h1, h2⟩
theorem RdP.shape {S : Nat → Prop} {w : World} {v : Value} {ps : List (Int × List Int)} (h : RdP S w v ps) : ∃ ao c, v = .slice ao ps.length c ∧ ps.length ≤ 9223372036854775807 := by
  obtain ⟨ao, c, h1, h2, _⟩ := h
  exact ⟨ao, c, h1, h2⟩

set_option maxHeartbeats 1000000 in
theorem implFault_cells {S T : Nat → Prop} (xss : List (List Int)) (ps : List (Int × List Int)) (n m : Nat) (ao ao' : Option Addr) (c c' : Nat) (w : World) (hn : xss.length = n) (hm : ps.length = m) (hn' : n ≤ 9223372036854775807) (hm' : m ≤ 9223372036854775807)
    (hu : RdII S w (.slice ao n c) xss) (hv : RdP T w (.slice ao' m c') ps) :
    Calls Tryz.prog 207 #[.agg #[.slice ao n c, .slice ao' m c']] w fun e w' => e = .returned (.int .i64 (diskF xss ps)) ∧ Below w.heap.size w w' := by
  have HU := hide hu
  have HV := hide hv
  have HN := hide hn
  have HM := hide hm
  clear hu hv hn hm
  by_cases h70 : 70 < n
  · have HZ := hide (diskF_many (xss := xss) (ps := ps) (by rw [HN.out]; exact Or.inl h70))
    go_enter Tryz.func207, Tryz.ntmps207
    go_wp2
    go_ret
    exact ⟨ret_int HZ.out.symm, below_alloc _ _⟩
  · by_cases h200 : 200 < m
    · have HZ := hide (diskF_many (xss := xss) (ps := ps) (by rw [HM.out]; exact Or.inr h200))
      go_enter Tryz.func207, Tryz.ntmps207
      go_wp2
      go_ret
      exact ⟨ret_int HZ.out.symm, below_alloc _ _⟩
    · have HS := hide (show ¬ (70 < xss.length ∨ 200 < ps.length) by rw [HN.out, HM.out]; omega)
      go_enter Tryz.func207, Tryz.ntmps207
      go_wp2
      go_loopw [22] (fun i wr => ∃ k : Nat, k ≤ n ∧ i = .int .i64 k ∧ Hid (firstF xss = firstF (xss.drop k)) ∧ Hid (Below (w.alloc (.cells #[.slice ao n c, .slice ao' m c'] 59)).heap.size (w.alloc (.cells #[.slice ao n c, .slice ao' m c'] 59)) wr)) (fun i _ => n - (intOf i).toNat)
      case atStart => exact ⟨0, Nat.zero_le _, rfl, by simp [Hid], Below.refl _ _⟩
      case round =>
        obtain ⟨k, hk, rfl, HF, HB⟩ := hrel
        by_cases hlt : k < n
        · obtain ⟨b, off, V, rfl, q1, q2⟩ := HU.out.at (k := k) (by rw [HN.out]; exact hlt)
          have g1 := cell_later HB.out (cell_later (below_alloc w _) q1)
          have R1 := hide ((q2.later (below_alloc w _)).later HB.out)
          clear q1 q2
          by_cases hw : wordsF (xss.getD k []) = 0
          · have HF2 := hide (HF.out.trans (firstF_ok (by rw [HN.out]; exact hlt) hw))
            have HW := hide hw
            clear hw
            go_wp2_with fail
            refine (wordsFault R1.out).mono ?_
            rintro e w' ⟨he, q, rfl⟩
            rw [HW.out] at he
            subst he
            go_wp2
            go_roundw
            case rel => exact ⟨k + 1, by omega, by go_num, HF2.out, below_on HB.out (below_drewN _ q)⟩
            case measure => simp [intOf]; omega
          · have HF2 := hide ((diskF_rows HS.out (by rw [HF.out, firstF_no (by rw [HN.out]; exact hlt) hw]; exact hw)).trans (HF.out.trans (firstF_no (by rw [HN.out]; exact hlt) hw)))
            obtain ⟨z, hz⟩ : ∃ z, wordsF (xss.getD k []) = z := ⟨_, rfl⟩
            have HW := hide hz
            rw [hz] at hw
            clear hz
            go_wp2_with fail
            refine (wordsFault R1.out).mono ?_
            rintro e w' ⟨he, q, rfl⟩
            rw [HW.out] at he
            subst he
            go_wp2
            go_ret
            exact ⟨ret_int (by rw [HF2.out, HW.out]), below_on (below_alloc _ _) (below_on HB.out (below_drewN _ q))⟩
        · have hkn : k = n := by omega
          subst hkn
          have HE := hide (diskF_puts HS.out (HF.out.trans (firstF_end (by rw [HN.out]; exact Nat.le_refl _))))
          have g1 : wr.cell? ⟨w.heap.size, 1, none⟩ = some (.slice ao' m c') := cell_later HB.out (by simp [go_sem])
          clear HF
          go_wp2
          go_loopw [35] (fun i wr => ∃ j : Nat, j ≤ m ∧ i = .int .i64 j ∧ Hid (firstP xss.length ps = firstP xss.length (ps.drop j)) ∧ Hid (Below (w.alloc (.cells #[.slice ao k c, .slice ao' m c'] 59)).heap.size (w.alloc (.cells #[.slice ao k c, .slice ao' m c'] 59)) wr)) (fun i _ => m - (intOf i).toNat)
          case atStart => exact ⟨0, Nat.zero_le _, rfl, by simp [Hid], HB.out⟩
          case round =>
            obtain ⟨j, hj, rfl, HG, HB2⟩ := hrel
            clear HB g1
            by_cases hlt2 : j < m
            · obtain ⟨b2, off2, V2, rfl, q1, q2, q3⟩ := HV.out.at (k := j) (by rw [HM.out]; exact hlt2)
              obtain ⟨ao3, c3, rfl⟩ := q3.shape
              have g1 := cell_later HB2.out (cell_later (below_alloc w _) q1)
              have g2 := cell_later HB2.out (cell_later (below_alloc w _) q2)
              have R2 := hide ((q3.later (below_alloc w _)).later HB2.out)
              have g3 : wr.cell? ⟨w.heap.size, 0, none⟩ = some (.slice ao k c) := cell_later HB2.out (by simp [go_sem])
              have g4 : wr.cell? ⟨w.heap.size, 1, none⟩ = some (.slice (some ⟨b2, off2, none⟩) m c') := cell_later HB2.out (by simp [go_sem])
              have hz1 : w.heap.size < wr.heap.size := by have := HB2.out.size; simp at this; omega
              obtain ⟨x, hx⟩ : ∃ x, (ps.getD j (0, [])).1 = x := ⟨_, rfl⟩
              obtain ⟨l, hl⟩ : ∃ l, (ps.getD j (0, [])).2.length = l := ⟨_, rfl⟩
              have HX := hide hx
              have HL := hide hl
              rw [hx] at g1
              rw [hl] at g2 R2
              clear q1 q2 q3 hx hl
              by_cases hat : 0 ≤ x ∧ x < (k : Int)
              · obtain ⟨ha1, ha2⟩ := hat
                go_wp2_with fail
                refine (isPlace_yes k c ao _ x _ ha1 ha2).mono ?_
                rintro e w1 ⟨rfl, hb1⟩
                have g5 : w1.cell? ⟨wr.heap.size, 1, none⟩ = some (.slice ao3 l c3) := cell_later hb1 (by simp [go_sem])
                have R3 := hide ((R2.out.later (below_alloc _ _)).later hb1)
                have HB3 := hide (below_on HB2.out (below_on (below_alloc _ _) hb1))
                clear hb1 g1 g2 g3 g4 R2
                by_cases hw : wordsF (ps.getD j (0, [])).2 = 0
                · have HF2 := hide (HG.out.trans (firstP_ok (by rw [HM.out]; exact hlt2) (by rw [HX.out, HN.out]; exact ⟨ha1, ha2⟩) hw))
                  have HW := hide hw
                  clear hw
                  go_wp2_with fail
                  refine (wordsFault R3.out).mono ?_
                  rintro e w' ⟨he, q, rfl⟩
                  rw [HW.out] at he
                  subst he
                  go_wp2
                  go_roundw
                  case rel => exact ⟨j + 1, by omega, by go_num, HF2.out, below_on HB3.out (below_drewN _ q)⟩
                  case measure => simp [intOf]; omega
                · have HF2 := hide (HE.out.trans (HG.out.trans (firstP_no (by rw [HM.out]; exact hlt2) (by rw [HX.out, HN.out]; exact ⟨ha1, ha2⟩) hw)))
                  obtain ⟨z, hz⟩ : ∃ z, wordsF (ps.getD j (0, [])).2 = z := ⟨_, rfl⟩
                  have HW := hide hz
                  rw [hz] at hw
                  clear hz
                  go_wp2_with fail
                  refine (wordsFault R3.out).mono ?_
                  rintro e w' ⟨he, q, rfl⟩
                  rw [HW.out] at he
                  subst he
                  go_wp2
                  go_ret
                  exact ⟨ret_int (by rw [HF2.out, HW.out]), below_on (below_alloc _ _) (below_on HB3.out (below_drewN _ q))⟩
              · have HZ := hide (HE.out.trans (HG.out.trans (firstP_at (by rw [HM.out]; exact hlt2) (by rw [HX.out, HN.out]; exact hat))))
                have HA := hide hat
                clear hat
                go_wp2_with fail
                refine (isPlace_no k c ao _ x _ HA.out).mono ?_
                rintro e w1 ⟨rfl, hb1⟩
                have HB3 := hide (below_on HB2.out (below_on (below_alloc _ _) hb1))
                clear hb1 g1 g2 g3 g4 R2
                go_wp2
                go_ret
                exact ⟨ret_int HZ.out.symm, below_on (below_alloc _ _) HB3.out⟩
            · have HZ := hide (HE.out.trans (HG.out.trans (firstP_end (by rw [HM.out]; omega))))
              go_wp2
              go_ret
              exact ⟨ret_int HZ.out.symm, below_on (below_alloc _ _) HB2.out⟩

/-- 'impl.DiskFault' of a reading. -/
theorem implFault {S T : Nat → Prop} {w : World} {u v : Value} {xss : List (List Int)} {ps : List (Int × List Int)} (hu : RdII S w u xss) (hv : RdP T w v ps) :
    Calls Tryz.prog 207 #[.agg #[u, v]] w fun e w' => e = .returned (.int .i64 (diskF xss ps)) ∧ Below w.heap.size w w' := by
  obtain ⟨ao, c, rfl, hn⟩ := hu.shape
  obtain ⟨ao', c', rfl, hm⟩ := hv.shape
  exact implFault_cells xss ps _ _ ao ao' c c' w rfl rfl hn hm hu hv
end Go.Proofs.YtlmaopljihbdkaaGreat
/- The laws' helpers over a code with puts; puts among the arguments. -/
namespace Go.Proofs.YtlmaopljihbdkaaGreat
open Go.RowKit

/-- What a call that ends in a code and puts is to leave. -/
def EndsP (x : Int) (rs : List (Int × List Int)) (w : World) (e : Ending) (w' : World) : Prop :=
  ∃ z, e = .returned (.agg #[.int .i64 x, z]) ∧ Below w.heap.size w w' ∧ OwP (fun b => w.heap.size ≤ b ∧ b < w'.heap.size) w' z rs

theorem szD_nonneg (xss : List (List Int)) (ps : List (Int × List Int)) : 0 ≤ szD xss ps := by unfold szD; omega
def szQ (qs : List (Int × List Int)) : Int := (qs.length : Int) + (totW qs qs.length : Int)
theorem szQ_nonneg (qs : List (Int × List Int)) : 0 ≤ szQ qs := by unfold szQ; omega
theorem smallQ {qs : List (Int × List Int)} (h : szQ qs ≤ 1048576) : qs.length ≤ 1048576 ∧ (∀ i, i < qs.length → (qs.getD i (0, [])).2.length ≤ 1048576) ∧ (totP qs qs.length : Int) ≤ 2097152 := by
  unfold szQ at h
  have h3 := totP_eq qs qs.length (Nat.le_refl _)
  exact ⟨by omega, fun i hi => by have := len_le_totW qs i hi; omega, by omega⟩

/-- Puts in [lo, hi). -/
def IvP (lo hi : Nat) (w : World) (v : Value) (ps : List (Int × List Int)) : Prop :=
  ∃ S : Nat → Prop, hi ≤ w.heap.size ∧ (∀ b, S b → lo ≤ b ∧ b < hi) ∧ OwP S w v ps
theorem OwP.iv {B : Nat} {w : World} {v : Value} {ps : List (Int × List Int)} (h : OwP (fun b => B ≤ b ∧ b < w.heap.size) w v ps) : IvP B w.heap.size w v ps :=
  ⟨_, Nat.le_refl _, fun _ hb => hb, h⟩
theorem IvP.wr {lo hi : Nat} {V : Nat → Prop} {w w' : World} {v : Value} {ps : List (Int × List Int)} (h : IvP lo hi w v ps) (hw : Wr V w w') (hd : ∀ b, lo ≤ b → b < hi → ¬ V b) : IvP lo hi w' v ps := by
  obtain ⟨S, h0, h1, h2⟩ := h
  exact ⟨S, Nat.le_trans h0 hw.size, h1, h2.wr hw fun b hb => hd b (h1 b hb).1 (h1 b hb).2⟩
theorem IvP.later {lo hi : Nat} {w w' : World} {v : Value} {ps : List (Int × List Int)} (h : IvP lo hi w v ps) (hb : Below w.heap.size w w') : IvP lo hi w' v ps :=
  h.wr (Wr.of_below hb fun _ => False) fun _ _ _ => id
theorem IvP.rd {lo hi : Nat} {w : World} {v : Value} {ps : List (Int × List Int)} (h : IvP lo hi w v ps) : RdP (fun b => lo ≤ b ∧ b < hi) w v ps := by
  obtain ⟨S, h0, h1, h2⟩ := h
  exact (h2.mono h1).rd

/-- Puts in [lo, hi) whose marks stand from k on. -/
def MkPs (k : Int) (lo hi : Nat) (w : World) (v : Value) (ps : List (Int × List Int)) : Prop := RdP (fun b => lo ≤ b ∧ b < hi) w v (mkP k ps)
theorem MkPs.wr {k : Int} {lo hi : Nat} {V : Nat → Prop} {w w' : World} {v : Value} {ps : List (Int × List Int)} (h : MkPs k lo hi w v ps) (hw : Wr V w w') (hd : ∀ b, lo ≤ b → b < hi → ¬ V b) : MkPs k lo hi w' v ps :=
  RdP.wr h hw fun b hb => hd b hb.1 hb.2
theorem MkPs.later {k : Int} {lo hi : Nat} {w w' : World} {v : Value} {ps : List (Int × List Int)} (h : MkPs k lo hi w v ps) (hb : Below w.heap.size w w') : MkPs k lo hi w' v ps := RdP.later h hb

/-- 'markPutS' of what lies in [lo, hi). -/
theorem markPMk {lo hi : Nat} {w : World} {v : Value} {ps : List (Int × List Int)} {k : Int} (h : IvP lo hi w v ps) (hk0 : 0 ≤ k) (hk : k + (totP ps ps.length : Int) ≤ 9223372036854775807) :
    Calls Tryz.prog 21 #[v, .int .i64 k] w fun e w' => e = .returned (.int .i64 (k + (totP ps ps.length : Int))) ∧ MkPs k lo hi w' v ps ∧ Wr (fun b => lo ≤ b ∧ b < hi) w w' := by
  obtain ⟨S, h0, h1, h2⟩ := h
  exact markP (h2.mono h1) hk0 hk
theorem markPIv {lo hi : Nat} {w : World} {v : Value} {ps : List (Int × List Int)} {k : Int} (h : IvP lo hi w v ps) (hk0 : 0 ≤ k) (hk : k + (totP ps ps.length : Int) ≤ 9223372036854775807) :
    Calls Tryz.prog 21 #[v, .int .i64 k] w fun e w' => e = .returned (.int .i64 (k + (totP ps ps.length : Int))) ∧ Wr (fun b => lo ≤ b ∧ b < hi) w w' :=
  (markPMk h hk0 hk).mono fun _ _ ⟨h1, _, h3⟩ => ⟨h1, h3⟩

/-- 'eqPutsResult' of two readings of one result. -/
theorem eqPutsResult {S T : Nat → Prop} {w : World} {x : Int} {u v : Value} {ps : List (Int × List Int)} (hu : RdP S w u ps) (hv : RdP T w v ps) :
    Calls Tryz.prog 10 #[.agg #[.int .i64 x, u], .agg #[.int .i64 x, v]] w fun e w' => e = .returned (.bool true) ∧ Below w.heap.size w w' := by
  have HU := hide hu
  have HV := hide hv
  obtain ⟨ao, c, rfl, _⟩ := hu.shape
  obtain ⟨ao', c', rfl, _⟩ := hv.shape
  clear hu hv
  go_enter Tryz.func10, Tryz.ntmps10
  go_wp2_with fail
  refine (eqP ((HU.out.later (below_alloc _ _)).later (below_alloc _ _)) ((HV.out.later (below_alloc _ _)).later (below_alloc _ _))).mono ?_
  rintro e w' ⟨rfl, hb⟩
  have HB := hide (below_on (below_on (below_alloc _ _) (below_alloc _ _)) hb)
  clear hb
  go_wp2
  go_ret
  exact ⟨rfl, HB.out⟩

/-- 'markPutsResult' of puts in [lo, hi). -/
theorem markPutsResult {lo hi : Nat} {w : World} {x : Int} {u : Value} {ps : List (Int × List Int)} {k : Int} (hu : IvP lo hi w u ps) (hk0 : 0 ≤ k) (hk : k + (totP ps ps.length : Int) ≤ 9223372036854775807) :
    Calls Tryz.prog 13 #[.agg #[.int .i64 x, u], .int .i64 k] w fun e w' => e = .returned (.int .i64 (k + (totP ps ps.length : Int))) ∧ MkPs k lo hi w' u ps ∧ Wr (fun b => lo ≤ b ∧ b < hi) w w' := by
  have HY := hide hu
  obtain ⟨ao, c, rfl, _⟩ := hu.rd.shape
  clear hu
  obtain ⟨M, hM⟩ : ∃ M, k + (totP ps ps.length : Int) = M := ⟨_, rfl⟩
  have HM := hide hM
  have HK := hide hk
  rw [hM]
  clear hM hk
  go_enter Tryz.func13, Tryz.ntmps13
  go_wp2_with fail
  refine (markPMk (HY.out.later (below_alloc _ _)) hk0 HK.out).mono ?_
  rintro e w1 ⟨he, hm, hw⟩
  rw [HM.out] at he
  subst he
  have HMk := hide hm
  have HW := hide (wr_on (below_alloc _ _) hw)
  clear hm hw
  go_wp2
  go_ret
  exact ⟨rfl, HMk.out, HW.out⟩

/-- 'heldPutsResult' of puts whose marks stand. -/
theorem heldPutsResult {lo hi : Nat} {w : World} {x : Int} {u : Value} {ps : List (Int × List Int)} {k : Int} (hu : MkPs k lo hi w u ps) (hk0 : 0 ≤ k) (hk : k + (totP ps ps.length : Int) ≤ 9223372036854775807) :
    Calls Tryz.prog 14 #[.agg #[.int .i64 x, u], .int .i64 k] w fun e w' => e = .returned (.int .i64 (k + (totP ps ps.length : Int))) ∧ Below w.heap.size w w' := by
  have HY := hide hu
  obtain ⟨ao, c, rfl, _⟩ := RdP.shape hu
  clear hu
  rw [mkP_len] at HY ⊢
  obtain ⟨M, hM⟩ : ∃ M, k + (totP ps ps.length : Int) = M := ⟨_, rfl⟩
  have HM := hide hM
  have HK := hide hk
  have hpos : 0 ≤ M := by omega
  rw [hM]
  clear hM hk
  go_enter Tryz.func14, Tryz.ntmps14
  go_wp2_with fail
  refine (heldP (RdP.later HY.out (below_alloc _ _)) hk0 HK.out).mono ?_
  rintro e w1 ⟨he, q, rfl⟩
  rw [HM.out] at he
  subst he
  go_wp2
  go_ret
  exact ⟨rfl, below_on (below_alloc _ _) (below_drewN _ _)⟩
end Go.Proofs.YtlmaopljihbdkaaGreat
