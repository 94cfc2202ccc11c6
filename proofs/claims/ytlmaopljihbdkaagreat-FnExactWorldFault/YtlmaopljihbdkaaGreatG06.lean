/- Fault3 Built ObZ EnZ ObV EnV in one text: what each says stands at its head below. -/
import Derived.Test.YtlmaopljihbdkaaGreatG05
import Derived.Test.YtlmaopljihbdkaaGreatG04
import Derived.Deep.AppendLies
import Derived.Test.YtlmaopljihbdkaaGreatG02
namespace Go.Proofs.YtlmaopljihbdkaaGreat
open Go.RowKit
theorem drewN_cell {w wr : World} (h : ∃ q, wr = w.drewN q) (a : Addr) : wr.cell? a = w.cell? a := by obtain ⟨q, rfl⟩ := h; rfl
theorem drewN_on {w wr w' : World} (h : ∃ q, wr = w.drewN q) (h' : ∃ q, w' = wr.drewN q) : ∃ q, w' = w.drewN q := by
  obtain ⟨q, rfl⟩ := h; obtain ⟨q', rfl⟩ := h'; exact ⟨_, World.drewN_drewN ..⟩
set_option maxHeartbeats 1000000 in
theorem l1Fault_cells {S T : Nat → Prop} (xss : List (List Int)) (ps : List (Int × List Int)) (n m bd : Nat) (ao ao' : Option Addr) (c c' : Nat) (w : World) (hn : xss.length = n) (hm : ps.length = m) (hn' : n ≤ 9223372036854775807) (hm' : m ≤ 9223372036854775807)
    (hd0 : w.cell? ⟨bd, 0, none⟩ = some (.slice ao n c)) (hd1 : w.cell? ⟨bd, 1, none⟩ = some (.slice ao' m c'))
    (hu : RdII S w (.slice ao n c) xss) (hv : RdP T w (.slice ao' m c') ps) :
    Calls Tryz.prog 202 #[.pointer (some ⟨bd, 0, none⟩)] w fun e w' => e = .returned (.int .i64 (diskF xss ps)) ∧ ∃ q, w' = w.drewN q := by
  have HU := hide hu
  have HV := hide hv
  have HN := hide hn
  have HM := hide hm
  clear hu hv hn hm
  by_cases h70 : 70 < n
  · have HZ := hide (diskF_many (xss := xss) (ps := ps) (by rw [HN.out]; exact Or.inl h70))
    go_enter Tryz.func202, Tryz.ntmps202
    go_wp2
    go_ret
    exact ⟨ret_int HZ.out.symm, 0, rfl⟩
  · by_cases h200 : 200 < m
    · have HZ := hide (diskF_many (xss := xss) (ps := ps) (by rw [HM.out]; exact Or.inr h200))
      go_enter Tryz.func202, Tryz.ntmps202
      go_wp2
      go_ret
      exact ⟨ret_int HZ.out.symm, 0, rfl⟩
    · have HS := hide (show ¬ (70 < xss.length ∨ 200 < ps.length) by rw [HN.out, HM.out]; omega)
      go_enter Tryz.func202, Tryz.ntmps202
      go_wp2
      go_loopw [3] (fun i wr => ∃ k : Nat, k ≤ n ∧ i = .int .i64 k ∧ Hid (firstF xss = firstF (xss.drop k)) ∧ Hid (∃ q, wr = w.drewN q)) (fun i _ => n - (intOf i).toNat)
      case atStart => exact ⟨0, Nat.zero_le _, rfl, by simp [Hid], 0, rfl⟩
      case round =>
        obtain ⟨k, hk, rfl, HF, HB⟩ := hrel
        have d0 := (drewN_cell HB.out _).trans hd0
        have d1 := (drewN_cell HB.out _).trans hd1
        by_cases hlt : k < n
        · obtain ⟨b, off, V, rfl, q1, q2⟩ := HU.out.at (k := k) (by rw [HN.out]; exact hlt)
          have g1 := (drewN_cell HB.out _).trans q1
          have R1 : Hid (RdI S wr V (xss.getD k [])) := by obtain ⟨q, rfl⟩ := HB; exact q2
          clear q1 q2
          by_cases hw : wordsF (xss.getD k []) = 0
          · have HF2 := hide (HF.out.trans (firstF_ok (by rw [HN.out]; exact hlt) hw))
            have HW := hide hw
            clear hw
            go_wp2_with fail
            refine (l1Words R1.out).mono ?_
            rintro e w' ⟨he, hq⟩
            rw [HW.out] at he
            subst he
            have HB2 := hide (drewN_on HB.out hq)
            clear hq
            go_wp2
            go_roundw
            case rel => exact ⟨k + 1, by omega, by go_num, HF2.out, HB2.out⟩
            case measure => simp [intOf]; omega
          · have HF2 := hide ((diskF_rows HS.out (by rw [HF.out, firstF_no (by rw [HN.out]; exact hlt) hw]; exact hw)).trans (HF.out.trans (firstF_no (by rw [HN.out]; exact hlt) hw)))
            obtain ⟨z, hz⟩ : ∃ z, wordsF (xss.getD k []) = z := ⟨_, rfl⟩
            have HW := hide hz
            rw [hz] at hw
            clear hz
            go_wp2_with fail
            refine (l1Words R1.out).mono ?_
            rintro e w' ⟨he, hq⟩
            rw [HW.out] at he
            subst he
            have HB2 := hide (drewN_on HB.out hq)
            clear hq
            go_wp2
            go_ret
            exact ⟨ret_int (by rw [HF2.out, HW.out]), HB2.out⟩
        · have hkn : k = n := by omega
          subst hkn
          have HE := hide (diskF_puts HS.out (HF.out.trans (firstF_end (by rw [HN.out]; exact Nat.le_refl _))))
          clear HF
          go_wp2
          go_loopw [5] (fun i wr => ∃ j : Nat, j ≤ m ∧ i = .int .i64 j ∧ Hid (firstP xss.length ps = firstP xss.length (ps.drop j)) ∧ Hid (∃ q, wr = w.drewN q)) (fun i _ => m - (intOf i).toNat)
          case atStart => exact ⟨0, Nat.zero_le _, rfl, by simp [Hid], HB.out⟩
          case round =>
            obtain ⟨j, hj, rfl, HG, HB2⟩ := hrel
            clear HB d0 d1
            have d0 := (drewN_cell HB2.out _).trans hd0
            have d1 := (drewN_cell HB2.out _).trans hd1
            by_cases hlt2 : j < m
            · obtain ⟨b2, off2, V2, rfl, q1, q2, q3⟩ := HV.out.at (k := j) (by rw [HM.out]; exact hlt2)
              have g1 := (drewN_cell HB2.out _).trans q1
              have g2 := (drewN_cell HB2.out _).trans q2
              have R2 : Hid (RdI T wr V2 (ps.getD j (0, [])).2) := by obtain ⟨q, rfl⟩ := HB2; exact q3
              obtain ⟨x, hx⟩ : ∃ x, (ps.getD j (0, [])).1 = x := ⟨_, rfl⟩
              have HX := hide hx
              rw [hx] at g1
              clear q1 q2 q3 hx
              by_cases hat : 0 ≤ x ∧ x < (k : Int)
              · obtain ⟨ha1, ha2⟩ := hat
                have ha3 : x ≤ (k : Int) - 1 := by omega
                go_wp2_with fail
                go_quiet ((go_at_call 63; exact Calls.quiet_of_same (l1In_yes _ _ _ ha1 ha3 _)))
                have g2' := g2
                by_cases hw : wordsF (ps.getD j (0, [])).2 = 0
                · have HF2 := hide (HG.out.trans (firstP_ok (by rw [HM.out]; exact hlt2) (by rw [HX.out, HN.out]; exact ⟨ha1, ha2⟩) hw))
                  have HW := hide hw
                  clear hw
                  go_wp2_with fail
                  refine (l1Words (R2.out.drewN nq)).mono ?_
                  rintro e w' ⟨he, hq⟩
                  rw [HW.out] at he
                  subst he
                  have HB3 := hide (drewN_on (drewN_on HB2.out ⟨nq, rfl⟩) hq)
                  clear hq
                  go_wp2
                  go_roundw
                  case rel => exact ⟨j + 1, by omega, by go_num, HF2.out, HB3.out⟩
                  case measure => simp [intOf]; omega
                · have HF2 := hide (HE.out.trans (HG.out.trans (firstP_no (by rw [HM.out]; exact hlt2) (by rw [HX.out, HN.out]; exact ⟨ha1, ha2⟩) hw)))
                  obtain ⟨z, hz⟩ : ∃ z, wordsF (ps.getD j (0, [])).2 = z := ⟨_, rfl⟩
                  have HW := hide hz
                  rw [hz] at hw
                  clear hz
                  go_wp2_with fail
                  refine (l1Words (R2.out.drewN nq)).mono ?_
                  rintro e w' ⟨he, hq⟩
                  rw [HW.out] at he
                  subst he
                  have HB3 := hide (drewN_on (drewN_on HB2.out ⟨nq, rfl⟩) hq)
                  clear hq
                  go_wp2
                  go_ret
                  exact ⟨ret_int (by rw [HF2.out, HW.out]), HB3.out⟩
              · have HZ := hide (HE.out.trans (HG.out.trans (firstP_at (by rw [HM.out]; exact hlt2) (by rw [HX.out, HN.out]; exact hat))))
                have HA := hide (show x < 0 ∨ (k : Int) - 1 < x by omega)
                clear hat
                go_wp2_with fail
                go_quiet ((go_at_call 63; exact Calls.quiet_of_same (l1In_no _ _ _ HA.out _)))
                go_wp2
                go_ret
                exact ⟨ret_int HZ.out.symm, drewN_on HB2.out ⟨_, rfl⟩⟩
            · have HZ := hide (HE.out.trans (HG.out.trans (firstP_end (by rw [HM.out]; omega))))
              go_wp2
              go_ret
              exact ⟨ret_int HZ.out.symm, HB2.out⟩
theorem l1Fault {S T : Nat → Prop} {w : World} {u v : Value} {bd : Nat} {xss : List (List Int)} {ps : List (Int × List Int)} (hd0 : w.cell? ⟨bd, 0, none⟩ = some u) (hd1 : w.cell? ⟨bd, 1, none⟩ = some v) (hu : RdII S w u xss) (hv : RdP T w v ps) :
    Calls Tryz.prog 202 #[.pointer (some ⟨bd, 0, none⟩)] w fun e w' => e = .returned (.int .i64 (diskF xss ps)) ∧ ∃ q, w' = w.drewN q := by
  obtain ⟨ao, c, rfl, hn⟩ := hu.shape
  obtain ⟨ao', c', rfl, hm⟩ := hv.shape
  exact l1Fault_cells xss ps _ _ bd ao ao' c c' w rfl rfl hn hm hd0 hd1 hu hv
end Go.Proofs.YtlmaopljihbdkaaGreat
namespace Go.Proofs.YtlmaopljihbdkaaGreat
open Go.RowKit
structure Inner (P : Nat → Prop) (w : World) (row : Option Nat) (k : Nat) (V : Nat → Value) (Bk : Nat → Nat) (X : Nat → List Int) : Prop where
  rd : ∀ i, i < k → RdI (· = Bk i) w (V i) (X i)
  own : ∀ i, i < k → X i ≠ [] → P (Bk i) ∧ Bk i < w.heap.size ∧ (∀ o, w.frozen? ⟨Bk i, o, none⟩ = false) ∧ row ≠ some (Bk i) ∧ ∀ j, j < k → X j ≠ [] → Bk j = Bk i → j = i
theorem Inner.zero (P : Nat → Prop) (w : World) (row : Option Nat) (V : Nat → Value) (Bk : Nat → Nat) (X : Nat → List Int) : Inner P w row 0 V Bk X :=
  ⟨fun _ h => absurd h (Nat.not_lt_zero _), fun _ h => absurd h (Nat.not_lt_zero _)⟩
theorem Inner.later {P : Nat → Prop} {w w' : World} {row : Option Nat} {k : Nat} {V : Nat → Value} {Bk : Nat → Nat} {X : Nat → List Int} (h : Inner P w row k V Bk X) (hb : Below w.heap.size w w') : Inner P w' row k V Bk X :=
  ⟨fun i hi => (h.rd i hi).later hb, fun i hi hn => by
    obtain ⟨h1, h2, h3, h4, h5⟩ := h.own i hi hn
    exact ⟨h1, Nat.lt_of_lt_of_le h2 hb.size, fun o => ((bcell hb).2 _ _ h2).trans (h3 o), h4, h5⟩⟩
theorem Inner.step {P P' : Nat → Prop} {w w1 w2 w3 : World} {row : Option Nat} {k g : Nat} {V : Nat → Value} {Bk : Nat → Nat} {X : Nat → List Int} {z : Value}
    (h : Inner P w row k V Bk X) (hP : ∀ b, P b → P' b) (hN : ∀ b, w.heap.size ≤ b → P' b) (hrow : ∀ r, row = some r → r < w.heap.size) (hb1 : Below w.heap.size w w1) (hz : OwI w.heap.size w1 z (X k)) (hb2 : Below w1.heap.size w1 w2)
    (hg : w2.grownBy w3 row) (hat : row = some g ∨ g = w2.heap.size) :
    ∃ Bk', Inner P' w3 (some g) (k + 1) (fun i => if i = k then z else V i) Bk' X := by
  obtain ⟨bz, hz1, hz2⟩ := hz
  have hs1 := hb1.size
  have hs2 := hb2.size
  have keep : ∀ b o, b < w2.heap.size → some b ≠ row → w3.cell? ⟨b, o, none⟩ = w2.cell? ⟨b, o, none⟩ := fun b o hl hne => hg.cell_far ⟨b, o, none⟩ hl hne
  have keepf : ∀ b o, b < w2.heap.size → some b ≠ row → w3.frozen? ⟨b, o, none⟩ = w2.frozen? ⟨b, o, none⟩ := fun b o hl hne => hg.frozen_far ⟨b, o, none⟩ hl hne
  have h2 := (h.later hb1).later hb2
  have hz1' := hz1.later hb2
  refine ⟨fun i => if i = k then bz else Bk i, fun i hi => ?_, fun i hi hn => ?_⟩
  · by_cases e : i = k
    · subst e
      simp only [if_true]
      obtain ⟨ao, c, e1, e2, e3⟩ := hz1'
      refine ⟨ao, c, e1, e2, fun hne => ?_⟩
      obtain ⟨b, off, f1, f2, f3⟩ := e3 hne
      subst f2
      refine ⟨b, off, f1, rfl, fun t ht => ?_⟩
      rw [keep _ _ (World.block_lt_of_cell? _ _ (f3 t ht)) (fun e => by have := hrow b e.symm; have := (hz2 hne).1; omega)]
      exact f3 t ht
    · simp only [if_neg e]
      obtain ⟨ao, c, e1, e2, e3⟩ := h2.rd i (by omega)
      refine ⟨ao, c, e1, e2, fun hne => ?_⟩
      obtain ⟨b, off, f1, f2, f3⟩ := e3 hne
      subst f2
      refine ⟨Bk i, off, f1, rfl, fun t ht => ?_⟩
      rw [keep _ _ (World.block_lt_of_cell? _ _ (f3 t ht)) (fun e => (h2.own i (by omega) hne).2.2.2.1 e.symm)]
      exact f3 t ht
  · have hsz3 := hg.size
    by_cases e : i = k
    · subst e
      simp only [if_true]
      obtain ⟨k1, k2, k3⟩ := hz2 hn
      refine ⟨hN _ k1, by omega, fun o => ?_, ?_, fun j hj hj' ej => ?_⟩
      · rw [keepf _ _ (by omega) (fun e => by have := hrow bz e.symm; omega)]
        exact ((bcell hb2).2 _ _ k2).trans (k3 o)
      · intro e
        injection e with e
        rcases hat with hat | hat
        · have := hrow g hat; omega
        · omega
      · by_cases e2 : j = i
        · exact e2
        · simp only [if_neg e2] at ej
          have := (h.own j (by omega) hj').2.1
          omega
    · simp only [if_neg e]
      obtain ⟨k1, k2, k3, k4, k5⟩ := h.own i (by omega) hn
      obtain ⟨_, q2, q3, _, _⟩ := h2.own i (by omega) hn
      refine ⟨hP _ k1, by omega, fun o => ?_, ?_, fun j hj hj' ej => ?_⟩
      · rw [keepf _ _ q2 (fun e => k4 e.symm)]
        exact q3 o
      · intro e
        injection e with e
        rcases hat with hat | hat
        · exact k4 (by rw [hat, e])
        · omega
      · by_cases e2 : j = k
        · subst e2
          simp only [if_true] at ej
          have := (hz2 hj').1
          omega
        · simp only [if_neg e2] at ej
          exact k5 j (by omega) hj' ej
theorem ownsRow_later {w w' : World} {B e s : Nat} {v : Value} {n : Nat} {xs : List Value} (h : w.ownsRow B e s v n xs) (hb : Below w.heap.size w w') : w'.ownsRow B e s v n xs := by
  obtain ⟨h1, h2⟩ := h
  refine ⟨h1, ?_⟩
  rcases h2 with h2 | ⟨g, cap, cur, hv, hg, hh, r⟩
  · exact Or.inl h2
  · exact Or.inr ⟨g, cap, cur, hv, hg, by rw [hb.block g (Array.getElem?_eq_some_iff.1 hh).1]; exact hh, r⟩
theorem Inner.mono {P P' : Nat → Prop} {w : World} {row : Option Nat} {k : Nat} {V : Nat → Value} {Bk : Nat → Nat} {X : Nat → List Int} (h : Inner P w row k V Bk X) (hP : ∀ b, P b → b < w.heap.size → P' b) : Inner P' w row k V Bk X :=
  ⟨h.rd, fun i hi hn => ⟨hP _ (h.own i hi hn).1 (h.own i hi hn).2.1, (h.own i hi hn).2⟩⟩
end Go.Proofs.YtlmaopljihbdkaaGreat
namespace Go.Proofs.YtlmaopljihbdkaaGreat
open Go.RowKit
def totX (ps : List Oj) (i : Nat) : Nat := ((ps.take i).map fun p => p.2.2.length).sum
theorem totX_zero (ps : List Oj) : totX ps 0 = 0 := by simp [totX]
theorem totX_succ (ps : List Oj) (i : Nat) (h : i < ps.length) : totX ps (i + 1) = totX ps i + (ps.getD i oj0).2.2.length := by
  unfold totX
  rw [List.take_succ_eq_append_getElem h]
  simp only [List.map_append, List.sum_append, List.map_cons, List.map_nil, List.sum_cons, List.sum_nil]
  simp [List.getD, h]
theorem totX_le (ps : List Oj) : ∀ (i j : Nat), i ≤ j → totX ps i ≤ totX ps j := by
  intro i j h
  unfold totX
  have : ps.take j = ps.take i ++ (ps.drop i).take (j - i) := by
    rw [← List.take_add]; congr 1; omega
  rw [this]; simp
def ToJ (os : List Oj) (w : World) (j : Nat) (wr : World) : Prop :=
  Below w.heap.size w wr ∧ w.heap.size < wr.heap.size ∧ (∀ o, wr.frozen? ⟨w.heap.size, o, none⟩ = false) ∧ (∀ o, o < os.length * 3 → ∃ x, wr.cell? ⟨w.heap.size, o, none⟩ = some x) ∧
    ∃ (V : Nat → Value) (Bk : Nat → Nat), Inner (w.heap.size ≤ ·) wr (some w.heap.size) j V Bk (fun i => (os.getD i oj0).2.2) ∧
      ∀ i, i < j → wr.cell? ⟨w.heap.size, i * 3, none⟩ = some (.int .i64 (os.getD i oj0).1) ∧ wr.cell? ⟨w.heap.size, i * 3 + 1, none⟩ = some (.int .i64 (os.getD i oj0).2.1) ∧ wr.cell? ⟨w.heap.size, i * 3 + 2, none⟩ = some (V i)
def setJ (w : World) (B j : Nat) (a f : Int) (z : Value) : World := ((w.setCell ⟨B, j * 3, none⟩ (.int .i64 a)).setCell ⟨B, j * 3 + 1, none⟩ (.int .i64 f)).setCell ⟨B, j * 3 + 2, none⟩ z
theorem setJ_other (w : World) (B j : Nat) (a f : Int) (z : Value) (p : Addr) (h : p.block ≠ B ∨ (p.off ≠ j * 3 ∧ p.off ≠ j * 3 + 1 ∧ p.off ≠ j * 3 + 2)) : (setJ w B j a f z).cell? p = w.cell? p := by
  unfold setJ
  rw [World.cell?_setCell_other _ _ _ _ (by rintro rfl; simp at h), World.cell?_setCell_other _ _ _ _ (by rintro rfl; simp at h), World.cell?_setCell_other _ _ _ _ (by rintro rfl; simp at h)]
theorem grown_onJ {w w' w'' : World} {row : Option Nat} (h : w.grownBy w' row) (h' : w'.grownBy w'' row) : w.grownBy w'' row :=
  ⟨h'.os.trans h.os, h'.tape.trans h.tape, h'.output.trans h.output, Nat.le_trans h.size h'.size, fun b hb hne => (h'.block b (Nat.lt_of_lt_of_le hb h.size) hne).trans (h.block b hb hne)⟩
theorem setJ_grown (w : World) (B j : Nat) (a f : Int) (z : Value) : w.grownBy (setJ w B j a f z) (some B) := by
  have g : ∀ (w : World) (o : Nat) (x : Value), w.grownBy (w.setCell ⟨B, o, none⟩ x) (some B) := fun w o x => by
    have hw : Wr (· = B) w (w.setCell ⟨B, o, none⟩ x) := (Wr.refl (· = B) w).setCell (p := ⟨B, o, none⟩) rfl _
    exact ⟨hw.os, hw.tape, hw.output, hw.size, fun b hb hne => hw.block b hb (fun e => hne (by rw [e]))⟩
  exact grown_onJ (grown_onJ (g _ _ _) (g _ _ _)) (g _ _ _)
theorem ToJ.step {os : List Oj} {w : World} {j : Nat} {wr w1 : World} {z : Value} (h : ToJ os w j wr) (hj : j < os.length) (hb : Below wr.heap.size wr w1) (hz : OwI wr.heap.size w1 z (os.getD j oj0).2.2) :
    ToJ os w (j + 1) (setJ w1 w.heap.size j (os.getD j oj0).1 (os.getD j oj0).2.1 z) := by
  obtain ⟨h1, h2, h3, h4, V, Bk, h5, h6⟩ := h
  have hs := hb.size
  have hc : ∀ o, w1.cell? ⟨w.heap.size, o, none⟩ = wr.cell? ⟨w.heap.size, o, none⟩ := fun o => (bcell hb).1 _ _ h2
  have hf : ∀ o, w1.frozen? ⟨w.heap.size, o, none⟩ = false := fun o => ((bcell hb).2 _ _ h2).trans (h3 o)
  obtain ⟨x0, e0⟩ := h4 (j * 3) (by omega)
  obtain ⟨x1, e1⟩ := h4 (j * 3 + 1) (by omega)
  obtain ⟨x2, e2⟩ := h4 (j * 3 + 2) (by omega)
  have s2 : (setJ w1 w.heap.size j (os.getD j oj0).1 (os.getD j oj0).2.1 z).cell? ⟨w.heap.size, j * 3 + 2, none⟩ = some z := by
    unfold setJ
    refine World.cell?_setCell_same (u := x2) _ _ _ ?_
    rw [World.cell?_setCell_other _ _ _ _ (by simp), World.cell?_setCell_other _ _ _ _ (by simp), hc]; exact e2
  have s1 : (setJ w1 w.heap.size j (os.getD j oj0).1 (os.getD j oj0).2.1 z).cell? ⟨w.heap.size, j * 3 + 1, none⟩ = some (.int .i64 (os.getD j oj0).2.1) := by
    unfold setJ
    rw [World.cell?_setCell_other _ _ _ _ (by simp)]
    refine World.cell?_setCell_same (u := x1) _ _ _ ?_
    rw [World.cell?_setCell_other _ _ _ _ (by simp), hc]; exact e1
  have s0 : (setJ w1 w.heap.size j (os.getD j oj0).1 (os.getD j oj0).2.1 z).cell? ⟨w.heap.size, j * 3, none⟩ = some (.int .i64 (os.getD j oj0).1) := by
    unfold setJ
    rw [World.cell?_setCell_other _ _ _ _ (by simp), World.cell?_setCell_other _ _ _ _ (by simp)]
    refine World.cell?_setCell_same (u := x0) _ _ _ ?_
    rw [hc]; exact e0
  obtain ⟨Bk', hI⟩ := h5.step (P' := (w.heap.size ≤ ·)) (fun _ h => h) (fun b hb' => by have := h1.size; omega) (fun r hr => by injection hr with hr; omega) hb hz (Below.refl _ _) (setJ_grown w1 w.heap.size j (os.getD j oj0).1 (os.getD j oj0).2.1 z) (Or.inl rfl)
  refine ⟨?_, ?_, fun o => ?_, fun o ho => ?_, _, Bk', hI, fun i hi => ?_⟩
  · unfold setJ
    exact (((below_on h1 hb).setCell (Nat.le_refl _) _).setCell (Nat.le_refl _) _).setCell (Nat.le_refl _) _
  · unfold setJ; simp; omega
  · unfold setJ; rw [World.frozen?_setCell, World.frozen?_setCell, World.frozen?_setCell]; exact hf o
  · by_cases a0 : o = j * 3
    · subst a0; exact ⟨_, s0⟩
    · by_cases a1 : o = j * 3 + 1
      · subst a1; exact ⟨_, s1⟩
      · by_cases a2 : o = j * 3 + 2
        · subst a2; exact ⟨_, s2⟩
        · obtain ⟨x, hx⟩ := h4 o ho
          exact ⟨x, by rw [setJ_other _ _ _ _ _ _ _ (Or.inr ⟨a0, a1, a2⟩), hc]; exact hx⟩
  · by_cases e : i = j
    · subst e
      simp only [if_true]
      exact ⟨s0, s1, s2⟩
    · simp only [if_neg e]
      obtain ⟨k0, k1, k2⟩ := h6 i (by omega)
      exact ⟨by rw [setJ_other _ _ _ _ _ _ _ (Or.inr ⟨by dsimp only; omega, by dsimp only; omega, by dsimp only; omega⟩), hc]; exact k0, by rw [setJ_other _ _ _ _ _ _ _ (Or.inr ⟨by dsimp only; omega, by dsimp only; omega, by dsimp only; omega⟩), hc]; exact k1, by rw [setJ_other _ _ _ _ _ _ _ (Or.inr ⟨by dsimp only; omega, by dsimp only; omega, by dsimp only; omega⟩), hc]; exact k2⟩
theorem ToJ.start (os : List Oj) (w : World) (n : Nat) (hn : os.length = n) (t : TypeId) : ToJ os w 0 (w.alloc (.cells (madeCells #[.int .i64 0, .int .i64 0, .slice none 0 0] (n * 3)) t)) := by
  refine ⟨below_alloc _ _, by simp, fun o => by simp [go_sem], fun o ho => ?_, fun _ => .bool false, fun _ => 0, Inner.zero _ _ _ _ _ _, fun i hi => absurd hi (Nat.not_lt_zero _)⟩
  subst hn
  have h : o < (madeCells #[Value.int .i64 0, .int .i64 0, .slice none 0 0] (os.length * 3)).size := by rw [size_madeCells]; exact ho
  exact ⟨_, by simp [go_sem, h]; rfl⟩
end Go.Proofs.YtlmaopljihbdkaaGreat
namespace Go.Proofs.YtlmaopljihbdkaaGreat
open Go.RowKit
theorem szEntry' {S : Nat → Prop} {w : World} {y : Value} {xs : List Int} {left : Int} {m : Nat} (a0 a1 : Int) (hy : RdI S w y xs) (hl : xs.length = m) (h0 : 0 ≤ left) (h1 : left ≤ 1048576) :
    Calls Tryz.prog 62 #[.agg #[.int .i64 a0, .int .i64 a1, y], .int .i64 left] w fun e w' => e = .returned (.int .i64 (szv left (m : Int))) ∧ Below w.heap.size w w' := by
  subst hl
  exact szEntry a0 a1 hy h0 h1
theorem szEn_cells (ps : List Oj) (n b off c : Nat) (X Y : Nat → Int) (V : Nat → Value) (left : Int) (w : World) (hn : ps.length = n) (hm : n ≤ 9223372036854775807) (h0 : 0 ≤ left) (h1 : left ≤ 1048576)
    (hx : ∀ i, i < n → w.cell? ⟨b, off + i * 3, none⟩ = some (.int .i64 (X i)) ∧ w.cell? ⟨b, off + i * 3 + 1, none⟩ = some (.int .i64 (Y i)) ∧ w.cell? ⟨b, off + i * 3 + 2, none⟩ = some (V i) ∧ ∃ S, RdI S w (V i) (ps.getD i oj0).2.2) :
    Calls Tryz.prog 30 #[.slice (some ⟨b, off, none⟩) n c, .int .i64 left] w fun e w' => e = .returned (.int .i64 (szv left ((n : Int) + (totX ps n : Int)))) ∧ Below w.heap.size w w' := by
  have HN := hide hn
  have HX := hide hx
  clear hn hx
  by_cases h : (n : Int) ≤ left
  · go_enter Tryz.func30, Tryz.ntmps30
    go_wp2
    go_loopw [1, 5] (fun t i wr => ∃ j : Nat, j ≤ n ∧ (n : Int) + (totX ps j : Int) ≤ left ∧ t = .int .i64 (left - ((n : Int) + (totX ps j : Int))) ∧ i = .int .i64 j ∧ Hid (Below w.heap.size w wr)) (fun _ i _ => n - (intOf i).toNat)
    case atStart => exact ⟨0, Nat.zero_le _, by simpa [totX_zero] using h, by simp [totX_zero], rfl, Below.refl _ _⟩
    case round =>
      obtain ⟨j, hj, hs, rfl, rfl, HB⟩ := hrel
      by_cases hlt : j < n
      · obtain ⟨q1, q1b, q2, S, hR⟩ := HX.out j hlt
        have g1 := cell_later HB.out q1
        have g1b := cell_later HB.out q1b
        have g2 := cell_later HB.out q2
        have HR := hide (hR.later HB.out)
        have ht := totX_succ ps j (by rw [HN.out]; exact hlt)
        obtain ⟨m, hml⟩ : ∃ m, (ps.getD j oj0).2.2.length = m := ⟨_, rfl⟩
        rw [hml] at ht
        have HL := hide hml
        have HT := hide ht
        clear hml ht
        have hle := totX_le ps (j + 1) n hlt
        clear hR q1 q1b q2
        by_cases hy : (n : Int) + (totX ps (j + 1) : Int) ≤ left
        · have HY := hide (szv_yes (left := left - ((n : Int) + (totX ps j : Int))) (s := (m : Int)) (by have := HT.out; omega))
          have hp : ¬ left - ((n : Int) + (totX ps j : Int)) - (m : Int) < 0 := by have := HT.out; omega
          clear hle
          go_wp2_with fail
          refine (szEntry' (X j) (Y j) HR.out HL.out (by omega) (by omega)).mono ?_
          rintro e w' ⟨he, hb⟩
          rw [HY.out] at he
          subst he
          have HB2 := hide (below_on HB.out hb)
          clear hb
          go_wp2
          go_roundw
          case rel => exact ⟨j + 1, hlt, hy, by rw [HT.out]; go_num, by go_num, HB2.out⟩
          case measure => simp [intOf]; omega
        · have HY := hide (szv_no (left := left - ((n : Int) + (totX ps j : Int))) (s := (m : Int)) (by have := HT.out; omega))
          have HZ := hide (szv_no (left := left) (s := (n : Int) + (totX ps n : Int)) (by omega))
          clear hle
          go_wp2_with fail
          refine (szEntry' (X j) (Y j) HR.out HL.out (by omega) (by omega)).mono ?_
          rintro e w' ⟨he, hb⟩
          rw [HY.out] at he
          subst he
          have HB2 := hide (below_on HB.out hb)
          clear hb
          go_wp2
          go_ret
          exact ⟨ret_int HZ.out.symm, HB2.out⟩
      · have : j = n := by omega
        subst this
        have HZ := hide (szv_yes hs)
        go_wp2
        go_ret
        exact ⟨ret_int HZ.out.symm, HB.out⟩
  · have HZ := hide (szv_no (left := left) (s := (n : Int) + (totX ps n : Int)) (by omega))
    go_enter Tryz.func30, Tryz.ntmps30
    go_wp2
    go_ret
    exact ⟨ret_int HZ.out.symm, Below.refl _ _⟩
theorem szEn_none (ao : Option Addr) (c : Nat) (left : Int) (w : World) (h0 : 0 ≤ left) (h1 : left ≤ 1048576) :
    Calls Tryz.prog 30 #[.slice ao 0 c, .int .i64 left] w fun e w' => e = .returned (.int .i64 left) ∧ Below w.heap.size w w' := by
  go_enter Tryz.func30, Tryz.ntmps30
  go_wp2
  go_loopw [1, 5] (fun t i wr => t = .int .i64 left ∧ i = .int .i64 0 ∧ wr = w) (fun _ _ _ => 0)
  case atStart => exact ⟨rfl, rfl, rfl⟩
  case round =>
    obtain ⟨rfl, rfl, rfl⟩ := hrel
    go_wp2
    go_ret
    exact ⟨rfl, Below.refl _ _⟩
theorem szEn {S : Nat → Prop} {w : World} {v : Value} {ps : List Oj} {left : Int} (hv : RdJ S w v ps) (h0 : 0 ≤ left) (h1 : left ≤ 1048576) :
    Calls Tryz.prog 30 #[v, .int .i64 left] w fun e w' => e = .returned (.int .i64 (szv left ((ps.length : Int) + (totX ps ps.length : Int)))) ∧ Below w.heap.size w w' := by
  obtain ⟨ao, c, rfl, hm, h⟩ := hv
  by_cases hne : ps = []
  · subst hne
    exact (szEn_none _ _ _ _ h0 h1).mono fun e w' ⟨he, hw⟩ => ⟨by rw [szv_yes (by simp [totX]; omega)]; simpa [totX] using he, hw⟩
  · obtain ⟨b, off, V, rfl, _, hc⟩ := h hne
    exact szEn_cells ps _ b off c _ _ V left w rfl hm h0 h1 fun i hi => ⟨(hc i hi).1, (hc i hi).2.1, (hc i hi).2.2.1, S, (hc i hi).2.2.2⟩
theorem Tryz.infoEntry : (Tryz.prog.info? 110).map (fun i => (i.zero, i.size, i.bytes)) = some (some (.agg #[.int .i64 0, .int .i64 0, .slice none 0 0]), 3, 40) := by kernel_rfl
theorem run_make_entry (n : Nat) (hn : n ≤ 1048576) (w : World) :
    (Instr.makeSlice 31 (.int .i64 (n : Int)) (.int .i64 (n : Int))).run Tryz.prog w = .ok (.slice (some ⟨w.heap.size, 0, none⟩) n n) (w.alloc (.cells (madeCells #[.int .i64 0, .int .i64 0, .slice none 0 0] (n * 3)) 110)) := by
  obtain ⟨i, hi, hz, hs, hb⟩ := info_parts Tryz.infoEntry
  have hr := run_make (P := Tryz.prog) w 31 110 i (.agg #[.int .i64 0, .int .i64 0, .slice none 0 0]) Tryz.underlying31 hi hz .i64 .i64 n n (by omega) (Int.le_refl _) (by rw [hb]; omega) (by omega)
  simp only [Int.toNat_natCast, hs] at hr
  exact hr
set_option maxHeartbeats 1000000 in
set_option maxRecDepth 4000 in
theorem toEn_cells (os : List Oj) (n b off c : Nat) (V : Nat → Value) (w : World) (hn : os.length = n) (hm : n ≤ 1048576)
    (hx : ∀ i, i < n → w.cell? ⟨b, off + i * 3, none⟩ = some (.int .i64 (os.getD i oj0).1) ∧ w.cell? ⟨b, off + i * 3 + 1, none⟩ = some (.int .i64 (os.getD i oj0).2.1) ∧ w.cell? ⟨b, off + i * 3 + 2, none⟩ = some (V i) ∧ (os.getD i oj0).2.2.length ≤ 1048576 ∧ ∃ S, RdI S w (V i) (os.getD i oj0).2.2) :
    Calls Tryz.prog 34 #[.slice (some ⟨b, off, none⟩) n c] w fun e w' =>
      e = .returned (.slice (some ⟨w.heap.size, 0, none⟩) n n) ∧ ToJ os w n w' := by
  have hmk := run_make_entry n hm
  have HX := hide hx
  have HN := hide hn
  have HT0 := hide (ToJ.start os w n hn 110)
  clear hx hn
  go_enter Tryz.func34, Tryz.ntmps34
  go_wp2
  go_loopw [4] (fun i wr => ∃ j : Nat, j ≤ n ∧ i = .int .i64 j ∧ Hid (ToJ os w j wr)) (fun i _ => n - (intOf i).toNat)
  case atStart => exact ⟨0, Nat.zero_le _, rfl, HT0.out⟩
  case round =>
    clear hmk HT0
    obtain ⟨j, hj, rfl, HM⟩ := hrel
    by_cases hlt : j < n
    · obtain ⟨q0, q1, q2, ql, S, hR⟩ := HX.out j hlt
      obtain ⟨ay, cy, hV⟩ := hR.shape
      rw [hV] at q2 hR
      have g0 := cell_later HM.out.1 q0
      have g1 := cell_later HM.out.1 q1
      have g2 := cell_later HM.out.1 q2
      have HR := hide (hR.later HM.out.1)
      have HSt := hide (fun w1 z hb ho => HM.out.step (w1 := w1) (z := z) (by rw [HN.out]; exact hlt) hb ho)
      have hBl := HM.out.2.1
      obtain ⟨x0, e0⟩ := HM.out.2.2.2.1 (j * 3) (by rw [HN.out]; omega)
      obtain ⟨x1, e1⟩ := HM.out.2.2.2.1 (j * 3 + 1) (by rw [HN.out]; omega)
      obtain ⟨x2, e2⟩ := HM.out.2.2.2.1 (j * 3 + 2) (by rw [HN.out]; omega)
      have HF := hide HM.out.2.2.1
      obtain ⟨p, hp⟩ : ∃ p, os.getD j oj0 = p := ⟨_, rfl⟩
      rw [hp] at g0 g1 g2 HR ql HSt
      obtain ⟨a, f, xs⟩ := p
      dsimp only at g0 g1 g2 HR ql HSt
      obtain ⟨l, hl⟩ : ∃ l, xs.length = l := ⟨_, rfl⟩
      rw [hl] at g2 HR
      have HL := hide hl
      have HE0 := hide e0
      have HE1 := hide e1
      have HE2 := hide e2
      have hj0 : (0 : Int) ≤ (j : Int) := by omega
      have hj1 : (j : Int) < (n : Int) := by omega
      clear q0 q1 q2 hR hV hp hl e0 e1 e2
      go_wp2_with fail
      refine (toEntry a f HR.out (by omega)).mono ?_
      rintro e w1 ⟨z, rfl, hb, ho⟩
      have HS := hide (HSt.out w1 z hb ho)
      obtain ⟨az, cz, hz⟩ := ho.shape
      rw [HL.out] at hz
      subst hz
      have g3 := cell_later hb HE0.out
      have g4 := cell_later hb HE1.out
      have g5 := cell_later hb HE2.out
      have f3 := ((bcell hb).2 _ _ hBl).trans (HF.out (j * 3))
      have f4 := ((bcell hb).2 _ _ hBl).trans (HF.out (j * 3 + 1))
      have f5 := ((bcell hb).2 _ _ hBl).trans (HF.out (j * 3 + 2))
      unfold setJ at HS
      clear hb ho g0 g1 g2 ql
      go_wp2
      go_roundw
      case rel => exact ⟨j + 1, by omega, by go_num, HS.out⟩
      case measure => simp [intOf]; omega
    · have : j = n := by omega
      subst this
      go_wp2
      go_ret
      exact ⟨rfl, HM.out⟩
theorem toEn_none (ao : Option Addr) (c : Nat) (w : World) :
    Calls Tryz.prog 34 #[.slice ao 0 c] w fun e w' => e = .returned (.slice (some ⟨w.heap.size, 0, none⟩) 0 0) ∧ ToJ [] w 0 w' := by
  have hmk := run_make_entry 0 (by omega)
  have HT0 := hide (ToJ.start [] w 0 rfl 110)
  simp only [Int.natCast_zero] at hmk
  go_enter Tryz.func34, Tryz.ntmps34
  go_wp2
  go_loopw [4] (fun i wr => i = .int .i64 0 ∧ Hid (ToJ [] w 0 wr)) (fun _ _ => 0)
  case atStart => exact ⟨rfl, HT0.out⟩
  case round =>
    obtain ⟨rfl, HM⟩ := hrel
    clear hmk
    go_wp2
    go_ret
    exact ⟨rfl, HM.out⟩
theorem toEn {S : Nat → Prop} {w : World} {v : Value} {os : List Oj} (hv : RdJ S w v os) (hm : os.length ≤ 1048576) (hl : ∀ i, i < os.length → (os.getD i oj0).2.2.length ≤ 1048576) :
    Calls Tryz.prog 34 #[v] w fun e w' =>
      ∃ u, e = .returned u ∧ Below w.heap.size w w' ∧ OwJ (fun b => w.heap.size ≤ b ∧ b < w'.heap.size) w' u os := by
  have fin : ∀ w', ToJ os w os.length w' → Below w.heap.size w w' ∧ OwJ (fun b => w.heap.size ≤ b ∧ b < w'.heap.size) w' (.slice (some ⟨w.heap.size, 0, none⟩) os.length os.length) os := by
    rintro w' ⟨h1, h2, h3, _, V, Bk, h5, h6⟩
    refine ⟨h1, _, os.length, w.heap.size, 0, V, Bk, rfl, by omega, fun _ => ⟨rfl, ⟨Nat.le_refl _, h2⟩, h3⟩, fun i hi => ?_⟩
    obtain ⟨k0, k1, k2⟩ := h6 i hi
    rw [Nat.zero_add]
    refine ⟨k0, k1, k2, h5.rd i hi, fun hn => ?_⟩
    obtain ⟨m1, m2, m3, m4, m5⟩ := h5.own i hi hn
    exact ⟨⟨m1, m2⟩, fun e => m4 (by rw [e]), m3, m5⟩
  obtain ⟨ao, c, rfl, _, h⟩ := hv
  by_cases hne : os = []
  · subst hne
    exact (toEn_none _ _ _).mono fun e w' ⟨he, hT⟩ => ⟨_, he, fin w' hT⟩
  · obtain ⟨b, off, V, rfl, _, hc⟩ := h hne
    exact (toEn_cells os _ b off c V w rfl hm fun i hi => ⟨(hc i hi).1, (hc i hi).2.1, (hc i hi).2.2.1, hl i hi, S, (hc i hi).2.2.2⟩).mono fun e w' ⟨he, hT⟩ => ⟨_, he, fin w' hT⟩
end Go.Proofs.YtlmaopljihbdkaaGreat
namespace Go.Proofs.YtlmaopljihbdkaaGreat
open Go.RowKit
theorem totJ_eq (ps : List Oj) : ∀ j, j ≤ ps.length → totJ ps j = totX ps j + 2 * j := by
  intro j
  induction j with
  | zero => intro _; rw [totJ_zero, totX_zero]
  | succ j ih =>
    intro h
    rw [totJ_succ ps j (by omega), totX_succ ps j (by omega), ih (by omega)]
    omega
theorem len_le_totX (ps : List Oj) (i : Nat) (h : i < ps.length) : (ps.getD i oj0).2.2.length ≤ totX ps ps.length := by
  have h1 := totX_succ ps i h
  have h2 := totX_le ps (i + 1) ps.length h
  omega
def szU (qs : List Oj) : Int := (qs.length : Int) + (totX qs qs.length : Int)
theorem szU_nonneg (qs : List Oj) : 0 ≤ szU qs := by unfold szU; omega
theorem smallU {qs : List Oj} (h : szU qs ≤ 1048576) : qs.length ≤ 1048576 ∧ (∀ i, i < qs.length → (qs.getD i oj0).2.2.length ≤ 1048576) ∧ (totJ qs qs.length : Int) ≤ 4194304 := by
  unfold szU at h
  have h3 := totJ_eq qs qs.length (Nat.le_refl _)
  exact ⟨by omega, fun i hi => by have := len_le_totX qs i hi; omega, by omega⟩
def IvJ (lo hi : Nat) (w : World) (v : Value) (ps : List Oj) : Prop :=
  ∃ S : Nat → Prop, hi ≤ w.heap.size ∧ (∀ b, S b → lo ≤ b ∧ b < hi) ∧ OwJ S w v ps
theorem OwJ.iv {B : Nat} {w : World} {v : Value} {ps : List Oj} (h : OwJ (fun b => B ≤ b ∧ b < w.heap.size) w v ps) : IvJ B w.heap.size w v ps :=
  ⟨_, Nat.le_refl _, fun _ hb => hb, h⟩
theorem IvJ.wr {lo hi : Nat} {V : Nat → Prop} {w w' : World} {v : Value} {ps : List Oj} (h : IvJ lo hi w v ps) (hw : Wr V w w') (hd : ∀ b, lo ≤ b → b < hi → ¬ V b) : IvJ lo hi w' v ps := by
  obtain ⟨S, h0, h1, h2⟩ := h
  exact ⟨S, Nat.le_trans h0 hw.size, h1, h2.wr hw fun b hb => hd b (h1 b hb).1 (h1 b hb).2⟩
theorem IvJ.later {lo hi : Nat} {w w' : World} {v : Value} {ps : List Oj} (h : IvJ lo hi w v ps) (hb : Below w.heap.size w w') : IvJ lo hi w' v ps :=
  h.wr (Wr.of_below hb fun _ => False) fun _ _ _ => id
theorem IvJ.rd {lo hi : Nat} {w : World} {v : Value} {ps : List Oj} (h : IvJ lo hi w v ps) : RdJ (fun b => lo ≤ b ∧ b < hi) w v ps := by
  obtain ⟨S, h0, h1, h2⟩ := h
  exact (h2.mono h1).rd
end Go.Proofs.YtlmaopljihbdkaaGreat
namespace Go.Proofs.YtlmaopljihbdkaaGreat
open Go.RowKit
def EndsEn (x : Int) (rs : List Oj) (w : World) (e : Ending) (w' : World) : Prop :=
  ∃ z, e = .returned (.agg #[.int .i64 x, z]) ∧ Below w.heap.size w w' ∧ OwJ (fun b => w.heap.size ≤ b ∧ b < w'.heap.size) w' z rs
theorem szEnU {S : Nat → Prop} {w : World} {v : Value} {ps : List Oj} {left : Int} (hv : RdJ S w v ps) (h0 : 0 ≤ left) (h1 : left ≤ 1048576) :
    Calls Tryz.prog 30 #[v, .int .i64 left] w fun e w' => e = .returned (.int .i64 (szv left (szU ps))) ∧ Below w.heap.size w w' := szEn hv h0 h1
end Go.Proofs.YtlmaopljihbdkaaGreat
