/- Fault2 IvP ObS En EnS in one text: what each says stands at its head below. -/
import Derived.Test.YtlmaopljihbdkaaGreatG04
import Derived.Test.YtlmaopljihbdkaaGreatG02
import Derived.Test.YtlmaopljihbdkaaGreatG03
namespace Go.Proofs.YtlmaopljihbdkaaGreat
open Go.RowKit
theorem isPlace_yes (n c : Nat) (ao : Option Addr) (v : Value) (at_ : Int) (w : World) (h1 : 0 ≤ at_) (h2 : at_ < (n : Int)) :
    Calls Tryz.prog 228 #[.agg #[.slice ao n c, v], .int .i64 at_] w fun e w' => e = .returned (.bool true) ∧ Below w.heap.size w w' := by
  go_enter Tryz.func228, Tryz.ntmps228
  go_wp2
  go_ret
  exact ⟨by simp, below_alloc _ _⟩
theorem isPlace_no (n c : Nat) (ao : Option Addr) (v : Value) (at_ : Int) (w : World) (h : ¬ (0 ≤ at_ ∧ at_ < (n : Int))) :
    Calls Tryz.prog 228 #[.agg #[.slice ao n c, v], .int .i64 at_] w fun e w' => e = .returned (.bool false) ∧ Below w.heap.size w w' := by
  by_cases h1 : at_ < 0
  · clear h
    go_enter Tryz.func228, Tryz.ntmps228
    go_wp2
    go_ret
    exact ⟨by simp, below_alloc _ _⟩
  · have h2 : (n : Int) ≤ at_ := by omega
    clear h
    go_enter Tryz.func228, Tryz.ntmps228
    go_wp2
    go_ret
    exact ⟨by simp [h2], below_alloc _ _⟩
theorem RdII.at {S : Nat → Prop} {w : World} {ao : Option Addr} {n c : Nat} {xss : List (List Int)} (h : RdII S w (.slice ao n c) xss) {k : Nat} (hk : k < xss.length) :
    ∃ b off V, ao = some ⟨b, off, none⟩ ∧ w.cell? ⟨b, off + k, none⟩ = some V ∧ RdI S w V (xss.getD k []) := by
  obtain ⟨ao', c', e, _, h3⟩ := h
  injection e with e1 e2 e3
  subst e1
  obtain ⟨b, off, V, rfl, _, hc⟩ := h3 (by rintro rfl; exact absurd hk (Nat.not_lt_zero _))
  exact ⟨b, off, V k, rfl, (hc k hk).1, (hc k hk).2⟩
theorem RdP.at {S : Nat → Prop} {w : World} {ao : Option Addr} {n c : Nat} {ps : List (Int × List Int)} (h : RdP S w (.slice ao n c) ps) {k : Nat} (hk : k < ps.length) :
    ∃ b off V, ao = some ⟨b, off, none⟩ ∧ w.cell? ⟨b, off + k * 2, none⟩ = some (.int .i64 (ps.getD k (0, [])).1) ∧ w.cell? ⟨b, off + k * 2 + 1, none⟩ = some V ∧ RdI S w V (ps.getD k (0, [])).2 := by
  obtain ⟨ao', c', e, _, h3⟩ := h
  injection e with e1 e2 e3
  subst e1
  obtain ⟨b, off, V, rfl, _, hc⟩ := h3 (by rintro rfl; exact absurd hk (Nat.not_lt_zero _))
  exact ⟨b, off, V k, rfl, (hc k hk).1, (hc k hk).2.1, (hc k hk).2.2⟩
theorem RdII.shape {S : Nat → Prop} {w : World} {v : Value} {xss : List (List Int)} (h : RdII S w v xss) : ∃ ao c, v = .slice ao xss.length c ∧ xss.length ≤ 9223372036854775807 := by
  obtain ⟨ao, c, h1, h2, _⟩ := h
  exact ⟨ao, c, h1, h2⟩
theorem RdP.shape {S : Nat → Prop} {w : World} {v : Value} {ps : List (Int × List Int)} (h : RdP S w v ps) : ∃ ao c, v = .slice ao ps.length c ∧ ps.length ≤ 9223372036854775807 := by
  obtain ⟨ao, c, h1, h2, _⟩ := h
  exact ⟨ao, c, h1, h2⟩
set_option maxHeartbeats 1000000 in
theorem implFault_cells {S T : Nat → Prop} (xss : List (List Int)) (ps : List (Int × List Int)) (n m : Nat) (ao ao' : Option Addr) (c c' : Nat) (w : World) (hn : xss.length = n) (hm : ps.length = m) (hn' : n ≤ 9223372036854775807) (hm' : m ≤ 9223372036854775807)
    (hu : RdII S w (.slice ao n c) xss) (hv : RdP T w (.slice ao' m c') ps) :
    Calls Tryz.prog 207 #[.agg #[.slice ao n c, .slice ao' m c']] w fun e w' => e = .returned (.int .i64 (diskF xss ps)) ∧ Below w.heap.size w w' := by
  have HU := hide hu
  have HV := hide hv
  have HN := hide hn
  have HM := hide hm
  clear hu hv hn hm
  by_cases h70 : 70 < n
  · have HZ := hide (diskF_many (xss := xss) (ps := ps) (by rw [HN.out]; exact Or.inl h70))
    go_enter Tryz.func207, Tryz.ntmps207
    go_wp2
    go_ret
    exact ⟨ret_int HZ.out.symm, below_alloc _ _⟩
  · by_cases h200 : 200 < m
    · have HZ := hide (diskF_many (xss := xss) (ps := ps) (by rw [HM.out]; exact Or.inr h200))
      go_enter Tryz.func207, Tryz.ntmps207
      go_wp2
      go_ret
      exact ⟨ret_int HZ.out.symm, below_alloc _ _⟩
    · have HS := hide (show ¬ (70 < xss.length ∨ 200 < ps.length) by rw [HN.out, HM.out]; omega)
      go_enter Tryz.func207, Tryz.ntmps207
      go_wp2
      go_loopw [22] (fun i wr => ∃ k : Nat, k ≤ n ∧ i = .int .i64 k ∧ Hid (firstF xss = firstF (xss.drop k)) ∧ Hid (Below (w.alloc (.cells #[.slice ao n c, .slice ao' m c'] 59)).heap.size (w.alloc (.cells #[.slice ao n c, .slice ao' m c'] 59)) wr)) (fun i _ => n - (intOf i).toNat)
      case atStart => exact ⟨0, Nat.zero_le _, rfl, by simp [Hid], Below.refl _ _⟩
      case round =>
        obtain ⟨k, hk, rfl, HF, HB⟩ := hrel
        by_cases hlt : k < n
        · obtain ⟨b, off, V, rfl, q1, q2⟩ := HU.out.at (k := k) (by rw [HN.out]; exact hlt)
          have g1 := cell_later HB.out (cell_later (below_alloc w _) q1)
          have R1 := hide ((q2.later (below_alloc w _)).later HB.out)
          clear q1 q2
          by_cases hw : wordsF (xss.getD k []) = 0
          · have HF2 := hide (HF.out.trans (firstF_ok (by rw [HN.out]; exact hlt) hw))
            have HW := hide hw
            clear hw
            go_wp2_with fail
            refine (wordsFault R1.out).mono ?_
            rintro e w' ⟨he, q, rfl⟩
            rw [HW.out] at he
            subst he
            go_wp2
            go_roundw
            case rel => exact ⟨k + 1, by omega, by go_num, HF2.out, below_on HB.out (below_drewN _ q)⟩
            case measure => simp [intOf]; omega
          · have HF2 := hide ((diskF_rows HS.out (by rw [HF.out, firstF_no (by rw [HN.out]; exact hlt) hw]; exact hw)).trans (HF.out.trans (firstF_no (by rw [HN.out]; exact hlt) hw)))
            obtain ⟨z, hz⟩ : ∃ z, wordsF (xss.getD k []) = z := ⟨_, rfl⟩
            have HW := hide hz
            rw [hz] at hw
            clear hz
            go_wp2_with fail
            refine (wordsFault R1.out).mono ?_
            rintro e w' ⟨he, q, rfl⟩
            rw [HW.out] at he
            subst he
            go_wp2
            go_ret
            exact ⟨ret_int (by rw [HF2.out, HW.out]), below_on (below_alloc _ _) (below_on HB.out (below_drewN _ q))⟩
        · have hkn : k = n := by omega
          subst hkn
          have HE := hide (diskF_puts HS.out (HF.out.trans (firstF_end (by rw [HN.out]; exact Nat.le_refl _))))
          have g1 : wr.cell? ⟨w.heap.size, 1, none⟩ = some (.slice ao' m c') := cell_later HB.out (by simp [go_sem])
          clear HF
          go_wp2
          go_loopw [35] (fun i wr => ∃ j : Nat, j ≤ m ∧ i = .int .i64 j ∧ Hid (firstP xss.length ps = firstP xss.length (ps.drop j)) ∧ Hid (Below (w.alloc (.cells #[.slice ao k c, .slice ao' m c'] 59)).heap.size (w.alloc (.cells #[.slice ao k c, .slice ao' m c'] 59)) wr)) (fun i _ => m - (intOf i).toNat)
          case atStart => exact ⟨0, Nat.zero_le _, rfl, by simp [Hid], HB.out⟩
          case round =>
            obtain ⟨j, hj, rfl, HG, HB2⟩ := hrel
            clear HB g1
            by_cases hlt2 : j < m
            · obtain ⟨b2, off2, V2, rfl, q1, q2, q3⟩ := HV.out.at (k := j) (by rw [HM.out]; exact hlt2)
              obtain ⟨ao3, c3, rfl⟩ := q3.shape
              have g1 := cell_later HB2.out (cell_later (below_alloc w _) q1)
              have g2 := cell_later HB2.out (cell_later (below_alloc w _) q2)
              have R2 := hide ((q3.later (below_alloc w _)).later HB2.out)
              have g3 : wr.cell? ⟨w.heap.size, 0, none⟩ = some (.slice ao k c) := cell_later HB2.out (by simp [go_sem])
              have g4 : wr.cell? ⟨w.heap.size, 1, none⟩ = some (.slice (some ⟨b2, off2, none⟩) m c') := cell_later HB2.out (by simp [go_sem])
              have hz1 : w.heap.size < wr.heap.size := by have := HB2.out.size; simp at this; omega
              obtain ⟨x, hx⟩ : ∃ x, (ps.getD j (0, [])).1 = x := ⟨_, rfl⟩
              obtain ⟨l, hl⟩ : ∃ l, (ps.getD j (0, [])).2.length = l := ⟨_, rfl⟩
              have HX := hide hx
              have HL := hide hl
              rw [hx] at g1
              rw [hl] at g2 R2
              clear q1 q2 q3 hx hl
              by_cases hat : 0 ≤ x ∧ x < (k : Int)
              · obtain ⟨ha1, ha2⟩ := hat
                go_wp2_with fail
                refine (isPlace_yes k c ao _ x _ ha1 ha2).mono ?_
                rintro e w1 ⟨rfl, hb1⟩
                have g5 : w1.cell? ⟨wr.heap.size, 1, none⟩ = some (.slice ao3 l c3) := cell_later hb1 (by simp [go_sem])
                have R3 := hide ((R2.out.later (below_alloc _ _)).later hb1)
                have HB3 := hide (below_on HB2.out (below_on (below_alloc _ _) hb1))
                clear hb1 g1 g2 g3 g4 R2
                by_cases hw : wordsF (ps.getD j (0, [])).2 = 0
                · have HF2 := hide (HG.out.trans (firstP_ok (by rw [HM.out]; exact hlt2) (by rw [HX.out, HN.out]; exact ⟨ha1, ha2⟩) hw))
                  have HW := hide hw
                  clear hw
                  go_wp2_with fail
                  refine (wordsFault R3.out).mono ?_
                  rintro e w' ⟨he, q, rfl⟩
                  rw [HW.out] at he
                  subst he
                  go_wp2
                  go_roundw
                  case rel => exact ⟨j + 1, by omega, by go_num, HF2.out, below_on HB3.out (below_drewN _ q)⟩
                  case measure => simp [intOf]; omega
                · have HF2 := hide (HE.out.trans (HG.out.trans (firstP_no (by rw [HM.out]; exact hlt2) (by rw [HX.out, HN.out]; exact ⟨ha1, ha2⟩) hw)))
                  obtain ⟨z, hz⟩ : ∃ z, wordsF (ps.getD j (0, [])).2 = z := ⟨_, rfl⟩
                  have HW := hide hz
                  rw [hz] at hw
                  clear hz
                  go_wp2_with fail
                  refine (wordsFault R3.out).mono ?_
                  rintro e w' ⟨he, q, rfl⟩
                  rw [HW.out] at he
                  subst he
                  go_wp2
                  go_ret
                  exact ⟨ret_int (by rw [HF2.out, HW.out]), below_on (below_alloc _ _) (below_on HB3.out (below_drewN _ q))⟩
              · have HZ := hide (HE.out.trans (HG.out.trans (firstP_at (by rw [HM.out]; exact hlt2) (by rw [HX.out, HN.out]; exact hat))))
                have HA := hide hat
                clear hat
                go_wp2_with fail
                refine (isPlace_no k c ao _ x _ HA.out).mono ?_
                rintro e w1 ⟨rfl, hb1⟩
                have HB3 := hide (below_on HB2.out (below_on (below_alloc _ _) hb1))
                clear hb1 g1 g2 g3 g4 R2
                go_wp2
                go_ret
                exact ⟨ret_int HZ.out.symm, below_on (below_alloc _ _) HB3.out⟩
            · have HZ := hide (HE.out.trans (HG.out.trans (firstP_end (by rw [HM.out]; omega))))
              go_wp2
              go_ret
              exact ⟨ret_int HZ.out.symm, below_on (below_alloc _ _) HB2.out⟩
theorem implFault {S T : Nat → Prop} {w : World} {u v : Value} {xss : List (List Int)} {ps : List (Int × List Int)} (hu : RdII S w u xss) (hv : RdP T w v ps) :
    Calls Tryz.prog 207 #[.agg #[u, v]] w fun e w' => e = .returned (.int .i64 (diskF xss ps)) ∧ Below w.heap.size w w' := by
  obtain ⟨ao, c, rfl, hn⟩ := hu.shape
  obtain ⟨ao', c', rfl, hm⟩ := hv.shape
  exact implFault_cells xss ps _ _ ao ao' c c' w rfl rfl hn hm hu hv
end Go.Proofs.YtlmaopljihbdkaaGreat
namespace Go.Proofs.YtlmaopljihbdkaaGreat
open Go.RowKit
def EndsP (x : Int) (rs : List (Int × List Int)) (w : World) (e : Ending) (w' : World) : Prop :=
  ∃ z, e = .returned (.agg #[.int .i64 x, z]) ∧ Below w.heap.size w w' ∧ OwP (fun b => w.heap.size ≤ b ∧ b < w'.heap.size) w' z rs
def IvP (lo hi : Nat) (w : World) (v : Value) (ps : List (Int × List Int)) : Prop :=
  ∃ S : Nat → Prop, hi ≤ w.heap.size ∧ (∀ b, S b → lo ≤ b ∧ b < hi) ∧ OwP S w v ps
theorem OwP.iv {B : Nat} {w : World} {v : Value} {ps : List (Int × List Int)} (h : OwP (fun b => B ≤ b ∧ b < w.heap.size) w v ps) : IvP B w.heap.size w v ps :=
  ⟨_, Nat.le_refl _, fun _ hb => hb, h⟩
theorem IvP.wr {lo hi : Nat} {V : Nat → Prop} {w w' : World} {v : Value} {ps : List (Int × List Int)} (h : IvP lo hi w v ps) (hw : Wr V w w') (hd : ∀ b, lo ≤ b → b < hi → ¬ V b) : IvP lo hi w' v ps := by
  obtain ⟨S, h0, h1, h2⟩ := h
  exact ⟨S, Nat.le_trans h0 hw.size, h1, h2.wr hw fun b hb => hd b (h1 b hb).1 (h1 b hb).2⟩
theorem IvP.later {lo hi : Nat} {w w' : World} {v : Value} {ps : List (Int × List Int)} (h : IvP lo hi w v ps) (hb : Below w.heap.size w w') : IvP lo hi w' v ps :=
  h.wr (Wr.of_below hb fun _ => False) fun _ _ _ => id
theorem IvP.rd {lo hi : Nat} {w : World} {v : Value} {ps : List (Int × List Int)} (h : IvP lo hi w v ps) : RdP (fun b => lo ≤ b ∧ b < hi) w v ps := by
  obtain ⟨S, h0, h1, h2⟩ := h
  exact (h2.mono h1).rd
end Go.Proofs.YtlmaopljihbdkaaGreat
namespace Go.Proofs.YtlmaopljihbdkaaGreat
open Go.RowKit
abbrev Oj := Int × Int × List Int
def oj0 : Oj := (0, 0, [])
def RdJ (S : Nat → Prop) (w : World) (v : Value) (ts : List Oj) : Prop :=
  ∃ (ao : Option Addr) (c : Nat), v = .slice ao ts.length c ∧ ts.length ≤ 9223372036854775807 ∧
    (ts ≠ [] → ∃ (b off : Nat) (V : Nat → Value), ao = some ⟨b, off, none⟩ ∧ S b ∧
      ∀ i, i < ts.length → w.cell? ⟨b, off + i * 3, none⟩ = some (.int .i64 (ts.getD i oj0).1) ∧ w.cell? ⟨b, off + i * 3 + 1, none⟩ = some (.int .i64 (ts.getD i oj0).2.1) ∧ w.cell? ⟨b, off + i * 3 + 2, none⟩ = some (V i) ∧ RdI S w (V i) (ts.getD i oj0).2.2)
theorem RdJ.shape {S : Nat → Prop} {w : World} {v : Value} {ts : List Oj} (h : RdJ S w v ts) : ∃ ao c, v = .slice ao ts.length c ∧ ts.length ≤ 9223372036854775807 := by
  obtain ⟨ao, c, h1, h2, _⟩ := h
  exact ⟨ao, c, h1, h2⟩
theorem RdJ.later {S : Nat → Prop} {w w' : World} {v : Value} {ts : List Oj} (h : RdJ S w v ts) (hb : Below w.heap.size w w') : RdJ S w' v ts := by
  obtain ⟨ao, c, h1, h2, h3⟩ := h
  refine ⟨ao, c, h1, h2, fun hne => ?_⟩
  obtain ⟨b, off, V, e, hs, hc⟩ := h3 hne
  exact ⟨b, off, V, e, hs, fun i hi => ⟨cell_later hb (hc i hi).1, cell_later hb (hc i hi).2.1, cell_later hb (hc i hi).2.2.1, (hc i hi).2.2.2.later hb⟩⟩
theorem RdJ.wr {S T : Nat → Prop} {w w' : World} {v : Value} {ts : List Oj} (h : RdJ S w v ts) (hw : Wr T w w') (hd : ∀ b, S b → ¬ T b) : RdJ S w' v ts := by
  obtain ⟨ao, c, h1, h2, h3⟩ := h
  refine ⟨ao, c, h1, h2, fun hne => ?_⟩
  obtain ⟨b, off, V, e, hs, hc⟩ := h3 hne
  exact ⟨b, off, V, e, hs, fun i hi => ⟨cell_wr hw (hc i hi).1 (hd b hs), cell_wr hw (hc i hi).2.1 (hd b hs), cell_wr hw (hc i hi).2.2.1 (hd b hs), (hc i hi).2.2.2.wr hw (fun _ => hd)⟩⟩
def OwJ (S : Nat → Prop) (w : World) (v : Value) (ts : List Oj) : Prop :=
  ∃ (ao : Option Addr) (c b off : Nat) (V : Nat → Value) (B : Nat → Nat), v = .slice ao ts.length c ∧ (ts.length ≤ 9223372036854775807 ∧ ts.length ≤ c) ∧
    (ts ≠ [] → ao = some ⟨b, off, none⟩ ∧ S b ∧ ∀ o, w.frozen? ⟨b, o, none⟩ = false) ∧
    ∀ i, i < ts.length → w.cell? ⟨b, off + i * 3, none⟩ = some (.int .i64 (ts.getD i oj0).1) ∧ w.cell? ⟨b, off + i * 3 + 1, none⟩ = some (.int .i64 (ts.getD i oj0).2.1) ∧ w.cell? ⟨b, off + i * 3 + 2, none⟩ = some (V i) ∧ RdI (· = B i) w (V i) (ts.getD i oj0).2.2 ∧
      ((ts.getD i oj0).2.2 ≠ [] → S (B i) ∧ B i ≠ b ∧ (∀ o, w.frozen? ⟨B i, o, none⟩ = false) ∧ ∀ j, j < ts.length → (ts.getD j oj0).2.2 ≠ [] → B j = B i → j = i)
theorem OwJ.rd {S : Nat → Prop} {w : World} {v : Value} {ts : List Oj} (h : OwJ S w v ts) : RdJ S w v ts := by
  obtain ⟨ao, c, b, off, V, B, h1, h2, h3, h4⟩ := h
  refine ⟨ao, c, h1, h2.1, fun hne => ?_⟩
  obtain ⟨e, hb, _⟩ := h3 hne
  exact ⟨b, off, V, e, hb, fun i hi => ⟨(h4 i hi).1, (h4 i hi).2.1, (h4 i hi).2.2.1, (h4 i hi).2.2.2.1.narrow fun hn x hx => hx ▸ ((h4 i hi).2.2.2.2 hn).1⟩⟩
theorem OwJ.wr {S T : Nat → Prop} {w w' : World} {v : Value} {ts : List Oj} (h : OwJ S w v ts) (hw : Wr T w w') (hd : ∀ b, S b → ¬ T b) : OwJ S w' v ts := by
  obtain ⟨ao, c, b, off, V, B, h1, h2, h3, h4⟩ := h
  refine ⟨ao, c, b, off, V, B, h1, h2, fun hne => ?_, fun i hi => ?_⟩
  · obtain ⟨q1, q2, q3⟩ := h3 hne
    have hl := World.block_lt_of_cell? _ _ (h4 0 (List.length_pos_iff.2 hne)).1
    exact ⟨q1, q2, fun o => by rw [hw.frz _ _ hl]; exact q3 o⟩
  · obtain ⟨f0, f1, f2, f2', f3⟩ := h4 i hi
    have hne : ts ≠ [] := by rintro rfl; exact absurd hi (Nat.not_lt_zero _)
    refine ⟨cell_wr hw f0 (hd b (h3 hne).2.1), cell_wr hw f1 (hd b (h3 hne).2.1), cell_wr hw f2 (hd b (h3 hne).2.1), f2'.wr hw (fun hn x hx => hx ▸ hd _ (f3 hn).1), fun hn => ?_⟩
    obtain ⟨q1, q2, q3, q4⟩ := f3 hn
    obtain ⟨x, rfl, hl⟩ := f2'.lt hn
    exact ⟨q1, q2, fun o => by rw [hw.frz _ _ hl]; exact q3 o, q4⟩
theorem OwJ.mono {S T : Nat → Prop} {w : World} {v : Value} {ts : List Oj} (h : OwJ S w v ts) (hT : ∀ b, S b → T b) : OwJ T w v ts := by
  obtain ⟨ao, c, b, off, V, B, h1, h2, h3, h4⟩ := h
  exact ⟨ao, c, b, off, V, B, h1, h2, fun hne => ⟨(h3 hne).1, hT _ (h3 hne).2.1, (h3 hne).2.2⟩, fun i hi => ⟨(h4 i hi).1, (h4 i hi).2.1, (h4 i hi).2.2.1, (h4 i hi).2.2.2.1, fun hn => ⟨hT _ ((h4 i hi).2.2.2.2 hn).1, ((h4 i hi).2.2.2.2 hn).2⟩⟩⟩
theorem OwJ.shape {S : Nat → Prop} {w : World} {v : Value} {ts : List Oj} (h : OwJ S w v ts) : ∃ ao c, v = .slice ao ts.length c := by
  obtain ⟨ao, c, _, _, _, _, h1, _⟩ := h
  exact ⟨ao, c, h1⟩
theorem OwJ.caps {S : Nat → Prop} {w : World} {v : Value} {ts : List Oj} (h : OwJ S w v ts) : ∃ ao c, v = .slice ao ts.length c ∧ ts.length ≤ c := by
  obtain ⟨ao, c, _, _, _, _, h1, h2, _⟩ := h
  exact ⟨ao, c, h1, h2.2⟩
theorem OwJ_nil (S : Nat → Prop) (w : World) : OwJ S w (.slice none 0 0) [] :=
  ⟨none, 0, 0, 0, fun _ => .bool false, fun _ => 0, rfl, by simp, fun h => absurd rfl h, fun i hi => absurd hi (Nat.not_lt_zero _)⟩
def totJ (ts : List Oj) (i : Nat) : Nat := ((ts.take i).map fun p => p.2.2.length + 2).sum
theorem totJ_zero (ts : List Oj) : totJ ts 0 = 0 := by simp [totJ]
theorem totJ_succ (ts : List Oj) (i : Nat) (h : i < ts.length) : totJ ts (i + 1) = totJ ts i + ((ts.getD i oj0).2.2.length + 2) := by
  unfold totJ
  rw [List.take_succ_eq_append_getElem h]
  simp only [List.map_append, List.sum_append, List.map_cons, List.map_nil, List.sum_cons, List.sum_nil]
  simp [List.getD, h]
end Go.Proofs.YtlmaopljihbdkaaGreat
namespace Go.Proofs.YtlmaopljihbdkaaGreat
open Go.RowKit
set_option maxHeartbeats 1000000 in
set_option maxRecDepth 4000 in
theorem toEntry {S : Nat → Prop} {w : World} {y : Value} {xs : List Int} (a0 a1 : Int) (hy : RdI S w y xs) (hm : xs.length ≤ 1048576) :
    Calls Tryz.prog 73 #[.agg #[.int .i64 a0, .int .i64 a1, y]] w fun e w' => ∃ z, e = .returned (.agg #[.int .i64 a0, .int .i64 a1, z]) ∧ Below w.heap.size w w' ∧ OwI w.heap.size w' z xs := by
  have HY := hide hy
  obtain ⟨ay, cy, rfl⟩ := hy.shape
  clear hy
  go_enter Tryz.func73, Tryz.ntmps73
  go_wp2_with fail
  refine (toI' (((HY.out.later (below_alloc _ _)).later (below_alloc _ _)).later (below_alloc _ _)) hm).mono ?_
  rintro e w1 ⟨z, rfl, hb, ho⟩
  obtain ⟨az, cz, rfl⟩ := ho.shape
  obtain ⟨l, hl⟩ : ∃ l, xs.length = l := ⟨_, rfl⟩
  rw [hl] at ho ⊢
  have v0 : w1.cell? ⟨w.heap.size + 1, 0, none⟩ = some (.int .i64 0) := cell_later hb (by simp [go_sem])
  have f0 : w1.frozen? ⟨w.heap.size + 1, 0, none⟩ = false := ((bcell hb).2 _ _ (by simp)).trans (by simp [go_sem])
  have o0 : w1.cell? ⟨w.heap.size + 2, 0, none⟩ = some (.int .i64 a0) := cell_later hb (by simp [go_sem])
  have g0 : w1.frozen? ⟨w.heap.size + 2, 0, none⟩ = false := ((bcell hb).2 _ _ (by simp)).trans (by simp [go_sem])
  have v1 : w1.cell? ⟨w.heap.size + 1, 1, none⟩ = some (.int .i64 0) := cell_later hb (by simp [go_sem])
  have f1 : w1.frozen? ⟨w.heap.size + 1, 1, none⟩ = false := ((bcell hb).2 _ _ (by simp)).trans (by simp [go_sem])
  have o1 : w1.cell? ⟨w.heap.size + 2, 1, none⟩ = some (.int .i64 a1) := cell_later hb (by simp [go_sem])
  have g1 : w1.frozen? ⟨w.heap.size + 2, 1, none⟩ = false := ((bcell hb).2 _ _ (by simp)).trans (by simp [go_sem])
  have v2 : w1.cell? ⟨w.heap.size + 1, 2, none⟩ = some (.slice none 0 0) := cell_later hb (by simp [go_sem])
  have f2 : w1.frozen? ⟨w.heap.size + 1, 2, none⟩ = false := ((bcell hb).2 _ _ (by simp)).trans (by simp [go_sem])
  have o2 : w1.cell? ⟨w.heap.size + 2, 2, none⟩ = some (.slice none 0 0) := cell_later hb (by simp [go_sem])
  have g2 : w1.frozen? ⟨w.heap.size + 2, 2, none⟩ = false := ((bcell hb).2 _ _ (by simp)).trans (by simp [go_sem])
  have HB := hide (below_on (below_on (below_on (below_alloc _ _) (below_alloc _ _)) (below_alloc _ _)) hb)
  have HO := hide ho
  clear hb ho
  go_wp2
  refine bodyPost_ret (v := .agg #[.int .i64 a0, .int .i64 a1, .slice az l cz]) (by simp [results, Tryz.results73, go_sem, v0, v1, v2]) rfl ⟨_, rfl, ?_, ?_⟩
  · repeat (first | refine Below.setCell ?_ (by first | (simp; done) | (simp; omega) | omega) _ | exact HB.out)
  · refine OwI.mono (OwI.wr HO.out (T := fun b => b < w.heap.size + 3) ?_ (fun b hb _ => by simp at hb; omega)) (by simp; omega)
    repeat (first | refine Wr.setCell ?_ (by first | (simp; done) | (simp; omega) | omega) _ | exact Wr.refl _ _)
set_option maxRecDepth 4000 in
theorem szEntry {S : Nat → Prop} {w : World} {y : Value} {xs : List Int} {left : Int} (a0 a1 : Int) (hy : RdI S w y xs) (h0 : 0 ≤ left) (h1 : left ≤ 1048576) :
    Calls Tryz.prog 62 #[.agg #[.int .i64 a0, .int .i64 a1, y], .int .i64 left] w fun e w' => e = .returned (.int .i64 (szv left (xs.length : Int))) ∧ Below w.heap.size w w' := by
  have HY := hide hy
  obtain ⟨ay, cy, rfl⟩ := hy.shape
  clear hy
  obtain ⟨l, hl⟩ : ∃ l, xs.length = l := ⟨_, rfl⟩
  have HL := hide hl
  rw [hl] at HY ⊢
  clear hl
  by_cases h : (l : Int) ≤ left
  · have HZ := hide (szv_yes h)
    rw [HZ.out]
    have hnn : 0 ≤ left - (l : Int) := by omega
    go_enter Tryz.func62, Tryz.ntmps62
    go_wp2_with fail
    refine (szI' (HY.out.later (below_alloc _ _)) HL.out h0 h1).mono ?_
    rintro e w1 ⟨he, hb⟩
    rw [HZ.out] at he
    subst he
    have HB := hide (below_on (below_alloc _ _) hb)
    clear hb
    go_wp2
    go_ret
    exact ⟨rfl, HB.out⟩
  · have HZ := hide (szv_no (left := left) (s := (l : Int)) (by omega))
    have hneg : ¬ (0 : Int) ≤ -1 := by decide
    rw [HZ.out]
    go_enter Tryz.func62, Tryz.ntmps62
    go_wp2_with fail
    refine (szI' (HY.out.later (below_alloc _ _)) HL.out h0 h1).mono ?_
    rintro e w1 ⟨he, hb⟩
    rw [HZ.out] at he
    subst he
    have HB := hide (below_on (below_alloc _ _) hb)
    clear hb
    go_wp2
    go_ret
    exact ⟨rfl, HB.out⟩
set_option maxRecDepth 4000 in
theorem eqEntry {S T : Nat → Prop} {w : World} {y z : Value} {xs : List Int} (a0 a1 : Int) (hy : RdI S w y xs) (hz : RdI T w z xs) :
    Calls Tryz.prog 88 #[.agg #[.int .i64 a0, .int .i64 a1, y], .agg #[.int .i64 a0, .int .i64 a1, z]] w fun e w' => e = .returned (.bool true) ∧ Below w.heap.size w w' := by
  have HY := hide hy
  have HZ := hide hz
  obtain ⟨ay, cy, rfl⟩ := hy.shape
  obtain ⟨az, cz, rfl⟩ := hz.shape
  clear hy hz
  go_enter Tryz.func88, Tryz.ntmps88
  go_wp2_with fail
  refine (eqI' ((HY.out.later (below_alloc _ _)).later (below_alloc _ _)) ((HZ.out.later (below_alloc _ _)).later (below_alloc _ _))).mono ?_
  rintro e w1 ⟨rfl, hb⟩
  have HB := hide (below_on (below_on (below_alloc _ _) (below_alloc _ _)) hb)
  clear hb
  go_wp2
  go_ret
  exact ⟨rfl, HB.out⟩
end Go.Proofs.YtlmaopljihbdkaaGreat
namespace Go.Proofs.YtlmaopljihbdkaaGreat
open Go.RowKit
theorem eqEn_cells (X : Nat → Int) (Y : Nat → Int) (V V' : Nat → Value) (n b off c b' off' c' : Nat) (w : World) (hm : n ≤ 9223372036854775807)
    (hx : ∀ i, i < n → w.cell? ⟨b, off + i * 3, none⟩ = some (.int .i64 (X i)) ∧ w.cell? ⟨b, off + i * 3 + 1, none⟩ = some (.int .i64 (Y i)) ∧ w.cell? ⟨b, off + i * 3 + 2, none⟩ = some (V i))
    (hy : ∀ i, i < n → w.cell? ⟨b', off' + i * 3, none⟩ = some (.int .i64 (X i)) ∧ w.cell? ⟨b', off' + i * 3 + 1, none⟩ = some (.int .i64 (Y i)) ∧ w.cell? ⟨b', off' + i * 3 + 2, none⟩ = some (V' i))
    (hs : ∀ i, i < n → ∃ xs S T, RdI S w (V i) xs ∧ RdI T w (V' i) xs) :
    Calls Tryz.prog 41 #[.slice (some ⟨b, off, none⟩) n c, .slice (some ⟨b', off', none⟩) n c'] w fun e w' =>
      e = .returned (.bool true) ∧ Below w.heap.size w w' := by
  have HX := hide hx
  have HY := hide hy
  have HS := hide hs
  clear hx hy hs
  go_enter Tryz.func41, Tryz.ntmps41
  go_wp2
  go_loopw [5] (fun i wr => ∃ k : Nat, k ≤ n ∧ i = .int .i64 k ∧ Hid (Below w.heap.size w wr)) (fun i _ => n - (intOf i).toNat)
  case atStart => exact ⟨0, Nat.zero_le _, rfl, Below.refl _ _⟩
  case round =>
    obtain ⟨k, hk, rfl, HB⟩ := hrel
    by_cases hlt : k < n
    · have g0 := cell_later HB.out (HX.out k hlt).1
      have g1 := cell_later HB.out (HX.out k hlt).2.1
      have g2 := cell_later HB.out (HX.out k hlt).2.2
      have g3 := cell_later HB.out (HY.out k hlt).1
      have g4 := cell_later HB.out (HY.out k hlt).2.1
      have g5 := cell_later HB.out (HY.out k hlt).2.2
      obtain ⟨xs, S, T, r1, r2⟩ := HS.out k hlt
      obtain ⟨a1, k1, e1⟩ := r1.shape
      obtain ⟨a2, k2, e2⟩ := r2.shape
      rw [e1] at g2 r1
      rw [e2] at g5 r2
      have R1 := hide (r1.later HB.out)
      have R2 := hide (r2.later HB.out)
      have hk0 : (0 : Int) ≤ (k : Int) := Int.natCast_nonneg _
      have hk1 : (k : Int) < (n : Int) := by omega
      clear r1 r2
      go_wp2_with fail
      go_region_held3 (fun w' => w'.cell? ⟨b, off + k * 3, none⟩ = some (.int .i64 (X k)) ∧ w'.cell? ⟨b, off + k * 3 + 1, none⟩ = some (.int .i64 (Y k)) ∧ w'.cell? ⟨b, off + k * 3 + 2, none⟩ = some (.slice a1 xs.length k1) ∧ w'.cell? ⟨b', off' + k * 3, none⟩ = some (.int .i64 (X k)) ∧ w'.cell? ⟨b', off' + k * 3 + 1, none⟩ = some (.int .i64 (Y k)) ∧ w'.cell? ⟨b', off' + k * 3 + 2, none⟩ = some (.slice a2 xs.length k2)) (first | exact ⟨g0, g1, g2, g3, g4, g5⟩ | exact ⟨c0, c1, c2, c3, c4, c5⟩)
        (first
          | (go_at_call 88; refine (eqEntry (X k) (Y k) (R1.out.drewN 1) (R2.out.drewN 1)).mono ?_; rintro e w' ⟨rfl, hb⟩; have c0 := cell_later hb g0; have c1 := cell_later hb g1; have c2 := cell_later hb g2; have c3 := cell_later hb g3; have c4 := cell_later hb g4; have c5 := cell_later hb g5; have HB' := hide hb; clear hb))
      go_wp2
      go_roundw
      case rel => exact ⟨k + 1, by omega, by go_num, below_on HB.out (below_on (below_drewN wr 1) HB'.out)⟩
      case measure => simp [intOf]; omega
    · go_wp2
      go_ret
      exact ⟨rfl, HB.out⟩
theorem eqEn_none (ao ao' : Option Addr) (c c' : Nat) (w : World) :
    Calls Tryz.prog 41 #[.slice ao 0 c, .slice ao' 0 c'] w fun e w' => e = .returned (.bool true) ∧ Below w.heap.size w w' := by
  go_enter Tryz.func41, Tryz.ntmps41
  go_wp2
  go_loopw [5] (fun i wr => i = .int .i64 0 ∧ wr = w) (fun _ _ => 0)
  case atStart => exact ⟨rfl, rfl⟩
  case round =>
    obtain ⟨rfl, rfl⟩ := hrel
    go_wp2
    go_ret
    exact ⟨rfl, Below.refl _ _⟩
theorem eqEn {S T : Nat → Prop} {w : World} {u v : Value} {ts : List Oj} (hu : RdJ S w u ts) (hv : RdJ T w v ts) :
    Calls Tryz.prog 41 #[u, v] w fun e w' => e = .returned (.bool true) ∧ Below w.heap.size w w' := by
  obtain ⟨ao, c, rfl, hm, h⟩ := hu
  obtain ⟨ao', c', rfl, _, h'⟩ := hv
  by_cases hne : ts = []
  · subst hne; exact eqEn_none _ _ _ _ _
  · obtain ⟨b, off, V, rfl, _, hc⟩ := h hne
    obtain ⟨b', off', V', rfl, _, hc'⟩ := h' hne
    exact eqEn_cells (fun i => (ts.getD i oj0).1) (fun i => (ts.getD i oj0).2.1) V V' _ _ _ _ _ _ _ _ hm (fun i hi => ⟨(hc i hi).1, (hc i hi).2.1, (hc i hi).2.2.1⟩) (fun i hi => ⟨(hc' i hi).1, (hc' i hi).2.1, (hc' i hi).2.2.1⟩) (fun i hi => ⟨_, S, T, (hc i hi).2.2.2, (hc' i hi).2.2.2⟩)
end Go.Proofs.YtlmaopljihbdkaaGreat
