/- HomeF Obj1 BuiltEn Iv4 En5 MathE in one text: what each says stands at its head below. -/
import Derived.Test.YtlmaopljihbdkaaGreatG05
import Derived.Test.YtlmaopljihbdkaaGreatG18
import Derived.Test.YtlmaopljihbdkaaGreatG04
import Derived.Test.YtlmaopljihbdkaaGreatG15
import Derived.Test.YtlmaopljihbdkaaGreatG09
import Derived.Test.YtlmaopljihbdkaaGreatG16
import Derived.Test.YtlmaopljihbdkaaGreatG17
import Derived.Test.YtlmaopljihbdkaaGreatG06
import Derived.Test.YtlmaopljihbdkaaGreatG11
import Derived.Deep.CutRange
import Derived.Defers
import Derived.Recover
namespace Go.Proofs.YtlmaopljihbdkaaGreat
open Go.RowKit
def hpF (most : Nat) (ps : List (Int × List Int)) : Int := if most < ps.length then 2 else firstP 40 ps
set_option maxHeartbeats 1000000 in
set_option maxRecDepth 4000 in
theorem homePutsFault {T : Nat → Prop} {w : World} {v : Value} {ps : List (Int × List Int)} (most : Nat) (hv : RdP T w v ps) :
    Calls Tryz.prog 96 #[v, .int .i64 (most : Int)] w fun e w' => e = .returned (.int .i64 (hpF most ps)) ∧ Below w.heap.size w w' := by
  obtain ⟨ao, c, rfl, hm'⟩ := hv.shape
  have HV := hide hv
  obtain ⟨m, hm⟩ : ∃ m, ps.length = m := ⟨_, rfl⟩
  have HM := hide hm
  rw [hm] at HV hm' ⊢
  clear hv hm
  by_cases h70 : most < m
  · have HZ := hide (show hpF most ps = 2 by unfold hpF; rw [if_pos (by rw [HM.out]; exact h70)])
    go_enter Tryz.func96, Tryz.ntmps96
    go_wp2
    go_ret
    exact ⟨ret_int HZ.out.symm, Below.refl _ _⟩
  · have HE := hide (show hpF most ps = firstP 40 ps by unfold hpF; rw [if_neg (by rw [HM.out]; exact h70)])
    go_enter Tryz.func96, Tryz.ntmps96
    go_wp2
    go_loopw [14] (fun i wr => ∃ j : Nat, j ≤ m ∧ i = .int .i64 j ∧ Hid (firstP 40 ps = firstP 40 (ps.drop j)) ∧ Hid (Below w.heap.size w wr)) (fun i _ => m - (intOf i).toNat)
    case atStart => exact ⟨0, Nat.zero_le _, rfl, by simp [Hid], Below.refl _ _⟩
    case round =>
      obtain ⟨j, hj, rfl, HG, HB2⟩ := hrel
      by_cases hlt2 : j < m
      · obtain ⟨b2, off2, V2, rfl, q1, q2, q3⟩ := HV.out.at (k := j) (by rw [HM.out]; exact hlt2)
        obtain ⟨ao3, c3, rfl⟩ := q3.shape
        have g1 := cell_later HB2.out q1
        have g2 := cell_later HB2.out q2
        have R2 := hide (q3.later HB2.out)
        obtain ⟨x, hx⟩ : ∃ x, (ps.getD j (0, [])).1 = x := ⟨_, rfl⟩
        obtain ⟨l, hl⟩ : ∃ l, (ps.getD j (0, [])).2.length = l := ⟨_, rfl⟩
        have HX := hide hx
        have HL := hide hl
        rw [hx] at g1
        rw [hl] at g2 R2
        clear q1 q2 q3 hx hl
        by_cases hat : 0 ≤ x ∧ x < 40
        · obtain ⟨ha1, ha2⟩ := hat
          have hn1 : ¬ x < 0 := by omega
          have hn2 : ¬ 40 ≤ x := by omega
          by_cases hw : wordsF (ps.getD j (0, [])).2 = 0
          · have HF2 := hide (HG.out.trans (firstP_ok (by rw [HM.out]; exact hlt2) (by rw [HX.out]; exact ⟨ha1, ha2⟩) hw))
            have HW := hide hw
            clear hw
            go_wp2_with fail
            refine (isHome_yes x ha1 ha2 _).mono ?_
            rintro e w' ⟨rfl, rfl⟩
            go_wp2_with fail
            refine (wordsFault (R2.out.later (below_alloc _ _))).mono ?_
            rintro e w' ⟨he, q, rfl⟩
            rw [HW.out] at he
            subst he
            go_wp2
            go_roundw
            case rel => exact ⟨j + 1, by omega, by go_num, HF2.out, below_on HB2.out (below_on (below_alloc _ _) (below_drewN _ q))⟩
            case measure => simp [intOf]; omega
          · have HF2 := hide (HE.out.trans (HG.out.trans (firstP_no (by rw [HM.out]; exact hlt2) (by rw [HX.out]; exact ⟨ha1, ha2⟩) hw)))
            obtain ⟨z, hz⟩ : ∃ z, wordsF (ps.getD j (0, [])).2 = z := ⟨_, rfl⟩
            have HW := hide hz
            rw [hz] at hw
            clear hz
            go_wp2_with fail
            refine (isHome_yes x ha1 ha2 _).mono ?_
            rintro e w' ⟨rfl, rfl⟩
            go_wp2_with fail
            refine (wordsFault (R2.out.later (below_alloc _ _))).mono ?_
            rintro e w' ⟨he, q, rfl⟩
            rw [HW.out] at he
            subst he
            go_wp2
            go_ret
            exact ⟨ret_int (by rw [HF2.out, HW.out]), below_on HB2.out (below_on (below_alloc _ _) (below_drewN _ q))⟩
        · have HZ := hide (HE.out.trans (HG.out.trans (firstP_at (n := 40) (by rw [HM.out]; exact hlt2) (by rw [HX.out]; exact hat))))
          have HA := hide hat
          clear hat
          go_wp2_with fail
          refine (isHome_no x HA.out _).mono ?_
          rintro e w' ⟨rfl, rfl⟩
          go_wp2
          go_ret
          exact ⟨ret_int HZ.out.symm, below_on HB2.out (below_alloc _ _)⟩
      · have HZ := hide (HE.out.trans (HG.out.trans (firstP_end (by rw [HM.out]; omega))))
        go_wp2
        go_ret
        exact ⟨ret_int HZ.out.symm, HB2.out⟩
end Go.Proofs.YtlmaopljihbdkaaGreat
namespace Go.Proofs.YtlmaopljihbdkaaGreat
open Go.RowKit
end Go.Proofs.YtlmaopljihbdkaaGreat
namespace Go.Proofs.YtlmaopljihbdkaaGreat
open Go.RowKit
def cellsEn (ts : List Oj) (k : Nat) (V : Nat → Value) : List Value :=
  (List.range (k * 3)).map fun t => if t % 3 = 0 then .int .i64 (ts.getD (t / 3) oj0).1 else if t % 3 = 1 then .int .i64 (ts.getD (t / 3) oj0).2.1 else V (t / 3)
theorem cellsEn_flg (ts : List Oj) (k : Nat) (V : Nat → Value) (i : Nat) (h : i < k) : (cellsEn ts k V)[i * 3]? = some (.int .i64 (ts.getD i oj0).1) := by
  unfold cellsEn
  rw [List.getElem?_map, List.getElem?_range (by omega)]
  simp only [Option.map_some]
  rw [if_pos (by omega), show i * 3 / 3 = i by omega]
theorem cellsEn_num (ts : List Oj) (k : Nat) (V : Nat → Value) (i : Nat) (h : i < k) : (cellsEn ts k V)[i * 3 + 1]? = some (.int .i64 (ts.getD i oj0).2.1) := by
  unfold cellsEn
  rw [List.getElem?_map, List.getElem?_range (by omega)]
  simp only [Option.map_some]
  rw [if_neg (by omega), if_pos (by omega), show (i * 3 + 1) / 3 = i by omega]
theorem cellsEn_words (ts : List Oj) (k : Nat) (V : Nat → Value) (i : Nat) (h : i < k) : (cellsEn ts k V)[i * 3 + 2]? = some (V i) := by
  unfold cellsEn
  rw [List.getElem?_map, List.getElem?_range (by omega)]
  simp only [Option.map_some]
  rw [if_neg (by omega), if_neg (by omega), show (i * 3 + 2) / 3 = i by omega]
theorem cellsEn_next (ts : List Oj) (k : Nat) (V : Nat → Value) : cellsEn ts (k + 1) V = cellsEn ts k V ++ [.int .i64 (ts.getD k oj0).1, .int .i64 (ts.getD k oj0).2.1, V k] := by
  unfold cellsEn
  rw [show (k + 1) * 3 = k * 3 + 1 + 1 + 1 by omega, List.range_succ, List.range_succ, List.range_succ]
  simp only [List.map_append, List.append_assoc, List.map_cons, List.map_nil, List.singleton_append]
  congr 1
  rw [if_pos (by omega), if_neg (by omega), if_pos (by omega), if_neg (by omega), if_neg (by omega), show k * 3 / 3 = k by omega, show (k * 3 + 1) / 3 = k by omega, show (k * 3 + 1 + 1) / 3 = k by omega]
  rfl
theorem cellsEn_congr (ts : List Oj) (k : Nat) (V V' : Nat → Value) (h : ∀ i, i < k → V i = V' i) : cellsEn ts k V = cellsEn ts k V' := by
  unfold cellsEn
  refine List.map_congr_left fun t ht => ?_
  have := List.mem_range.1 ht
  rw [h (t / 3) (by omega)]
def BuiltEn (P : Nat → Prop) (w : World) (v : Value) (k : Nat) (ts : List Oj) : Prop :=
  ∃ V Bk, w.ownsRow 0 110 3 v k (cellsEn ts k V) ∧ (∀ r, v.ownBlock = some r → P r) ∧ Inner P w v.ownBlock k V Bk (fun i => (ts.getD i oj0).2.2)
theorem BuiltEn.nil (P : Nat → Prop) (w : World) (ts : List Oj) : BuiltEn P w (.slice none 0 0) 0 ts :=
  ⟨fun _ => .bool false, fun _ => 0, World.ownsRow_nil _ _ _ _, fun _ h => (by cases h), Inner.zero _ _ _ _ _ _⟩
theorem BuiltEn.empty (w : World) (P : Nat → Prop) (hP : P w.heap.size) (ts : List Oj) : BuiltEn P (w.alloc (.cells #[] 110)) (.slice (some ⟨w.heap.size, 0, none⟩) 0 0) 0 ts :=
  ⟨fun _ => .bool false, fun _ => 0, World.ownsRow_made w #[] 0 (Nat.zero_le _) (by unfold maxLen; omega) (by simp), fun r h => by injection h with h; subst h; exact hP, Inner.zero _ _ _ _ _ _⟩
theorem BuiltEn.later {P : Nat → Prop} {w w' : World} {v : Value} {k : Nat} {ts : List Oj} (h : BuiltEn P w v k ts) (hb : Below w.heap.size w w') : BuiltEn P w' v k ts := by
  obtain ⟨V, Bk, h1, h2, h3⟩ := h
  exact ⟨V, Bk, ownsRow_later h1 hb, h2, h3.later hb⟩
theorem BuiltEn.mono {P P' : Nat → Prop} {w : World} {v : Value} {k : Nat} {ts : List Oj} (h : BuiltEn P w v k ts) (hP : ∀ b, P b → b < w.heap.size → P' b) : BuiltEn P' w v k ts := by
  obtain ⟨V, Bk, h1, h2, h3⟩ := h
  exact ⟨V, Bk, h1, fun r hr => hP r (h2 r hr) (h1.lt r hr).2, h3.mono hP⟩
theorem BuiltEn.shape {P : Nat → Prop} {w : World} {v : Value} {k : Nat} {ts : List Oj} (h : BuiltEn P w v k ts) : ∃ ao c, v = .slice ao k c := by
  obtain ⟨V, Bk, h1, _⟩ := h
  rcases h1.2 with ⟨rfl, e⟩ | ⟨g, cap, cur, rfl, _⟩
  · exact ⟨none, 0, by rw [e]⟩
  · exact ⟨_, _, rfl⟩
theorem BuiltEn.step {P P' : Nat → Prop} {w w1 w2 w3 : World} {v z : Value} {k g cap : Nat} {V : Nat → Value} {Bk : Nat → Nat} {ts : List Oj} (hi : Inner P w v.ownBlock k V Bk (fun i => (ts.getD i oj0).2.2)) (hr : w.ownsRow 0 110 3 v k (cellsEn ts k V)) (hpr : ∀ r, v.ownBlock = some r → P r)
    (hP : ∀ b, P b → P' b) (hN : ∀ b, w.heap.size ≤ b → P' b) (hb1 : Below w.heap.size w w1) (hz : OwI w.heap.size w1 z (ts.getD k oj0).2.2) (hb2 : Below w1.heap.size w1 w2)
    (hown : w3.ownsRow 0 110 3 (.slice (some ⟨g, 0, none⟩) (k + 1) cap) (k + 1) (cellsEn ts k V ++ [.int .i64 (ts.getD k oj0).1, .int .i64 (ts.getD k oj0).2.1, z])) (hg : w2.grownBy w3 v.ownBlock) (hat : v.ownBlock = some g ∨ g = w2.heap.size) :
    BuiltEn P' w3 (.slice (some ⟨g, 0, none⟩) (k + 1) cap) (k + 1) ts := by
  obtain ⟨Bk', h⟩ := hi.step hP hN (fun r hr' => (hr.lt r hr').2) hb1 hz hb2 hg hat
  refine ⟨_, Bk', ?_, fun r hr' => ?_, h⟩
  · rw [cellsEn_next, cellsEn_congr ts k _ V (fun i hi => by rw [if_neg (by omega)]), if_pos rfl]
    exact hown
  · injection hr' with hr'
    subst hr'
    rcases hat with hat | hat
    · exact hP _ (hpr _ hat)
    · have h1 := hb1.size
      have h2 := hb2.size
      exact hN _ (by dsimp only; omega)
theorem BuiltEn.ow {P : Nat → Prop} {w : World} {v : Value} {k : Nat} {ts : List Oj} (h : BuiltEn P w v k ts) (hk : ts.length = k) (hm : k ≤ 9223372036854775807) : OwJ (fun b => P b ∧ b < w.heap.size) w v ts := by
  obtain ⟨V, Bk, h1, hpr, h2⟩ := h
  subst hk
  rcases h1.2 with ⟨rfl, e⟩ | ⟨g, cap, cur, rfl, hg, hh, hnc, _⟩
  · have : ts = [] := List.eq_nil_of_length_eq_zero e
    subst this
    exact OwJ_nil _ _
  · refine ⟨_, cap, g, 0, V, Bk, rfl, ⟨hm, hnc⟩, fun _ => ⟨rfl, ⟨hpr g rfl, (Array.getElem?_eq_some_iff.1 hh).1⟩, fun o => h1.frozenAt o⟩, fun i hi => ⟨?_, ?_, ?_, h2.rd i hi, fun hn => ?_⟩⟩
    · rw [Nat.zero_add, h1.cellAt (i * 3) (by omega)]
      exact cellsEn_flg _ _ _ _ hi
    · rw [Nat.zero_add, h1.cellAt (i * 3 + 1) (by omega)]
      exact cellsEn_num _ _ _ _ hi
    · rw [Nat.zero_add, h1.cellAt (i * 3 + 2) (by omega)]
      exact cellsEn_words _ _ _ _ hi
    · obtain ⟨k1, k2, k3, k4, k5⟩ := h2.own i hi hn
      exact ⟨⟨k1, k2⟩, fun e => k4 (by rw [e]; rfl), k3, k5⟩
theorem cellsEn_one {x y : Int} {ao : Option Addr} {n c : Nat} : ∀ u ∈ ([.int .i64 x, .int .i64 y, .slice ao n c] : List Value), u.oneCell' = true := by
  intro u hu
  simp at hu
  rcases hu with rfl | rfl | rfl <;> rfl
theorem ret_entries {w w3 : World} {P : Nat → Prop} {r : Nat} {z x : Value} {ts : List Oj} (hb : Below w.heap.size w w3) (hr : w.heap.size ≤ r) (ho : OwJ P w3 z ts) (hP : ∀ b, P b → r < b ∧ b < w3.heap.size) :
    Below w.heap.size w ((w3.setCell ⟨r, 0, none⟩ x).setCell ⟨r, 1, none⟩ z) ∧ OwJ (fun b => w.heap.size ≤ b ∧ b < ((w3.setCell ⟨r, 0, none⟩ x).setCell ⟨r, 1, none⟩ z).heap.size) ((w3.setCell ⟨r, 0, none⟩ x).setCell ⟨r, 1, none⟩ z) z ts := by
  have hw : Wr (fun y => y = r) w3 ((w3.setCell ⟨r, 0, none⟩ x).setCell ⟨r, 1, none⟩ z) := ((Wr.refl (fun y => y = r) _).setCell (p := ⟨r, 0, none⟩) rfl _).setCell (p := ⟨r, 1, none⟩) rfl _
  exact ⟨(hb.setCell (p := ⟨r, 0, none⟩) hr _).setCell (p := ⟨r, 1, none⟩) hr _, (ho.wr hw (fun b h1 e => by have := (hP b h1).1; omega)).mono fun b h1 => by have := hP b h1; simp; omega⟩
theorem Tryz.infoEn : (Tryz.prog.info? 110).map (fun i => (i.zero, i.size, i.bytes)) = some (some (.agg #[.int .i64 0, .int .i64 0, .slice none 0 0]), 3, 40) := by kernel_rfl
end Go.Proofs.YtlmaopljihbdkaaGreat
namespace Go.Proofs.YtlmaopljihbdkaaGreat
open Go.RowKit
theorem IvI.mono {lo hi lo' hi' : Nat} {w : World} {v : Value} {xs : List Int} (h : IvI lo hi w v xs) (h1 : lo' ≤ lo) (h2 : hi ≤ hi') : IvI lo' hi' w v xs := by
  obtain ⟨b, k1, k2⟩ := h
  exact ⟨b, k1, fun hne => ⟨Nat.le_trans h1 (k2 hne).1, Nat.lt_of_lt_of_le (k2 hne).2.1 h2, (k2 hne).2.2⟩⟩
theorem forgetH {P : Program} {md : Region.Mode} {ops : Array Oper} {Q : Exit → Act → World → Prop} {S : World → Prop} {fuel : Nat} {listed : Array Bool} {a : Act} {w0 : World} (R : World → Prop) (h0 : R w0) (h : ∀ w, R w → wpAnyH P md ops Q S fuel listed a w) : wpAnyH P md ops Q S fuel listed a w0 := h _ h0
end Go.Proofs.YtlmaopljihbdkaaGreat
namespace Go.Proofs.YtlmaopljihbdkaaGreat
open Go.RowKit
def enO (xs : List Int) : Oj := (xs.getD 0 0, xs.getD 1 0, xs.drop 3)
def enB (xs : List Int) : Prop := 3 ≤ xs.length ∧ xs.getD 2 0 = (xs.length : Int) - 3 ∧ entF (enO xs) = 0
instance (xs : List Int) : Decidable (enB xs) := by unfold enB; infer_instance
def ueC (xs : List Int) : Int := if wordsF xs = 0 then (if enB xs then 0 else 5) else wordsF xs
def ueR (xs : List Int) : List Oj := if wordsF xs = 0 ∧ enB xs then [enO xs] else []
theorem words_len {xs : List Int} (h : wordsF xs = 0) : xs.length ≤ 64 := by
  unfold wordsF wF at h
  by_cases h1 : 64 < xs.length
  · rw [if_pos h1] at h; exact absurd h (by decide)
  · omega
def PanE (e : Ending) : Prop := ∃ pv, e = .panicked [{ v := .iface 9 pv, recovered := false }]
theorem mustY (w : World) : Calls Tryz.prog 178 #[.bool true] w fun e w' => e = .returned (.tuple #[]) ∧ w' = w := by
  go_enter Tryz.func178, Tryz.ntmps178
  go_wp2
  go_end0
  exact ⟨rfl, rfl⟩
theorem mustN (w : World) : Calls Tryz.prog 178 #[.bool false] w fun e w' => PanE e ∧ w' = w := by
  go_enter Tryz.func178, Tryz.ntmps178
  go_wp2
  exact ⟨rfl, ⟨_, rfl⟩, rfl⟩
theorem set3_en {w : World} {b h o : Nat} {x y z : Value} (hb : b ≠ h) : (((w.setCell ⟨h, 0, none⟩ x).setCell ⟨h, 1, none⟩ y).setCell ⟨h, 2, none⟩ z).cell? ⟨b, o, none⟩ = w.cell? ⟨b, o, none⟩ := by
  rw [World.cell?_setCell_other _ _ _ _ (by intro e; injection e with e1 _; exact hb e1.symm), World.cell?_setCell_other _ _ _ _ (by intro e; injection e with e1 _; exact hb e1.symm), World.cell?_setCell_other _ _ _ _ (by intro e; injection e with e1 _; exact hb e1.symm)]
structure LaidE (w1 : World) (a t : Int) (xs : List Int) (hf : Nat) (az : Option Addr) (l cz : Nat) (wx : World) : Prop where
  c0 : wx.cell? ⟨hf, 0, none⟩ = some (.int .i64 a)
  c1 : wx.cell? ⟨hf, 1, none⟩ = some (.int .i64 t)
  c2 : wx.cell? ⟨hf, 2, none⟩ = some (.slice az l cz)
  ow : OwI w1.heap.size wx (.slice az l cz) xs
  below : Below w1.heap.size w1 wx
  le : w1.heap.size ≤ hf
def EntIn (xs : List Int) (w : World) (e : Ending) (w' : World) : Prop :=
  Below w.heap.size w w' ∧ ((enB xs ∧ ∃ z, e = .returned (.agg #[.int .i64 (enO xs).1, .int .i64 (enO xs).2.1, z]) ∧ OwI w.heap.size w' z (enO xs).2.2) ∨ (¬ enB xs ∧ PanE e))
set_option maxHeartbeats 4000000 in
set_option maxRecDepth 4000 in
theorem entryIn {S : Nat → Prop} {w : World} {v : Value} {xs : List Int} (hv : RdI S w v xs) (hm : xs.length ≤ 64) :
    Calls Tryz.prog 144 #[v] w (EntIn xs w) := by
  obtain ⟨ao, c, rfl⟩ := hv.shape
  have HV := hide hv
  obtain ⟨n, hn⟩ : ∃ n, xs.length = n := ⟨_, rfl⟩
  have HN := hide hn
  rw [hn] at HV hm ⊢
  have hcap : n ≤ c := by obtain ⟨_, c', e, _⟩ := hv; injection e with _ e2 e3; omega
  clear hv hn
  by_cases h3 : 3 ≤ n
  · have HP1 := hide (fun w' => (mustY w'))
    obtain ⟨b, off, rfl, q0⟩ := HV.out.at (k := 0) (by rw [HN.out]; omega)
    obtain ⟨b', off', e', q1⟩ := HV.out.at (k := 1) (by rw [HN.out]; omega)
    injection e' with e'
    injection e' with e1 e2
    subst e1 e2
    obtain ⟨b', off', e', q2⟩ := HV.out.at (k := 2) (by rw [HN.out]; omega)
    injection e' with e'
    injection e' with e1 e2
    subst e1 e2
    have hb0 := World.block_lt_of_cell? _ _ q0
    have A0 := hide (below_alloc w (.cells #[.int .i64 0, .int .i64 0, .slice none 0 0] 110))
    obtain ⟨w1, hw1⟩ : ∃ w1, w.alloc (.cells #[.int .i64 0, .int .i64 0, .slice none 0 0] 110) = w1 := ⟨_, rfl⟩
    have HRes : Hid ((w1.cell? ⟨w.heap.size, 0, none⟩ = some (.int .i64 0) ∧ w1.cell? ⟨w.heap.size, 1, none⟩ = some (.int .i64 0) ∧ w1.cell? ⟨w.heap.size, 2, none⟩ = some (.slice none 0 0) ∧ ∀ o, w1.frozen? ⟨w.heap.size, o, none⟩ = false) ∧ w1.heap.size = w.heap.size + 1) := by
      rw [Hid, ← hw1]
      exact ⟨⟨by simp [go_sem], by simp [go_sem], by simp [go_sem], fun o => by simp [go_sem]⟩, by simp⟩
    have HW := hide hw1
    rw [hw1] at A0
    have g0 : w1.cell? ⟨b, off, none⟩ = some (.int .i64 (xs.getD 0 0)) := by have := cell_later A0.out q0; simpa using this
    have g1 := cell_later A0.out q1
    have g2 := cell_later A0.out q2
    clear q0 q1 q2 hw1
    obtain ⟨a, ha⟩ : ∃ a, xs.getD 0 0 = a := ⟨_, rfl⟩
    obtain ⟨t, ht⟩ : ∃ t, xs.getD 1 0 = t := ⟨_, rfl⟩
    obtain ⟨x2, hx2⟩ : ∃ x, xs.getD 2 0 = x := ⟨_, rfl⟩
    rw [ha] at g0
    rw [ht] at g1
    rw [hx2] at g2
    have HE : Hid (enO xs = (a, t, xs.drop 3)) := by rw [Hid]; unfold enO; rw [ha, ht]
    have HX2 := hide hx2
    clear ha ht hx2
    obtain ⟨A, hA⟩ : ∃ A : Option Addr, (if c = 3 then some (⟨b, off, none⟩ : Addr) else some ⟨b, off + 3, none⟩) = A := ⟨_, rfl⟩
    have HR1 : Hid (RdI S w (.slice A (n - 3) (c - 3)) (xs.drop 3)) := by
      have h := HV.out.from 3 (by omega)
      have e : slA (some ⟨b, off, none⟩) c 3 = A := by rw [← hA]; unfold slA; simp [Addr.add_lit]
      rw [e] at h
      exact h
    obtain ⟨l, hl⟩ : ∃ l, (xs.drop 3).length = l := ⟨_, rfl⟩
    have hln : l = n - 3 := by rw [← hl, List.length_drop, HN.out]
    have HL := hide hl
    have HLn := hide hln
    rw [← hln] at HR1
    obtain ⟨W1, hW1⟩ : ∃ W1, w1.drew = W1 := ⟨_, rfl⟩
    obtain ⟨W2, hW2⟩ : ∃ W2, (w1.alloc (.cells #[.int .i64 0, .int .i64 0, .slice none 0 0] 110)).drew = W2 := ⟨_, rfl⟩
    have HW1 := hide hW1
    have HW2 := hide hW2
    have HBW1 : Hid (Below w1.heap.size w1 W1 ∧ W1.heap.size = w1.heap.size) := by rw [Hid, ← hW1]; exact ⟨below_drewN _ 1, rfl⟩
    have HBW2 : Hid (Below w1.heap.size w1 W2) := by rw [Hid, ← hW2]; exact below_on (below_alloc _ _) (below_drewN _ 1)
    have HZ2 : Hid (W2.cell? ⟨w1.heap.size, 0, none⟩ = some (.int .i64 0) ∧ W2.cell? ⟨w1.heap.size, 1, none⟩ = some (.int .i64 0) ∧ W2.cell? ⟨w1.heap.size, 2, none⟩ = some (.slice none 0 0) ∧ (∀ o, W2.frozen? ⟨w1.heap.size, o, none⟩ = false) ∧ W2.heap.size = w1.heap.size + 1) := by
      rw [Hid, ← hW2]
      exact ⟨by simp [go_sem], by simp [go_sem], by simp [go_sem], fun o => by simp [go_sem], by simp⟩
    have hbl : b < w1.heap.size := World.block_lt_of_cell? _ _ g0
    have hbv : b ≠ w1.heap.size := Nat.ne_of_lt hbl
    have hn3 : (3 : Int) ≤ (n : Int) := by omega
    have hn3' : (n : Int) ≥ 3 := by omega
    have hi0 : (0 : Int) < (n : Int) := by omega
    have hi1 : (1 : Int) < (n : Int) := by omega
    have hi2 : (2 : Int) < (n : Int) := by omega
    have hj0 : 0 < n := by omega
    have hj1 : 1 < n := by omega
    have hj2 : 2 < n := by omega
    have hc3 : 3 ≤ c := by omega
    have hc3' : (3 : Int) ≤ (c : Int) := by omega
    have hnl : n - 3 = l := by omega
    have hl64 : l ≤ 64 := by omega
    clear hW1 hW2 hl hln
    go_enter Tryz.func144, Tryz.ntmps144
    go_wp2_with fail
    rw [HW.out]
    refine (HP1.out _).mono ?_
    rintro e w9 ⟨rfl, hw9⟩
    have hw9 := hw9.symm
    subst hw9
    go_upto_region 2 with fail
    go_cut [3] from 8 to 17 (fun v wx => ∃ (hf cz : Nat) (az : Option Addr), v = .pointer (some ⟨hf, 0, none⟩) ∧ Hid (LaidE w1 a t (xs.drop 3) hf az l cz wx))
    case first =>
      go_region_held3 (fun w' => w'.cell? ⟨b, off, none⟩ = some (.int .i64 a) ∧ w'.cell? ⟨b, off + 1, none⟩ = some (.int .i64 t)) (first | exact ⟨g0, g1⟩ | exact ⟨e1, e2⟩ | exact ⟨cell_later (below_alloc _ _) e1, cell_later (below_alloc _ _) e2⟩ | exact ⟨(set3_en hbv).trans e1, (set3_en hbv).trans e2⟩ | (simp [go_sem, *]))
        (first
          | (go_at_call 134; rw [HW1.out]; refine (copyWords ((HR1.out.later A0.out).later HBW1.out.1) (by rw [HL.out]; omega)).mono ?_; rintro e w3 ⟨z3, rfl, hb3, ho3⟩; obtain ⟨az, cz, hz3⟩ := ho3.shape; rw [HL.out] at hz3; subst hz3; have e1 := cell_later (below_on HBW1.out.1 hb3) g0; have e2 := cell_later (below_on HBW1.out.1 hb3) g1; have HB3 := hide (below_on HBW1.out.1 hb3); have HO3 := hide (ho3.mono (Nat.le_of_eq HBW1.out.2.symm)); have hs3 := HB3.out.size; clear hb3 ho3 HZ2)
          | (go_at_call 134; rw [HW2.out]; refine (copyWords ((HR1.out.later A0.out).later HBW2.out) (by rw [HL.out]; omega)).mono ?_; rintro e w3 ⟨z3, rfl, hb3, ho3⟩; obtain ⟨az, cz, hz3⟩ := ho3.shape; rw [HL.out] at hz3; subst hz3; have e1 := cell_later (below_on HBW2.out hb3) g0; have e2 := cell_later (below_on HBW2.out hb3) g1; have HB3 := hide (below_on HBW2.out hb3); have HO3 := hide ho3; have hs3 := HB3.out.size; have y0 := cell_later hb3 HZ2.out.1; have y1 := cell_later hb3 HZ2.out.2.1; have y2 := cell_later hb3 HZ2.out.2.2.1; have yf0 := ((bcell hb3).2 _ _ (show w1.heap.size < W2.heap.size by have := HZ2.out.2.2.2.2; omega)).trans (HZ2.out.2.2.2.1 0); have yf1 := ((bcell hb3).2 _ _ (show w1.heap.size < W2.heap.size by have := HZ2.out.2.2.2.2; omega)).trans (HZ2.out.2.2.2.1 1); have yf2 := ((bcell hb3).2 _ _ (show w1.heap.size < W2.heap.size by have := HZ2.out.2.2.2.2; omega)).trans (HZ2.out.2.2.2.1 2); have hW2s := HZ2.out.2.2.2.2; clear hb3 ho3 HZ2))
      · have HLd : Hid (LaidE w1 a t (xs.drop 3) w3.heap.size az l cz (w3.alloc (.cells #[.int .i64 a, .int .i64 t, .slice az l cz] 110))) := ⟨by simp [go_sem], by simp [go_sem], by simp [go_sem], HO3.out.later (below_alloc _ _), below_on HB3.out (below_alloc _ _), hs3⟩
        go_wp2_with fail
        go_meet
        case rel => exact ⟨_, cz, az, rfl, HLd.out⟩
      · have hwr : Wr (fun y => y = w1.heap.size) w3 (((w3.setCell ⟨w1.heap.size, 0, none⟩ (.int .i64 a)).setCell ⟨w1.heap.size, 1, none⟩ (.int .i64 t)).setCell ⟨w1.heap.size, 2, none⟩ (.slice az l cz)) := (((Wr.refl (fun y => y = w1.heap.size) _).setCell (p := ⟨w1.heap.size, 0, none⟩) rfl _).setCell (p := ⟨w1.heap.size, 1, none⟩) rfl _).setCell (p := ⟨w1.heap.size, 2, none⟩) rfl _
        have HLd : Hid (LaidE w1 a t (xs.drop 3) w1.heap.size az l cz (((w3.setCell ⟨w1.heap.size, 0, none⟩ (.int .i64 a)).setCell ⟨w1.heap.size, 1, none⟩ (.int .i64 t)).setCell ⟨w1.heap.size, 2, none⟩ (.slice az l cz))) := ⟨by simp [go_sem, y0], by simp [go_sem, y1], by simp [go_sem, y2], (HO3.out.wr hwr (fun b h1 _ e => by omega)).mono (by omega), ((HB3.out.setCell (p := ⟨w1.heap.size, 0, none⟩) (Nat.le_refl _) _).setCell (p := ⟨w1.heap.size, 1, none⟩) (Nat.le_refl _) _).setCell (p := ⟨w1.heap.size, 2, none⟩) (Nat.le_refl _) _, Nat.le_refl _⟩
        clear hwr
        go_wp2_with fail
        go_meet
        case rel => exact ⟨_, cz, az, rfl, HLd.out⟩
    case rest =>
      obtain ⟨hf, cz, az, rfl, HLd⟩ := hcut
      obtain ⟨l0, l1, l2, l3, l4, l5⟩ := HLd.out
      have k2 := cell_later l4 g2
      have HOw := hide l3
      have HBc := hide (below_on A0.out l4)
      have HB4 := hide l4
      clear l3 l4 HLd g0 g1 g2 HZ2 HBW1 HBW2
      have HEn : Hid (enB xs ↔ x2 = (l : Int) ∧ entF (a, t, xs.drop 3) = 0) := by
        rw [Hid]
        unfold enB
        rw [HN.out, HX2.out, HE.out, HLn.out]
        constructor
        · rintro ⟨_, h2, h3'⟩
          exact ⟨by omega, h3'⟩
        · rintro ⟨h2, h3'⟩
          exact ⟨h3, by omega, h3'⟩
      have hpl := HRes.out.2
      by_cases hx : x2 = (l : Int)
      · obtain ⟨z, hz⟩ : ∃ z, entF (a, t, xs.drop 3) = z := ⟨_, rfl⟩
        have HZ := hide hz
        clear hz
        have HOr := hide HOw.out.rd
        go_wp2_with fail
        go_quiet ((go_at_call 178; exact Calls.quiet_of_same (HP1.out _)))
        have HC := hide (implEntryFault a t (HOr.out.later (below_drewN wc nq)))
        rw [HZ.out] at HC
        have d0 : (wc.drewN nq).cell? ⟨hf, 0, none⟩ = some (.int .i64 a) := l0
        have d1 : (wc.drewN nq).cell? ⟨hf, 1, none⟩ = some (.int .i64 t) := l1
        have d2 : (wc.drewN nq).cell? ⟨hf, 2, none⟩ = some (.slice az l cz) := l2
        by_cases hz0 : z = 0
        · subst hz0
          have HEb : Hid (enB xs) := HEn.out.2 ⟨hx, HZ.out⟩
          clear hx
          go_wp2_with fail
          refine HC.out.mono ?_
          rintro e w4 ⟨rfl, hb⟩
          have k0 := cell_later hb d0
          have k1 := cell_later hb d1
          have k3 := cell_later hb d2
          have hB4 := below_on HB4.out (below_on (below_drewN wc nq) hb)
          have r0 := cell_later hB4 HRes.out.1.1
          have r1 := cell_later hB4 HRes.out.1.2.1
          have r2 := cell_later hB4 HRes.out.1.2.2.1
          have hlt : w.heap.size < w1.heap.size := by omega
          have f0 := ((bcell hB4).2 _ _ hlt).trans (HRes.out.1.2.2.2 0)
          have f1 := ((bcell hB4).2 _ _ hlt).trans (HRes.out.1.2.2.2 1)
          have f2 := ((bcell hB4).2 _ _ hlt).trans (HRes.out.1.2.2.2 2)
          have HBf := hide (below_on A0.out hB4)
          have HOf := hide (HOw.out.later (below_on (below_drewN wc nq) hb))
          clear hb hB4 d0 d1 d2 l0 l1 l2 k2
          go_wp2_with fail
          refine (HP1.out _).mono ?_
          rintro e w9 ⟨rfl, hw9⟩
          have hw9 := hw9.symm
          subst hw9
          have hwr : Wr (fun y => y = w.heap.size) w4 (((w4.setCell ⟨w.heap.size, 0, none⟩ (.int .i64 a)).setCell ⟨w.heap.size, 1, none⟩ (.int .i64 t)).setCell ⟨w.heap.size, 2, none⟩ (.slice az l cz)) := (((Wr.refl (fun y => y = w.heap.size) _).setCell (p := ⟨w.heap.size, 0, none⟩) rfl _).setCell (p := ⟨w.heap.size, 1, none⟩) rfl _).setCell (p := ⟨w.heap.size, 2, none⟩) rfl _
          have HOe := hide ((HOf.out.wr hwr (fun b h1 _ e => by omega)).mono (show w.heap.size ≤ w1.heap.size by omega))
          have HBe := hide (((HBf.out.setCell (p := ⟨w.heap.size, 0, none⟩) (Nat.le_refl _) (.int .i64 a)).setCell (p := ⟨w.heap.size, 1, none⟩) (Nat.le_refl _) (.int .i64 t)).setCell (p := ⟨w.heap.size, 2, none⟩) (Nat.le_refl _) (.slice az l cz))
          clear hwr
          go_wp2
          refine bodyPost_ret (v := .agg #[.int .i64 a, .int .i64 t, .slice az l cz]) (by simp [results, Tryz.results144, go_sem, r0, r1, r2]) rfl ⟨HBe.out, Or.inl ⟨HEb.out, _, by rw [HE.out], by rw [HE.out]; exact HOe.out⟩⟩
        · have HEb : Hid (¬ enB xs) := fun h => hz0 (HZ.out.symm.trans (HEn.out.1 h).2)
          have hzb : (z == 0) = false := by simpa using hz0
          clear hx
          go_wp2_with fail
          refine HC.out.mono ?_
          rintro e w4 ⟨rfl, hb⟩
          have HBf := hide (below_on A0.out (below_on HB4.out (below_on (below_drewN wc nq) hb)))
          clear hb
          go_wp2_with fail
          refine (mustN _).mono ?_
          rintro e w9 ⟨⟨pv, rfl⟩, hw9⟩
          have hw9 := hw9.symm
          subst hw9
          go_wp2
          exact ⟨rfl, HBf.out, Or.inr ⟨HEb.out, pv, rfl⟩⟩
      · have HEb : Hid (¬ enB xs) := fun h => hx (HEn.out.1 h).1
        have hxb : (x2 == (l : Int)) = false := by simpa using hx
        have HBf := hide (fun q => below_on HBc.out (below_drewN wc q))
        go_wp2_with fail
        refine wp_region_held_drew (S := (fun w' => w'.cell? ⟨b, off + 2, none⟩ = some (.int .i64 x2) ∧ w'.cell? ⟨hf, 2, none⟩ = some (.slice az l cz))) (by kernel_rfl) ⟨k2, l2⟩ (fun hHeld => ?_)
        refine wpAnyH_take (i := 0) (v := ?ven0) rfl (by kernel_rfl) (by kernel_rfl) (by kernel_rfl) (fun _ _ _ h => h) (Or.inl ⟨by rfl, ?hen0⟩) hHeld ?ren0
        case hen0 => intro w9 hSw; (try dsimp only at hSw); first | (go_simp; done) | (go_simp; with_reducible rfl)
        try simp only [Act.put, List.setIfInBounds_toArray, List.set_cons_zero, List.set_cons_succ, List.getElem_toArray, List.getElem_cons_zero]
        refine wpAnyH_take (i := 1) (v := ?ven1) rfl (by kernel_rfl) (by kernel_rfl) (by kernel_rfl) (fun _ _ _ h => h) (Or.inl ⟨by rfl, ?hen1⟩) hHeld ?ren1
        case hen1 => intro w9 hSw; (try dsimp only at hSw); first | (go_simp; done) | (go_simp; with_reducible rfl)
        try simp only [Act.put, List.setIfInBounds_toArray, List.set_cons_zero, List.set_cons_succ, List.getElem_toArray, List.getElem_cons_zero, List.getElem_cons_succ]
        refine wpAnyH_take (i := 2) (v := ?ven2) rfl (by kernel_rfl) (by kernel_rfl) (by kernel_rfl) (fun _ _ _ h => h) (Or.inl ⟨by rfl, ?hen2⟩) hHeld ?ren2
        case hen2 => intro w9 hSw; (try dsimp only at hSw); first | (go_simp; done) | (go_simp; with_reducible rfl)
        try simp only [Act.put, List.setIfInBounds_toArray, List.set_cons_zero, List.set_cons_succ, List.getElem_toArray, List.getElem_cons_zero, List.getElem_cons_succ]
        refine wpAnyH_take (i := 3) (v := ?ven3) rfl (by kernel_rfl) (by kernel_rfl) (by kernel_rfl) (fun _ _ _ h => h) (Or.inl ⟨by rfl, ?hen3⟩) hHeld ?ren3
        case hen3 => intro w9 hSw; (try dsimp only at hSw); first | (go_simp; done) | (go_simp; with_reducible rfl)
        try simp only [Act.put, List.setIfInBounds_toArray, List.set_cons_zero, List.set_cons_succ, List.getElem_toArray, List.getElem_cons_zero, List.getElem_cons_succ]
        refine wpAnyH_take (i := 4) (v := ?ven4) rfl (by kernel_rfl) (by kernel_rfl) (by kernel_rfl) (fun _ _ _ h => h) (Or.inl ⟨by rfl, ?hen4⟩) hHeld ?ren4
        case hen4 => intro w9 hSw; (try dsimp only at hSw); first | (go_simp; done) | (go_simp; with_reducible rfl)
        try simp only [Act.put, List.setIfInBounds_toArray, List.set_cons_zero, List.set_cons_succ, List.getElem_toArray, List.getElem_cons_zero, List.getElem_cons_succ]
        refine wpAnyH_take (i := 5) (v := ?ven5) rfl (by kernel_rfl) (by kernel_rfl) (by kernel_rfl) (fun _ _ _ h => h) (Or.inl ⟨by rfl, ?hen5⟩) hHeld ?ren5
        case hen5 => intro w9 hSw; (try dsimp only at hSw); first | (go_simp; done) | (go_simp; with_reducible rfl)
        try simp only [Act.put, List.setIfInBounds_toArray, List.set_cons_zero, List.set_cons_succ, List.getElem_toArray, List.getElem_cons_zero, List.getElem_cons_succ]
        refine wpAnyH_take (i := 6) (v := ?ven6) rfl (by kernel_rfl) (by kernel_rfl) (by kernel_rfl) (fun _ _ _ h => h) (Or.inl ⟨by rfl, ?hen6⟩) hHeld ?ren6
        case hen6 => intro w9 hSw; (try dsimp only at hSw); first | (go_simp; done) | (go_simp; with_reducible rfl)
        try simp only [Act.put, List.setIfInBounds_toArray, List.set_cons_zero, List.set_cons_succ, List.getElem_toArray, List.getElem_cons_zero, List.getElem_cons_succ]
        refine wpAnyH_ready (rs := [7]) (by kernel_rfl) (by simp) (AllReadyH.cons rfl (fun K hK => ?_) AllReadyH.nil)
        go_simp
        go_at_call 178
        refine (mustN _).mono ?_
        rintro e w9 ⟨⟨pv, rfl⟩, hw9⟩
        have hw9 := hw9.symm
        subst hw9
        exact ⟨rfl, HBf.out 1, Or.inr ⟨HEb.out, pv, rfl⟩⟩
  · have HEb : Hid (¬ enB xs) := fun h => h3 (by have := h.1; rw [HN.out] at this; exact this)
    have hn3 : ¬ (n : Int) ≥ 3 := by omega
    go_enter Tryz.func144, Tryz.ntmps144
    go_wp2_with fail
    refine (mustN _).mono ?_
    rintro e w9 ⟨⟨pv, rfl⟩, hw9⟩
    have hw9 := hw9.symm
    subst hw9
    go_wp2
    exact ⟨rfl, below_alloc _ _, Or.inr ⟨HEb.out, pv, rfl⟩⟩
end Go.Proofs.YtlmaopljihbdkaaGreat
namespace Go.Proofs.YtlmaopljihbdkaaGreat
open Go.RowKit
theorem list3 {xs : List Int} (h : 3 ≤ xs.length) : xs = [xs.getD 0 0, xs.getD 1 0, xs.getD 2 0] ++ xs.drop 3 := by
  match xs, h with
  | a :: b :: c :: r, _ => rfl
theorem en_back {ws : List Int} (h : ueC ws = 0) : ueR ws = [enO ws] ∧ entF (enO ws) = 0 ∧ peR (enO ws) = ws := by
  unfold ueC at h
  by_cases hw : wordsF ws = 0
  · rw [if_pos hw] at h
    by_cases hb : enB ws
    · refine ⟨by unfold ueR; rw [if_pos ⟨hw, hb⟩], hb.2.2, ?_⟩
      unfold peR
      rw [if_pos hb.2.2]
      have h3 := hb.1
      conv => rhs; rw [list3 h3]
      unfold pkE enO
      dsimp only
      have e : ((ws.drop 3).length : Int) = ws.getD 2 0 := by rw [hb.2.1, List.length_drop]; omega
      rw [e]
    · rw [if_neg hb] at h; exact absurd h (by decide)
  · rw [if_neg hw] at h; exact absurd h hw
theorem words_all {xs : List Int} : wordsF xs = 0 ↔ xs.length ≤ 64 ∧ ∀ x, x ∈ xs → 0 ≤ x ∧ x ≤ 65535 := by
  unfold wordsF wF
  by_cases h1 : 64 < xs.length
  · rw [if_pos h1]; exact ⟨fun h => absurd h (by decide), fun h => by omega⟩
  · rw [if_neg h1]
    by_cases h2 : ∀ i, i < xs.length → 0 ≤ xs.getD i 0 ∧ xs.getD i 0 ≤ 65535
    · rw [if_pos h2]
      refine ⟨fun _ => ⟨by omega, fun x hx => ?_⟩, fun _ => rfl⟩
      obtain ⟨i, hi, rfl⟩ := List.mem_iff_getElem.1 hx
      have := h2 i hi
      simpa [List.getD, hi] using this
    · rw [if_neg h2]
      refine ⟨fun h => absurd h (by decide), fun h => absurd (fun i hi => ?_) h2⟩
      have := h.2 xs[i] (List.getElem_mem hi)
      simpa [List.getD, hi] using this
theorem pk_back {p : Oj} (h : entF p = 0) : ueC (pkE p) = 0 ∧ ueR (pkE p) = [p] ∧ peR p = pkE p ∧ 3 ≤ (pkE p).length := by
  obtain ⟨a, t, xs⟩ := p
  obtain ⟨h1, h2, h3⟩ := entF_zero h
  dsimp only at h1 h2 h3
  have hw : wordsF (pkE (a, t, xs)) = 0 := by
    rw [words_all]
    refine ⟨by simp [pkE]; omega, fun x hx => ?_⟩
    simp only [pkE, List.mem_append, List.mem_cons, List.not_mem_nil, or_false] at hx
    rcases hx with (rfl | rfl | rfl) | hx
    · omega
    · omega
    · omega
    · exact (words_all.1 h3).2 x hx
  have he : enO (pkE (a, t, xs)) = (a, t, xs) := rfl
  have hb : enB (pkE (a, t, xs)) := by
    refine ⟨by simp [pkE], ?_, by rw [he]; exact h⟩
    show (xs.length : Int) = _
    simp [pkE]
    omega
  refine ⟨by unfold ueC; rw [if_pos hw, if_pos hb], by unfold ueR; rw [if_pos ⟨hw, hb⟩, he], by unfold peR; rw [if_pos h], by simp [pkE]⟩
end Go.Proofs.YtlmaopljihbdkaaGreat
