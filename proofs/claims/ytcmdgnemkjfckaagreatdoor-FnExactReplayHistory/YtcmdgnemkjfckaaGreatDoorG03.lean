/- Fault Fault2 IvP ObS En in one text: what each says stands at its head below. -/
import Derived.Test.YtcmdgnemkjfckaaGreatDoorG01
import Derived.Test.YtcmdgnemkjfckaaGreatDoorG02
/- What is wrong with words and with a disk: 'wordsFault', 'DiskFault' of the program and of the model answer one and the same number. -/
namespace Go.Proofs.YtcmdgnemkjfckaaGreatDoor
open Go.RowKit

/-- The fault of n words. -/
def wF (X : Nat → Int) (n : Nat) : Int := if 64 < n then 2 else if (∀ i, i < n → 0 ≤ X i ∧ X i ≤ 65535) then 0 else 3
theorem wF_many {X : Nat → Int} {n : Nat} (h : 64 < n) : wF X n = 2 := by unfold wF; rw [if_pos h]
theorem wF_ok {X : Nat → Int} {n : Nat} (h : n ≤ 64) (h' : ∀ i, i < n → 0 ≤ X i ∧ X i ≤ 65535) : wF X n = 0 := by unfold wF; rw [if_neg (by omega), if_pos h']
theorem wF_range {X : Nat → Int} {n : Nat} (h : n ≤ 64) {i : Nat} (hi : i < n) (h' : X i < 0 ∨ 65535 < X i) : wF X n = 3 := by
  unfold wF; rw [if_neg (by omega), if_neg (fun k => by have := k i hi; omega)]
def wordsF (xs : List Int) : Int := wF (fun i => xs.getD i 0) xs.length

theorem l1In_yes (v lo hi : Int) (h1 : lo ≤ v) (h2 : v ≤ hi) (w : World) :
    Calls Tryz.prog 25 #[.int .i64 v, .int .i64 lo, .int .i64 hi] w fun e w' => e = .returned (.bool true) ∧ w' = w := by
  go_enter Tryz.func25, Tryz.ntmps25
  go_wp2
  go_ret
  exact ⟨rfl, rfl⟩

theorem l1In_no (v lo hi : Int) (h : v < lo ∨ hi < v) (w : World) :
    Calls Tryz.prog 25 #[.int .i64 v, .int .i64 lo, .int .i64 hi] w fun e w' => e = .returned (.bool false) ∧ w' = w := by
  by_cases h1 : v < lo
  · go_enter Tryz.func25, Tryz.ntmps25
    go_wp2
    go_ret
    exact ⟨by simp, rfl⟩
  · have h2 : hi < v := by omega
    clear h
    go_enter Tryz.func25, Tryz.ntmps25
    go_wp2
    go_ret
    exact ⟨by simp [h2], rfl⟩

theorem wordsFault_cells (X : Nat → Int) (n b off c : Nat) (w : World) (hm : n ≤ 9223372036854775807)
    (hx : ∀ i, i < n → w.cell? ⟨b, off + i, none⟩ = some (.int .i64 (X i))) :
    Calls Tryz.prog 96 #[.slice (some ⟨b, off, none⟩) n c] w fun e w' => e = .returned (.int .i64 (wF X n)) ∧ ∃ q, w' = w.drewN q := by
  have HX := hide hx
  clear hx
  by_cases hn : 64 < n
  · have HZ := hide (wF_many (X := X) hn)
    go_enter Tryz.func96, Tryz.ntmps96
    go_wp2
    go_ret
    exact ⟨ret_int HZ.out.symm, 0, rfl⟩
  · go_enter Tryz.func96, Tryz.ntmps96
    go_wp2
    go_loopw [10] (fun i wr => ∃ k : Nat, k ≤ n ∧ i = .int .i64 k ∧ Hid (∀ j, j < k → 0 ≤ X j ∧ X j ≤ 65535) ∧ wr = w) (fun i _ => n - (intOf i).toNat)
    case atStart => exact ⟨0, Nat.zero_le _, rfl, fun j hj => absurd hj (Nat.not_lt_zero _), rfl⟩
    case round =>
      obtain ⟨k, hk, rfl, HA, rfl⟩ := hrel
      by_cases hlt : k < n
      · have g1 := HX.out k hlt
        by_cases h1 : X k < 0
        · have HZ := hide (wF_range (X := X) (by omega) hlt (Or.inl h1))
          go_wp2
          go_ret
          exact ⟨ret_int HZ.out.symm, 0, rfl⟩
        · by_cases h2 : 65535 < X k
          · have HZ := hide (wF_range (X := X) (by omega) hlt (Or.inr h2))
            go_wp2
            go_ret
            exact ⟨ret_int HZ.out.symm, 0, rfl⟩
          · go_wp2
            go_roundw
            case rel => exact ⟨k + 1, by omega, by go_num, fun j hj => (by by_cases e : j = k; · subst e; omega
                                                                           · exact HA.out j (by omega)), by simp⟩
            case measure => simp [intOf]; omega
      · have HZ := hide (wF_ok (X := X) (n := n) (by omega) (fun i hi => HA.out i (by omega)))
        go_wp2
        go_ret
        exact ⟨ret_int HZ.out.symm, 0, rfl⟩

theorem wordsFault_none (ao : Option Addr) (c : Nat) (w : World) :
    Calls Tryz.prog 96 #[.slice ao 0 c] w fun e w' => e = .returned (.int .i64 0) ∧ ∃ q, w' = w.drewN q := by
  go_enter Tryz.func96, Tryz.ntmps96
  go_wp2
  go_loopw [10] (fun i wr => i = .int .i64 0 ∧ wr = w) (fun _ _ => 0)
  case atStart => exact ⟨rfl, rfl⟩
  case round =>
    obtain ⟨rfl, rfl⟩ := hrel
    go_wp2
    go_ret
    exact ⟨rfl, 0, rfl⟩

/-- 'impl.wordsFault' of a reading. -/
theorem wordsFault {S : Nat → Prop} {w : World} {v : Value} {xs : List Int} (hv : RdI S w v xs) :
    Calls Tryz.prog 96 #[v] w fun e w' => e = .returned (.int .i64 (wordsF xs)) ∧ ∃ q, w' = w.drewN q := by
  obtain ⟨ao, c, rfl, hm, h⟩ := hv
  by_cases hne : xs = []
  · subst hne
    have e0 : wordsF [] = 0 := wF_ok (by simp) (by simp)
    rw [e0]
    exact wordsFault_none _ _ _
  · obtain ⟨b, off, rfl, _, hc⟩ := h hne
    exact wordsFault_cells _ _ _ _ _ _ hm hc

theorem l1Words_cells (X : Nat → Int) (n b off c : Nat) (w : World) (hm : n ≤ 9223372036854775807)
    (hx : ∀ i, i < n → w.cell? ⟨b, off + i, none⟩ = some (.int .i64 (X i))) :
    Calls Tryz.prog 69 #[.slice (some ⟨b, off, none⟩) n c] w fun e w' => e = .returned (.int .i64 (wF X n)) ∧ ∃ q, w' = w.drewN q := by
  have HX := hide hx
  clear hx
  by_cases hn : 64 < n
  · have HZ := hide (wF_many (X := X) hn)
    go_enter Tryz.func69, Tryz.ntmps69
    go_wp2
    go_ret
    exact ⟨ret_int HZ.out.symm, 0, rfl⟩
  · go_enter Tryz.func69, Tryz.ntmps69
    go_wp2
    go_loopw [3] (fun i wr => ∃ k : Nat, k ≤ n ∧ i = .int .i64 k ∧ Hid (∀ j, j < k → 0 ≤ X j ∧ X j ≤ 65535) ∧ wr = w) (fun i _ => n - (intOf i).toNat)
    case atStart => exact ⟨0, Nat.zero_le _, rfl, fun j hj => absurd hj (Nat.not_lt_zero _), rfl⟩
    case round =>
      obtain ⟨k, hk, rfl, HA, rfl⟩ := hrel
      by_cases hlt : k < n
      · have g1 := HX.out k hlt
        by_cases h1 : X k < 0 ∨ 65535 < X k
        · have HZ := hide (wF_range (X := X) (by omega) hlt h1)
          have H1 := hide h1
          clear h1
          go_wp2_with fail
          refine (l1In_no _ _ _ H1.out _).mono ?_
          rintro e w' ⟨rfl, rfl⟩
          go_wp2
          go_ret
          exact ⟨ret_int HZ.out.symm, 0, rfl⟩
        · have h2 : 0 ≤ X k := by omega
          have h3 : X k ≤ 65535 := by omega
          clear h1
          go_wp2_with fail
          refine (l1In_yes _ _ _ h2 h3 _).mono ?_
          rintro e w' ⟨rfl, rfl⟩
          go_wp2
          go_roundw
          case rel => exact ⟨k + 1, by omega, by go_num, fun j hj => (by by_cases e : j = k; · subst e; omega
                                                                         · exact HA.out j (by omega)), by simp⟩
          case measure => simp [intOf]; omega
      · have HZ := hide (wF_ok (X := X) (n := n) (by omega) (fun i hi => HA.out i (by omega)))
        go_wp2
        go_ret
        exact ⟨ret_int HZ.out.symm, 0, rfl⟩

theorem l1Words_none (ao : Option Addr) (c : Nat) (w : World) :
    Calls Tryz.prog 69 #[.slice ao 0 c] w fun e w' => e = .returned (.int .i64 0) ∧ ∃ q, w' = w.drewN q := by
  go_enter Tryz.func69, Tryz.ntmps69
  go_wp2
  go_loopw [3] (fun i wr => i = .int .i64 0 ∧ wr = w) (fun _ _ => 0)
  case atStart => exact ⟨rfl, rfl⟩
  case round =>
    obtain ⟨rfl, rfl⟩ := hrel
    go_wp2
    go_ret
    exact ⟨rfl, 0, rfl⟩

/-- 'spec.l1Words' of a reading. -/
theorem l1Words {S : Nat → Prop} {w : World} {v : Value} {xs : List Int} (hv : RdI S w v xs) :
    Calls Tryz.prog 69 #[v] w fun e w' => e = .returned (.int .i64 (wordsF xs)) ∧ ∃ q, w' = w.drewN q := by
  obtain ⟨ao, c, rfl, hm, h⟩ := hv
  by_cases hne : xs = []
  · subst hne
    have e0 : wordsF [] = 0 := wF_ok (by simp) (by simp)
    rw [e0]
    exact l1Words_none _ _ _
  · obtain ⟨b, off, rfl, _, hc⟩ := h hne
    exact l1Words_cells _ _ _ _ _ _ hm hc

/-- The first fault among rows. -/
def firstF : List (List Int) → Int
  | [] => 0
  | xs :: r => if wordsF xs = 0 then firstF r else wordsF xs
/-- The first fault among puts, on a disk of n blocks. -/
def firstP (n : Nat) : List (Int × List Int) → Int
  | [] => 0
  | p :: r => if 0 ≤ p.1 ∧ p.1 < (n : Int) then (if wordsF p.2 = 0 then firstP n r else wordsF p.2) else 3
def diskF (xss : List (List Int)) (ps : List (Int × List Int)) : Int :=
  if 70 < xss.length ∨ 200 < ps.length then 2 else if firstF xss = 0 then firstP xss.length ps else firstF xss

theorem firstF_ok {xss : List (List Int)} {k : Nat} (h : k < xss.length) (h0 : wordsF (xss.getD k []) = 0) : firstF (xss.drop k) = firstF (xss.drop (k + 1)) := by
  rw [List.drop_eq_getElem_cons h]
  simp only [firstF]
  rw [if_pos (by simpa [List.getD, h] using h0)]
theorem firstF_no {xss : List (List Int)} {k : Nat} (h : k < xss.length) (h0 : wordsF (xss.getD k []) ≠ 0) : firstF (xss.drop k) = wordsF (xss.getD k []) := by
  rw [List.drop_eq_getElem_cons h]
  simp only [firstF]
  rw [if_neg (by simpa [List.getD, h] using h0)]
  simp [List.getD, h]
theorem firstF_end {xss : List (List Int)} {k : Nat} (h : xss.length ≤ k) : firstF (xss.drop k) = 0 := by rw [List.drop_eq_nil_of_le h]; rfl
theorem firstP_ok {n : Nat} {ps : List (Int × List Int)} {k : Nat} (h : k < ps.length) (ha : 0 ≤ (ps.getD k (0, [])).1 ∧ (ps.getD k (0, [])).1 < (n : Int)) (h0 : wordsF (ps.getD k (0, [])).2 = 0) : firstP n (ps.drop k) = firstP n (ps.drop (k + 1)) := by
  rw [List.drop_eq_getElem_cons h]
  simp only [firstP]
  simp only [List.getD, List.getElem?_eq_getElem h, Option.getD_some] at ha h0
  rw [if_pos ha, if_pos h0]
theorem firstP_no {n : Nat} {ps : List (Int × List Int)} {k : Nat} (h : k < ps.length) (ha : 0 ≤ (ps.getD k (0, [])).1 ∧ (ps.getD k (0, [])).1 < (n : Int)) (h0 : wordsF (ps.getD k (0, [])).2 ≠ 0) : firstP n (ps.drop k) = wordsF (ps.getD k (0, [])).2 := by
  rw [List.drop_eq_getElem_cons h]
  simp only [firstP]
  simp only [List.getD, List.getElem?_eq_getElem h, Option.getD_some] at ha h0 ⊢
  rw [if_pos ha, if_neg h0]
theorem firstP_at {n : Nat} {ps : List (Int × List Int)} {k : Nat} (h : k < ps.length) (ha : ¬ (0 ≤ (ps.getD k (0, [])).1 ∧ (ps.getD k (0, [])).1 < (n : Int))) : firstP n (ps.drop k) = 3 := by
  rw [List.drop_eq_getElem_cons h]
  simp only [firstP]
  simp only [List.getD, List.getElem?_eq_getElem h, Option.getD_some] at ha
  rw [if_neg ha]
theorem firstP_end {n : Nat} {ps : List (Int × List Int)} {k : Nat} (h : ps.length ≤ k) : firstP n (ps.drop k) = 0 := by rw [List.drop_eq_nil_of_le h]; rfl
theorem diskF_many {xss : List (List Int)} {ps : List (Int × List Int)} (h : 70 < xss.length ∨ 200 < ps.length) : diskF xss ps = 2 := by unfold diskF; rw [if_pos h]
theorem diskF_rows {xss : List (List Int)} {ps : List (Int × List Int)} (h : ¬ (70 < xss.length ∨ 200 < ps.length)) (h0 : firstF xss ≠ 0) : diskF xss ps = firstF xss := by unfold diskF; rw [if_neg h, if_neg h0]
theorem diskF_puts {xss : List (List Int)} {ps : List (Int × List Int)} (h : ¬ (70 < xss.length ∨ 200 < ps.length)) (h0 : firstF xss = 0) : diskF xss ps = firstP xss.length ps := by unfold diskF; rw [if_neg h, if_pos h0]
end Go.Proofs.YtcmdgnemkjfckaaGreatDoor
/- 'DiskFault' of the program and of the model, walked. -/
namespace Go.Proofs.YtcmdgnemkjfckaaGreatDoor
open Go.RowKit
theorem RdII.at {S : Nat → Prop} {w : World} {ao : Option Addr} {n c : Nat} {xss : List (List Int)} (h : RdII S w (.slice ao n c) xss) {k : Nat} (hk : k < xss.length) :
    ∃ b off V, ao = some ⟨b, off, none⟩ ∧ w.cell? ⟨b, off + k, none⟩ = some V ∧ RdI S w V (xss.getD k []) := by
  obtain ⟨ao', c', e, _, h3⟩ := h
  injection e with e1 e2 e3
  subst e1
  obtain ⟨b, off, V, rfl, _, hc⟩ := h3 (by rintro rfl; exact absurd hk (Nat.not_lt_zero _))
  exact ⟨b, off, V k, rfl, (hc k hk).1, (hc k hk).2⟩

theorem RdP.at {S : Nat → Prop} {w : World} {ao : Option Addr} {n c : Nat} {ps : List (Int × List Int)} (h : RdP S w (.slice ao n c) ps) {k : Nat} (hk : k < ps.length) :
    ∃ b off V, ao = some ⟨b, off, none⟩ ∧ w.cell? ⟨b, off + k * 2, none⟩ = some (.int .i64 (ps.getD k (0, [])).1) ∧ w.cell? ⟨b, off + k * 2 + 1, none⟩ = some V ∧ RdI S w V (ps.getD k (0, [])).2 := by
  obtain ⟨ao', c', e, _, h3⟩ := h
  injection e with e1 e2 e3
  subst e1
  obtain ⟨b, off, V, rfl, _, hc⟩ := h3 (by rintro rfl; exact absurd hk (Nat.not_lt_zero _))
  exact ⟨b, off, V k, rfl, (hc k hk).1, (hc k hk).2.1, (hc k hk).2.2⟩

theorem RdII.shape {S : Nat → Prop} {w : World} {v : Value} {xss : List (List Int)} (h : RdII S w v xss) : ∃ ao c, v = .slice ao xss.length c ∧ xss.length ≤ 9223372036854775807 := by
  obtain ⟨ao, c, h1, h2, _⟩ := h
  exact ⟨ao, c, h1, h2⟩
theorem RdP.shape {S : Nat → Prop} {w : World} {v : Value} {ps : List (Int × List Int)} (h : RdP S w v ps) : ∃ ao c, v = .slice ao ps.length c ∧ ps.length ≤ 9223372036854775807 := by
  obtain ⟨ao, c, h1, h2, _⟩ := h
  exact ⟨ao, c, h1, h2⟩

end Go.Proofs.YtcmdgnemkjfckaaGreatDoor
/- The laws' helpers over a code with puts; puts among the arguments. -/
namespace Go.Proofs.YtcmdgnemkjfckaaGreatDoor
open Go.RowKit

/-- What a call that ends in a code and puts is to leave. -/
def EndsP (x : Int) (rs : List (Int × List Int)) (w : World) (e : Ending) (w' : World) : Prop :=
  ∃ z, e = .returned (.agg #[.int .i64 x, z]) ∧ Below w.heap.size w w' ∧ OwP (fun b => w.heap.size ≤ b ∧ b < w'.heap.size) w' z rs

theorem szD_nonneg (xss : List (List Int)) (ps : List (Int × List Int)) : 0 ≤ szD xss ps := by unfold szD; omega
def szQ (qs : List (Int × List Int)) : Int := (qs.length : Int) + (totW qs qs.length : Int)
theorem szQ_nonneg (qs : List (Int × List Int)) : 0 ≤ szQ qs := by unfold szQ; omega
theorem smallQ {qs : List (Int × List Int)} (h : szQ qs ≤ 1048576) : qs.length ≤ 1048576 ∧ (∀ i, i < qs.length → (qs.getD i (0, [])).2.length ≤ 1048576) ∧ (totP qs qs.length : Int) ≤ 2097152 := by
  unfold szQ at h
  have h3 := totP_eq qs qs.length (Nat.le_refl _)
  exact ⟨by omega, fun i hi => by have := len_le_totW qs i hi; omega, by omega⟩

/-- Puts in [lo, hi). -/
def IvP (lo hi : Nat) (w : World) (v : Value) (ps : List (Int × List Int)) : Prop :=
  ∃ S : Nat → Prop, hi ≤ w.heap.size ∧ (∀ b, S b → lo ≤ b ∧ b < hi) ∧ OwP S w v ps
theorem OwP.iv {B : Nat} {w : World} {v : Value} {ps : List (Int × List Int)} (h : OwP (fun b => B ≤ b ∧ b < w.heap.size) w v ps) : IvP B w.heap.size w v ps :=
  ⟨_, Nat.le_refl _, fun _ hb => hb, h⟩
theorem IvP.wr {lo hi : Nat} {V : Nat → Prop} {w w' : World} {v : Value} {ps : List (Int × List Int)} (h : IvP lo hi w v ps) (hw : Wr V w w') (hd : ∀ b, lo ≤ b → b < hi → ¬ V b) : IvP lo hi w' v ps := by
  obtain ⟨S, h0, h1, h2⟩ := h
  exact ⟨S, Nat.le_trans h0 hw.size, h1, h2.wr hw fun b hb => hd b (h1 b hb).1 (h1 b hb).2⟩
theorem IvP.later {lo hi : Nat} {w w' : World} {v : Value} {ps : List (Int × List Int)} (h : IvP lo hi w v ps) (hb : Below w.heap.size w w') : IvP lo hi w' v ps :=
  h.wr (Wr.of_below hb fun _ => False) fun _ _ _ => id
theorem IvP.rd {lo hi : Nat} {w : World} {v : Value} {ps : List (Int × List Int)} (h : IvP lo hi w v ps) : RdP (fun b => lo ≤ b ∧ b < hi) w v ps := by
  obtain ⟨S, h0, h1, h2⟩ := h
  exact (h2.mono h1).rd

/-- Puts in [lo, hi) whose marks stand from k on. -/
def MkPs (k : Int) (lo hi : Nat) (w : World) (v : Value) (ps : List (Int × List Int)) : Prop := RdP (fun b => lo ≤ b ∧ b < hi) w v (mkP k ps)
theorem MkPs.wr {k : Int} {lo hi : Nat} {V : Nat → Prop} {w w' : World} {v : Value} {ps : List (Int × List Int)} (h : MkPs k lo hi w v ps) (hw : Wr V w w') (hd : ∀ b, lo ≤ b → b < hi → ¬ V b) : MkPs k lo hi w' v ps :=
  RdP.wr h hw fun b hb => hd b hb.1 hb.2
theorem MkPs.later {k : Int} {lo hi : Nat} {w w' : World} {v : Value} {ps : List (Int × List Int)} (h : MkPs k lo hi w v ps) (hb : Below w.heap.size w w') : MkPs k lo hi w' v ps := RdP.later h hb

end Go.Proofs.YtcmdgnemkjfckaaGreatDoor
/- Chapter 5: lists of objects: readings of them, and the laws' helpers over them. Made by program (genobs.py). -/
namespace Go.Proofs.YtcmdgnemkjfckaaGreatDoor
open Go.RowKit

/-- An object: its block, its first word, its words. -/
abbrev Oj := Int × Int × List Int
def oj0 : Oj := (0, 0, [])

/-- The slice value v reads as the steps (three cells each), all of them in blocks of S. -/
def RdJ (S : Nat → Prop) (w : World) (v : Value) (ts : List Oj) : Prop :=
  ∃ (ao : Option Addr) (c : Nat), v = .slice ao ts.length c ∧ ts.length ≤ 9223372036854775807 ∧
    (ts ≠ [] → ∃ (b off : Nat) (V : Nat → Value), ao = some ⟨b, off, none⟩ ∧ S b ∧
      ∀ i, i < ts.length → w.cell? ⟨b, off + i * 3, none⟩ = some (.int .i64 (ts.getD i oj0).1) ∧ w.cell? ⟨b, off + i * 3 + 1, none⟩ = some (.int .i64 (ts.getD i oj0).2.1) ∧ w.cell? ⟨b, off + i * 3 + 2, none⟩ = some (V i) ∧ RdI S w (V i) (ts.getD i oj0).2.2)
theorem RdJ.shape {S : Nat → Prop} {w : World} {v : Value} {ts : List Oj} (h : RdJ S w v ts) : ∃ ao c, v = .slice ao ts.length c ∧ ts.length ≤ 9223372036854775807 := by
  obtain ⟨ao, c, h1, h2, _⟩ := h
  exact ⟨ao, c, h1, h2⟩
theorem RdJ.later {S : Nat → Prop} {w w' : World} {v : Value} {ts : List Oj} (h : RdJ S w v ts) (hb : Below w.heap.size w w') : RdJ S w' v ts := by
  obtain ⟨ao, c, h1, h2, h3⟩ := h
  refine ⟨ao, c, h1, h2, fun hne => ?_⟩
  obtain ⟨b, off, V, e, hs, hc⟩ := h3 hne
  exact ⟨b, off, V, e, hs, fun i hi => ⟨cell_later hb (hc i hi).1, cell_later hb (hc i hi).2.1, cell_later hb (hc i hi).2.2.1, (hc i hi).2.2.2.later hb⟩⟩
theorem RdJ.wr {S T : Nat → Prop} {w w' : World} {v : Value} {ts : List Oj} (h : RdJ S w v ts) (hw : Wr T w w') (hd : ∀ b, S b → ¬ T b) : RdJ S w' v ts := by
  obtain ⟨ao, c, h1, h2, h3⟩ := h
  refine ⟨ao, c, h1, h2, fun hne => ?_⟩
  obtain ⟨b, off, V, e, hs, hc⟩ := h3 hne
  exact ⟨b, off, V, e, hs, fun i hi => ⟨cell_wr hw (hc i hi).1 (hd b hs), cell_wr hw (hc i hi).2.1 (hd b hs), cell_wr hw (hc i hi).2.2.1 (hd b hs), (hc i hi).2.2.2.wr hw (fun _ => hd)⟩⟩

/-- .. its words lie in blocks of their own, each another one; nothing of it is frozen; all in S. -/
def OwJ (S : Nat → Prop) (w : World) (v : Value) (ts : List Oj) : Prop :=
  ∃ (ao : Option Addr) (c b off : Nat) (V : Nat → Value) (B : Nat → Nat), v = .slice ao ts.length c ∧ (ts.length ≤ 9223372036854775807 ∧ ts.length ≤ c) ∧
    (ts ≠ [] → ao = some ⟨b, off, none⟩ ∧ S b ∧ ∀ o, w.frozen? ⟨b, o, none⟩ = false) ∧
    ∀ i, i < ts.length → w.cell? ⟨b, off + i * 3, none⟩ = some (.int .i64 (ts.getD i oj0).1) ∧ w.cell? ⟨b, off + i * 3 + 1, none⟩ = some (.int .i64 (ts.getD i oj0).2.1) ∧ w.cell? ⟨b, off + i * 3 + 2, none⟩ = some (V i) ∧ RdI (· = B i) w (V i) (ts.getD i oj0).2.2 ∧
      ((ts.getD i oj0).2.2 ≠ [] → S (B i) ∧ B i ≠ b ∧ (∀ o, w.frozen? ⟨B i, o, none⟩ = false) ∧ ∀ j, j < ts.length → (ts.getD j oj0).2.2 ≠ [] → B j = B i → j = i)
theorem OwJ.rd {S : Nat → Prop} {w : World} {v : Value} {ts : List Oj} (h : OwJ S w v ts) : RdJ S w v ts := by
  obtain ⟨ao, c, b, off, V, B, h1, h2, h3, h4⟩ := h
  refine ⟨ao, c, h1, h2.1, fun hne => ?_⟩
  obtain ⟨e, hb, _⟩ := h3 hne
  exact ⟨b, off, V, e, hb, fun i hi => ⟨(h4 i hi).1, (h4 i hi).2.1, (h4 i hi).2.2.1, (h4 i hi).2.2.2.1.narrow fun hn x hx => hx ▸ ((h4 i hi).2.2.2.2 hn).1⟩⟩
theorem OwJ.wr {S T : Nat → Prop} {w w' : World} {v : Value} {ts : List Oj} (h : OwJ S w v ts) (hw : Wr T w w') (hd : ∀ b, S b → ¬ T b) : OwJ S w' v ts := by
  obtain ⟨ao, c, b, off, V, B, h1, h2, h3, h4⟩ := h
  refine ⟨ao, c, b, off, V, B, h1, h2, fun hne => ?_, fun i hi => ?_⟩
  · obtain ⟨q1, q2, q3⟩ := h3 hne
    have hl := World.block_lt_of_cell? _ _ (h4 0 (List.length_pos_iff.2 hne)).1
    exact ⟨q1, q2, fun o => by rw [hw.frz _ _ hl]; exact q3 o⟩
  · obtain ⟨f0, f1, f2, f2', f3⟩ := h4 i hi
    have hne : ts ≠ [] := by rintro rfl; exact absurd hi (Nat.not_lt_zero _)
    refine ⟨cell_wr hw f0 (hd b (h3 hne).2.1), cell_wr hw f1 (hd b (h3 hne).2.1), cell_wr hw f2 (hd b (h3 hne).2.1), f2'.wr hw (fun hn x hx => hx ▸ hd _ (f3 hn).1), fun hn => ?_⟩
    obtain ⟨q1, q2, q3, q4⟩ := f3 hn
    obtain ⟨x, rfl, hl⟩ := f2'.lt hn
    exact ⟨q1, q2, fun o => by rw [hw.frz _ _ hl]; exact q3 o, q4⟩
theorem OwJ.mono {S T : Nat → Prop} {w : World} {v : Value} {ts : List Oj} (h : OwJ S w v ts) (hT : ∀ b, S b → T b) : OwJ T w v ts := by
  obtain ⟨ao, c, b, off, V, B, h1, h2, h3, h4⟩ := h
  exact ⟨ao, c, b, off, V, B, h1, h2, fun hne => ⟨(h3 hne).1, hT _ (h3 hne).2.1, (h3 hne).2.2⟩, fun i hi => ⟨(h4 i hi).1, (h4 i hi).2.1, (h4 i hi).2.2.1, (h4 i hi).2.2.2.1, fun hn => ⟨hT _ ((h4 i hi).2.2.2.2 hn).1, ((h4 i hi).2.2.2.2 hn).2⟩⟩⟩
theorem OwJ.shape {S : Nat → Prop} {w : World} {v : Value} {ts : List Oj} (h : OwJ S w v ts) : ∃ ao c, v = .slice ao ts.length c := by
  obtain ⟨ao, c, _, _, _, _, h1, _⟩ := h
  exact ⟨ao, c, h1⟩
/-- .. and its cap is no smaller than its length. -/
theorem OwJ.caps {S : Nat → Prop} {w : World} {v : Value} {ts : List Oj} (h : OwJ S w v ts) : ∃ ao c, v = .slice ao ts.length c ∧ ts.length ≤ c := by
  obtain ⟨ao, c, _, _, _, _, h1, h2, _⟩ := h
  exact ⟨ao, c, h1, h2.2⟩
theorem OwJ_nil (S : Nat → Prop) (w : World) : OwJ S w (.slice none 0 0) [] :=
  ⟨none, 0, 0, 0, fun _ => .bool false, fun _ => 0, rfl, by simp, fun h => absurd rfl h, fun i hi => absurd hi (Nat.not_lt_zero _)⟩

/-- How many marks the first i steps hold. -/
def totJ (ts : List Oj) (i : Nat) : Nat := ((ts.take i).map fun p => p.2.2.length + 2).sum
theorem totJ_zero (ts : List Oj) : totJ ts 0 = 0 := by simp [totJ]
theorem totJ_succ (ts : List Oj) (i : Nat) (h : i < ts.length) : totJ ts (i + 1) = totJ ts i + ((ts.getD i oj0).2.2.length + 2) := by
  unfold totJ
  rw [List.take_succ_eq_append_getElem h]
  simp only [List.map_append, List.sum_append, List.map_cons, List.map_nil, List.sum_cons, List.sum_nil]
  simp [List.getD, h]
theorem totJ_le (ts : List Oj) : ∀ (i j : Nat), i ≤ j → totJ ts i ≤ totJ ts j := by
  intro i j h
  unfold totJ
  have : ts.take j = ts.take i ++ (ts.drop i).take (j - i) := by
    rw [← List.take_add]; congr 1; omega
  rw [this]; simp
def mJ (k : Int) : Int := k
def mkJ (k : Int) (ts : List Oj) : List Oj :=
  (List.range ts.length).map fun i => (mJ (k + (totJ ts i : Int)), k + (totJ ts i : Int) + 1, mkI (k + (totJ ts i : Int) + 1 + 1) (ts.getD i oj0).2.2.length)
theorem mkJ_len (k : Int) (ts : List Oj) : (mkJ k ts).length = ts.length := by simp [mkJ]
theorem mkJ_at (k : Int) (ts : List Oj) (i : Nat) (h : i < ts.length) : (mkJ k ts).getD i oj0 = (mJ (k + (totJ ts i : Int)), k + (totJ ts i : Int) + 1, mkI (k + (totJ ts i : Int) + 1 + 1) (ts.getD i oj0).2.2.length) := by simp [mkJ, List.getD, h]

/-- What marking has done behind j steps. -/
structure MarkAtJ (ts : List Oj) (b off : Nat) (V : Nat → Value) (B : Nat → Nat) (k : Int) (w : World) (j : Nat) (wr : World) : Prop where
  cell : ∀ i, i < ts.length → wr.cell? ⟨b, off + i * 3 + 2, none⟩ = some (V i)
  th0 : ∀ i, i < ts.length → ∃ x, wr.cell? ⟨b, off + i * 3, none⟩ = some (.int .i64 x)
  th1 : ∀ i, i < ts.length → ∃ x, wr.cell? ⟨b, off + i * 3 + 1, none⟩ = some (.int .i64 x)
  flg : ∀ i, i < j → i < ts.length → wr.cell? ⟨b, off + i * 3, none⟩ = some (.int .i64 (mJ (k + (totJ ts i : Int))))
  num : ∀ i, i < j → i < ts.length → wr.cell? ⟨b, off + i * 3 + 1, none⟩ = some (.int .i64 (k + (totJ ts i : Int) + 1))
  done : ∀ i, i < j → i < ts.length → RdI (· = B i) wr (V i) (mkI (k + (totJ ts i : Int) + 1 + 1) (ts.getD i oj0).2.2.length)
  todo : ∀ i, j ≤ i → i < ts.length → RdI (· = B i) wr (V i) (ts.getD i oj0).2.2
  own : ∀ o, wr.frozen? ⟨b, o, none⟩ = false
  free : ∀ i, i < ts.length → (ts.getD i oj0).2.2 ≠ [] → B i ≠ b ∧ (∀ o, wr.frozen? ⟨B i, o, none⟩ = false) ∧ ∀ j, j < ts.length → (ts.getD j oj0).2.2 ≠ [] → B j = B i → j = i
  wr : Wr (fun x => x = b ∨ ∃ i, i < ts.length ∧ (ts.getD i oj0).2.2 ≠ [] ∧ x = B i) w wr

/-- The two cells of the j-th step are marked. -/
def markCellsJ (b off j : Nat) (k : Int) (wr : World) : World := (wr.setCell ⟨b, off + j * 3, none⟩ (.int .i64 (mJ k))).setCell ⟨b, off + j * 3 + 1, none⟩ (.int .i64 (k + 1))
theorem markCellsJ_wr (b off j : Nat) (k : Int) (wr : World) : Wr (· = b) wr (markCellsJ b off j k wr) :=
  ((Wr.refl (· = b) wr).setCell (p := ⟨b, off + j * 3, none⟩) rfl _).setCell (p := ⟨b, off + j * 3 + 1, none⟩) rfl _
theorem MarkAtJ.mid {ts : List Oj} {b off : Nat} {V : Nat → Value} {B : Nat → Nat} {k m : Int} {w : World} {j : Nat} {wr : World} (h : MarkAtJ ts b off V B k w j wr) (hj : j < ts.length) :
    RdI (· = B j) (markCellsJ b off j m wr) (V j) (ts.getD j oj0).2.2 ∧ ((ts.getD j oj0).2.2 ≠ [] → ∀ o, (markCellsJ b off j m wr).frozen? ⟨B j, o, none⟩ = false) :=
  ⟨(h.todo j (Nat.le_refl _) hj).wr (markCellsJ_wr b off j m wr) (fun hn x hx e => (h.free j hj hn).1 (hx ▸ e)), fun hn o => by unfold markCellsJ; rw [World.frozen?_setCell, World.frozen?_setCell]; exact (h.free j hj hn).2.1 o⟩

theorem MarkAtJ.step {ts : List Oj} {b off : Nat} {V : Nat → Value} {B : Nat → Nat} {k : Int} {w : World} {j : Nat} {wr w' : World}
    (h : MarkAtJ ts b off V B k w j wr) (hj : j < ts.length) (h1 : RdI (· = B j) w' (V j) (mkI (k + (totJ ts j : Int) + 1 + 1) (ts.getD j oj0).2.2.length))
    (h2 : Wr (fun x => x = B j ∧ (ts.getD j oj0).2.2 ≠ []) (markCellsJ b off j (k + (totJ ts j : Int)) wr) w') :
    MarkAtJ ts b off V B k w (j + 1) w' := by
  have hmc := markCellsJ_wr b off j (k + (totJ ts j : Int)) wr
  obtain ⟨x0, hx0⟩ := h.th0 j hj
  obtain ⟨x1, hx1⟩ := h.th1 j hj
  have hbl : b < wr.heap.size := World.block_lt_of_cell? _ _ hx0
  have hsz : (markCellsJ b off j (k + (totJ ts j : Int)) wr).heap.size = wr.heap.size := by simp [markCellsJ]
  have keepb : ∀ o v, (markCellsJ b off j (k + (totJ ts j : Int)) wr).cell? ⟨b, o, none⟩ = some v → w'.cell? ⟨b, o, none⟩ = some v := by
    intro o v hv
    rw [h2.cell (World.block_lt_of_cell? _ _ hv) (by rintro ⟨e, hne'⟩; exact (h.free j hj hne').1 e.symm)]
    exact hv
  have setb : ∀ o v, o ≠ off + j * 3 → o ≠ off + j * 3 + 1 → wr.cell? ⟨b, o, none⟩ = some v → w'.cell? ⟨b, o, none⟩ = some v := by
    intro o v ho ho1 hv
    refine keepb o v ?_
    unfold markCellsJ
    rw [World.cell?_setCell_other _ _ _ _ (by intro e; exact ho1 (congrArg Addr.off e).symm), World.cell?_setCell_other _ _ _ _ (by intro e; exact ho (congrArg Addr.off e).symm)]
    exact hv
  have seta : w'.cell? ⟨b, off + j * 3, none⟩ = some (.int .i64 (mJ (k + (totJ ts j : Int)))) := by
    refine keepb _ _ ?_
    unfold markCellsJ
    rw [World.cell?_setCell_other _ _ _ _ (by intro e; have := congrArg Addr.off e; simp at this)]
    exact World.cell?_setCell_same _ _ _ hx0
  have setn : w'.cell? ⟨b, off + j * 3 + 1, none⟩ = some (.int .i64 (k + (totJ ts j : Int) + 1)) := by
    refine keepb _ _ ?_
    unfold markCellsJ
    exact World.cell?_setCell_same _ _ _ ((World.cell?_setCell_other _ _ _ _ (by intro e; have := congrArg Addr.off e; simp at this)).trans hx1)
  have other : ∀ i, i < ts.length → i ≠ j → ∀ {xs : List Int}, (xs ≠ [] → (ts.getD i oj0).2.2 ≠ []) → RdI (· = B i) wr (V i) xs → RdI (· = B i) w' (V i) xs := by
    intro i hi hij xs hxs hr
    have hr' := hr.wr hmc (fun hn x hx e => (h.free i hi (hxs hn)).1 (hx ▸ e))
    exact hr'.wr h2 (fun hn x hx => by rintro ⟨e, hne'⟩; exact hij ((h.free j hj hne').2.2 i hi (hxs hn) (hx.symm.trans e)))
  refine ⟨fun i hi => setb _ _ (by omega) (by omega) (h.cell i hi), fun i hi => ?_, fun i hi => ?_, fun i hi hi' => ?_, fun i hi hi' => ?_, fun i hi hi' => ?_, fun i hi hi' => other i hi' (by omega) id (h.todo i (by omega) hi'), fun o => ?_, fun i hi hne => ?_, ?_⟩
  · by_cases e : i = j
    · subst e; exact ⟨_, seta⟩
    · obtain ⟨x, hx⟩ := h.th0 i hi
      exact ⟨x, setb _ _ (by omega) (by omega) hx⟩
  · by_cases e : i = j
    · subst e; exact ⟨_, setn⟩
    · obtain ⟨x, hx⟩ := h.th1 i hi
      exact ⟨x, setb _ _ (by omega) (by omega) hx⟩
  · by_cases e : i = j
    · subst e; exact seta
    · exact setb _ _ (by omega) (by omega) (h.flg i (by omega) hi')
  · by_cases e : i = j
    · subst e; exact setn
    · exact setb _ _ (by omega) (by omega) (h.num i (by omega) hi')
  · by_cases e : i = j
    · subst e; exact h1
    · exact other i hi' e (fun hne => by rw [mkI_ne] at hne; intro e0; rw [e0] at hne; exact hne rfl) (h.done i (by omega) hi')
  · rw [h2.frz _ _ (by rw [hsz]; exact hbl), hmc.frz _ _ hbl]; exact h.own o
  · obtain ⟨f1, f2, f3⟩ := h.free i hi hne
    refine ⟨f1, fun o => ?_, f3⟩
    have hlt : B i < wr.heap.size := by
      by_cases e : i < j
      · obtain ⟨b', hb, hl⟩ := (h.done i e hi).lt (mkI_ne.2 (fun e0 => hne (List.eq_nil_of_length_eq_zero e0)))
        exact hb ▸ hl
      · obtain ⟨b', hb, hl⟩ := (h.todo i (by omega) hi).lt hne
        exact hb ▸ hl
    rw [h2.frz _ _ (by rw [hsz]; exact hlt), hmc.frz _ _ hlt]; exact f2 o
  · exact (h.wr.trans (hmc.mono fun x e => Or.inl e)).trans (h2.mono fun x ⟨e, hne⟩ => Or.inr ⟨j, hj, hne, e⟩)

end Go.Proofs.YtcmdgnemkjfckaaGreatDoor
/- The laws' helpers over Entry. Made by program (genen.py). -/
namespace Go.Proofs.YtcmdgnemkjfckaaGreatDoor
open Go.RowKit

set_option maxHeartbeats 1000000 in
set_option maxRecDepth 4000 in
theorem toEntry {S : Nat → Prop} {w : World} {y : Value} {xs : List Int} (a0 a1 : Int) (hy : RdI S w y xs) (hm : xs.length ≤ 1048576) :
    Calls Tryz.prog 56 #[.agg #[.int .i64 a0, .int .i64 a1, y]] w fun e w' => ∃ z, e = .returned (.agg #[.int .i64 a0, .int .i64 a1, z]) ∧ Below w.heap.size w w' ∧ OwI w.heap.size w' z xs := by
  have HY := hide hy
  obtain ⟨ay, cy, rfl⟩ := hy.shape
  clear hy
  go_enter Tryz.func56, Tryz.ntmps56
  go_wp2_with fail
  refine (toI' (((HY.out.later (below_alloc _ _)).later (below_alloc _ _)).later (below_alloc _ _)) hm).mono ?_
  rintro e w1 ⟨z, rfl, hb, ho⟩
  obtain ⟨az, cz, rfl⟩ := ho.shape
  obtain ⟨l, hl⟩ : ∃ l, xs.length = l := ⟨_, rfl⟩
  rw [hl] at ho ⊢
  have v0 : w1.cell? ⟨w.heap.size + 1, 0, none⟩ = some (.int .i64 0) := cell_later hb (by simp [go_sem])
  have f0 : w1.frozen? ⟨w.heap.size + 1, 0, none⟩ = false := ((bcell hb).2 _ _ (by simp)).trans (by simp [go_sem])
  have o0 : w1.cell? ⟨w.heap.size + 2, 0, none⟩ = some (.int .i64 a0) := cell_later hb (by simp [go_sem])
  have g0 : w1.frozen? ⟨w.heap.size + 2, 0, none⟩ = false := ((bcell hb).2 _ _ (by simp)).trans (by simp [go_sem])
  have v1 : w1.cell? ⟨w.heap.size + 1, 1, none⟩ = some (.int .i64 0) := cell_later hb (by simp [go_sem])
  have f1 : w1.frozen? ⟨w.heap.size + 1, 1, none⟩ = false := ((bcell hb).2 _ _ (by simp)).trans (by simp [go_sem])
  have o1 : w1.cell? ⟨w.heap.size + 2, 1, none⟩ = some (.int .i64 a1) := cell_later hb (by simp [go_sem])
  have g1 : w1.frozen? ⟨w.heap.size + 2, 1, none⟩ = false := ((bcell hb).2 _ _ (by simp)).trans (by simp [go_sem])
  have v2 : w1.cell? ⟨w.heap.size + 1, 2, none⟩ = some (.slice none 0 0) := cell_later hb (by simp [go_sem])
  have f2 : w1.frozen? ⟨w.heap.size + 1, 2, none⟩ = false := ((bcell hb).2 _ _ (by simp)).trans (by simp [go_sem])
  have o2 : w1.cell? ⟨w.heap.size + 2, 2, none⟩ = some (.slice none 0 0) := cell_later hb (by simp [go_sem])
  have g2 : w1.frozen? ⟨w.heap.size + 2, 2, none⟩ = false := ((bcell hb).2 _ _ (by simp)).trans (by simp [go_sem])
  have HB := hide (below_on (below_on (below_on (below_alloc _ _) (below_alloc _ _)) (below_alloc _ _)) hb)
  have HO := hide ho
  clear hb ho
  go_wp2
  refine bodyPost_ret (v := .agg #[.int .i64 a0, .int .i64 a1, .slice az l cz]) (by simp [results, Tryz.results56, go_sem, v0, v1, v2]) rfl ⟨_, rfl, ?_, ?_⟩
  · repeat (first | refine Below.setCell ?_ (by first | (simp; done) | (simp; omega) | omega) _ | exact HB.out)
  · refine OwI.mono (OwI.wr HO.out (T := fun b => b < w.heap.size + 3) ?_ (fun b hb _ => by simp at hb; omega)) (by simp; omega)
    repeat (first | refine Wr.setCell ?_ (by first | (simp; done) | (simp; omega) | omega) _ | exact Wr.refl _ _)

set_option maxRecDepth 4000 in
theorem szEntry {S : Nat → Prop} {w : World} {y : Value} {xs : List Int} {left : Int} (a0 a1 : Int) (hy : RdI S w y xs) (h0 : 0 ≤ left) (h1 : left ≤ 1048576) :
    Calls Tryz.prog 44 #[.agg #[.int .i64 a0, .int .i64 a1, y], .int .i64 left] w fun e w' => e = .returned (.int .i64 (szv left (xs.length : Int))) ∧ Below w.heap.size w w' := by
  have HY := hide hy
  obtain ⟨ay, cy, rfl⟩ := hy.shape
  clear hy
  obtain ⟨l, hl⟩ : ∃ l, xs.length = l := ⟨_, rfl⟩
  have HL := hide hl
  rw [hl] at HY ⊢
  clear hl
  by_cases h : (l : Int) ≤ left
  · have HZ := hide (szv_yes h)
    rw [HZ.out]
    have hnn : 0 ≤ left - (l : Int) := by omega
    go_enter Tryz.func44, Tryz.ntmps44
    go_wp2_with fail
    refine (szI' (HY.out.later (below_alloc _ _)) HL.out h0 h1).mono ?_
    rintro e w1 ⟨he, hb⟩
    rw [HZ.out] at he
    subst he
    have HB := hide (below_on (below_alloc _ _) hb)
    clear hb
    go_wp2
    go_ret
    exact ⟨rfl, HB.out⟩
  · have HZ := hide (szv_no (left := left) (s := (l : Int)) (by omega))
    have hneg : ¬ (0 : Int) ≤ -1 := by decide
    rw [HZ.out]
    go_enter Tryz.func44, Tryz.ntmps44
    go_wp2_with fail
    refine (szI' (HY.out.later (below_alloc _ _)) HL.out h0 h1).mono ?_
    rintro e w1 ⟨he, hb⟩
    rw [HZ.out] at he
    subst he
    have HB := hide (below_on (below_alloc _ _) hb)
    clear hb
    go_wp2
    go_ret
    exact ⟨rfl, HB.out⟩

set_option maxRecDepth 4000 in
theorem eqEntry {S T : Nat → Prop} {w : World} {y z : Value} {xs : List Int} (a0 a1 : Int) (hy : RdI S w y xs) (hz : RdI T w z xs) :
    Calls Tryz.prog 64 #[.agg #[.int .i64 a0, .int .i64 a1, y], .agg #[.int .i64 a0, .int .i64 a1, z]] w fun e w' => e = .returned (.bool true) ∧ Below w.heap.size w w' := by
  have HY := hide hy
  have HZ := hide hz
  obtain ⟨ay, cy, rfl⟩ := hy.shape
  obtain ⟨az, cz, rfl⟩ := hz.shape
  clear hy hz
  go_enter Tryz.func64, Tryz.ntmps64
  go_wp2_with fail
  refine (eqI' ((HY.out.later (below_alloc _ _)).later (below_alloc _ _)) ((HZ.out.later (below_alloc _ _)).later (below_alloc _ _))).mono ?_
  rintro e w1 ⟨rfl, hb⟩
  have HB := hide (below_on (below_on (below_alloc _ _) (below_alloc _ _)) hb)
  clear hb
  go_wp2
  go_ret
  exact ⟨rfl, HB.out⟩

end Go.Proofs.YtcmdgnemkjfckaaGreatDoor
