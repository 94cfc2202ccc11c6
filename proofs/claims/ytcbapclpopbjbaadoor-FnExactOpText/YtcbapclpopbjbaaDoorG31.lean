/- Ws1 in one text: what each says stands at its head below. -/
import Derived.Test.YtcbapclpopbjbaaDoorG05
import Derived.Lib.SlBytesRow
/- Rows of strings: readings of them, and the walks of the laws' functions over them. -/
namespace Go.Proofs.YtcbapclpopbjbaaDoor
open Go.RowKit

abbrev emS : ByteArray := ByteArray.empty
/-- The slice value v reads as the strings xs, all of them in blocks of S. -/
def RdS (S : Nat → Prop) (w : World) (v : Value) (xs : List ByteArray) : Prop :=
  ∃ (ao : Option Addr) (c : Nat), v = .slice ao xs.length c ∧ xs.length ≤ 9223372036854775807 ∧
    (xs ≠ [] → ∃ b off, ao = some ⟨b, off, none⟩ ∧ S b ∧ ∀ i, i < xs.length → w.cell? ⟨b, off + i, none⟩ = some (.string (xs.getD i emS)))
theorem RdS.shape {S : Nat → Prop} {w : World} {v : Value} {xs : List ByteArray} (h : RdS S w v xs) : ∃ ao c, v = .slice ao xs.length c := by
  obtain ⟨ao, c, h1, _⟩ := h
  exact ⟨ao, _, h1⟩
theorem RdS.wr {S T : Nat → Prop} {w w' : World} {v : Value} {xs : List ByteArray} (h : RdS S w v xs) (hw : Wr T w w') (hd : xs ≠ [] → ∀ b, S b → ¬ T b) : RdS S w' v xs := by
  obtain ⟨ao, c, h1, h2, h3⟩ := h
  refine ⟨ao, c, h1, h2, fun hne => ?_⟩
  obtain ⟨b, off, e, hs, hc⟩ := h3 hne
  exact ⟨b, off, e, hs, fun i hi => cell_wr hw (hc i hi) (hd hne b hs)⟩
theorem RdS.later {S : Nat → Prop} {w w' : World} {v : Value} {xs : List ByteArray} (h : RdS S w v xs) (hb : Below w.heap.size w w') : RdS S w' v xs :=
  h.wr (Wr.of_below hb fun _ => False) fun _ _ _ => id
theorem RdS.narrow {S T : Nat → Prop} {w : World} {v : Value} {xs : List ByteArray} (h : RdS S w v xs) (hT : xs ≠ [] → ∀ b, S b → T b) : RdS T w v xs := by
  obtain ⟨ao, c, h1, h2, h3⟩ := h
  refine ⟨ao, c, h1, h2, fun hne => ?_⟩
  obtain ⟨b, off, e, hb, hc⟩ := h3 hne
  exact ⟨b, off, e, hT hne b hb, hc⟩
/-- Strings in one block of [lo, hi), not frozen. -/
def IvS (lo hi : Nat) (w : World) (v : Value) (xs : List ByteArray) : Prop :=
  ∃ b, RdS (· = b) w v xs ∧ (xs ≠ [] → lo ≤ b ∧ b < hi ∧ b < w.heap.size ∧ ∀ o, w.frozen? ⟨b, o, none⟩ = false)
theorem IvS.wr {lo hi : Nat} {T : Nat → Prop} {w w' : World} {v : Value} {xs : List ByteArray} (h : IvS lo hi w v xs) (hw : Wr T w w') (hd : ∀ b, lo ≤ b → b < hi → ¬ T b) : IvS lo hi w' v xs := by
  obtain ⟨b, h1, h2⟩ := h
  refine ⟨b, h1.wr hw (fun hne x hx => by subst hx; exact hd _ (h2 hne).1 (h2 hne).2.1), fun hne => ?_⟩
  obtain ⟨k1, k2, k3, k4⟩ := h2 hne
  exact ⟨k1, k2, Nat.lt_of_lt_of_le k3 hw.size, fun o => by rw [hw.frz _ _ k3]; exact k4 o⟩
theorem IvS.later {lo hi : Nat} {w w' : World} {v : Value} {xs : List ByteArray} (h : IvS lo hi w v xs) (hb : Below w.heap.size w w') : IvS lo hi w' v xs :=
  h.wr (Wr.of_below hb fun _ => False) fun _ _ _ => id
theorem IvS.rd {lo hi : Nat} {w : World} {v : Value} {xs : List ByteArray} (h : IvS lo hi w v xs) : RdS (fun b => lo ≤ b ∧ b < hi) w v xs := by
  obtain ⟨b, h1, h2⟩ := h
  exact h1.narrow fun hne x hx => hx ▸ ⟨(h2 hne).1, (h2 hne).2.1⟩
theorem IvS.mono {lo hi lo' hi' : Nat} {w : World} {v : Value} {xs : List ByteArray} (h : IvS lo hi w v xs) (h1 : lo' ≤ lo) (h2 : hi ≤ hi') : IvS lo' hi' w v xs := by
  obtain ⟨b, k1, k2⟩ := h
  exact ⟨b, k1, fun hne => by obtain ⟨q1, q2, q3, q4⟩ := k2 hne; exact ⟨by omega, by omega, q3, q4⟩⟩
/-- What append has built of strings. -/
theorem ivS_of_owns {w : World} {B t n : Nat} {v : Value} {xs : List ByteArray} (hn : xs.length = n) (h : w.ownsRow B t 1 v n (xs.map Value.string)) (hm : xs.length ≤ 9223372036854775807) : IvS B w.heap.size w v xs := by
  subst hn
  rcases h.2 with ⟨rfl, e⟩ | ⟨g, cap, cur, rfl, hg, hh, hnc, _⟩
  · have : xs = [] := List.eq_nil_of_length_eq_zero e
    subst this
    exact ⟨0, ⟨none, 0, rfl, by simp, fun h => absurd rfl h⟩, fun h => absurd rfl h⟩
  · refine ⟨g, ⟨_, cap, rfl, hm, fun _ => ⟨g, 0, rfl, rfl, fun i hi => ?_⟩⟩, fun _ => ⟨hg, (Array.getElem?_eq_some_iff.1 hh).1, (Array.getElem?_eq_some_iff.1 hh).1, fun o => h.frozenAt o⟩⟩
    rw [Nat.zero_add, h.cellAt i (by simpa using hi)]
    simp [List.getD, hi]

theorem eqS_cells (X : Nat → ByteArray) (n b off c b' off' c' : Nat) (w : World) (hm : n ≤ 9223372036854775807)
    (hx : ∀ i, i < n → w.cell? ⟨b, off + i, none⟩ = some (.string (X i)))
    (hy : ∀ i, i < n → w.cell? ⟨b', off' + i, none⟩ = some (.string (X i))) :
    Calls Tryd.prog 25 #[.slice (some ⟨b, off, none⟩) n c, .slice (some ⟨b', off', none⟩) n c'] w fun e w' =>
      e = .returned (.bool true) ∧ ∃ q, w' = w.drewN q := by
  go_enter Tryd.func25, Tryd.ntmps25
  go_wp2
  go_loopw [5] (fun i wr => ∃ k q : Nat, k ≤ n ∧ i = .int .i64 k ∧ wr = w.drewN q) (fun i _ => n - (intOf i).toNat)
  case atStart => exact ⟨0, 0, Nat.zero_le _, rfl, rfl⟩
  case round =>
    obtain ⟨k, q, hk, rfl, rfl⟩ := hrel
    by_cases hlt : k < n
    · have g1 := hx k hlt
      have g2 := hy k hlt
      go_wp2
      go_quiet (fail)
      go_wp2
      go_roundw
      case rel => exact ⟨k + 1, _, by omega, by go_num, rfl⟩
      case measure => simp [intOf]; omega
    · go_wp2
      go_ret
      exact ⟨rfl, _, rfl⟩
theorem eqS_none (ao ao' : Option Addr) (c c' : Nat) (w : World) :
    Calls Tryd.prog 25 #[.slice ao 0 c, .slice ao' 0 c'] w fun e w' => e = .returned (.bool true) ∧ ∃ q, w' = w.drewN q := by
  go_enter Tryd.func25, Tryd.ntmps25
  go_wp2
  go_loopw [5] (fun i wr => i = .int .i64 0 ∧ wr = w) (fun _ _ => 0)
  case atStart => exact ⟨rfl, rfl⟩
  case round =>
    obtain ⟨rfl, rfl⟩ := hrel
    go_wp2
    go_ret
    exact ⟨rfl, 0, rfl⟩
/-- 'eqStringS' of two readings of one list. -/
theorem eqS {S T : Nat → Prop} {w : World} {u v : Value} {xs : List ByteArray} (hu : RdS S w u xs) (hv : RdS T w v xs) :
    Calls Tryd.prog 25 #[u, v] w fun e w' => e = .returned (.bool true) ∧ ∃ q, w' = w.drewN q := by
  obtain ⟨ao, c, rfl, hm, h⟩ := hu
  obtain ⟨ao', c', rfl, _, h'⟩ := hv
  cases xs with
  | nil => exact eqS_none _ _ _ _ _
  | cons x xs =>
    obtain ⟨b, off, rfl, _, hc⟩ := h (by simp)
    obtain ⟨b', off', rfl, _, hc'⟩ := h' (by simp)
    exact eqS_cells (fun i => (x :: xs).getD i emS) _ _ _ _ _ _ _ _ hm hc hc'

/-- The text of a mark. -/
def mtG (r : Nat) (acc : ByteArray) : ByteArray := if r = 0 then acc else mtG (r / 10) (strOfNums [48 + ((r % 10 : Nat) : Int)] ++ acc)
termination_by r
decreasing_by omega
def mtS (k : Nat) : ByteArray := { data := #[109] } ++ mtG k emS
theorem markText (k : Nat) (w : World) (h1 : 1 ≤ k) (hk : k ≤ 9223372036854775806) :
    Calls Tryd.prog 48 #[.int .i64 k] w fun e w' => e = .returned (.string (mtS k)) ∧ Below w.heap.size w w' := by
  have kc : ∀ (W : World) (x : Int), (convert 97 9 (.slice (some ⟨W.heap.size, 0, none⟩) 1 1)).run Tryd.prog (W.alloc (.cells #[.int .u8 x] 5)) = .ok (.string (strOfNums [x])) (W.alloc (.cells #[.int .u8 x] 5)) := fun W x =>
    run_convert_bytes_arg (P := Tryd.prog) _ 97 5 Tryd.underlying97 Tryd.underlying5 W.heap.size 0 1 1 [x] rfl (fun i hi => by
      obtain rfl : i = 0 := by omega
      simp [go_sem]) 9 Tryd.underlying9
  obtain ⟨F, hF⟩ : ∃ F, mtG k emS = F := ⟨_, rfl⟩
  have HF := hide hF
  clear hF
  go_enter Tryd.func48, Tryd.ntmps48
  go_wp2
  go_loopw [0, 3] (fun r a wr => ∃ (j : Nat) (acc : ByteArray), j ≤ k ∧ r = .int .i64 j ∧ a = .string acc ∧ acc.size + j ≤ k ∧ Hid (mtG j acc = F) ∧ Hid (Below w.heap.size w wr)) (fun r _ _ => (intOf r).toNat)
  case atStart => exact ⟨k, _, Nat.le_refl _, rfl, rfl, by show 0 + k ≤ k; omega, HF.out, Below.refl _ _⟩
  case round =>
    obtain ⟨j, acc, hj, rfl, rfl, hsz, HG, HB⟩ := hrel
    by_cases hlt : 0 < j
    · have hq : ((j : Int).tdiv 10) = ((j / 10 : Nat) : Int) := by rw [Int.tdiv_eq_ediv_of_nonneg (by omega)]; omega
      have hr : ((j : Int).tmod 10) = ((j % 10 : Nat) : Int) := by rw [Int.tmod_eq_emod_of_nonneg (by omega)]; omega
      have hw8 : IntKind.u8.wrap (48 + ((j % 10 : Nat) : Int)) = 48 + ((j % 10 : Nat) : Int) := by simp [IntKind.wrap, IntKind.bits, IntKind.signed]; omega
      have hs1 : ∀ x : Int, (strOfNums [x]).size = 1 := fun _ => rfl
      have hno : ¬ 9223372036854775807 < (strOfNums [48 + ((j % 10 : Nat) : Int)]).size + acc.size := by rw [hs1]; omega
      have HN := hide (show mtG (j / 10) (strOfNums [48 + ((j % 10 : Nat) : Int)] ++ acc) = F by
        have h := HG.out
        rw [mtG, if_neg (by omega)] at h
        exact h)
      have HB1 := hide (below_on HB.out (below_alloc wr (.cells #[.int .u8 (48 + ((j % 10 : Nat) : Int))] 5)))
      go_wp2
      go_roundw
      case rel => exact ⟨j / 10, _, by omega, by go_num, rfl, by simp [ByteArray.size_append, hs1]; omega, unhide HN, unhide HB1⟩
      case measure => simp [intOf]; omega
    · have : j = 0 := by omega
      subst this
      have hf : acc = F := by
        have h := HG.out
        rw [mtG, if_pos rfl] at h
        exact h
      subst hf
      have hno : ¬ 9223372036854775807 < 1 + acc.size := by omega
      go_wp2
      go_ret
      exact ⟨by rw [mtS, HF.out]; rfl, HB.out⟩
end Go.Proofs.YtcbapclpopbjbaaDoor
