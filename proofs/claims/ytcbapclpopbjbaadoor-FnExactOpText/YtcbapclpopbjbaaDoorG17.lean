/- Tx0 Tx1 in one text: what each says stands at its head below. -/
import Derived.Test.YtcbapclpopbjbaaDoorG01
import Derived.Lib.Join
import Derived.Lib.ItoaNum
import Derived.Lib.Split
import Derived.Deep.RegionWith
import Derived.Lib.SlBytesRow
/- Numbers, lists and lines as texts: the mathematics. -/
namespace Go.Proofs.YtcbapclpopbjbaaDoor
open Go.RowKit

abbrev str (l : List UInt8) : ByteArray := ⟨l.toArray⟩
theorem str_app (a b : List UInt8) : str a ++ str b = str (a ++ b) := ByteArray.mk_append_mk a b
theorem str_size (a : List UInt8) : (str a).size = a.length := by show a.toArray.size = _; simp
theorem str_data (a : List UInt8) : (str a).data.toList = a := by simp
/-- What a concatenation leaves, in every world. -/
theorem catR (a b c : List UInt8) (h : a ++ b = c) (hs : c.length ≤ 1000000000000) (W : World) : (Op.stringOp .add (str a) (str b)).run Tryd.prog W = .ok (.string (str c)) W := by
  rw [run_string_add_sum W (str a) (str b) (by rw [str_size, str_size, ← List.length_append, h]; omega), str_app, h]
theorem dig_len : ∀ (k n : Nat), n < 10 ^ (k + 1) → (Lib.decDigits n).length ≤ k + 1
  | 0, n, h => by rw [Lib.decDigits, dif_pos (by simpa using h)]; simp
  | k + 1, n, h => by
    rw [Lib.decDigits]
    split
    · simp
    · have := dig_len k (n / 10) (by rw [Nat.pow_succ] at h; omega)
      simp; omega
def NumsOk (xs : List Int) : Prop := ∀ x ∈ xs, 0 ≤ x ∧ x ≤ 9223372036854775807
theorem itoa_nat (n : Nat) : Lib.itoa (n : Int) = Lib.decDigits n := by rw [Lib.itoa, if_neg (by omega)]; rfl
theorem itoa_len {x : Int} (h0 : 0 ≤ x) (h1 : x ≤ 9223372036854775807) : (Lib.itoa x).length ≤ 19 := by
  obtain ⟨n, rfl⟩ : ∃ n : Nat, x = n := ⟨x.toNat, by omega⟩
  rw [itoa_nat]
  exact dig_len 18 n (by omega)
def tailT (c : UInt8) (xs : List Int) : List UInt8 := xs.flatMap fun x => c :: Lib.itoa x
/-- A word, and numbers behind it, each behind a blank. -/
def lineT (word : List UInt8) (xs : List Int) : List UInt8 := word ++ tailT 32 xs
/-- A list. -/
def listT : List Int → List UInt8
  | [] => [45]
  | x :: r => Lib.itoa x ++ tailT 44 r
theorem tailT_len (c : UInt8) : ∀ (xs : List Int), NumsOk xs → (tailT c xs).length ≤ 20 * xs.length
  | [], _ => by simp [tailT]
  | x :: r, h => by
    have h1 := itoa_len (h x List.mem_cons_self).1 (h x List.mem_cons_self).2
    have h2 := tailT_len c r fun y hy => h y (List.mem_cons_of_mem _ hy)
    simp only [tailT, List.flatMap_cons, List.length_append, List.length_cons] at h2 ⊢
    omega
theorem tailT_snoc (c : UInt8) (xs : List Int) (x : Int) : tailT c (xs ++ [x]) = tailT c xs ++ c :: Lib.itoa x := by simp [tailT]
theorem lineT_len {word : List UInt8} {xs : List Int} (h : NumsOk xs) : (lineT word xs).length ≤ word.length + 20 * xs.length := by
  have := tailT_len 32 xs h
  rw [lineT, List.length_append]; omega
theorem listT_len {xs : List Int} (h : NumsOk xs) : (listT xs).length ≤ 20 * xs.length + 1 := by
  cases xs with
  | nil => simp [listT]
  | cons x r =>
    have h1 := itoa_len (h x List.mem_cons_self).1 (h x List.mem_cons_self).2
    have h2 := tailT_len 44 r fun y hy => h y (List.mem_cons_of_mem _ hy)
    simp only [listT, List.length_append, List.length_cons]
    omega
theorem join_tail (c : UInt8) (x : Int) (r : List Int) : Lib.join ((x :: r).map Lib.itoa) [c] = Lib.itoa x ++ tailT c r := by
  rw [List.map_cons, Lib.join_cons]
  congr 1
  induction r with
  | nil => rfl
  | cons y r ih =>
    simp only [Lib.joinTail, List.map_cons, List.flatten_cons, tailT, List.flatMap_cons] at ih ⊢
    rw [ih]
    rfl
theorem join_line (name : List UInt8) (x : Int) (r : List Int) : (name ++ [32]) ++ Lib.join ((x :: r).map Lib.itoa) [32] = lineT name (x :: r) := by
  rw [join_tail, lineT]
  simp [tailT]
theorem take_tail (c : UInt8) (xs : List Int) (k : Nat) (h : k < xs.length) : tailT c (xs.take (k + 1)) = tailT c (xs.take k) ++ c :: Lib.itoa (xs.getD k 0) := by
  rw [List.take_succ_eq_append_getElem h, tailT_snoc]
  simp [List.getD, h]
/-- Lines, each ended by a line feed. -/
def linesT (ls : List (List UInt8)) : List UInt8 := ls.flatMap (· ++ [10])
theorem join_lines (l : List UInt8) (ls : List (List UInt8)) : Lib.join (l :: ls) [10] ++ [10] = linesT (l :: ls) := by
  rw [Lib.join_cons, List.append_assoc]
  have e : ∀ ls : List (List UInt8), Lib.joinTail [10] ls ++ [10] = 10 :: linesT ls := by
    intro ls
    induction ls with
    | nil => rfl
    | cons a r ih =>
      simp only [Lib.joinTail, List.map_cons, List.flatten_cons, linesT, List.flatMap_cons] at ih ⊢
      rw [List.append_assoc, ih]
      simp
  rw [e]
  simp [linesT]
end Go.Proofs.YtcbapclpopbjbaaDoor
/- Numbers as texts: the model ('spec.l16Digits', 'spec.l16List', 'spec.l16Line'). -/
namespace Go.Proofs.YtcbapclpopbjbaaDoor
open Go.RowKit

theorem byteText (W : World) (g : Nat) (x : Nat) (h : W.cell? ⟨g, 0, none⟩ = some (.int .u8 (x : Int))) :
    (convert 97 9 (.slice (some ⟨g, 0, none⟩) 1 1)).run Tryd.prog W = .ok (.string (str [UInt8.ofNat x])) W := by
  have k := run_convert_bytes_arg (P := Tryd.prog) W 97 5 Tryd.underlying97 Tryd.underlying5 g 0 1 1 [(x : Int)] rfl (fun i hi => by
      obtain rfl : i = 0 := by omega
      exact h) 9 Tryd.underlying9
  rw [k]
  rfl

set_option maxRecDepth 4000 in
set_option maxHeartbeats 1000000 in
/-- 'spec.l16Digits'. -/
theorem specDigits : ∀ (n : Nat) (w : World), n ≤ 9223372036854775807 →
    Calls Tryd.prog 75 #[.int .i64 n] w fun e w' => e = .returned (.string (str (Lib.decDigits n))) ∧ Below w.heap.size w w' := by
  intro n
  induction n using Nat.strongRecOn with
  | _ n ih =>
    intro w hn
    by_cases hs : n < 10
    · have hw8 : IntKind.u8.wrap (48 + (n : Int)) = ((48 + n : Nat) : Int) := by simp [IntKind.wrap, IntKind.bits, IntKind.signed]; omega
      have kc := byteText (w.alloc (.cells #[.int .u8 ((48 + n : Nat) : Int)] 5)) w.heap.size (48 + n) (by simp [go_sem])
      have hd : Lib.decDigits n = [UInt8.ofNat (48 + n)] := by rw [Lib.decDigits, dif_pos hs]
      rw [hd]
      clear ih
      obtain ⟨m, hm⟩ : ∃ m, 48 + n = m := ⟨_, rfl⟩
      rw [hm] at hw8 kc ⊢
      go_enter Tryd.func75, Tryd.ntmps75
      go_wp2
      go_ret
      exact ⟨rfl, below_alloc _ _⟩
    · have hw8 : IntKind.u8.wrap (48 + ((n % 10 : Nat) : Int)) = ((48 + n % 10 : Nat) : Int) := by simp [IntKind.wrap, IntKind.bits, IntKind.signed]; omega
      have hd : Lib.decDigits (n / 10) ++ [UInt8.ofNat (48 + n % 10)] = Lib.decDigits n := by conv => rhs; rw [Lib.decDigits, dif_neg hs]
      have hq : (n : Int).tdiv 10 = ((n / 10 : Nat) : Int) := by rw [Int.tdiv_eq_ediv_of_nonneg (by omega)]; omega
      have hr : (n : Int).tmod 10 = ((n % 10 : Nat) : Int) := by rw [Int.tmod_eq_emod_of_nonneg (by omega)]; omega
      have hln : (Lib.decDigits n).length ≤ 1000000000000 := by have := dig_len 18 n (by omega); omega
      have HI := hide (fun w => ih (n / 10) (by omega) w (by omega))
      clear ih
      obtain ⟨q, hqq⟩ : ∃ q, n / 10 = q := ⟨_, rfl⟩
      obtain ⟨m, hm⟩ : ∃ m, 48 + n % 10 = m := ⟨_, rfl⟩
      obtain ⟨r, hrr⟩ : ∃ r, n % 10 = r := ⟨_, rfl⟩
      have hq1 : q ≤ 9223372036854775807 := by omega
      have hr1 : r ≤ 9 := by omega
      have hn10 : ¬ (n : Int) < 10 := by omega
      rw [hm] at hw8 hd
      rw [hqq] at hq HI hd
      rw [hrr] at hr hw8
      have hwq : IntKind.i64.wrap (q : Int) = (q : Int) := by simp [IntKind.wrap, IntKind.bits, IntKind.signed]; omega
      have hwr : IntKind.i64.wrap (48 + (r : Int)) = 48 + (r : Int) := by simp [IntKind.wrap, IntKind.bits, IntKind.signed]; omega
      have kc : ∀ (W : World) (g : Nat), W.cell? ⟨g, 0, none⟩ = some (.int .u8 (m : Int)) → (convert 97 9 (.slice (some ⟨g, 0, none⟩) 1 1)).run Tryd.prog W = .ok (.string (str [UInt8.ofNat m])) W := fun W g h => byteText W g m h
      have cat := catR (Lib.decDigits q) [UInt8.ofNat m] (Lib.decDigits n) hd hln
      clear hm hqq hrr hd hs
      have cm : (w.drew.alloc (.cells #[.int .u8 (m : Int)] 5)).cell? ⟨w.heap.size, 0, none⟩ = some (.int .u8 (m : Int)) := by simp [go_sem]
      go_enter Tryd.func75, Tryd.ntmps75
      go_wp2_with fail
      go_region_with (first | (go_at_call 75; refine (HI.out (w.drew.alloc (.cells #[.int .u8 (m : Int)] 5))).mono ?_; rintro e w1 ⟨he, hb⟩; subst he; have c1 := cell_later hb cm; have HB1 := hide hb; clear hb) | (go_at_call 75; refine (HI.out _).mono ?_; rintro e w1 ⟨he, hb⟩; subst he; have HB1 := hide hb; clear hb))
      all_goals go_wp2
      all_goals go_ret
      all_goals first | exact ⟨rfl, below_on (below_on (below_drewN _ 1) HB1.out) (below_alloc _ _)⟩ | exact ⟨rfl, below_on (below_on (below_drewN _ 1) (below_alloc _ _)) HB1.out⟩
end Go.Proofs.YtcbapclpopbjbaaDoor
