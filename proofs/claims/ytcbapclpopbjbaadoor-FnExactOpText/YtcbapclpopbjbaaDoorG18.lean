/- Tx2 Fp3 in one text: what each says stands at its head below. -/
import Derived.Test.YtcbapclpopbjbaaDoorG17
import Derived.Test.YtcbapclpopbjbaaDoorG06
import Derived.Test.YtcbapclpopbjbaaDoorG08
/- Lists and lines as texts: the model. -/
namespace Go.Proofs.YtcbapclpopbjbaaDoor
open Go.RowKit

theorem RdI.atT {S : Nat → Prop} {w : World} {ao : Option Addr} {n c : Nat} {xs : List Int} (h : RdI S w (.slice ao n c) xs) {k : Nat} (hk : k < xs.length) :
    ∃ b off, ao = some ⟨b, off, none⟩ ∧ w.cell? ⟨b, off + k, none⟩ = some (.int .i64 (xs.getD k 0)) := by
  obtain ⟨ao', c', e, _, h3⟩ := h
  injection e with e1 e2 e3
  subst e1
  obtain ⟨b, off, rfl, _, hc⟩ := h3 (by rintro rfl; exact absurd hk (Nat.not_lt_zero _))
  exact ⟨b, off, rfl, hc k hk⟩
theorem numsAt {xs : List Int} (h : NumsOk xs) {k : Nat} (hk : k < xs.length) : ∃ m : Nat, xs.getD k 0 = m ∧ m ≤ 9223372036854775807 := by
  have e : xs.getD k 0 = xs[k] := by simp [List.getD, hk]
  have := h _ (List.getElem_mem hk)
  exact ⟨(xs.getD k 0).toNat, by rw [e]; omega, by rw [e]; omega⟩
theorem numsTake {xs : List Int} (h : NumsOk xs) (k : Nat) : NumsOk (xs.take k) := fun x hx => h x (List.mem_of_mem_take hx)

set_option maxRecDepth 4000 in
set_option maxHeartbeats 1000000 in
/-- 'spec.l16Line'. -/
theorem specLine {S : Nat → Prop} {w : World} {v : Value} {xs : List Int} (word : List UInt8) (hv : RdI S w v xs) (hm : xs.length ≤ 1048576) (hx : NumsOk xs) (hw : word.length ≤ 1000000000) :
    Calls Tryd.prog 54 #[.string (str word), v] w fun e w' => e = .returned (.string (str (lineT word xs))) ∧ Below w.heap.size w w' := by
  obtain ⟨ao, c, rfl⟩ := hv.shape
  obtain ⟨n, hn⟩ : ∃ n, xs.length = n := ⟨_, rfl⟩
  have HV := hide hv
  have HX := hide hx
  have HN := hide hn
  rw [hn] at hm HV ⊢
  clear hv hx hn
  go_enter Tryd.func54, Tryd.ntmps54
  go_wp2
  go_loopw [0, 5] (fun t i wr => ∃ (k : Nat) (T : List UInt8), k ≤ n ∧ i = .int .i64 k ∧ t = .string (str T) ∧ Hid (T = word ++ tailT 32 (xs.take k)) ∧ Hid (Below w.heap.size w wr)) (fun _ i _ => n - (intOf i).toNat)
  case atStart => exact ⟨0, word, Nat.zero_le _, rfl, rfl, (show word = word ++ tailT 32 (xs.take 0) by simp [tailT]), Below.refl _ _⟩
  case round =>
    obtain ⟨k, T, hk, rfl, rfl, HT, HB⟩ := hrel
    by_cases hlt : k < n
    · obtain ⟨b, off, rfl, q1⟩ := HV.out.atT (k := k) (by rw [HN.out]; exact hlt)
      have g1 := cell_later HB.out q1
      obtain ⟨m, hm1, hm2⟩ := numsAt HX.out (k := k) (by rw [HN.out]; exact hlt)
      have HT2 : Hid ((T ++ [32]) ++ Lib.decDigits m = word ++ tailT 32 (xs.take (k + 1))) := by
        show _ = _
        rw [take_tail 32 xs k (by rw [HN.out]; exact hlt), hm1, itoa_nat, HT.out]
        simp
      have hl : ((T ++ [32]) ++ Lib.decDigits m).length ≤ 1000000000000 := by
        rw [HT2.out, List.length_append]
        have h1 := tailT_len 32 _ (numsTake HX.out (k + 1))
        have h2 : (xs.take (k + 1)).length ≤ xs.length := by rw [List.length_take]; exact Nat.min_le_right _ _
        have h3 := HN.out
        omega
      have hl1 : (T ++ [32]).length ≤ 1000000000000 := by rw [List.length_append] at hl; omega
      have cat1 := catR T [32] (T ++ [32]) rfl hl1
      have cat2 := catR (T ++ [32]) (Lib.decDigits m) _ rfl hl
      rw [hm1] at g1
      obtain ⟨T1, hT1⟩ : ∃ T1, T ++ [32] = T1 := ⟨_, rfl⟩
      rw [hT1] at HT2 cat1 cat2
      obtain ⟨T2, hT2⟩ : ∃ T2, T1 ++ Lib.decDigits m = T2 := ⟨_, rfl⟩
      rw [hT2] at HT2 cat2
      clear hl hl1 hT1 hT2 q1 hm1
      go_wp2_with fail
      refine (specDigits m _ hm2).mono ?_
      rintro e w1 ⟨rfl, hb⟩
      have HB1 := hide (below_on HB.out hb)
      clear hb
      go_wp2
      go_roundw
      case rel => exact ⟨k + 1, T2, by omega, by go_num, rfl, unhide HT2, unhide HB1⟩
      case measure => simp [intOf]; omega
    · have hkn : k = n := by omega
      subst hkn
      have hT : T = lineT word xs := by rw [HT.out, lineT, List.take_of_length_le (by rw [HN.out]; exact Nat.le_refl _)]
      subst hT
      go_wp2
      go_ret
      exact ⟨rfl, HB.out⟩

set_option maxRecDepth 4000 in
set_option maxHeartbeats 1000000 in
/-- 'spec.l16List'. -/
theorem specList {S : Nat → Prop} {w : World} {v : Value} {xs : List Int} (hv : RdI S w v xs) (hm : xs.length ≤ 1048576) (hx : NumsOk xs) :
    Calls Tryd.prog 55 #[v] w fun e w' => e = .returned (.string (str (listT xs))) ∧ Below w.heap.size w w' := by
  obtain ⟨ao, c, rfl⟩ := hv.shape
  cases xs with
  | nil =>
    clear hv hx
    go_enter Tryd.func55, Tryd.ntmps55
    go_wp2
    go_ret
    exact ⟨rfl, Below.refl _ _⟩
  | cons x0 xs0 =>
  obtain ⟨xs, hxs⟩ : ∃ xs, x0 :: xs0 = xs := ⟨_, rfl⟩
  obtain ⟨n, hn⟩ : ∃ n, xs.length = n := ⟨_, rfl⟩
  have hn0 : 0 < n := by rw [← hn, ← hxs]; simp
  have HL : Hid (listT (x0 :: xs0) = Lib.itoa x0 ++ tailT 44 xs0) := rfl
  have HXS := hide hxs
  rw [hxs] at hm hx hv HL ⊢
  have HV := hide hv
  have HX := hide hx
  have HN := hide hn
  rw [hn] at hm HV ⊢
  obtain ⟨b, off, rfl, q0⟩ := hv.atT (k := 0) (by rw [hn]; exact hn0)
  obtain ⟨m0, hm1, hm2⟩ := numsAt hx (k := 0) (by rw [hn]; exact hn0)
  rw [hm1, Nat.add_zero] at q0
  have HM0 : Hid (Lib.itoa x0 = Lib.decDigits m0) := by rw [Hid, ← itoa_nat, ← hm1, ← hxs]; rfl
  have hneq : ¬ ((n : Nat) : Int) = 0 := by omega
  clear hv hx hn hxs hm1
  go_enter Tryd.func55, Tryd.ntmps55
  go_wp2_with fail
  refine (specDigits m0 _ hm2).mono ?_
  rintro e w1 ⟨rfl, hb⟩
  have HB0 := hide hb
  clear hb q0
  go_wp2
  go_loopw [3, 4] (fun t i wr => ∃ (k : Nat) (T : List UInt8), 1 ≤ k ∧ k ≤ n ∧ i = .int .i64 k ∧ t = .string (str T) ∧ Hid (T = Lib.itoa x0 ++ tailT 44 (xs0.take (k - 1))) ∧ Hid (Below w.heap.size w wr)) (fun _ i _ => n - (intOf i).toNat)
  case atStart => exact ⟨1, _, Nat.le_refl _, hn0, rfl, rfl, (show _ = Lib.itoa x0 ++ tailT 44 (xs0.take 0) by rw [HM0.out]; simp [tailT]), HB0.out⟩
  case round =>
    obtain ⟨k, T, hk1, hk, rfl, rfl, HT, HB⟩ := hrel
    by_cases hlt : k < n
    · obtain ⟨b, off, e1, q1⟩ := HV.out.atT (k := k) (by rw [HN.out]; exact hlt)
      injection e1 with e1
      injection e1 with e1 e2
      subst e1
      subst e2
      have g1 := cell_later HB.out q1
      obtain ⟨m, hm1, hm2⟩ := numsAt HX.out (k := k) (by rw [HN.out]; exact hlt)
      have hl0 : xs0.length + 1 = n := by have := HN.out; rw [← HXS.out] at this; simpa using this
      have hg : xs.getD k 0 = xs0.getD (k - 1) 0 := by
        rw [← HXS.out]
        obtain ⟨j, rfl⟩ : ∃ j, k = j + 1 := ⟨k - 1, by omega⟩
        simp [List.getD]
      have hx0 : NumsOk xs0 := fun y hy => HX.out y (by rw [← HXS.out]; exact List.mem_cons_of_mem _ hy)
      have HT2 : Hid ((T ++ [44]) ++ Lib.decDigits m = Lib.itoa x0 ++ tailT 44 (xs0.take (k + 1 - 1))) := by
        show _ = _
        have e : k + 1 - 1 = (k - 1) + 1 := by omega
        rw [e, take_tail 44 xs0 (k - 1) (by omega), ← hg, hm1, itoa_nat, HT.out]
        simp
      have hl : ((T ++ [44]) ++ Lib.decDigits m).length ≤ 1000000000000 := by
        rw [HT2.out, List.length_append]
        have h0 := itoa_len (HX.out x0 (by rw [← HXS.out]; exact List.mem_cons_self)).1 (HX.out x0 (by rw [← HXS.out]; exact List.mem_cons_self)).2
        have h1 := tailT_len 44 _ (numsTake hx0 (k + 1 - 1))
        have h2 : (xs0.take (k + 1 - 1)).length ≤ xs0.length := by rw [List.length_take]; exact Nat.min_le_right _ _
        omega
      have hl1 : (T ++ [44]).length ≤ 1000000000000 := by rw [List.length_append] at hl; omega
      have cat1 := catR T [44] (T ++ [44]) rfl hl1
      have cat2 := catR (T ++ [44]) (Lib.decDigits m) _ rfl hl
      rw [hm1] at g1
      obtain ⟨T1, hT1⟩ : ∃ T1, T ++ [44] = T1 := ⟨_, rfl⟩
      rw [hT1] at HT2 cat1 cat2
      obtain ⟨T2, hT2⟩ : ∃ T2, T1 ++ Lib.decDigits m = T2 := ⟨_, rfl⟩
      rw [hT2] at HT2 cat2
      clear hl hl1 hT1 hT2 q1 hm1 hg hx0
      go_wp2_with fail
      refine (specDigits m _ hm2).mono ?_
      rintro e w1 ⟨rfl, hb⟩
      have HB1 := hide (below_on HB.out hb)
      clear hb
      go_wp2
      go_roundw
      case rel => exact ⟨k + 1, T2, by omega, by omega, by go_num, rfl, unhide HT2, unhide HB1⟩
      case measure => simp [intOf]; omega
    · have hkn : k = n := by omega
      subst hkn
      have hl0 : xs0.length + 1 = k := by have := HN.out; rw [← HXS.out] at this; simpa using this
      have hT : T = listT xs := by rw [HT.out, HL.out, List.take_of_length_le (by omega)]
      subst hT
      go_wp2
      go_ret
      exact ⟨rfl, HB.out⟩
end Go.Proofs.YtcbapclpopbjbaaDoor
/- A struct of two numbers and a list (a file, an entry) that lies somewhere in memory. -/
namespace Go.Proofs.YtcbapclpopbjbaaDoor
open Go.RowKit

/-- A file lies at the cell off of block b. -/
def RdFp (S : Nat → Prop) (w : World) (b off : Nat) (p : Oj) : Prop :=
  ∃ y, w.cell? ⟨b, off, none⟩ = some (.int .i64 p.1) ∧ w.cell? ⟨b, off + 1, none⟩ = some (.int .i64 p.2.1) ∧ w.cell? ⟨b, off + 2, none⟩ = some y ∧ RdI S w y p.2.2
theorem RdFp.later {S : Nat → Prop} {w w' : World} {b off : Nat} {p : Oj} (h : RdFp S w b off p) (hb : Below w.heap.size w w') : RdFp S w' b off p := by
  obtain ⟨y, h0, h1, h2, h3⟩ := h
  exact ⟨y, cell_later hb h0, cell_later hb h1, cell_later hb h2, h3.later hb⟩
theorem RdJ.file {S : Nat → Prop} {w : World} {ao : Option Addr} {n c : Nat} {fs : List Oj} (h : RdJ S w (.slice ao n c) fs) {k : Nat} (hk : k < fs.length) : ∃ b off, ao = some ⟨b, off, none⟩ ∧ RdFp S w b (off + k * 3) (fs.getD k oj0) := by
  obtain ⟨ao', c', e, hm, h⟩ := h
  injection e with e1 e2 e3
  obtain ⟨b, off, V, e4, _, hc⟩ := h (by rintro rfl; exact absurd hk (Nat.not_lt_zero _))
  obtain ⟨q0, q1, q2, q3⟩ := hc k hk
  exact ⟨b, off, e1.trans e4, V k, q0, q1, q2, q3⟩
theorem ret_intF {a b : Int} (h : a = b) : Ending.returned (.int .i64 a) = .returned (.int .i64 b) := by rw [h]
end Go.Proofs.YtcbapclpopbjbaaDoor
