/- TxO in one text: what each says stands at its head below. -/
import Derived.Test.YtcbapclpopbjbaaDoorG28
import Derived.Test.YtcbapclpopbjbaaDoorG29
/- The text of an operation: the mathematics, and whether a number is one that may be written. Made by program (gentxo.py). -/
namespace Go.Proofs.YtcbapclpopbjbaaDoor
open Go.RowKit

abbrev hardW : List UInt8 := [104, 97, 114, 100]
abbrev appendW : List UInt8 := [97, 112, 112, 101, 110, 100]
abbrev compactW : List UInt8 := [99, 111, 109, 112, 97, 99, 116]
abbrev installW : List UInt8 := [105, 110, 115, 116, 97, 108, 108]
abbrev readW : List UInt8 := [114, 101, 97, 100]
def smN (x : Int) : Prop := 0 ≤ x ∧ x ≤ 99999
instance (x : Int) : Decidable (smN x) := by unfold smN; infer_instance
/-- The code of an operation's text (kind tm, index vt, term si, vote st, data sn, list lg). -/
def otF (o : Rf) : Int := if opF o ≠ 0 then opF o else if o.tm = 2 ∧ o.lg.length ≠ 1 then 2 else if ¬ (smN o.vt ∧ smN o.si ∧ smN o.st) then 3 else if o.tm = 2 ∧ (o.lg.getD 0 oj0).1 ≠ o.vt + 1 then 1 else 0
theorem otF_op {o : Rf} (h : opF o ≠ 0) : otF o = opF o := by unfold otF; rw [if_pos h]
theorem otF_many {o : Rf} (h : opF o = 0) (h1 : o.tm = 2 ∧ o.lg.length ≠ 1) : otF o = 2 := by unfold otF; rw [if_neg (fun k => k h), if_pos h1]
theorem otF_range {o : Rf} (h : opF o = 0) (h1 : ¬ (o.tm = 2 ∧ o.lg.length ≠ 1)) (h2 : ¬ (smN o.vt ∧ smN o.si ∧ smN o.st)) : otF o = 3 := by unfold otF; rw [if_neg (fun k => k h), if_neg h1, if_pos h2]
theorem otF_form {o : Rf} (h : opF o = 0) (h1 : ¬ (o.tm = 2 ∧ o.lg.length ≠ 1)) (h2 : smN o.vt ∧ smN o.si ∧ smN o.st) (h3 : o.tm = 2 ∧ (o.lg.getD 0 oj0).1 ≠ o.vt + 1) : otF o = 1 := by unfold otF; rw [if_neg (fun k => k h), if_neg h1, if_neg (fun k => k h2), if_pos h3]
theorem otF_ok {o : Rf} (h : opF o = 0) (h1 : ¬ (o.tm = 2 ∧ o.lg.length ≠ 1)) (h2 : smN o.vt ∧ smN o.si ∧ smN o.st) (h3 : ¬ (o.tm = 2 ∧ (o.lg.getD 0 oj0).1 ≠ o.vt + 1)) : otF o = 0 := by unfold otF; rw [if_neg (fun k => k h), if_neg h1, if_neg (fun k => k h2), if_neg h3]
theorem otF_iff {o : Rf} (h : otF o = 0) : opF o = 0 ∧ ¬ (o.tm = 2 ∧ o.lg.length ≠ 1) ∧ (smN o.vt ∧ smN o.si ∧ smN o.st) := by
  by_cases h0 : opF o = 0
  · by_cases h1 : o.tm = 2 ∧ o.lg.length ≠ 1
    · rw [otF_many h0 h1] at h; cases h
    · by_cases h2 : smN o.vt ∧ smN o.si ∧ smN o.st
      · exact ⟨h0, h1, h2⟩
      · rw [otF_range h0 h1 h2] at h; cases h
  · rw [otF_op h0] at h; exact absurd h h0
/-- The text of an operation that has one. -/
def opT (o : Rf) : List UInt8 :=
  if o.tm = 1 then lineT hardW [o.si, o.st] else if o.tm = 2 then lineT appendW [o.vt, o.si, (o.lg.getD 0 oj0).2.1] ++ [32] ++ listT (o.lg.getD 0 oj0).2.2
  else if o.tm = 3 then lineT compactW [o.vt] ++ [32] ++ listT o.sn else if o.tm = 4 then lineT installW [o.vt, o.si] ++ [32] ++ listT o.sn else lineT readW [o.vt]
def otV (o : Rf) : ByteArray := if otF o = 0 then str (opT o) else { data := #[] }
theorem nums1 {a : Int} (h : smN a) : NumsOk [a] := fun x hx => by
  rcases List.mem_cons.1 hx with rfl | hx
  · exact ⟨h.1, by have := h.2; omega⟩
  · cases hx
theorem smN_nums2 {a b : Int} (h1 : smN a) (h2 : smN b) : NumsOk [a, b] := nums2 h1.1 (by have := h1.2; omega) h2.1 (by have := h2.2; omega)
theorem nums3 {a b c : Int} (h1 : smN a) (h2 : smN b) (h3 : 0 ≤ c ∧ c ≤ 9223372036854775807) : NumsOk [a, b, c] := fun x hx => by
  rcases List.mem_cons.1 hx with rfl | hx
  · exact ⟨h1.1, by have := h1.2; omega⟩
  · rcases List.mem_cons.1 hx with rfl | hx
    · exact ⟨h2.1, by have := h2.2; omega⟩
    · rcases List.mem_cons.1 hx with rfl | hx
      · exact h3
      · cases hx
/-- What an operation with a text gives. -/
structure OtOk (o : Rf) : Prop where
  kd : o.tm = 1 ∨ o.tm = 2 ∨ o.tm = 3 ∨ o.tm = 4 ∨ o.tm = 5
  nv : smN o.vt
  ns : smN o.si
  nt : smN o.st
  sn : NumsOk o.sn ∧ o.sn.length ≤ 64
  ap : o.tm = 2 → o.lg.length = 1 ∧ (0 ≤ (o.lg.getD 0 oj0).2.1 ∧ (o.lg.getD 0 oj0).2.1 ≤ 9223372036854775807) ∧ NumsOk (o.lg.getD 0 oj0).2.2 ∧ (o.lg.getD 0 oj0).2.2.length ≤ 64
theorem otOk {o : Rf} (h : otF o = 0) : OtOk o := by
  obtain ⟨h0, h1, h2, h3, h4⟩ := otF_iff h
  obtain ⟨k1, k2, k3, k4⟩ := opF_ok h0
  have hl := daF_len k3
  refine ⟨by unfold fmO at k1; omega, h2, h3, h4, ⟨?_, by omega⟩, fun ha => ?_⟩
  · have hw : wordsF o.sn = 0 := by unfold daF at k3; rw [if_neg (by omega)] at k3; exact k3
    exact nums_of (n := 65535) (by omega) (wordsF_zero hw).2
  · have hm : o.lg.length = 1 := by
      by_cases e : o.lg.length = 1
      · exact e
      · exact absurd ⟨ha, e⟩ h1
    obtain ⟨⟨e1, e2⟩, e3, e4⟩ := entF_zero ((logF_iff.1 k4).2.1 0 (by omega))
    exact ⟨hm, by omega, nums_of (n := 65535) (by omega) (wordsF_zero e4).2, by omega⟩
theorem rdI_new1 (V : World) (x : Int) (t : TypeId) : RdI (fun _ => True) (V.alloc (.cells #[.int .i64 x] t)) (.slice (some ⟨V.heap.size, 0, none⟩) 1 1) [x] := by
  refine ⟨some ⟨V.heap.size, 0, none⟩, 0, rfl, by simp, fun _ => ⟨V.heap.size, 0, rfl, trivial, fun i hi => ?_⟩⟩
  rcases i with _ | i
  · simp [go_sem]
  · simp at hi
theorem rdI_new3 (V : World) (x y z : Int) (t : TypeId) : RdI (fun _ => True) (V.alloc (.cells #[.int .i64 x, .int .i64 y, .int .i64 z] t)) (.slice (some ⟨V.heap.size, 0, none⟩) 3 3) [x, y, z] := by
  refine ⟨some ⟨V.heap.size, 0, none⟩, 0, rfl, by simp, fun _ => ⟨V.heap.size, 0, rfl, trivial, fun i hi => ?_⟩⟩
  rcases i with _ | _ | _ | i
  · simp [go_sem]
  · simp [go_sem]
  · simp [go_sem]
  · simp at hi; omega
theorem isNumberB (x : Int) (w : World) : Calls Tryd.prog 58 #[.int .i64 x] w fun e w' => e = .returned (.bool (decide (smN x))) ∧ w' = w := by
  by_cases h0 : 0 ≤ x
  · by_cases h1 : x ≤ 99999
    · rw [decide_eq_true (show smN x from ⟨h0, h1⟩)]
      go_enter Tryd.func58, Tryd.ntmps58
      go_wp2
      go_ret
      exact ⟨by first | rfl | simp [*], rfl⟩
    · rw [decide_eq_false (fun k : smN x => h1 k.2)]
      go_enter Tryd.func58, Tryd.ntmps58
      go_wp2
      go_ret
      exact ⟨by first | rfl | simp [*], rfl⟩
  · rw [decide_eq_false (fun k : smN x => h0 k.1)]
    go_enter Tryd.func58, Tryd.ntmps58
    go_wp2
    go_ret
    exact ⟨by first | rfl | simp [*], rfl⟩
theorem l16SmallB (x : Int) (w : World) : Calls Tryd.prog 31 #[.int .i64 x] w fun e w' => e = .returned (.bool (decide (smN x))) ∧ w' = w := by
  go_enter Tryd.func31, Tryd.ntmps31
  go_wp2_with fail
  refine (l1InB x 0 99999 _).mono ?_
  rintro e w1 ⟨rfl, rfl⟩
  go_wp2
  go_ret
  exact ⟨rfl, rfl⟩
end Go.Proofs.YtcbapclpopbjbaaDoor
