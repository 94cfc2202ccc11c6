/- Spec2 Impl2 Spec2b Flt Cells Impl2b En EnS in one text: what each says stands at its head below. -/
import Derived.Test.YtncgpfapepminaaDoorG02
import Derived.Test.YtncgpfapepminaaDoorG03
import Derived.Test.YtncgpfapepminaaDoorG04
import Derived.Test.YtncgpfapepminaaDoorG01
import Derived.Deep.MidRow
import Derived.Deep.CutRange
import Derived.Test.YtncgpfapepminaaDoorG05
import Derived.Test.YtncgpfapepminaaDoorG06
/- Chapter 2, the model's side: 'spec.l2Fault', 'spec.HeaderFault', walked. -/
namespace Go.Proofs.YtncgpfapepminaaDoor
open Go.RowKit

/-- The fault of a header. -/
def headF (s t : Int) (xs : List Int) : Int :=
  if 1 ≤ s ∧ s ≤ 65000 ∧ 0 ≤ t ∧ t ≤ 23 then (if 24 < xs.length then 2 else if (∀ i, i < xs.length → 0 ≤ xs.getD i 0 ∧ xs.getD i 0 ≤ 39) then 0 else 3) else 3
theorem headF_range {s t : Int} {xs : List Int} (h : ¬ (1 ≤ s ∧ s ≤ 65000 ∧ 0 ≤ t ∧ t ≤ 23)) : headF s t xs = 3 := by unfold headF; rw [if_neg h]
theorem headF_many {s t : Int} {xs : List Int} (h : 1 ≤ s ∧ s ≤ 65000 ∧ 0 ≤ t ∧ t ≤ 23) (h2 : 24 < xs.length) : headF s t xs = 2 := by unfold headF; rw [if_pos h, if_pos h2]
theorem headF_ok {s t : Int} {xs : List Int} (h : 1 ≤ s ∧ s ≤ 65000 ∧ 0 ≤ t ∧ t ≤ 23) (h2 : ¬ 24 < xs.length) (h3 : ∀ i, i < xs.length → 0 ≤ xs.getD i 0 ∧ xs.getD i 0 ≤ 39) : headF s t xs = 0 := by unfold headF; rw [if_pos h, if_neg h2, if_pos h3]
theorem headF_at {s t : Int} {xs : List Int} (h : 1 ≤ s ∧ s ≤ 65000 ∧ 0 ≤ t ∧ t ≤ 23) (h2 : ¬ 24 < xs.length) {i : Nat} (hi : i < xs.length) (h3 : ¬ (0 ≤ xs.getD i 0 ∧ xs.getD i 0 ≤ 39)) : headF s t xs = 3 := by
  unfold headF; rw [if_pos h, if_neg h2, if_neg (fun k => h3 (k i hi))]
theorem headF_zero {s t : Int} {xs : List Int} (h : headF s t xs = 0) : (1 ≤ s ∧ s ≤ 65000 ∧ 0 ≤ t ∧ t ≤ 23) ∧ xs.length ≤ 24 ∧ ∀ i, i < xs.length → 0 ≤ xs.getD i 0 ∧ xs.getD i 0 ≤ 39 := by
  unfold headF at h
  split at h
  · rename_i h1
    split at h
    · exact absurd h (by decide)
    · rename_i h2
      split at h
      · rename_i h3
        exact ⟨h1, by omega, h3⟩
      · exact absurd h (by decide)
  · exact absurd h (by decide)

/-- A header's cells, at whatever place. -/
structure HdAt (w : World) (b o : Nat) (s t : Int) (y : Value) : Prop where
  seq : w.cell? ⟨b, o, none⟩ = some (.int .i64 s)
  start : w.cell? ⟨b, o + 1, none⟩ = some (.int .i64 t)
  addrs : w.cell? ⟨b, o + 2, none⟩ = some y

theorem HdAt_new (w : World) (s t : Int) (y : Value) (ty : TypeId) : HdAt (w.alloc (.cells #[.int .i64 s, .int .i64 t, y] ty)) w.heap.size 0 s t y := ⟨by simp [go_sem], by simp [go_sem], by simp [go_sem]⟩
theorem HdAt.later {w w' : World} {b o : Nat} {s t : Int} {y : Value} (h : HdAt w b o s t y) (hb : Below w.heap.size w w') : HdAt w' b o s t y := ⟨cell_later hb h.seq, cell_later hb h.start, cell_later hb h.addrs⟩

end Go.Proofs.YtncgpfapepminaaDoor
/- Chapter 2, the program's side: 'impl.HeaderFault', walked. -/
namespace Go.Proofs.YtncgpfapepminaaDoor
open Go.RowKit
end Go.Proofs.YtncgpfapepminaaDoor
/- Chapter 2, the model's side: 'spec.l2Pack', 'spec.PackHeader', walked. -/
namespace Go.Proofs.YtncgpfapepminaaDoor
open Go.RowKit

/-- An append onto what the call itself has made, as one step of a region that draws its order. -/
theorem step_append_any {P : Program} (w : World) {ops : Array Oper} {o : Oper} {a : Act} {K : Act → World → Prop} {Q : Exit → Act → World → Prop} {E : Prop} (hgd : o.guard = none) (s x : Operand) (t : TypeId)
    (ho : o.op = .call { callee := .builtin .append, args := #[s, x], argTypes := #[t, t] })
    (base : Nat) (e : TypeId) (i : TypeInfo) (z : Value) (size bytes : Nat) (ht : P.underlying t = some (.slice e)) (hi : P.info? e = some i) (hz : i.zero = some z)
    (hsize : i.size = size) (hby : i.bytes = bytes) (hzs : z.cells.size = size) (hsz : 0 < size)
    (v : Value) (n : Nat) (xs : List Value) (hs : a.eval s = v) (hown : w.ownsRow base e size v n xs)
    (ao : Option Addr) (m c : Nat) (news : List Value) (hx : a.eval x = .slice ao m c) (hl : news.length = m * size)
    (hnews : m ≠ 0 → ∃ ad, ao = some ad ∧ ∀ j u, news[j]? = some u → w.cell? (ad.add j) = some u) (h1 : ∀ u ∈ news, u.oneCell' = true)
    (h63 : n + m ≤ maxLen) (hbytes : (n + m) * bytes ≤ 140737488355328) (hbase : base ≤ w.heap.size)
    (h : ∀ v' w', w'.ownsRow base e size v' (n + m) (xs ++ news) → w.grownBy w' v.ownBlock → K (a.put o.dst v') w') : if Region.wanted o (yielded ops a.tmps) = true then Oper.wp P o a w K Q else E := by
  have hw : Region.wanted o (yielded ops a.tmps) = true := by simp [Region.wanted, hgd]
  rw [if_pos hw]
  by_cases hm : m = 0
  · subst hm
    have hn : news = [] := List.eq_nil_of_length_eq_zero (by simpa using hl)
    subst hn
    have hv : ∃ ad k, v = .slice ad n k ∧ n ≤ k := by
      rcases hown.2 with ⟨rfl, rfl⟩ | ⟨g, cap, cur, rfl, _, _, hnc, _⟩
      · exact ⟨_, _, rfl, Nat.le_refl _⟩
      · exact ⟨_, _, rfl, hnc⟩
    obtain ⟨ad, k, rfl, hk⟩ := hv
    have hrun := run_append_zero (P := P) w t o.type e i ht hi ad n k hk ao c
    unfold Oper.wp
    simp [execOp, ho, resolve, invoke, builtin, hs, hx, hrun, Result.andThen]
    exact h _ w (by simpa using hown) (World.grownBy.refl _ _)
  · obtain ⟨ad, rfl, hc⟩ := hnews hm
    exact wp_append_own (P := P) w s x t ho base e i z size bytes ht hi hz hsize hby hzs hsz v n xs hs hown ad m c news hx hl hc h1 h63 hbytes hbase (fun v' w' k1 k2 _ => h v' w' k1 k2)

theorem ownsRow_full (w : World) (cs : List Value) (e : TypeId) (hm : cs.length ≤ 1048576) : (w.alloc (.cells cs.toArray e)).ownsRow w.heap.size e 1 (.slice (some ⟨w.heap.size, 0, none⟩) cs.length cs.length) cs.length cs :=
  ⟨by simp, .inr ⟨w.heap.size, cs.length, cs.toArray, rfl, Nat.le_refl _, heap_alloc_new w _, Nat.le_refl _, by unfold maxLen; omega, by simp, by simp⟩⟩

/-- One half of a header's words; all of them. -/
def packH (s t : Int) (xs : List Int) : List Int := [s, t, (xs.length : Int)] ++ xs ++ List.replicate (29 - xs.length) 0
def packL (s t : Int) (xs : List Int) : List Int := packH s t xs ++ packH s t xs
theorem packH_len {s t : Int} {xs : List Int} (h : xs.length ≤ 29) : (packH s t xs).length = 32 := by simp [packH]; omega
theorem packL_len {s t : Int} {xs : List Int} (h : xs.length ≤ 29) : (packL s t xs).length = 64 := by simp [packL, packH_len h]

end Go.Proofs.YtncgpfapepminaaDoor
/- Small whole numbers as floats, and back. -/
namespace Go.Proofs.YtncgpfapepminaaDoor
open Go.RowKit

/-- The float64 of a whole number. -/
def fl (n : Nat) : Nat := FloatKind.f64.nearest (n : Int)

theorem cut_even_zero (neg : Bool) (m : Nat) : Ieee.Toward.even.cut neg m 0 = m := by
  simp [Ieee.Toward.cut, Nat.mod_one]

theorem fl_zero : fl 0 = 0 := by decide

theorem fl_form (n L : Nat) (hn : n ≠ 0) (hl : n.log2 = L) (hL : L ≤ 15) : fl n = (L + 1022) * 4503599627370496 + n * 2 ^ (52 - L) := by
  have hlt : n < 65536 := by
    have : n < 2 ^ 16 := (Nat.log2_lt hn).1 (by omega)
    simpa using this
  unfold fl FloatKind.nearest FloatKind.encode Ieee.Format.write Ieee.Format.nearest
  simp only [Int.natAbs_natCast]
  rw [if_neg hn]
  simp only [hl]
  have e1 : max ((0 : Int) + ((L : Nat) : Int) - ((FloatKind.f64.format.fractionBits : Nat) : Int)) FloatKind.f64.format.leastPlace = (L : Int) - 52 := by
    simp only [FloatKind.format, Ieee.double, Ieee.Format.leastPlace]
    omega
  rw [e1]
  have e2 : ((L : Int) - 52 - 0).toNat = 0 := by omega
  have e3 : ((0 : Int) - ((L : Int) - 52)).toNat = 52 - L := by omega
  rw [e2, e3, cut_even_zero, Nat.shiftLeft_eq]
  have e4 : ((L : Int) - 52 - FloatKind.f64.format.leastPlace).toNat = L + 1022 := by
    simp only [FloatKind.format, Ieee.double, Ieee.Format.leastPlace]
    omega
  have e5 : FloatKind.f64.format.binade = 4503599627370496 := by decide
  have e6 : FloatKind.f64.format.infRung = 9218868437227405312 := by decide
  have e7 : decide (((n : Nat) : Int) < 0) = false := by simp
  rw [e4, e5, e6, e7]
  simp only [Ieee.Format.word]
  have h2 : n * 2 ^ (52 - L) < 9007199254740992 := by
    have h3 : n < 2 ^ (L + 1) := (Nat.log2_lt hn).1 (by omega)
    calc n * 2 ^ (52 - L) < 2 ^ (L + 1) * 2 ^ (52 - L) := Nat.mul_lt_mul_of_pos_right h3 (Nat.two_pow_pos _)
      _ = 2 ^ 53 := by rw [← Nat.pow_add]; congr 1; omega
      _ = 9007199254740992 := by decide
  rw [Nat.min_eq_left (by omega)]
  simp

theorem fl_read (n L : Nat) (hn : n ≠ 0) (hl : n.log2 = L) (hL : L ≤ 15) : FloatKind.f64.decode (fl n) = .number false (n * 2 ^ (52 - L)) ((L : Int) - 52) := by
  have h2 : n * 2 ^ (52 - L) < 9007199254740992 := by
    have h3 : n < 2 ^ (L + 1) := (Nat.log2_lt hn).1 (by omega)
    calc n * 2 ^ (52 - L) < 2 ^ (L + 1) * 2 ^ (52 - L) := Nat.mul_lt_mul_of_pos_right h3 (Nat.two_pow_pos _)
      _ = 2 ^ 53 := by rw [← Nat.pow_add]; congr 1; omega
      _ = 9007199254740992 := by decide
  have h1 : 4503599627370496 ≤ n * 2 ^ (52 - L) := by
    have h3 : 2 ^ L ≤ n := (Nat.le_log2 hn).1 (by omega)
    calc 4503599627370496 = 2 ^ 52 := by decide
      _ = 2 ^ L * 2 ^ (52 - L) := by rw [← Nat.pow_add]; congr 1; omega
      _ ≤ n * 2 ^ (52 - L) := Nat.mul_le_mul_right _ h3
  rw [fl_form n L hn hl hL]
  generalize n * 2 ^ (52 - L) = m at h1 h2 ⊢
  have e5 : FloatKind.f64.format.binade = 4503599627370496 := by decide
  have e6 : FloatKind.f64.format.infRung = 9218868437227405312 := by decide
  have e7 : FloatKind.f64.format.signWeight = 9223372036854775808 := by decide
  have e8 : FloatKind.f64.format.leastPlace = -1074 := by decide
  unfold FloatKind.decode Ieee.Format.read
  simp only [e5, e6, e7, e8]
  have r : (L + 1022) * 4503599627370496 + m < 9218868437227405312 := by omega
  have r1 : ((L + 1022) * 4503599627370496 + m) % 9223372036854775808 = (L + 1022) * 4503599627370496 + m := Nat.mod_eq_of_lt (by omega)
  have r2 : ((L + 1022) * 4503599627370496 + m) / 9223372036854775808 = 0 := Nat.div_eq_of_lt (by omega)
  rw [r1, r2, if_neg (by omega), if_pos r]
  congr 1
  · omega
  · omega

theorem fl_toInt (n : Nat) (h : n ≤ 65535) : (FloatKind.f64.decode (fl n)).toInt .zero = some (n : Int) := by
  by_cases hn : n = 0
  · subst hn
    decide
  · have hL : n.log2 ≤ 15 := by
      have : n.log2 < 16 := (Nat.log2_lt hn).2 (by omega)
      omega
    obtain ⟨L, hl⟩ : ∃ L, n.log2 = L := ⟨_, rfl⟩
    rw [hl] at hL
    rw [fl_read n L hn hl hL]
    have h1 : 4503599627370496 ≤ n * 2 ^ (52 - L) := by
      have h3 : 2 ^ L ≤ n := (Nat.le_log2 hn).1 (by omega)
      calc 4503599627370496 = 2 ^ 52 := by decide
        _ = 2 ^ L * 2 ^ (52 - L) := by rw [← Nat.pow_add]; congr 1; omega
        _ ≤ n * 2 ^ (52 - L) := Nat.mul_le_mul_right _ h3
    unfold Ieee.Datum.toInt Ieee.Datum.integral
    have e1 : ((L : Int) - 52).toNat = 0 := by omega
    have e2 : (-((L : Int) - 52)).toNat = 52 - L := by omega
    simp only [e1, e2, Nat.shiftLeft_zero]
    have h4 : 52 ≤ (n * 2 ^ (52 - L)).log2 := (Nat.le_log2 (by omega)).2 (by simpa using h1)
    have e3 : Ieee.Toward.zero.cut false (n * 2 ^ (52 - L)) (52 - L) = n := by
      unfold Ieee.Toward.cut
      simp only [Nat.min_eq_left (show 52 - L ≤ (n * 2 ^ (52 - L)).log2 + 2 by omega), Nat.one_shiftLeft]
      rw [Nat.mul_div_cancel _ (Nat.two_pow_pos _)]
      simp
    rw [e3]
    simp [Ieee.signed]

theorem fl_ne (n : Nat) (h : n ≤ 65535) (hn : n ≠ 0) : (FloatKind.f64.format.order (fl n) 0 == some Ordering.eq) = false := by
  have hL : n.log2 ≤ 15 := by
    have : n.log2 < 16 := (Nat.log2_lt hn).2 (by omega)
    omega
  obtain ⟨L, hl⟩ : ∃ L, n.log2 = L := ⟨_, rfl⟩
  rw [hl] at hL
  have h0 := fl_read n L hn hl hL
  have hz : FloatKind.f64.format.read 0 = .number false 0 (-1074) := by decide
  unfold FloatKind.decode at h0
  unfold Ieee.Format.order
  rw [h0, hz]
  unfold Ieee.Datum.order
  have e1 : min ((L : Int) - 52) (-1074) = -1074 := by omega
  simp only [e1, Ieee.signed]
  simp
  exact ⟨hn, by exact_mod_cast Nat.ne_of_gt (Nat.two_pow_pos (52 - L))⟩
end Go.Proofs.YtncgpfapepminaaDoor
/- 'impl.cellsOf', walked. -/
namespace Go.Proofs.YtncgpfapepminaaDoor
open Go.RowKit

@[go_sem] theorem run_store_complex (P : Program) (w : World) (a : Addr) (m : Mode) (k : FloatKind) (x y : Nat) : (store a (.complex k x y) m).run P w = stored P w a (.complex k x y) m := run_store P w a _ m rfl

def zc : Value := .complex .f64 0 0
/-- The cell of the i-th of the words. -/
def cellV (xs : List Int) (i : Nat) : Value := if i < xs.length then .complex .f64 (fl (xs.getD i 0).toNat) (fl (i + 1)) else zc
/-- The first k cells are laid. -/
def cellsTo (xs : List Int) (k : Nat) : List Value := (List.range 64).map fun i => if i < k then cellV xs i else zc

theorem cellsTo_len (xs : List Int) (k : Nat) : (cellsTo xs k).length = 64 := by simp [cellsTo]
theorem cellsTo_at (xs : List Int) (k i : Nat) (h : i < 64) : (cellsTo xs k)[i]? = some (if i < k then cellV xs i else zc) := by simp [cellsTo, h]
theorem cellsTo_zero (xs : List Int) : cellsTo xs 0 = List.replicate 64 zc := by
  refine List.ext_getElem? fun i => ?_
  by_cases h : i < 64
  · rw [cellsTo_at xs 0 i h, if_neg (Nat.not_lt_zero _), List.getElem?_replicate, if_pos h]
  · rw [List.getElem?_eq_none (by rw [cellsTo_len]; omega), List.getElem?_eq_none (by simp; omega)]

theorem setCells_size (b : Nat) : ∀ (vs : List Value) (o : Nat) (w : World), (w.setCells b o vs).heap.size = w.heap.size
  | [], _, _ => rfl
  | v :: r, o, w => by simp only [World.setCells]; rw [setCells_size b r]; simp
theorem Below.setCells {B b : Nat} {a w : World} (h : Below B a w) (hb : B ≤ b) : ∀ (o : Nat) (vs : List Value), Below B a (w.setCells b o vs) := by
  intro o vs
  induction vs generalizing o w with
  | nil => exact h
  | cons v r ih => exact ih (h.setCell (p := ⟨b, o, none⟩) hb v) (o + 1)

theorem range_new (w : World) (cs : List Value) (t : TypeId) : (w.alloc (.cells cs.toArray t)).rangeAt w.heap.size 0 cs := by
  intro j v hv
  have h := World.rangeAt_of_block (heap_alloc_new w (.cells cs.toArray t)) 0 cs.length
  simp at h
  have := h j v hv
  simpa using this
theorem there_new (w : World) (cs : List Value) (t : TypeId) (n : Nat) (hn : cs.length = n) : (w.alloc (.cells cs.toArray t)).there w.heap.size 0 n := by
  intro j hj
  refine ⟨(range_new w cs t).isSome j (by omega), by simp [go_sem]⟩

theorem cellsTo_one (xs : List Int) (k : Nat) : ∀ v ∈ cellsTo xs k, v.oneCell' = true := by
  intro v hv
  simp only [cellsTo, List.mem_map] at hv
  obtain ⟨i, _, rfl⟩ := hv
  unfold cellV zc
  split
  · split <;> rfl
  · rfl

/-- What the loop of 'cellsOf' knows behind k words. -/
structure CellsAt (xs : List Int) (w : World) (k : Nat) (wr : World) : Prop where
  below : Below w.heap.size w wr
  size : wr.heap.size = w.heap.size + 2
  res : wr.there w.heap.size 0 64
  free : ∀ o, wr.frozen? ⟨w.heap.size + 1, o, none⟩ = false
  cells : wr.rangeAt (w.heap.size + 1) 0 (cellsTo xs k)

theorem CellsAt.step {xs : List Int} {w wr : World} {k : Nat} (h : CellsAt xs w k wr) (hk : k < 64) (hkx : k < xs.length) : CellsAt xs w (k + 1) (wr.setCell ⟨w.heap.size + 1, k, none⟩ (.complex .f64 (fl (xs.getD k 0).toNat) (fl (k + 1)))) := by
  refine ⟨h.below.setCell (by simp) _, by simpa using h.size, fun j hj => ?_, fun o => by rw [World.frozen?_setCell]; exact h.free o, fun j v hv => ?_⟩
  · rw [World.cell?_setCell_other _ _ _ _ (by simp), World.frozen?_setCell]
    exact h.res j hj
  · have hj : j < 64 := by
      have := (List.getElem?_eq_some_iff.1 hv).1
      rwa [cellsTo_len] at this
    rw [cellsTo_at xs (k + 1) j hj] at hv
    injection hv with hv
    have hold := h.cells j _ (cellsTo_at xs k j hj)
    rw [Nat.zero_add] at hold ⊢
    by_cases e : j = k
    · subst e
      rw [World.cell?_setCell_same _ _ _ hold, ← hv, if_pos (by omega)]
      simp only [cellV]
      rw [if_pos hkx]
    · rw [World.cell?_setCell_other _ _ _ _ (by intro h'; injection h' with _ h2; exact e h2.symm), hold, ← hv]
      by_cases h2 : j < k
      · rw [if_pos h2, if_pos (by omega)]
      · rw [if_neg h2, if_neg (by omega)]

end Go.Proofs.YtncgpfapepminaaDoor
/- Chapter 2, the program's side: 'impl.halfOf', walked. -/
namespace Go.Proofs.YtncgpfapepminaaDoor
open Go.RowKit
/-- The cells of a row of words of 16 bits. -/
def u16s (L : List Int) : List Value := L.map (Value.int .u16)
theorem u16s_len (L : List Int) : (u16s L).length = L.length := by simp [u16s]
theorem u16s_at {L : List Int} {i : Nat} (h : i < L.length) : (u16s L)[i]? = some (.int .u16 (L.getD i 0)) := by simp [u16s, List.getD, h]
theorem u16s_one (L : List Int) : ∀ v ∈ u16s L, v.oneCell' = true := by
  intro v hv
  simp only [u16s, List.mem_map] at hv
  obtain ⟨i, _, rfl⟩ := hv
  rfl
theorem u16s_set (L : List Int) (i : Nat) (x : Int) : (u16s L).set i (.int .u16 x) = u16s (L.set i x) := by simp [u16s, List.map_set]

theorem rangeAt_set {w : World} {b : Nat} {cs : List Value} (h : w.rangeAt b 0 cs) (i : Nat) (x : Value) : (w.setCell ⟨b, i, none⟩ x).rangeAt b 0 (cs.set i x) := by
  intro j v hv
  rw [Nat.zero_add]
  have hj : j < cs.length := by
    have := (List.getElem?_eq_some_iff.1 hv).1
    simpa using this
  have hold := h j _ (List.getElem?_eq_getElem hj)
  rw [Nat.zero_add] at hold
  by_cases e : i = j
  · subst e
    rw [List.getElem?_set_self hj] at hv
    injection hv with hv
    rw [World.cell?_setCell_same _ _ _ hold, hv]
  · rw [List.getElem?_set_ne e] at hv
    rw [World.cell?_setCell_other _ _ _ _ (by intro h'; injection h' with _ h2; exact e h2), hold, ← hv, List.getElem?_eq_getElem hj]

/-- Of the world that the walk stands in no more is kept than R. -/
theorem forget {P : Program} {c : Code} {Q : Exit → Act → World → Prop} {a : Act} {w0 : World} (R : World → Prop) (h0 : R w0) (h : ∀ w, R w → c.wp P Q a w) : c.wp P Q a w0 := h _ h0

/-- An array in a block of the call's own, beside the result's one. -/
structure ArrAt (w : World) (r v n : Nat) (cs : List Value) (wr : World) : Prop where
  below : Below w.heap.size w wr
  res : wr.there r 0 n
  free : ∀ o, wr.frozen? ⟨v, o, none⟩ = false
  cells : wr.rangeAt v 0 cs

theorem ArrAt.step {w wr : World} {r v n : Nat} {cs : List Value} (h : ArrAt w r v n cs wr) (hv : w.heap.size ≤ v) (hrv : r ≠ v) (i : Nat) (x : Value) : ArrAt w r v n (cs.set i x) (wr.setCell ⟨v, i, none⟩ x) := by
  refine ⟨h.below.setCell hv _, fun j hj => ?_, fun o => by rw [World.frozen?_setCell]; exact h.free o, rangeAt_set h.cells i x⟩
  rw [World.cell?_setCell_other _ _ _ _ (by intro h'; injection h' with h2 _; exact hrv h2.symm), World.frozen?_setCell]
  exact h.res j hj

theorem wrap_u16 {x : Int} (h0 : 0 ≤ x) (h1 : x ≤ 65535) : IntKind.u16.wrap x = x := by simp [IntKind.wrap, IntKind.bits, IntKind.signed]; omega

/-- A half of which k addresses are laid. -/
def halfTo (s t n : Int) (xs : List Int) (k : Nat) : List Int := [s, t, n] ++ xs.take k ++ List.replicate (29 - k) 0
theorem halfTo_len {s t n : Int} {xs : List Int} {k : Nat} (h : k ≤ xs.length) (h2 : xs.length ≤ 29) : (halfTo s t n xs k).length = 32 := by simp [halfTo]; omega
theorem halfTo_step {s t n : Int} {xs : List Int} {k : Nat} (h : k < xs.length) (h2 : xs.length ≤ 29) : (halfTo s t n xs k).set (3 + k) (xs.getD k 0) = halfTo s t n xs (k + 1) := by
  unfold halfTo
  have hl : ([s, t, n] ++ xs.take k).length = 3 + k := by simp; omega
  rw [show 29 - k = (29 - (k + 1)) + 1 by omega, List.replicate_succ, List.set_append_right _ _ (by rw [hl]; exact Nat.le_refl _), hl, Nat.sub_self, List.set_cons_zero, List.take_succ_eq_append_getElem h]
  simp only [List.getD, List.getElem?_eq_getElem h, Option.getD_some, List.append_assoc, List.cons_append, List.nil_append]
theorem halfTo_end {s t : Int} {xs : List Int} : halfTo s t (xs.length : Int) xs xs.length = packH s t xs := by simp [halfTo, packH]

end Go.Proofs.YtncgpfapepminaaDoor
/- The laws' helpers over Entry. Made by program (genen.py). -/
namespace Go.Proofs.YtncgpfapepminaaDoor
open Go.RowKit
end Go.Proofs.YtncgpfapepminaaDoor
/- Chapter 9: lists of entries: the laws' helpers over them. Made by program (genen.py). -/
namespace Go.Proofs.YtncgpfapepminaaDoor
open Go.RowKit
end Go.Proofs.YtncgpfapepminaaDoor
