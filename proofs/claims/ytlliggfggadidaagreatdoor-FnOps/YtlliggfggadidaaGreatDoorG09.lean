/- Sh1 MathGr MathHd Hd2 in one text: what each says stands at its head below. -/
import Derived.Test.YtlliggfggadidaaGreatDoorG04
import Derived.Test.YtlliggfggadidaaGreatDoorG05
import Derived.Test.YtlliggfggadidaaGreatDoorG08
import Derived.Test.YtlliggfggadidaaGreatDoorG02
namespace Go.Proofs.YtlliggfggadidaaGreatDoor
open Go.RowKit
structure Res7 (w wr : World) (r : Nat) : Prop where
  below : Below w.heap.size w wr
  v : Var7 wr r (.int .i64 0) (.int .i64 0) (.int .i64 0) (.int .i64 0) (.int .i64 0) (.slice none 0 0) (.slice none 0 0)
  fr : ∀ o, wr.frozen? ⟨r, o, none⟩ = false
  ge : w.heap.size ≤ r
theorem Res7.lt {w wr : World} {r : Nat} (h : Res7 w wr r) : r < wr.heap.size := h.v.lt
theorem Res7.later {w wr w1 : World} {r : Nat} (h : Res7 w wr r) (hb : Below wr.heap.size wr w1) : Res7 w w1 r :=
  ⟨below_on h.below hb, h.v.later hb, fun o => ((bcell hb).2 _ _ h.lt).trans (h.fr o), h.ge⟩
theorem Res7.start (w : World) (o : Obj) (t : TypeId) : Res7 w ((w.alloc o).alloc (.cells #[.int .i64 0, .int .i64 0, .int .i64 0, .int .i64 0, .int .i64 0, .slice none 0 0, .slice none 0 0] t)) (w.heap.size + 1) :=
  ⟨below_on (below_alloc _ _) (below_alloc _ _), by have h := Var7_new (w.alloc o) (.int .i64 0) (.int .i64 0) (.int .i64 0) (.int .i64 0) (.int .i64 0) (.slice none 0 0) (.slice none 0 0) t; simpa using h, fun o => by simp [go_sem], Nat.le_succ _⟩
theorem ret_raft {w w3 : World} {r lo : Nat} {x0 x1 x2 x3 x4 y z : Value} {xs : List Int} {ps : List Oj} (hb : Below w.heap.size w w3) (hr : w.heap.size ≤ r) (ho : IvR lo w3.heap.size w3 y z xs ps) (hlo : r < lo) :
    Below w.heap.size w (((((((w3.setCell ⟨r, 0, none⟩ x0).setCell ⟨r, 1, none⟩ x1).setCell ⟨r, 2, none⟩ x2).setCell ⟨r, 3, none⟩ x3).setCell ⟨r, 4, none⟩ x4).setCell ⟨r, 5, none⟩ y).setCell ⟨r, 6, none⟩ z) ∧ IvR w.heap.size (((((((w3.setCell ⟨r, 0, none⟩ x0).setCell ⟨r, 1, none⟩ x1).setCell ⟨r, 2, none⟩ x2).setCell ⟨r, 3, none⟩ x3).setCell ⟨r, 4, none⟩ x4).setCell ⟨r, 5, none⟩ y).setCell ⟨r, 6, none⟩ z).heap.size (((((((w3.setCell ⟨r, 0, none⟩ x0).setCell ⟨r, 1, none⟩ x1).setCell ⟨r, 2, none⟩ x2).setCell ⟨r, 3, none⟩ x3).setCell ⟨r, 4, none⟩ x4).setCell ⟨r, 5, none⟩ y).setCell ⟨r, 6, none⟩ z) y z xs ps := by
  have hw : Wr (fun q => q = r) w3 (((((((w3.setCell ⟨r, 0, none⟩ x0).setCell ⟨r, 1, none⟩ x1).setCell ⟨r, 2, none⟩ x2).setCell ⟨r, 3, none⟩ x3).setCell ⟨r, 4, none⟩ x4).setCell ⟨r, 5, none⟩ y).setCell ⟨r, 6, none⟩ z) := ((((((((Wr.refl (fun q => q = r) _).setCell (p := ⟨r, 0, none⟩) rfl _).setCell (p := ⟨r, 1, none⟩) rfl _).setCell (p := ⟨r, 2, none⟩) rfl _).setCell (p := ⟨r, 3, none⟩) rfl _).setCell (p := ⟨r, 4, none⟩) rfl _).setCell (p := ⟨r, 5, none⟩) rfl _).setCell (p := ⟨r, 6, none⟩) rfl _)
  exact ⟨(((((((hb.setCell (p := ⟨r, 0, none⟩) hr _).setCell (p := ⟨r, 1, none⟩) hr _).setCell (p := ⟨r, 2, none⟩) hr _).setCell (p := ⟨r, 3, none⟩) hr _).setCell (p := ⟨r, 4, none⟩) hr _).setCell (p := ⟨r, 5, none⟩) hr _).setCell (p := ⟨r, 6, none⟩) hr _), IvR.up (ho.wr hw (fun b h1 _ e => by omega)) (by omega) hw.size⟩
theorem ret_none {w w3 : World} {r : Nat} {x0 x1 x2 x3 x4 : Value} (hb : Below w.heap.size w w3) (hr : w.heap.size ≤ r) :
    Below w.heap.size w (((((((w3.setCell ⟨r, 0, none⟩ x0).setCell ⟨r, 1, none⟩ x1).setCell ⟨r, 2, none⟩ x2).setCell ⟨r, 3, none⟩ x3).setCell ⟨r, 4, none⟩ x4).setCell ⟨r, 5, none⟩ (.slice none 0 0)).setCell ⟨r, 6, none⟩ (.slice none 0 0)) ∧ IvR w.heap.size (((((((w3.setCell ⟨r, 0, none⟩ x0).setCell ⟨r, 1, none⟩ x1).setCell ⟨r, 2, none⟩ x2).setCell ⟨r, 3, none⟩ x3).setCell ⟨r, 4, none⟩ x4).setCell ⟨r, 5, none⟩ (.slice none 0 0)).setCell ⟨r, 6, none⟩ (.slice none 0 0)).heap.size (((((((w3.setCell ⟨r, 0, none⟩ x0).setCell ⟨r, 1, none⟩ x1).setCell ⟨r, 2, none⟩ x2).setCell ⟨r, 3, none⟩ x3).setCell ⟨r, 4, none⟩ x4).setCell ⟨r, 5, none⟩ (.slice none 0 0)).setCell ⟨r, 6, none⟩ (.slice none 0 0)) (.slice none 0 0) (.slice none 0 0) [] [] :=
  ⟨(((((((hb.setCell (p := ⟨r, 0, none⟩) hr _).setCell (p := ⟨r, 1, none⟩) hr _).setCell (p := ⟨r, 2, none⟩) hr _).setCell (p := ⟨r, 3, none⟩) hr _).setCell (p := ⟨r, 4, none⟩) hr _).setCell (p := ⟨r, 5, none⟩) hr _).setCell (p := ⟨r, 6, none⟩) hr _), IvR_nil _ _⟩
theorem l10BadI (x : Int) (w : World) : Calls Tryz.prog 73 #[.int .i64 x] w fun e w' => e = .returned (.agg #[.int .i64 x, .int .i64 0, .int .i64 0, .int .i64 0, .int .i64 0, .slice none 0 0, .slice none 0 0]) ∧ Below w.heap.size w w' := by
  go_enter Tryz.func73, Tryz.ntmps73
  go_wp2
  refine bodyPost_ret (v := .agg #[.int .i64 x, .int .i64 0, .int .i64 0, .int .i64 0, .int .i64 0, .slice none 0 0, .slice none 0 0]) (by simp [results, Tryz.results73, go_sem]) rfl ⟨rfl, ?_⟩
  repeat (first | refine Below.setCell ?_ (by simp) _ | exact below_alloc _ _)
end Go.Proofs.YtlliggfggadidaaGreatDoor
namespace Go.Proofs.YtlliggfggadidaaGreatDoor
open Go.RowKit
theorem mtE_same : ∀ (ps qs : List Oj) (j : Nat), j < mtE ps qs → (ps.getD j oj0).2.1 = (qs.getD j oj0).2.1
  | [], _, j, h => by simp [mtE] at h
  | _ :: _, [], j, h => by simp [mtE] at h
  | p :: ps, q :: qs, j, h => by
    rw [mtE] at h
    by_cases e : p.2.1 = q.2.1
    · rw [if_pos e] at h
      cases j with
      | zero => simpa using e
      | succ j => simpa using mtE_same ps qs j (by omega)
    · rw [if_neg e] at h; omega
theorem mtE_all : ∀ (ps qs : List Oj), (∀ j, j < qs.length → j < ps.length ∧ (ps.getD j oj0).2.1 = (qs.getD j oj0).2.1) → mtE ps qs = qs.length
  | _, [], _ => by cases ‹List Oj› <;> rfl
  | [], q :: qs, h => absurd (h 0 (by simp)).1 (by simp)
  | p :: ps, q :: qs, h => by
    have h0 := (h 0 (by simp)).2
    simp only [List.getD_cons_zero] at h0
    rw [mtE, if_pos h0, mtE_all ps qs (fun j hj => by have := h (j + 1) (by simpa using hj); simpa using this), List.length_cons]
theorem getD_app1 {ps qs : List Oj} {i : Nat} (h : i < ps.length) : (ps ++ qs).getD i oj0 = ps.getD i oj0 := by simp [List.getD, List.getElem?_append_left h]
theorem getD_app2 {ps qs : List Oj} {i : Nat} (h : ps.length ≤ i) : (ps ++ qs).getD i oj0 = qs.getD (i - ps.length) oj0 := by simp [List.getD, List.getElem?_append_right h]
structure ApOk (r : Rf) (i t : Int) (l : List Oj) : Prop where
  rf : rfF r = 0
  lo : logF l = 0
  fit : fitR r i t l
  tc : tmC r i = 0
  tv : tmV r i = t
  len : (apL r i l).length ≤ 14
theorem ap_ok_iff {r : Rf} {i t : Int} {l : List Oj} : apRC r i t l = 0 ↔ ApOk r i t l := by
  unfold apRC
  constructor
  · intro h
    by_cases h1 : rfF r = 0
    · rw [if_neg (by simpa using h1)] at h
      by_cases h2 : logF l = 0
      · rw [if_neg (by simpa using h2)] at h
        by_cases h3 : fitR r i t l
        · rw [if_neg (by simpa using h3)] at h
          by_cases h4 : tmC r i = 0
          · rw [if_neg (by simpa using h4)] at h
            by_cases h5 : tmV r i = t
            · rw [if_neg (by simpa using h5)] at h
              by_cases h6 : 14 < (apL r i l).length
              · rw [if_pos h6] at h; exact absurd h (by decide)
              · exact ⟨h1, h2, h3, h4, h5, by omega⟩
            · rw [if_pos h5] at h; exact absurd h (by decide)
          · rw [if_pos h4] at h; exact absurd h h4
        · rw [if_pos h3] at h; exact absurd h (by decide)
      · rw [if_pos h2] at h; exact absurd h h2
    · rw [if_pos h1] at h; exact absurd h h1
  · intro h
    rw [if_neg (by simpa using h.rf), if_neg (by simpa using h.lo), if_neg (by simpa using h.fit), if_neg (by simpa using h.tc), if_neg (by simpa using h.tv), if_neg (by have := h.len; omega)]
theorem tmC_in {r : Rf} {i : Int} (h : tmC r i = 0) : r.si ≤ i ∧ i ≤ lastR r := by
  unfold tmC at h
  by_cases h1 : i < r.si
  · rw [if_pos h1] at h; exact absurd h (by decide)
  · rw [if_neg h1] at h
    by_cases h2 : lastR r < i
    · rw [if_pos h2] at h; exact absurd h (by decide)
    · omega
theorem tmC_ok {r : Rf} {i : Int} (h1 : r.si ≤ i) (h2 : i ≤ lastR r) : tmC r i = 0 := by unfold tmC; rw [if_neg (by omega), if_neg (by omega)]
theorem apL_spec {r : Rf} {i t : Int} {l : List Oj} (h : ApOk r i t l) : ∃ at_ : Nat, i = r.si + (at_ : Int) ∧ at_ ≤ r.lg.length ∧ at_ + l.length ≤ (apL r i l).length ∧ (apL r i l).take at_ = r.lg.take at_ ∧
    (∀ j, j < l.length → ((apL r i l).getD (at_ + j) oj0).2.1 = (l.getD j oj0).2.1 ∧ (((apL r i l).getD (at_ + j) oj0) = l.getD j oj0 ∨ (at_ + j < r.lg.length ∧ (apL r i l).getD (at_ + j) oj0 = r.lg.getD (at_ + j) oj0))) ∧
    (∀ j, j < at_ → (apL r i l).getD j oj0 = r.lg.getD j oj0) ∧
    ((∀ j, j < l.length → at_ + j < r.lg.length ∧ (r.lg.getD (at_ + j) oj0).2.1 = (l.getD j oj0).2.1) → apL r i l = r.lg) ∧
    (apL r i l = r.lg ∧ (∀ j, j < l.length → at_ + j < r.lg.length ∧ (r.lg.getD (at_ + j) oj0).2.1 = (l.getD j oj0).2.1) ∨ (apL r i l).length = at_ + l.length) := by
  obtain ⟨h1, h2⟩ := tmC_in h.tc
  obtain ⟨at_, hat⟩ : ∃ a : Nat, i - r.si = (a : Int) := ⟨(i - r.si).toNat, by omega⟩
  have hle : at_ ≤ r.lg.length := by unfold lastR at h2; omega
  have hto : (i - r.si).toNat = at_ := by omega
  have hk : apK r i l = mtE (r.lg.drop at_) l := by unfold apK; rw [hto]
  have hkl := mtE_le (r.lg.drop at_) l
  rw [← hk] at hkl
  have hms := fun j => mtE_same (r.lg.drop at_) l j
  rw [← hk] at hms
  simp only [List.length_drop] at hkl
  by_cases hall : apK r i l = l.length
  · have hL : apL r i l = r.lg := by unfold apL; rw [if_pos hall]
    rw [hL]
    have hj : ∀ j, j < l.length → at_ + j < r.lg.length ∧ (r.lg.getD (at_ + j) oj0).2.1 = (l.getD j oj0).2.1 := fun j hj => by
      have := hms j (by omega)
      rw [getD_drop] at this
      exact ⟨by omega, this⟩
    exact ⟨at_, by omega, hle, by omega, rfl, fun j hj' => ⟨(hj j hj').2, .inr ⟨(hj j hj').1, rfl⟩⟩, fun _ _ => rfl, fun _ => rfl, .inl ⟨rfl, hj⟩⟩
  · have hL : apL r i l = r.lg.take (at_ + apK r i l) ++ l.drop (apK r i l) := by unfold apL; rw [if_neg hall, hto]
    have ht : (r.lg.take (at_ + apK r i l)).length = at_ + apK r i l := by simp; omega
    have hln : (apL r i l).length = at_ + l.length := by rw [hL, List.length_append, ht]; simp; omega
    refine ⟨at_, by omega, hle, by omega, ?_, fun j hj => ?_, fun j hj => ?_, fun hs => ?_, .inr hln⟩
    · rw [hL, List.take_append_of_le_length (by rw [ht]; omega), List.take_take]
      congr 1
      omega
    · rw [hL]
      by_cases hjk : j < apK r i l
      · rw [getD_app1 (by rw [ht]; omega), getD_take (by omega)]
        have := hms j hjk
        rw [getD_drop] at this
        exact ⟨this, .inr ⟨by omega, rfl⟩⟩
      · rw [getD_app2 (by rw [ht]; omega), ht, getD_drop, show apK r i l + (at_ + j - (at_ + apK r i l)) = j by omega]
        exact ⟨rfl, .inl rfl⟩
    · rw [hL, getD_app1 (by rw [ht]; omega), getD_take (by omega)]
    · refine absurd ?_ hall
      rw [hk]
      refine mtE_all _ _ fun j hj => ?_
      have := hs j hj
      rw [getD_drop, List.length_drop]
      exact ⟨by omega, this.2⟩
theorem tmV_at {r : Rf} {i : Int} {a : Nat} (h : i = r.si + (a : Int)) (ha : a ≤ r.lg.length) : tmC r i = 0 ∧ tmV r i = if a = 0 then r.st else (r.lg.getD (a - 1) oj0).2.1 := by
  have hc : tmC r i = 0 := tmC_ok (by omega) (by unfold lastR; omega)
  refine ⟨hc, ?_⟩
  unfold tmV
  rw [if_pos hc]
  by_cases h0 : a = 0
  · rw [if_pos (by omega), if_pos h0]
  · rw [if_neg (by omega), if_neg h0, show (i - r.si - 1).toNat = a - 1 by omega]
theorem ap_rf {r : Rf} {i t : Int} {l : List Oj} (h : ApOk r i t l) : rfF { r with lg := apL r i l } = 0 ∧ tmC { r with lg := apL r i l } i = 0 ∧ tmV { r with lg := apL r i l } i = t := by
  obtain ⟨a, hi, ha, hlen, htk, hin, hbe, _, hor⟩ := apL_spec h
  have hr := rfF_iff.1 h.rf
  have hT := tmV_at hi ha
  have hT2 := tmV_at (r := { r with lg := apL r i l }) hi (by show a ≤ (apL r i l).length; omega)
  have hterm : tmV { r with lg := apL r i l } i = t := by
    rw [hT2.2, ← h.tv, hT.2]
    by_cases h0 : a = 0
    · rw [if_pos h0, if_pos h0]
    · rw [if_neg h0, if_neg h0]
      show ((apL r i l).getD (a - 1) oj0).2.1 = _
      rw [hbe (a - 1) (by omega)]
  refine ⟨?_, hT2.1, hterm⟩
  rcases hor with ⟨e, _⟩ | hln
  · have e2 : ({ r with lg := apL r i l } : Rf) = r := by rw [e]
    rw [e2]; exact h.rf
  · obtain ⟨g1, g2, g3⟩ := logF_iff.1 hr.lo
    obtain ⟨f1, f2, f3⟩ := logF_iff.1 h.lo
    have hrk := hr.lk
    -- the index and the bounds of each entry of the new log
    have hidx : ∀ j, j < (apL r i l).length → entF ((apL r i l).getD j oj0) = 0 ∧ ((apL r i l).getD j oj0).1 = r.si + 1 + (j : Int) := by
      intro j hj
      by_cases hja : j < a
      · rw [hbe j hja]
        refine ⟨g2 j (by omega), ?_⟩
        have h0 := (hrk (by rintro e; rw [e] at ha; simp at ha; omega)).1
        have := log_at hr.lo j (by omega)
        omega
      · obtain ⟨q, rfl⟩ : ∃ q, j = a + q := ⟨j - a, by omega⟩
        have hq : q < l.length := by omega
        rcases (hin q hq).2 with e | ⟨e1, e2⟩
        · rw [e]
          refine ⟨f2 q hq, ?_⟩
          have h0 := (h.fit (by rintro e; rw [e] at hq; simp at hq)).1
          have := log_at h.lo q hq
          omega
        · rw [e2]
          refine ⟨g2 _ e1, ?_⟩
          have h0 := (hrk (by rintro e; rw [e] at e1; simp at e1)).1
          have := log_at hr.lo (a + q) e1
          omega
    have htm : ∀ j, j + 1 < (apL r i l).length → ((apL r i l).getD j oj0).2.1 ≤ ((apL r i l).getD (j + 1) oj0).2.1 := by
      intro j hj
      by_cases hja : j + 1 < a
      · rw [hbe j (by omega), hbe (j + 1) hja]
        exact (g3 j (by omega)).2
      · by_cases hjb : j + 1 = a
        · have h1 := (hin 0 (by omega)).1
          rw [Nat.add_zero] at h1
          rw [hjb, h1, hbe j (by omega)]
          have h2 := h.tv
          rw [hT.2, if_neg (by omega), show a - 1 = j by omega] at h2
          rw [h2]
          exact (h.fit (List.length_pos_iff.1 (by omega))).2.1
        · obtain ⟨q, rfl⟩ : ∃ q, j = a + q := ⟨j - a, by omega⟩
          have h1 := (hin q (by omega)).1
          have h2 := (hin (q + 1) (by omega)).1
          rw [show a + (q + 1) = a + q + 1 by omega] at h2
          rw [h1, h2]
          exact (f3 q (by omega)).2
    have hlog : logF (apL r i l) = 0 := by
      refine logF_iff.2 ⟨h.len, fun j hj => (hidx j hj).1, fun j hj => ⟨?_, htm j hj⟩⟩
      have e1 := (hidx (j + 1) hj).2
      have e2 := (hidx j (by omega)).2
      omega
    refine rfF_iff.2 ⟨hr.rg, hr.da, hr.fm, hlog, fun hne => ?_⟩
    have hpos : 0 < (apL r i l).length := List.length_pos_iff.2 hne
    refine ⟨by have := (hidx 0 hpos).2; show ((apL r i l).getD 0 oj0).1 = r.si + 1; omega, ?_, ?_⟩
    · show r.st ≤ ((apL r i l).getD 0 oj0).2.1
      by_cases h0 : a = 0
      · have h1 := (hin 0 (by omega)).1
        rw [h0] at h1
        have h2 := h.tv
        rw [hT.2, if_pos h0] at h2
        rw [show (0 : Nat) + 0 = 0 from rfl] at h1
        rw [h1, h2]
        exact (h.fit (List.length_pos_iff.1 (by omega))).2.1
      · rw [hbe 0 (by omega)]
        exact (hrk (by rintro e; rw [e] at ha; simp at ha; omega)).2.1
    · show ((apL r i l).getD ((apL r i l).length - 1) oj0).2.1 ≤ r.tm
      by_cases hl0 : l.length = 0
      · rw [hbe _ (by omega)]
        -- the last one of a beginning of the log
        have hlast := (hrk (by rintro e; rw [e] at ha; simp at ha; omega)).2.2
        have hup : ∀ d, (apL r i l).length - 1 + d < r.lg.length → (r.lg.getD ((apL r i l).length - 1) oj0).2.1 ≤ (r.lg.getD ((apL r i l).length - 1 + d) oj0).2.1 := by
          intro d
          induction d with
          | zero => intro _; exact Int.le_refl _
          | succ d ih =>
            intro hd
            have h1 := ih (by omega)
            have h2 := (g3 ((apL r i l).length - 1 + d) (by omega)).2
            rw [show (apL r i l).length - 1 + d + 1 = (apL r i l).length - 1 + (d + 1) by omega] at h2
            omega
        have := hup (r.lg.length - 1 - ((apL r i l).length - 1)) (by omega)
        rw [show (apL r i l).length - 1 + (r.lg.length - 1 - ((apL r i l).length - 1)) = r.lg.length - 1 by omega] at this
        omega
      · have h1 := (hin (l.length - 1) (by omega)).1
        rw [show a + (l.length - 1) = (apL r i l).length - 1 by omega] at h1
        rw [h1]
        exact (h.fit (by rintro e; rw [e] at hl0; simp at hl0)).2.2
end Go.Proofs.YtlliggfggadidaaGreatDoor
namespace Go.Proofs.YtlliggfggadidaaGreatDoor
open Go.RowKit
theorem sh_inv {r : Rf} {t v : Int} (h : shC r t v = 0) : rfF r = 0 ∧ ((0 ≤ t ∧ t ≤ 999) ∧ (0 ≤ v ∧ v ≤ 9)) ∧ ¬ (t < r.tm ∨ (t = r.tm ∧ r.vt ≠ 0 ∧ v ≠ r.vt)) ∧ shR r t v = { r with tm := t, vt := v } := by
  have hR : shR r t v = { r with tm := t, vt := v } := by unfold shR; rw [if_pos h]
  unfold shC at h
  by_cases h0 : rfF r = 0
  · rw [if_pos h0] at h
    by_cases h1 : (0 ≤ t ∧ t ≤ 999) ∧ (0 ≤ v ∧ v ≤ 9)
    · rw [if_pos h1] at h
      by_cases h2 : t < r.tm ∨ (t = r.tm ∧ r.vt ≠ 0 ∧ v ≠ r.vt)
      · rw [if_pos h2] at h; exact absurd h (by decide)
      · exact ⟨h0, h1, h2, hR⟩
    · rw [if_neg h1] at h; exact absurd h (by decide)
  · rw [if_neg h0] at h; exact absurd h h0
theorem rf_hard {r : Rf} {t v : Int} (h : rfF r = 0) (ht : t ≤ 999) (hv : 0 ≤ v ∧ v ≤ 9) (hle : r.tm ≤ t) : rfF { r with tm := t, vt := v } = 0 := by
  obtain ⟨rg, da, fm, lo, lk⟩ := rfF_iff.1 h
  have h0 := rg.1.1.1
  have h1 := rg.2.2.2
  refine rfF_iff.2 ⟨⟨⟨⟨by show 0 ≤ t; omega, ht⟩, hv⟩, rg.2.1, rg.2.2.1, by show r.st ≤ t; omega⟩, da, fm, lo, fun hne => ?_⟩
  obtain ⟨a, b, c⟩ := lk hne
  exact ⟨a, b, Int.le_trans c hle⟩
theorem sh_rf {r : Rf} {t v : Int} (h : shC r t v = 0) : rfF (shR r t v) = 0 := by
  obtain ⟨h0, h1, h2, h3⟩ := sh_inv h
  rw [h3]
  exact rf_hard h0 h1.1.2 h1.2 (by omega)
theorem rlog_at {r : Rf} (h : rfF r = 0) : ∀ k, k < r.lg.length → (r.lg.getD k oj0).1 = r.si + 1 + (k : Int) ∧ r.st ≤ (r.lg.getD k oj0).2.1
  | 0, hk => by
    obtain ⟨_, _, _, _, lk⟩ := rfF_iff.1 h
    obtain ⟨a, b, _⟩ := lk (by rintro e; rw [e] at hk; exact absurd hk (Nat.not_lt_zero _))
    exact ⟨by rw [a]; omega, b⟩
  | k + 1, hk => by
    obtain ⟨_, _, _, lo, _⟩ := rfF_iff.1 h
    obtain ⟨a, b⟩ := rlog_at h k (by omega)
    obtain ⟨c, d⟩ := (logF_iff.1 lo).2.2 k hk
    exact ⟨by rw [c, a]; push_cast; omega, by omega⟩
theorem rlog_term {r : Rf} (h : rfF r = 0) : ∀ d k, k + d < r.lg.length → (r.lg.getD k oj0).2.1 ≤ (r.lg.getD (k + d) oj0).2.1
  | 0, _, _ => Int.le_refl _
  | d + 1, k, hk => by
    obtain ⟨_, _, _, lo, _⟩ := rfF_iff.1 h
    have h1 := rlog_term h d k (by omega)
    have h2 := ((logF_iff.1 lo).2.2 (k + d) (by omega)).2
    rw [show k + (d + 1) = k + d + 1 by omega]
    omega
theorem rlog_le {r : Rf} (h : rfF r = 0) {k : Nat} (hk : k < r.lg.length) : (r.lg.getD k oj0).2.1 ≤ r.tm ∧ 1 ≤ (r.lg.getD k oj0).2.1 ∧ (r.lg.getD k oj0).1 ≤ 9999 := by
  obtain ⟨_, _, _, lo, lk⟩ := rfF_iff.1 h
  obtain ⟨_, _, c⟩ := lk (by rintro e; rw [e] at hk; exact absurd hk (Nat.not_lt_zero _))
  have h1 := rlog_term h (r.lg.length - 1 - k) k (by omega)
  rw [show k + (r.lg.length - 1 - k) = r.lg.length - 1 by omega] at h1
  have h2 := entF_zero ((logF_iff.1 lo).2.1 k hk)
  exact ⟨by omega, h2.1.2.1, h2.1.1.2⟩
theorem rf_drop {r : Rf} {k : Nat} {xs : List Int} (h : rfF r = 0) (hx : daF xs = 0) (hk : k < r.lg.length) : rfF ⟨r.tm, r.vt, r.si + 1 + (k : Int), (r.lg.getD k oj0).2.1, xs, r.lg.drop (k + 1)⟩ = 0 := by
  obtain ⟨rg, da, fm, lo, lk⟩ := rfF_iff.1 h
  obtain ⟨a, b⟩ := rlog_at h k hk
  obtain ⟨c, d, e⟩ := rlog_le h hk
  have s0 := rg.2.1.1
  have t0 := rg.2.2.1
  refine rfF_iff.2 ⟨⟨rg.1, ⟨by show 0 ≤ r.si + 1 + (k : Int); omega, by show r.si + 1 + (k : Int) ≤ 9999; omega⟩, by show 0 ≤ (r.lg.getD k oj0).2.1; omega, c⟩, hx, ⟨⟨fun q => by exfalso; have q : r.si + 1 + (k : Int) = 0 := q; omega, fun q => by exfalso; have q : (r.lg.getD k oj0).2.1 = 0 := q; omega⟩, fun q => by exfalso; have q : r.si + 1 + (k : Int) = 0 := q; omega⟩, logF_drop _ lo, fun hne => ?_⟩
  have hl : k + 1 < r.lg.length := by
    rcases Nat.lt_or_ge (k + 1) r.lg.length with q | q
    · exact q
    · exact absurd (List.drop_eq_nil_of_le q) hne
  have e0 : (r.lg.drop (k + 1)).getD 0 oj0 = r.lg.getD (k + 1) oj0 := by rw [getD_drop, Nat.add_zero]
  have e1 : (r.lg.drop (k + 1)).getD ((r.lg.drop (k + 1)).length - 1) oj0 = r.lg.getD (r.lg.length - 1) oj0 := by
    rw [getD_drop, List.length_drop, show k + 1 + (r.lg.length - (k + 1) - 1) = r.lg.length - 1 by omega]
  show ((r.lg.drop (k + 1)).getD 0 oj0).1 = r.si + 1 + (k : Int) + 1 ∧ (r.lg.getD k oj0).2.1 ≤ ((r.lg.drop (k + 1)).getD 0 oj0).2.1 ∧ ((r.lg.drop (k + 1)).getD ((r.lg.drop (k + 1)).length - 1) oj0).2.1 ≤ r.tm
  rw [e0, e1]
  obtain ⟨p, _⟩ := rlog_at h (k + 1) hl
  have q := rlog_term h 1 k (by omega)
  exact ⟨by rw [p]; push_cast; omega, q, (lk (by rintro e; rw [e] at hk; exact absurd hk (Nat.not_lt_zero _))).2.2⟩
theorem cp_inv {r : Rf} {i : Int} {xs : List Int} (h : cpC r i xs = 0) : rfF r = 0 ∧ daF xs = 0 ∧ ∃ k : Nat, k < r.lg.length ∧ i = r.si + 1 + (k : Int) ∧ cpR r i xs = ⟨r.tm, r.vt, r.si + 1 + (k : Int), (r.lg.getD k oj0).2.1, xs, r.lg.drop (k + 1)⟩ := by
  have hR : cpR r i xs = ⟨r.tm, r.vt, i, tmV r i, xs, r.lg.drop (i - r.si).toNat⟩ := by unfold cpR; rw [if_pos h]
  unfold cpC at h
  by_cases h0 : rfF r = 0
  · rw [if_neg (fun q => q h0)] at h
    by_cases h1 : daF xs = 0
    · rw [if_neg (fun q => q h1)] at h
      by_cases h2 : i ≤ r.si
      · rw [if_pos h2] at h; exact absurd h (by decide)
      · rw [if_neg h2] at h
        obtain ⟨_, h3⟩ := tmC_in h
        unfold lastR at h3
        obtain ⟨k, hk⟩ := Int.eq_ofNat_of_zero_le (show 0 ≤ i - (r.si + 1) by omega)
        have hkl : k < r.lg.length := by omega
        refine ⟨h0, h1, k, hkl, by omega, ?_⟩
        obtain ⟨_, hv⟩ := tmV_at (r := r) (i := i) (a := k + 1) (by push_cast; omega) (by omega)
        rw [hR, hv, if_neg (Nat.succ_ne_zero k), Nat.add_sub_cancel, show (i - r.si).toNat = k + 1 by omega, show i = r.si + 1 + (k : Int) by omega]
    · rw [if_pos h1] at h; exact absurd h h1
  · rw [if_pos h0] at h; exact absurd h h0
theorem cp_rf {r : Rf} {i : Int} {xs : List Int} (h : cpC r i xs = 0) : rfF (cpR r i xs) = 0 := by
  obtain ⟨h0, h1, k, hk, _, e⟩ := cp_inv h
  rw [e]
  exact rf_drop h0 h1 hk
theorem in_inv {r : Rf} {i t : Int} {xs : List Int} (h : inC r i t xs = 0) : rfF r = 0 ∧ daF xs = 0 ∧ ((1 ≤ i ∧ i ≤ 9999) ∧ 1 ≤ t ∧ t ≤ r.tm) ∧ ¬ i ≤ r.si ∧ ¬ t < r.st ∧ inR r i t xs = ⟨r.tm, r.vt, i, t, xs, if tmC r i = 0 ∧ tmV r i = t then r.lg.drop (i - r.si).toNat else []⟩ := by
  have hR : inR r i t xs = ⟨r.tm, r.vt, i, t, xs, if tmC r i = 0 ∧ tmV r i = t then r.lg.drop (i - r.si).toNat else []⟩ := by unfold inR; rw [if_pos h]
  unfold inC at h
  by_cases h0 : rfF r = 0
  · rw [if_neg (fun q => q h0)] at h
    by_cases h1 : daF xs = 0
    · rw [if_neg (fun q => q h1)] at h
      by_cases h2 : (1 ≤ i ∧ i ≤ 9999) ∧ 1 ≤ t ∧ t ≤ r.tm
      · rw [if_neg (fun q => q h2)] at h
        by_cases h3 : i ≤ r.si
        · rw [if_pos h3] at h; exact absurd h (by decide)
        · rw [if_neg h3] at h
          by_cases h4 : t < r.st
          · rw [if_pos h4] at h; exact absurd h (by decide)
          · exact ⟨h0, h1, h2, h3, h4, hR⟩
      · rw [if_pos h2] at h; exact absurd h (by decide)
    · rw [if_pos h1] at h; exact absurd h h1
  · rw [if_pos h0] at h; exact absurd h h0
theorem in_rf {r : Rf} {i t : Int} {xs : List Int} (h : inC r i t xs = 0) : rfF (inR r i t xs) = 0 := by
  obtain ⟨h0, h1, h2, h3, h4, e⟩ := in_inv h
  rw [e]
  by_cases hk : tmC r i = 0 ∧ tmV r i = t
  · obtain ⟨_, h5⟩ := tmC_in hk.1
    unfold lastR at h5
    obtain ⟨k, hk2⟩ := Int.eq_ofNat_of_zero_le (show 0 ≤ i - (r.si + 1) by omega)
    have hkl : k < r.lg.length := by omega
    obtain ⟨_, hv⟩ := tmV_at (r := r) (i := i) (a := k + 1) (by push_cast; omega) (by omega)
    rw [if_neg (Nat.succ_ne_zero k), Nat.add_sub_cancel] at hv
    have := rf_drop h0 h1 hkl
    rw [if_pos hk, show (i - r.si).toNat = k + 1 by omega, ← hk.2, hv, show i = r.si + 1 + (k : Int) by omega]
    exact this
  · rw [if_neg hk]
    obtain ⟨rg, _, _, _, _⟩ := rfF_iff.1 h0
    refine rfF_iff.2 ⟨⟨rg.1, ⟨by show 0 ≤ i; omega, h2.1.2⟩, by show 0 ≤ t; omega, h2.2.2⟩, h1, ⟨⟨fun q => by exfalso; have q : i = 0 := q; omega, fun q => by exfalso; have q : t = 0 := q; omega⟩, fun q => by exfalso; have q : i = 0 := q; omega⟩, logF_iff.2 ⟨Nat.zero_le _, fun _ hi => absurd hi (Nat.not_lt_zero _), fun _ hi => absurd hi (Nat.not_lt_zero _)⟩, fun hne => absurd rfl hne⟩
end Go.Proofs.YtlliggfggadidaaGreatDoor
namespace Go.Proofs.YtlliggfggadidaaGreatDoor
open Go.RowKit
structure RgI (w : World) (s : Nat) (v : Value) (bs : List Nat) (t N RR : Nat) (Q : Rf) (y z : Value) (t5 : Nat) (wr : World) : Prop where
  dr : Drawn N s v bs t t5 w wr
  res : Var6 wr w.heap.size (.int .i64 0) (.int .i64 0) (.int .i64 0) (.int .i64 0) (.slice none 0 0) (.slice none 0 0)
  rfz : ∀ o, wr.frozen? ⟨w.heap.size, o, none⟩ = false
  var : Var6 wr RR (.int .i64 Q.tm) (.int .i64 Q.vt) (.int .i64 Q.si) (.int .i64 Q.st) y z
  vfz : ∀ o, wr.frozen? ⟨RR, o, none⟩ = false
  mem : ∃ lo hi, w.heap.size < lo ∧ hi ≤ wr.heap.size ∧ (hi ≤ RR ∨ RR < lo) ∧ IvR lo hi wr y z Q.sn Q.lg
  ge : w.heap.size < RR
  old : s < w.heap.size
theorem RgI.lt {w : World} {s : Nat} {v : Value} {bs : List Nat} {t N RR : Nat} {Q : Rf} {y z : Value} {t5 : Nat} {wr : World} (h : RgI w s v bs t N RR Q y z t5 wr) : RR < wr.heap.size := h.var.lt
theorem RgI.on {w : World} {s : Nat} {v : Value} {bs : List Nat} {t N M RR : Nat} {Q : Rf} {y z : Value} {t5 t6 : Nat} {wr w1 : World} (h : RgI w s v bs t N RR Q y z t5 wr) (hd : Drawn M s v bs t5 t6 wr w1) : RgI w s v bs t (N + M) RR Q y z t6 w1 := by
  obtain ⟨lo, hi, h1, h2, h3, h4⟩ := h.mem
  have ho := h.old
  have hg := h.ge
  have hz := hd.2.1.size
  have hr := h.res.lt
  exact ⟨h.dr.on hd, h.res.wr hd.2.1 (by show ¬ w.heap.size = s; omega), fun o => (hd.2.1.frz _ _ hr).trans (h.rfz o), h.var.wr hd.2.1 (by show ¬ RR = s; omega), fun o => (hd.2.1.frz _ _ h.lt).trans (h.vfz o), ⟨lo, hi, h1, Nat.le_trans h2 hz, h3, h4.wr hd.2.1 (fun b k1 k2 e => by have e : b = s := e; omega)⟩, hg, ho⟩
theorem RgI.mono {w : World} {s : Nat} {v : Value} {bs : List Nat} {t N M RR : Nat} {Q : Rf} {y z : Value} {t5 : Nat} {wr : World} (h : RgI w s v bs t N RR Q y z t5 wr) (hN : N ≤ M) : RgI w s v bs t M RR Q y z t5 wr :=
  ⟨h.dr.mono hN, h.res, h.rfz, h.var, h.vfz, h.mem, h.ge, h.old⟩
theorem rf_nums {r : Rf} (h : rfF r = 0) : (0 ≤ r.tm ∧ r.tm ≤ 999) ∧ (0 ≤ r.vt ∧ r.vt ≤ 9) ∧ (0 ≤ r.si ∧ r.si ≤ 9999) ∧ (0 ≤ r.st ∧ r.st ≤ r.tm) ∧ r.lg.length ≤ 14 ∧ r.sn.length ≤ 40 := by
  obtain ⟨rg, da, _, lo, _⟩ := rfF_iff.1 h
  refine ⟨rg.1.1, rg.1.2, rg.2.1, rg.2.2, (logF_iff.1 lo).1, ?_⟩
  unfold daF at da
  by_cases k : 40 < r.sn.length
  · rw [if_pos k] at da; exact absurd da (by decide)
  · omega
end Go.Proofs.YtlliggfggadidaaGreatDoor
