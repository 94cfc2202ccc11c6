/- Ap1 CatE Ap2 Ap3 Ap3t in one text: what each says stands at its head below. -/
import Derived.Test.YtncgpfapepminaaGreatDoorG21
import Derived.Test.YtncgpfapepminaaGreatDoorG12
import Derived.Test.YtncgpfapepminaaGreatDoorG11
import Derived.Test.YtncgpfapepminaaGreatDoorG07
import Derived.Test.YtncgpfapepminaaGreatDoorG20
import Derived.Deep.AppendLies
import Derived.Laws.AppendOwnNone
import Derived.Test.YtncgpfapepminaaGreatDoorG14
import Derived.Test.YtncgpfapepminaaGreatDoorG24
/- Chapter 10: what 'AppendRaft' asks ahead of all, of the program. Made by program (genap1.py). -/
namespace Go.Proofs.YtncgpfapepminaaGreatDoor
open Go.RowKit

/-- The code of an append but for what is too long. -/
def apRF (r : Rf) (i t : Int) (l : List Oj) : Int :=
  if rfF r ≠ 0 then rfF r else if logF l ≠ 0 then logF l else if ¬ fitR r i t l then 1 else if tmC r i ≠ 0 then tmC r i else if tmV r i ≠ t then 10 else 0
theorem af_bad {r : Rf} {i t : Int} {l : List Oj} (h : rfF r ≠ 0) : apRF r i t l = rfF r := by unfold apRF; rw [if_pos h]
theorem af_log {r : Rf} {i t : Int} {l : List Oj} (h : rfF r = 0) (h1 : logF l ≠ 0) : apRF r i t l = logF l := by unfold apRF; rw [if_neg (by simp [h]), if_pos h1]
theorem af_fit {r : Rf} {i t : Int} {l : List Oj} (h : rfF r = 0) (h1 : logF l = 0) (h2 : decide (gon l i t r.tm) = false) : apRF r i t l = 1 := by
  unfold apRF; rw [if_neg (by simp [h]), if_neg (by simp [h1]), if_pos (fun h3 => of_decide_eq_false h2 ((gon_fit r i t l).2 h3))]
theorem af_term {r : Rf} {i t : Int} {l : List Oj} (h : rfF r = 0) (h1 : logF l = 0) (h2 : decide (gon l i t r.tm) = true) : apRF r i t l = if tmC r i ≠ 0 then tmC r i else if tmV r i ≠ t then 10 else 0 := by
  unfold apRF; rw [if_neg (by simp [h]), if_neg (by simp [h1]), if_neg (fun h3 => h3 ((gon_fit r i t l).1 (of_decide_eq_true h2)))]
theorem log_head {l : List Oj} (h : logF l = 0) (hne : l ≠ []) : 1 ≤ (l.getD 0 oj0).1 ∧ (l.getD 0 oj0).1 ≤ 9999 :=
  (entF_zero ((logF_iff.1 h).2.1 0 (List.length_pos_iff.2 hne))).1.1

end Go.Proofs.YtncgpfapepminaaGreatDoor
/- Chapter 10: slices.Grow and slices.Concat of entries, walked. Made by program (gencate.py). -/
namespace Go.Proofs.YtncgpfapepminaaGreatDoor
open Go.RowKit

/-- A row of entries that may be appended to, in a block from B on; the words lie below M. -/
def RowE (M B : Nat) (w : World) (v : Value) (L : List Oj) : Prop :=
  ∃ V, w.ownsRow B 55 3 v L.length (cellsEn L L.length V) ∧ ∀ i, i < L.length → RdI (fun b => b < M) w (V i) (L.getD i oj0).2.2
theorem RdJ_mono {S T : Nat → Prop} {w : World} {v : Value} {ps : List Oj} (h : RdJ S w v ps) (hT : ∀ b, S b → T b) : RdJ T w v ps := by
  obtain ⟨ao, c, e1, e2, e3⟩ := h
  refine ⟨ao, c, e1, e2, fun hne => ?_⟩
  obtain ⟨b, off, V, f1, f2, f3⟩ := e3 hne
  exact ⟨b, off, V, f1, hT _ f2, fun i hi => ⟨(f3 i hi).1, (f3 i hi).2.1, (f3 i hi).2.2.1, (f3 i hi).2.2.2.narrow fun _ b hb => hT b hb⟩⟩
theorem RdI.underE {M B : Nat} {w w' : World} {v : Value} {xs : List Int} (h : RdI (fun b => b < M) w v xs) (hM : M ≤ B) (hb : Below B w w') : RdI (fun b => b < M) w' v xs := by
  obtain ⟨ao, c, h1, h2, h3⟩ := h
  refine ⟨ao, c, h1, h2, fun hne => ?_⟩
  obtain ⟨b, off, e, hs, hc⟩ := h3 hne
  exact ⟨b, off, e, hs, fun i hi => (hb.cell (p := ⟨b, off + i, none⟩) (Nat.lt_of_lt_of_le hs hM)).trans (hc i hi)⟩
theorem RowE.rd {M B : Nat} {w : World} {v : Value} {L : List Oj} (h : RowE M B w v L) (hm : L.length ≤ 9223372036854775807) : RdJ (fun b => b < M ∨ B ≤ b) w v L := by
  obtain ⟨V, h1, h2⟩ := h
  rcases h1.2 with ⟨rfl, e⟩ | ⟨g, cap, cur, rfl, hg, hh, hnc, _⟩
  · have : L = [] := List.eq_nil_of_length_eq_zero e
    subst this
    exact ⟨none, 0, rfl, hm, fun h => absurd rfl h⟩
  · refine ⟨_, cap, rfl, hm, fun _ => ⟨g, 0, V, rfl, Or.inr hg, fun i hi => ⟨?_, ?_, ?_, (h2 i hi).narrow (fun _ b hb => Or.inl hb)⟩⟩⟩
    · rw [Nat.zero_add, h1.cellAt (i * 3) (by omega), cellsEn_flg _ _ _ _ hi]
    · rw [Nat.zero_add, h1.cellAt (i * 3 + 1) (by omega), cellsEn_num _ _ _ _ hi]
    · rw [Nat.zero_add, h1.cellAt (i * 3 + 2) (by omega), cellsEn_words _ _ _ _ hi]
theorem RdJ_old {S : Nat → Prop} {w : World} {v : Value} {ps : List Oj} (h : RdJ S w v ps) : RdJ (fun b => b < w.heap.size) w v ps := by
  obtain ⟨ao, c, e1, e2, e3⟩ := h
  refine ⟨ao, c, e1, e2, fun hne => ?_⟩
  obtain ⟨b, off, V, f1, f2, f3⟩ := e3 hne
  refine ⟨b, off, V, f1, World.block_lt_of_cell? _ _ (f3 0 (List.length_pos_iff.2 hne)).1, fun i hi => ⟨(f3 i hi).1, (f3 i hi).2.1, (f3 i hi).2.2.1, ?_⟩⟩
  obtain ⟨ao', c', k1, k2, k3⟩ := (f3 i hi).2.2.2
  refine ⟨ao', c', k1, k2, fun hn => ?_⟩
  obtain ⟨b', off', m1, m2, m3⟩ := k3 hn
  exact ⟨b', off', m1, World.block_lt_of_cell? _ _ (m3 0 (List.length_pos_iff.2 hn)), m3⟩

theorem cellsEn_any (ps : List Oj) (k : Nat) (V : Nat → Value) (j : Nat) (h : j < k * 3) : (cellsEn ps k V)[j]? = some (if j % 3 = 0 then .int .i64 (ps.getD (j / 3) oj0).1 else if j % 3 = 1 then .int .i64 (ps.getD (j / 3) oj0).2.1 else V (j / 3)) := by
  unfold cellsEn
  rw [List.getElem?_map, List.getElem?_range h]
  rfl
theorem cellsEn_append (L M : List Oj) (V V' : Nat → Value) : cellsEn (L ++ M) (L.length + M.length) (fun i => if i < L.length then V i else V' (i - L.length)) = cellsEn L L.length V ++ cellsEn M M.length V' := by
  apply List.ext_getElem?
  intro j
  by_cases h1 : j < L.length * 3
  · rw [List.getElem?_append_left (by rw [cellsEn_len]; exact h1), cellsEn_any _ _ _ _ h1, cellsEn_any _ _ _ _ (by omega)]
    have h2 : j / 3 < L.length := by omega
    have e : (L ++ M).getD (j / 3) oj0 = L.getD (j / 3) oj0 := by simp [List.getD, List.getElem?_append_left h2]
    rw [e, if_pos h2]
  · rw [List.getElem?_append_right (by rw [cellsEn_len]; omega), cellsEn_len]
    by_cases h3 : j < (L.length + M.length) * 3
    · rw [cellsEn_any _ _ _ _ h3, cellsEn_any _ _ _ _ (by omega)]
      have h2 : ¬ j / 3 < L.length := by omega
      have e1 : (j - L.length * 3) / 3 = j / 3 - L.length := by omega
      have e2 : (j - L.length * 3) % 3 = j % 3 := by omega
      have e : (L ++ M).getD (j / 3) oj0 = M.getD (j / 3 - L.length) oj0 := by simp [List.getD, List.getElem?_append_right (show L.length ≤ j / 3 by omega)]
      rw [e, if_neg h2, e1, e2]
    · rw [List.getElem?_eq_none (by rw [cellsEn_len]; omega), List.getElem?_eq_none (by rw [cellsEn_len]; omega)]
theorem cellsEn_oneC {S : Nat → Prop} {w : World} {M : List Oj} {V : Nat → Value} (h : ∀ i, i < M.length → RdI S w (V i) (M.getD i oj0).2.2) : ∀ u ∈ cellsEn M M.length V, u.oneCell' = true := by
  intro u hu
  obtain ⟨j, hj⟩ := List.mem_iff_getElem?.1 hu
  have hlt : j < M.length * 3 := by
    have := (List.getElem?_eq_some_iff.1 hj).1
    rwa [cellsEn_len] at this
  rw [cellsEn_any _ _ _ _ hlt] at hj
  injection hj with hj
  subst hj
  by_cases e : j % 3 = 0
  · rw [if_pos e]; rfl
  · rw [if_neg e]
    by_cases e1 : j % 3 = 1
    · rw [if_pos e1]; rfl
    · rw [if_neg e1]
      obtain ⟨a, c, e'⟩ := (h (j / 3) (by omega)).shape
      rw [e']; rfl
theorem cellsEn_atC {w : World} {M : List Oj} {V : Nat → Value} {b off : Nat} (h : ∀ i, i < M.length → w.cell? ⟨b, off + i * 3, none⟩ = some (.int .i64 (M.getD i oj0).1) ∧ w.cell? ⟨b, off + i * 3 + 1, none⟩ = some (.int .i64 (M.getD i oj0).2.1) ∧ w.cell? ⟨b, off + i * 3 + 2, none⟩ = some (V i)) :
    ∀ j u, (cellsEn M M.length V)[j]? = some u → w.cell? ((⟨b, off, none⟩ : Addr).add j) = some u := by
  intro j u hj
  have hlt : j < M.length * 3 := by
    have := (List.getElem?_eq_some_iff.1 hj).1
    rwa [cellsEn_len] at this
  rw [cellsEn_any _ _ _ _ hlt] at hj
  injection hj with hj
  subst hj
  have := h (j / 3) (by omega)
  have ea : ((⟨b, off, none⟩ : Addr).add j) = ⟨b, off + j, none⟩ := by unfold Addr.add; split <;> simp_all
  rw [ea]
  by_cases e : j % 3 = 0
  · rw [if_pos e, ← this.1, show off + j / 3 * 3 = off + j by omega]
  · rw [if_neg e]
    by_cases e1 : j % 3 = 1
    · rw [if_pos e1, ← this.2.1, show off + j / 3 * 3 + 1 = off + j by omega]
    · rw [if_neg e1, ← this.2.2, show off + j / 3 * 3 + 2 = off + j by omega]
theorem RowE.join {Mm B : Nat} {w w3 : World} {v v3 : Value} {L M : List Oj} {V V' : Nat → Value} {k : Nat} (hk : M.length = k) (h1 : w.ownsRow B 55 3 v L.length (cellsEn L L.length V)) (h2 : ∀ i, i < L.length → RdI (fun b => b < Mm) w (V i) (L.getD i oj0).2.2) (hM : Mm ≤ B) (hB : B ≤ w.heap.size)
    (hz : ∀ i, i < M.length → RdI (fun b => b < Mm) w (V' i) (M.getD i oj0).2.2) (hown : w3.ownsRow B 55 3 v3 (L.length + k) (cellsEn L L.length V ++ cellsEn M M.length V')) (hg : w.grownBy w3 v.ownBlock) :
    RowE Mm B w3 v3 (L ++ M) ∧ Below B w w3 := by
  subst hk
  have hb : Below B w w3 := ((Below.refl B w)).grown hg hB (fun r hr => (h1.lt r hr).1)
  refine ⟨⟨fun i => if i < L.length then V i else V' (i - L.length), ?_, fun i hi => ?_⟩, hb⟩
  · rw [List.length_append, cellsEn_append]
    exact hown
  · rw [List.length_append] at hi
    by_cases h : i < L.length
    · have e : (L ++ M).getD i oj0 = L.getD i oj0 := by simp [List.getD, List.getElem?_append_left h]
      rw [e]
      simp only [if_pos h]
      exact (h2 i h).underE hM hb
    · have e : (L ++ M).getD i oj0 = M.getD (i - L.length) oj0 := by simp [List.getD, List.getElem?_append_right (show L.length ≤ i by omega)]
      rw [e]
      simp only [if_neg h]
      exact (hz _ (by omega)).underE hM hb

theorem run_append_zeroE {w : World} (base : Nat) (t ty e : TypeId) (i : TypeInfo) (size : Nat) (ht : Tryz.prog.underlying t = some (.slice e)) (hi : Tryz.prog.info? e = some i)
    (v : Value) (n : Nat) (xs : List Value) (hown : w.ownsRow base e size v n xs) (ao : Option Addr) (c : Nat) :
    (Builtin.append_ #[t, t] ty #[v, .slice ao 0 c]).run Tryz.prog w = .ok v w := by
  rcases hown.2 with ⟨rfl, rfl⟩ | ⟨g, cap, cur, rfl, _, _, hnc, _⟩
  · exact run_append_zero w t ty e i ht hi none 0 0 (Nat.le_refl _) ao c
  · exact run_append_zero w t ty e i ht hi _ n cap hnc ao c
theorem wpList_append_zeroE {w : World} {ops : Array Oper} {rest : List Oper} {o : Oper} {a : Act} {Q : Exit → Act → World → Prop} (hgd : o.guard = none) (s x : Operand) (t : TypeId)
    (ho : o.op = .call { callee := .builtin .append, args := #[s, x], argTypes := #[t, t] })
    (base : Nat) (e : TypeId) (i : TypeInfo) (size : Nat) (ht : Tryz.prog.underlying t = some (.slice e)) (hi : Tryz.prog.info? e = some i)
    (v : Value) (n : Nat) (xs : List Value) (hs : a.eval s = v) (hown : w.ownsRow base e size v n xs) (ao : Option Addr) (c : Nat) (hx : a.eval x = .slice ao 0 c)
    (h : wpList Tryz.prog ops Q rest (a.put o.dst v) w) : wpList Tryz.prog ops Q (o :: rest) a w := by
  refine wpList_plain hgd fun K hK => ?_
  have hrun := run_append_zeroE (w := w) base t o.type e i size ht hi v n xs hown ao c
  unfold Oper.wp
  simp [execOp, ho, resolve, invoke, builtin, hs, hx, hrun, Result.andThen]
  exact hK _ _ h

end Go.Proofs.YtncgpfapepminaaGreatDoor
/- Chapter 10: 'joined' of the program, walked: a log with a list behind what is there already. Made by program (genap2.py). -/
namespace Go.Proofs.YtncgpfapepminaaGreatDoor
open Go.RowKit

theorem mtE_at : ∀ (k : Nat) (qs ls : List Oj), (∀ j, j < k → j < qs.length ∧ j < ls.length ∧ (qs.getD j oj0).2.1 = (ls.getD j oj0).2.1) → (k < qs.length → k < ls.length → (qs.getD k oj0).2.1 ≠ (ls.getD k oj0).2.1) → mtE qs ls = k
  | 0, qs, ls, _, h2 => by
    cases qs with
    | nil => simp [mtE]
    | cons a xs => cases ls with
      | nil => simp [mtE]
      | cons b us => rw [mtE, if_neg (by simpa using h2 (by simp) (by simp))]
  | k + 1, qs, ls, h1, h2 => by
    obtain ⟨g1, g2, g3⟩ := h1 0 (by omega)
    cases qs with
    | nil => simp at g1
    | cons a xs => cases ls with
      | nil => simp at g2
      | cons b us =>
        rw [mtE, if_pos (by simpa using g3)]
        congr 1
        exact mtE_at k xs us (fun j hj => by have := h1 (j + 1) (by omega); simpa using this) (fun e1 e2 => by have := h2 (by simp; omega) (by simp; omega); simpa using this)
/-- The log behind 'joined': the list begins at place p of the log. -/
def jnL (ps : List Oj) (p : Nat) (ls : List Oj) : List Oj := if mtE (ps.drop p) ls = ls.length then ps else ps.take (p + mtE (ps.drop p) ls) ++ ls.drop (mtE (ps.drop p) ls)
theorem drop_at (ps : List Oj) (p j : Nat) : (ps.drop p).getD j oj0 = ps.getD (p + j) oj0 := by simp [List.getD, List.getElem?_drop]
theorem jn_all {ps : List Oj} {p : Nat} {ls : List Oj} (h : ∀ j, j < ls.length → p + j < ps.length ∧ (ps.getD (p + j) oj0).2.1 = (ls.getD j oj0).2.1) : jnL ps p ls = ps := by
  unfold jnL
  rw [if_pos (mtE_at ls.length _ _ (fun j hj => ⟨by have := (h j hj).1; simp; omega, hj, by rw [drop_at]; exact (h j hj).2⟩) (fun _ h2 => absurd h2 (Nat.lt_irrefl _)))]
theorem jn_cut {ps : List Oj} {p : Nat} {ls : List Oj} (k : Nat) (hk : k < ls.length) (h : ∀ j, j < k → p + j < ps.length ∧ (ps.getD (p + j) oj0).2.1 = (ls.getD j oj0).2.1) (h2 : p + k < ps.length → (ps.getD (p + k) oj0).2.1 ≠ (ls.getD k oj0).2.1) : jnL ps p ls = ps.take (p + k) ++ ls.drop k := by
  have e : mtE (ps.drop p) ls = k := mtE_at k _ _ (fun j hj => ⟨by have := (h j hj).1; simp; omega, by omega, by rw [drop_at]; exact (h j hj).2⟩) (fun e1 _ => by rw [drop_at]; exact h2 (by simp at e1; omega))
  unfold jnL
  rw [e, if_neg (by omega)]
end Go.Proofs.YtncgpfapepminaaGreatDoor
/- Chapter 10: 'AppendRaft' of the program, walked. Made by program (genap3.py). -/
namespace Go.Proofs.YtncgpfapepminaaGreatDoor
open Go.RowKit

theorem ap_bad {r : Rf} {i t : Int} {l : List Oj} (h : apRF r i t l ≠ 0) : apRC r i t l = apRF r i t l ∧ apRR r i t l = rf0 := by
  have hc : apRC r i t l = apRF r i t l := by
    unfold apRC apRF
    unfold apRF at h
    by_cases h0 : rfF r ≠ 0
    · rw [if_pos h0, if_pos h0]
    · rw [if_neg h0] at h ⊢
      rw [if_neg h0]
      by_cases h1 : logF l ≠ 0
      · rw [if_pos h1, if_pos h1]
      · rw [if_neg h1] at h ⊢
        rw [if_neg h1]
        by_cases h2 : ¬ fitR r i t l
        · rw [if_pos h2, if_pos h2]
        · rw [if_neg h2] at h ⊢
          rw [if_neg h2]
          by_cases h3 : tmC r i ≠ 0
          · rw [if_pos h3, if_pos h3]
          · rw [if_neg h3] at h ⊢
            rw [if_neg h3]
            by_cases h4 : tmV r i ≠ t
            · rw [if_pos h4, if_pos h4]
            · rw [if_neg h4] at h; exact absurd rfl h
  exact ⟨hc, by unfold apRR; rw [if_neg (by rw [hc]; exact h)]⟩
theorem af_zero {r : Rf} {i t : Int} {l : List Oj} (h : apRF r i t l = 0) : rfF r = 0 ∧ logF l = 0 ∧ fitR r i t l ∧ tmC r i = 0 ∧ tmV r i = t := by
  unfold apRF at h
  by_cases h0 : rfF r = 0
  · rw [if_neg (by simp [h0])] at h
    by_cases h1 : logF l = 0
    · rw [if_neg (by simp [h1])] at h
      by_cases h2 : fitR r i t l
      · rw [if_neg (fun k => k h2)] at h
        by_cases h3 : tmC r i = 0
        · rw [if_neg (by simp [h3])] at h
          by_cases h4 : tmV r i = t
          · exact ⟨h0, h1, h2, h3, h4⟩
          · rw [if_pos h4] at h; cases h
        · rw [if_pos h3] at h; exact absurd h h3
      · rw [if_pos h2] at h; cases h
    · rw [if_pos h1] at h; exact absurd h h1
  · rw [if_pos h0] at h; exact absurd h h0
theorem apRC_ok {r : Rf} {i t : Int} {l : List Oj} (h : apRF r i t l = 0) : apRC r i t l = if 14 < (apL r i l).length then 8 else 0 := by
  obtain ⟨h0, h1, h2, h3, h4⟩ := af_zero h
  unfold apRC
  rw [if_neg (by simp [h0]), if_neg (by simp [h1]), if_neg (fun k => k h2), if_neg (by simp [h3]), if_neg (by simp [h4])]
theorem apL_jn (r : Rf) (i : Int) (l : List Oj) : apL r i l = jnL r.lg (i - r.si).toNat l := rfl
theorem ap_full {r : Rf} {i t : Int} {l : List Oj} (h : apRF r i t l = 0) (h1 : 14 < (jnL r.lg (i - r.si).toNat l).length) : apRC r i t l = 8 ∧ apRR r i t l = rf0 := by
  have hc : apRC r i t l = 8 := by rw [apRC_ok h, apL_jn, if_pos h1]
  exact ⟨hc, by unfold apRR; rw [if_neg (by rw [hc]; decide)]⟩
theorem ap_ok {r : Rf} {i t : Int} {l : List Oj} (h : apRF r i t l = 0) (h1 : ¬ 14 < (jnL r.lg (i - r.si).toNat l).length) : apRC r i t l = 0 ∧ apRR r i t l = ⟨r.tm, r.vt, r.si, r.st, r.sn, jnL r.lg (i - r.si).toNat l⟩ := by
  have hc : apRC r i t l = 0 := by rw [apRC_ok h, apL_jn, if_neg h1]
  exact ⟨hc, by unfold apRR; rw [if_pos hc, apL_jn]⟩
/-- What is known where nothing is wrong but, perhaps, the length. -/
theorem ap_know {r : Rf} {i t : Int} {l : List Oj} (h : apRF r i t l = 0) : (0 ≤ r.si ∧ r.si ≤ 9999) ∧ r.sn.length ≤ 40 ∧ r.lg.length ≤ 14 ∧ l.length ≤ 14 ∧ (i - r.si).toNat ≤ r.lg.length ∧ (∀ j, j < l.length → (l.getD j oj0).1 = r.si + 1 + ((i - r.si).toNat : Int) + j) ∧ (jnL r.lg (i - r.si).toNat l).length ≤ 28 ∧ (∀ j, j < (jnL r.lg (i - r.si).toNat l).length → ((jnL r.lg (i - r.si).toNat l).getD j oj0).2.2.length ≤ 1048576) := by
  obtain ⟨h0, h1, h2, h3, _⟩ := af_zero h
  have hi := rfF_iff.1 h0
  obtain ⟨g1, g2, g3⟩ := rf_room h0
  obtain ⟨k1, k2, _⟩ := logF_iff.1 h1
  have hl : lastR r = r.si + (r.lg.length : Int) := rfl
  have hb : r.si ≤ i ∧ i ≤ lastR r := by
    unfold tmC at h3
    by_cases e1 : i < r.si
    · rw [if_pos e1] at h3; cases h3
    · rw [if_neg e1] at h3
      by_cases e2 : lastR r < i
      · rw [if_pos e2] at h3; cases h3
      · omega
  refine ⟨hi.rg.2.1, g1, g2, k1, by omega, fun j hj => ?_, ?_, ?_⟩
  · have e1 := log_at h1 j hj
    have e2 := (h2 (by rintro rfl; simp at hj)).1
    rw [e1]; omega
  · unfold jnL
    split
    · omega
    · simp; omega
  · have hm : ∀ x ∈ jnL r.lg (i - r.si).toNat l, x.2.2.length ≤ 1048576 := by
      have a1 : ∀ x ∈ r.lg, x.2.2.length ≤ 1048576 := fun x hx => by
        obtain ⟨j, hj, e⟩ := List.mem_iff_getElem.1 hx
        have := g3 j hj
        simpa [List.getD, List.getElem?_eq_getElem hj, e] using this
      have a2 : ∀ x ∈ l, x.2.2.length ≤ 1048576 := fun x hx => by
        obtain ⟨j, hj, e⟩ := List.mem_iff_getElem.1 hx
        have := (entF_zero (k2 j hj)).2.1
        simp [List.getD, List.getElem?_eq_getElem hj, e] at this
        omega
      intro x hx
      unfold jnL at hx
      split at hx
      · exact a1 x hx
      · rcases List.mem_append.1 hx with hx | hx
        · exact a1 x (List.mem_of_mem_take hx)
        · exact a2 x (List.mem_of_mem_drop hx)
    intro j hj
    have : (jnL r.lg (i - r.si).toNat l).getD j oj0 = (jnL r.lg (i - r.si).toNat l)[j] := by simp [List.getD, List.getElem?_eq_getElem hj]
    rw [this]
    exact hm _ (List.getElem_mem hj)

end Go.Proofs.YtncgpfapepminaaGreatDoor
/- Chapter 10: how many words an append's answer has. -/
namespace Go.Proofs.YtncgpfapepminaaGreatDoor
open Go.RowKit

theorem sum_le : ∀ (l : List Oj), (∀ x ∈ l, x.2.2.length ≤ 6) → (l.map fun p => p.2.2.length + 2).sum ≤ l.length * 8
  | [], _ => by simp
  | x :: l, h => by
    have h1 := sum_le l (fun y hy => h y (List.mem_cons_of_mem _ hy))
    have h2 := h x (List.mem_cons_self ..)
    simp only [List.map_cons, List.sum_cons, List.length_cons]
    omega
theorem six {l : List Oj} (h : logF l = 0) : ∀ x ∈ l, x.2.2.length ≤ 6 := fun x hx => by
  obtain ⟨j, hj, e⟩ := List.mem_iff_getElem.1 hx
  have h2 := (entF_zero ((logF_iff.1 h).2.1 j hj)).2.1
  have e2 : l.getD j oj0 = x := by simp [List.getD, List.getElem?_eq_getElem hj, e]
  rw [e2] at h2
  exact h2
theorem apRR_tot (r : Rf) (i t : Int) (l : List Oj) : totR (apRR r i t l) ≤ 1048576 := by
  by_cases h : apRC r i t l = 0
  · have h0 : apRF r i t l = 0 := by
      by_cases hz : apRF r i t l = 0
      · exact hz
      · exact absurd ((ap_bad hz).1.symm.trans h) hz
    obtain ⟨k1, k2, k3, k4, k5, k6, k7, _⟩ := ap_know h0
    obtain ⟨g0, g1, _⟩ := af_zero h0
    have hl : apRR r i t l = { r with lg := apL r i l } := by unfold apRR; rw [if_pos h]
    have hm : ∀ x ∈ jnL r.lg (i - r.si).toNat l, x.2.2.length ≤ 6 := by
      intro x hx
      unfold jnL at hx
      split at hx
      · exact six (rfF_iff.1 g0).lo x hx
      · rcases List.mem_append.1 hx with hx | hx
        · exact six (rfF_iff.1 g0).lo x (List.mem_of_mem_take hx)
        · exact six g1 x (List.mem_of_mem_drop hx)
    have hs := sum_le _ hm
    rw [hl]
    unfold totR
    dsimp only
    rw [apL_jn]
    unfold totJ
    rw [List.take_length]
    omega
  · have e : apRR r i t l = rf0 := by unfold apRR; rw [if_neg h]
    rw [e, totR_zero]; decide
end Go.Proofs.YtncgpfapepminaaGreatDoor
