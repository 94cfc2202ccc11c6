/- Impl2e in one text: what each says stands at its head below. -/
import Derived.Test.YtlmaopljihbdkaaGreatG21
import Derived.Test.YtlmaopljihbdkaaGreatG20
import Derived.WalkMore
namespace Go.Proofs.YtlmaopljihbdkaaGreat
open Go.RowKit
theorem scope_falls {P : Program} {a : Act} {w : World} {Q : Exit → Act → World → Prop} {c : Code} (J : Nat → Act → World → Prop) (μ : Nat → Act → World → Nat)
    (pass : ∀ l a w, J l a w → ∃ rest, findLabel c l = some (Code.skip.seq rest) ∧ rest.wp P (jumps (fun l' a' w' => J l' a' w' ∧ μ l' a' w' < μ l a w) Q) a w)
    (first : (∀ l rest a w, findLabel c l = some (Code.skip.seq rest) → J l a w → rest.wp P (jumps J Q) a w) → c.wp P (jumps J Q) a w) : (Code.scope c).wp P Q a w := by
  refine scope_labels J μ (first fun l rest a w hf hJ => ?_) (fun l a w hJ => ?_)
  · obtain ⟨rest', hf', hwp⟩ := pass l a w hJ
    rw [hf] at hf'
    injection hf' with hf'
    injection hf' with _ hf'
    subst hf'
    refine wp_mono hwp fun e a' w' h => ?_
    cases e with
    | goto l' => exact h.1
    | _ => exact h
  · obtain ⟨rest', hf', hwp⟩ := pass l a w hJ
    exact ⟨_, hf', wp_seq (wp_skip hwp)⟩
def adrH (L : List Int) : List Int := (L.drop 3).take (L.getD 2 0).toNat
def okH (L M : List Int) : Prop := L = M ∧ L.getD 2 0 ≤ 24 ∧ headF (L.getD 0 0) (L.getD 1 0) (adrH L) = 0 ∧ ∀ i, 3 + (L.getD 2 0).toNat ≤ i → i < 32 → L.getD i 0 = 0
structure ReadAt (w : World) (A : List Value) (s t : Int) (ad : List Int) (ao : Option Addr) (m c : Nat) (wx : World) : Prop where
  below : Below w.heap.size w wx
  size : w.heap.size + 4 ≤ wx.heap.size
  first : wx.rangeAt w.heap.size 0 A
  r0 : wx.cell? ⟨w.heap.size + 1 + 1, 0, none⟩ = some (.int .i64 0)
  r1 : wx.cell? ⟨w.heap.size + 1 + 1, 1, none⟩ = some (.int .i64 0)
  r2 : wx.cell? ⟨w.heap.size + 1 + 1, 2, none⟩ = some (.slice none 0 0)
  rf : ∀ o, wx.frozen? ⟨w.heap.size + 1 + 1, o, none⟩ = false
  h0 : wx.cell? ⟨w.heap.size + 1 + 1 + 1, 0, none⟩ = some (.int .i64 s)
  h1 : wx.cell? ⟨w.heap.size + 1 + 1 + 1, 1, none⟩ = some (.int .i64 t)
  h2 : wx.cell? ⟨w.heap.size + 1 + 1 + 1, 2, none⟩ = some (.slice ao m c)
  hf : ∀ o, wx.frozen? ⟨w.heap.size + 1 + 1 + 1, o, none⟩ = false
  own : wx.ownsRow (w.heap.size + 4) 2 1 (.slice ao m c) m (ad.map (Value.int .i64))
theorem ReadAt.drewN {w wx : World} {A : List Value} {s t : Int} {ad : List Int} {ao : Option Addr} {m c : Nat} (h : ReadAt w A s t ad ao m c wx) (n : Nat) : ReadAt w A s t ad ao m c (wx.drewN n) :=
  ⟨below_on h.below (below_drewN _ n), h.size, h.first, h.r0, h.r1, h.r2, h.rf, h.h0, h.h1, h.h2, h.hf, h.own⟩
theorem ReadAt.step {w wr w3 : World} {A : List Value} {s t x : Int} {ad : List Int} {ao : Option Addr} {m c g cap : Nat} (h : ReadAt w A s t ad ao m c wr)
    (hown : w3.ownsRow (w.heap.size + 4) 2 1 (.slice (some ⟨g, 0, none⟩) (m + 1) cap) (m + 1) ((ad ++ [x]).map (Value.int .i64)))
    (hgrow : (wr.drew.alloc (.cells #[.int .i64 x] 2)).grownBy w3 (Value.slice ao m c).ownBlock) :
    ReadAt w A s t (ad ++ [x]) (some ⟨g, 0, none⟩) (m + 1) cap (w3.setCell ⟨w.heap.size + 1 + 1 + 1, 2, none⟩ (.slice (some ⟨g, 0, none⟩) (m + 1) cap)) := by
  have hB : Below (w.heap.size + 4) wr w3 := (((below_drewN wr 1).mono h.size).trans ((below_alloc wr.drew (.cells #[.int .i64 x] 2)).mono h.size)).grown hgrow (by simp; have := h.size; omega) (fun r hr => (h.own.lt r hr).1)
  have hc : ∀ b o, b < w.heap.size + 4 → w3.cell? ⟨b, o, none⟩ = wr.cell? ⟨b, o, none⟩ := fun b o hb => hB.cell (p := ⟨b, o, none⟩) hb
  have hz : ∀ b o, b < w.heap.size + 4 → w3.frozen? ⟨b, o, none⟩ = wr.frozen? ⟨b, o, none⟩ := fun b o hb => hB.frozen (p := ⟨b, o, none⟩) hb
  have hs := hB.size
  refine ⟨(h.below.trans (hB.mono (by omega))).setCell (by simp; omega) _, by simp; have := h.size; omega, fun j v hv => ?_, ?_, ?_, ?_, fun o => ?_, ?_, ?_, ?_, fun o => ?_, ?_⟩
  · rw [World.cell?_setCell_other _ _ _ _ (by intro e; injection e with e _; omega), hc _ _ (by omega)]; exact h.first j v hv
  · rw [World.cell?_setCell_other _ _ _ _ (by intro e; injection e with e _; omega), hc _ _ (by omega)]; exact h.r0
  · rw [World.cell?_setCell_other _ _ _ _ (by intro e; injection e with e _; omega), hc _ _ (by omega)]; exact h.r1
  · rw [World.cell?_setCell_other _ _ _ _ (by intro e; injection e with e _; omega), hc _ _ (by omega)]; exact h.r2
  · rw [World.frozen?_setCell, hz _ _ (by omega)]; exact h.rf o
  · rw [World.cell?_setCell_other _ _ _ _ (by intro e; injection e with _ e; omega), hc _ _ (by omega)]; exact h.h0
  · rw [World.cell?_setCell_other _ _ _ _ (by intro e; injection e with _ e; omega), hc _ _ (by omega)]; exact h.h1
  · exact World.cell?_setCell_same _ _ _ ((hc _ _ (by omega)).trans h.h2)
  · rw [World.frozen?_setCell, hz _ _ (by omega)]; exact h.hf o
  · exact ownsRow_set hown (fun e => by have := (hown.lt _ e).1; omega)
def readJ (w : World) (A B : List Value) (L M : List Int) (k : Nat) (s t : Int) (l : Nat) (a : Act) (wx : World) : Prop :=
  (l = 2 ∧ ∃ (j : Nat) (x7 x8 : Int) (ao : Option Addr) (c : Nat) (u9 u10 u11 u12 u13 u14 u15 u16 u17 u18 u19 u20 u21 u22 u23 u24 u25 u26 u27 u28 u29 u30 u31 u32 u33 u34 u35 u36 u37 u38 u39 u40 u41 u42 u43 u44 u45 u46 u47 u48 u49 u50 u51 u52 : Value), a = { tmps := #[.agg A.toArray, .agg B.toArray, .pointer (some ⟨w.heap.size, 0, none⟩), .pointer (some ⟨w.heap.size + 1, 0, none⟩), .pointer (some ⟨w.heap.size + 1 + 1, 0, none⟩), .bool false, .pointer (some ⟨w.heap.size + 1 + 1 + 1, 0, none⟩), .int .u16 x7, .int .u16 x8, u9, u10, u11, u12, u13, u14, u15, u16, u17, u18, u19, u20, u21, u22, u23, u24, u25, u26, u27, u28, u29, u30, u31, u32, u33, u34, u35, u36, u37, u38, u39, u40, u41, u42, u43, u44, u45, u46, u47, u48, u49, u50, u51, u52], defers := [] } ∧ x7 = 3 + (j : Int) ∧ x8 = (k : Int) - (j : Int) ∧ j ≤ k ∧ k ≤ 24 ∧ L = M ∧ Hid (ReadAt w A s t ((L.drop 3).take j) ao j c wx)) ∨
  (l = 1 ∧ ∃ (p : Nat) (x7 x8 : Int) (ao : Option Addr) (c : Nat) (u9 u10 u11 u12 u13 u14 u15 u16 u17 u18 u19 u20 u21 u22 u23 u24 u25 u26 u27 u28 u29 u30 u31 u32 u33 u34 u35 u36 u37 u38 u39 u40 u41 u42 u43 u44 u45 u46 u47 u48 u49 u50 u51 u52 : Value), a = { tmps := #[.agg A.toArray, .agg B.toArray, .pointer (some ⟨w.heap.size, 0, none⟩), .pointer (some ⟨w.heap.size + 1, 0, none⟩), .pointer (some ⟨w.heap.size + 1 + 1, 0, none⟩), .bool false, .pointer (some ⟨w.heap.size + 1 + 1 + 1, 0, none⟩), .int .u16 x7, .int .u16 x8, u9, u10, u11, u12, u13, u14, u15, u16, u17, u18, u19, u20, u21, u22, u23, u24, u25, u26, u27, u28, u29, u30, u31, u32, u33, u34, u35, u36, u37, u38, u39, u40, u41, u42, u43, u44, u45, u46, u47, u48, u49, u50, u51, u52], defers := [] } ∧ x7 = (p : Int) ∧ 3 + k ≤ p ∧ p ≤ 32 ∧ k ≤ 24 ∧ L = M ∧ (∀ i, 3 + k ≤ i → i < p → L.getD i 0 = 0) ∧ Hid (ReadAt w A s t ((L.drop 3).take k) ao k c wx)) ∨
  (l = 3 ∧ ∃ (x7 x8 : Int) (ao : Option Addr) (c : Nat) (u9 u10 u11 u12 u13 u14 u15 u16 u17 u18 u19 u20 u21 u22 u23 u24 u25 u26 u27 u28 u29 u30 u31 u32 u33 u34 u35 u36 u37 u38 u39 u40 u41 u42 u43 u44 u45 u46 u47 u48 u49 u50 u51 u52 : Value), a = { tmps := #[.agg A.toArray, .agg B.toArray, .pointer (some ⟨w.heap.size, 0, none⟩), .pointer (some ⟨w.heap.size + 1, 0, none⟩), .pointer (some ⟨w.heap.size + 1 + 1, 0, none⟩), .bool false, .pointer (some ⟨w.heap.size + 1 + 1 + 1, 0, none⟩), .int .u16 x7, .int .u16 x8, u9, u10, u11, u12, u13, u14, u15, u16, u17, u18, u19, u20, u21, u22, u23, u24, u25, u26, u27, u28, u29, u30, u31, u32, u33, u34, u35, u36, u37, u38, u39, u40, u41, u42, u43, u44, u45, u46, u47, u48, u49, u50, u51, u52], defers := [] } ∧ k ≤ 24 ∧ L = M ∧ (∀ i, 3 + k ≤ i → i < 32 → L.getD i 0 = 0) ∧ Hid (ReadAt w A s t ((L.drop 3).take k) ao k c wx)) ∨
  (l = 0 ∧ ∃ (x7 x8 : Int) (ao : Option Addr) (ad : List Int) (m c : Nat) (u9 u10 u11 u12 u13 u14 u15 u16 u17 u18 u19 u20 u21 u22 u23 u24 u25 u26 u27 u28 u29 u30 u31 u32 u33 u34 u35 u36 u37 u38 u39 u40 u41 u42 u43 u44 u45 u46 u47 u48 u49 u50 u51 u52 : Value), a = { tmps := #[.agg A.toArray, .agg B.toArray, .pointer (some ⟨w.heap.size, 0, none⟩), .pointer (some ⟨w.heap.size + 1, 0, none⟩), .pointer (some ⟨w.heap.size + 1 + 1, 0, none⟩), .bool false, .pointer (some ⟨w.heap.size + 1 + 1 + 1, 0, none⟩), .int .u16 x7, .int .u16 x8, u9, u10, u11, u12, u13, u14, u15, u16, u17, u18, u19, u20, u21, u22, u23, u24, u25, u26, u27, u28, u29, u30, u31, u32, u33, u34, u35, u36, u37, u38, u39, u40, u41, u42, u43, u44, u45, u46, u47, u48, u49, u50, u51, u52], defers := [] } ∧ ¬ okH L M ∧ Hid (ReadAt w A s t ad ao m c wx))
def readM (l : Nat) (a : Act) (_ : World) : Nat :=
  if l = 2 then 100 + (intOf (a.tmps.getD 8 undef)).toNat else if l = 1 then 90 - (intOf (a.tmps.getD 7 undef)).toNat else if l = 3 then 10 else 0
def readPost (L M : List Int) (w : World) (e : Ending) (w' : World) : Prop :=
  ∃ s t z ad ok, e = .returned (.tuple #[.agg #[.int .i64 s, .int .i64 t, z], .bool ok]) ∧ Below w.heap.size w w' ∧ OwI w.heap.size w' z ad ∧ ad.length ≤ 24 ∧
      (ok = true ↔ okH L M) ∧ (ok = true → s = L.getD 0 0 ∧ t = L.getD 1 0 ∧ ad = adrH L)
set_option linter.unusedSimpArgs false in
set_option maxHeartbeats 4000000 in
set_option maxRecDepth 4000 in
theorem readHeader {w : World} {L M : List Int} (hL : L.length = 32) (hM : M.length = 32) (hr : ∀ i, i < 32 → 0 ≤ L.getD i 0 ∧ L.getD i 0 ≤ 65535) :
    Calls Tryz.prog 230 #[.agg (u16s L).toArray, .agg (u16s M).toArray] w (readPost L M w) := by
  have HR := hide hr
  have HL := hide hL
  have hneq0 := hide (fun w => neq_u16 hL hM w)
  obtain ⟨s, hs⟩ : ∃ s, L.getD 0 0 = s := ⟨_, rfl⟩
  obtain ⟨t, ht⟩ : ∃ t, L.getD 1 0 = t := ⟨_, rfl⟩
  obtain ⟨k, hk⟩ : ∃ k : Nat, L.getD 2 0 = (k : Int) := ⟨_, (Int.toNat_of_nonneg (hr 2 (by omega)).1).symm⟩
  have hrs := hr 0 (by omega)
  have hrt := hr 1 (by omega)
  have hrk := hr 2 (by omega)
  rw [hs] at hrs
  rw [ht] at hrt
  rw [hk] at hrk
  have HS := hide hs
  have HT := hide ht
  have HK := hide hk
  have hAl : (u16s L).length = 32 := by rw [u16s_len, hL]
  have hBl : (u16s M).length = 32 := by rw [u16s_len, hM]
  have HAt : Hid (∀ i, i < 32 → (u16s L)[i]? = some (.int .u16 (L.getD i 0))) := fun i hi => u16s_at (by omega)
  have hAd : Hid (adrH L = (L.drop 3).take k) := by unfold Hid adrH; rw [hk]; rfl
  obtain ⟨A, hA⟩ : ∃ A, u16s L = A := ⟨_, rfl⟩
  obtain ⟨B, hB⟩ : ∃ B, u16s M = B := ⟨_, rfl⟩
  rw [hA, hB] at hneq0 ⊢
  rw [hA] at HAt hAl
  rw [hB] at hBl
  have HWs := hide (show IntKind.i64.wrap s = s by simp [IntKind.wrap, IntKind.bits, IntKind.signed]; omega)
  have HWt := hide (show IntKind.i64.wrap t = t by simp [IntKind.wrap, IntKind.bits, IntKind.signed]; omega)
  obtain ⟨i0, hi, hz0, hz1, hz2⟩ := info_parts Tryz.infoInt
  clear hs ht hk hL hM hr hA hB
  go_enter Tryz.func230, Tryz.ntmps230
  go_wp2
  refine scope_falls (readJ w A B L M k s t) readM ?_ ?_
  · rintro l a wx (⟨rfl, j, x7, x8, ao, c, u9, u10, u11, u12, u13, u14, u15, u16, u17, u18, u19, u20, u21, u22, u23, u24, u25, u26, u27, u28, u29, u30, u31, u32, u33, u34, u35, u36, u37, u38, u39, u40, u41, u42, u43, u44, u45, u46, u47, u48, u49, u50, u51, u52, rfl, hx7, hx8, hj, hk24, hLM, HC⟩ | ⟨rfl, p, x7, x8, ao, c, u9, u10, u11, u12, u13, u14, u15, u16, u17, u18, u19, u20, u21, u22, u23, u24, u25, u26, u27, u28, u29, u30, u31, u32, u33, u34, u35, u36, u37, u38, u39, u40, u41, u42, u43, u44, u45, u46, u47, u48, u49, u50, u51, u52, rfl, hx7, hp1, hp2, hk24, hLM, hzr, HC⟩ | ⟨rfl, x7, x8, ao, c, u9, u10, u11, u12, u13, u14, u15, u16, u17, u18, u19, u20, u21, u22, u23, u24, u25, u26, u27, u28, u29, u30, u31, u32, u33, u34, u35, u36, u37, u38, u39, u40, u41, u42, u43, u44, u45, u46, u47, u48, u49, u50, u51, u52, rfl, hk24, hLM, hzr, HC⟩ | ⟨rfl, x7, x8, ao, ad, m, c, u9, u10, u11, u12, u13, u14, u15, u16, u17, u18, u19, u20, u21, u22, u23, u24, u25, u26, u27, u28, u29, u30, u31, u32, u33, u34, u35, u36, u37, u38, u39, u40, u41, u42, u43, u44, u45, u46, u47, u48, u49, u50, u51, u52, rfl, hno, HC⟩)
    · refine ⟨_, rfl, ?_⟩
      have hM0 : readM 2 { tmps := #[.agg A.toArray, .agg B.toArray, .pointer (some ⟨w.heap.size, 0, none⟩), .pointer (some ⟨w.heap.size + 1, 0, none⟩), .pointer (some ⟨w.heap.size + 1 + 1, 0, none⟩), .bool false, .pointer (some ⟨w.heap.size + 1 + 1 + 1, 0, none⟩), .int .u16 x7, .int .u16 x8, u9, u10, u11, u12, u13, u14, u15, u16, u17, u18, u19, u20, u21, u22, u23, u24, u25, u26, u27, u28, u29, u30, u31, u32, u33, u34, u35, u36, u37, u38, u39, u40, u41, u42, u43, u44, u45, u46, u47, u48, u49, u50, u51, u52], defers := [] } wx = 100 + x8.toNat := by simp [readM, intOf]
      rw [hM0]
      clear hM0
      obtain ⟨p, hp⟩ : ∃ p : Nat, p = 3 + j := ⟨_, rfl⟩
      have hxp : x7 = (p : Int) := by omega
      have HP := hide hp
      have HX8 := hide hx8
      by_cases hjk : j = k
      · have h80 : x8 = 0 := by omega
        have hp29 : 3 + k ≤ p ∧ p ≤ 32 ∧ p ≤ 3 + k := by omega
        have HLM := hide hLM
        clear hx7 hx8 HX8 hp HP hLM
        subst hxp h80 hjk
        go_wp2
        go_step3
        exact ⟨Or.inr (Or.inl ⟨rfl, p, (p : Int), 0, ao, c, _, _, _, _, _, _, _, _, _, _, _, _, _, _, _, _, _, _, _, _, _, _, _, _, _, _, _, _, _, _, _, _, _, _, _, _, _, _, _, _, _, _, _, _, rfl, rfl, hp29.1, hp29.2.1, hk24, HLM.out, fun i h1 h2 => absurd h2 (by omega), HC.out⟩), by simp [readM, intOf]; omega⟩
      · have h80 : ¬ x8 = 0 := by omega
        have hx8' : 0 < x8 ∧ x8 ≤ 24 := by omega
        have hp28 : p < 32 := by omega
        have hpi : (p : Int) < 32 := by omega
        have hpi0 : (0 : Int) ≤ (p : Int) := by omega
        have HLM := hide hLM
        clear hx7 hx8 hp hLM
        subst hxp
        have hrp := HR.out p hp28
        have cF := HC.out.first p _ (HAt.out p hp28)
        rw [Nat.zero_add] at cF
        obtain ⟨x, hx⟩ : ∃ x, L.getD p 0 = x := ⟨_, rfl⟩
        have HX := hide hx
        rw [hx] at cF hrp
        have hwx : IntKind.i64.wrap x = x := by simp [IntKind.wrap, IntKind.bits, IntKind.signed]; omega
        have hw8 : IntKind.u16.wrap (x8 - 1) = x8 - 1 := wrap_u16 (by omega) (by omega)
        have hw7 : IntKind.u16.wrap ((p : Int) + 1) = (p : Int) + 1 := wrap_u16 (by omega) (by omega)
        have c2 := HC.out.h2
        have f2 := HC.out.hf 2
        have hsz := HC.out.size
        have d2 : (wx.drew.alloc (.cells #[.int .i64 x] 2)).cell? ⟨w.heap.size + 1 + 1 + 1, 2, none⟩ = some (.slice ao j c) := cell_later (below_alloc wx.drew _) c2
        have e2 : (wx.alloc (.cells #[.int .i64 x] 2)).cell? ⟨w.heap.size + 1 + 1 + 1, 2, none⟩ = some (.slice ao j c) := cell_later (below_alloc wx _) c2
        have eF : (wx.alloc (.cells #[.int .i64 x] 2)).cell? ⟨w.heap.size, p, none⟩ = some (.int .u16 x) := cell_later (below_alloc wx _) cF
        have dF : (wx.drew.alloc (.cells #[.int .i64 x] 2)).cell? ⟨w.heap.size, p, none⟩ = some (.int .u16 x) := cell_later (below_alloc wx.drew _) cF
        have HOw : Hid ((wx.drew.alloc (.cells #[.int .i64 x] 2)).ownsRow (w.heap.size + 4) 2 1 (.slice ao j c) j (((L.drop 3).take j).map (Value.int .i64))) := ownsRow_later (ownsRow_later HC.out.own (below_drewN _ 1)) (below_alloc _ _)
        have HTk : Hid ((L.drop 3).take (j + 1) = (L.drop 3).take j ++ [x]) := by
          have hjl : j < (L.drop 3).length := by have := HP.out; simp [HL.out]; omega
          unfold Hid
          rw [List.take_succ_eq_append_getElem hjl, ← HX.out, HP.out]
          simp [List.getD, HL.out, show 3 + j < 32 by omega]
        clear hx
        go_wp2_with fail
        go_region_law (refine step_append_lies _ (by rfl) _ _ _ (by rfl) (w.heap.size + 4) 2 i0 (.int .i64 0) 1 8 Tryz.underlying22 hi hz0 hz1 hz2 rfl (by omega) (.slice ao j c) j _ (by rfl) HOw.out ⟨wx.heap.size, 0, none⟩ 1 1 [.int .i64 x] (by rfl) (by rfl) (World.news_of_block (cs := #[.int .i64 x]) (t := 2) (fr := (0, 0)) (heap_alloc_new wx.drew _)) (by simp [Value.oneCell']) (by omega) (by unfold maxLen; omega) (by omega) (by simp; omega) (wx.heap.size + 1) (by simp) ?_; intro g cap w3 hown3 hgrow hat hlt3; have s0 := (hgrow.cell_far ⟨w.heap.size + 1 + 1 + 1, 2, none⟩ (by simp; omega) (fun e => by have := (HC.out.own.lt _ e.symm).1; dsimp only at this; omega)).trans d2; have s1 : w3.frozen? ⟨w.heap.size + 1 + 1 + 1, 2, none⟩ = false := (hgrow.frozen_far ⟨w.heap.size + 1 + 1 + 1, 2, none⟩ (by simp; omega) (fun e => by have := (HC.out.own.lt _ e.symm).1; dsimp only at this; omega)).trans (((bcell (below_alloc wx.drew _)).2 _ _ (by simp; omega)).trans f2))
        all_goals
          have HSt := hide (HC.out.step (x := x) (by rw [List.map_append]; exact hown3) hgrow)
          rw [← HTk.out] at HSt
          clear hown3 hgrow hat s0 s1
          go_wp2
          go_step3
          have h1 := HP.out
          have h2 := HX8.out
          exact ⟨Or.inl ⟨rfl, j + 1, (p : Int) + 1, x8 - 1, _, _, _, _, _, _, _, _, _, _, _, _, _, _, _, _, _, _, _, _, _, _, _, _, _, _, _, _, _, _, _, _, _, _, _, _, _, _, _, _, _, _, _, _, _, _, rfl, by omega, by omega, by omega, hk24, HLM.out, HSt.out⟩, by simp [readM, intOf]; omega⟩
    · refine ⟨_, rfl, ?_⟩
      have hM0 : readM 1 { tmps := #[.agg A.toArray, .agg B.toArray, .pointer (some ⟨w.heap.size, 0, none⟩), .pointer (some ⟨w.heap.size + 1, 0, none⟩), .pointer (some ⟨w.heap.size + 1 + 1, 0, none⟩), .bool false, .pointer (some ⟨w.heap.size + 1 + 1 + 1, 0, none⟩), .int .u16 x7, .int .u16 x8, u9, u10, u11, u12, u13, u14, u15, u16, u17, u18, u19, u20, u21, u22, u23, u24, u25, u26, u27, u28, u29, u30, u31, u32, u33, u34, u35, u36, u37, u38, u39, u40, u41, u42, u43, u44, u45, u46, u47, u48, u49, u50, u51, u52], defers := [] } wx = 90 - x7.toNat := by simp [readM, intOf]
      rw [hM0]
      clear hM0
      subst hx7
      have HLM := hide hLM
      have HZr := hide hzr
      clear hLM hzr
      by_cases hp32 : p = 32
      · subst hp32
        go_wp2
        go_step3
        exact ⟨Or.inr (Or.inr (Or.inl ⟨rfl, _, x8, ao, c, _, _, _, _, _, _, _, _, _, _, _, _, _, _, _, _, _, _, _, _, _, _, _, _, _, _, _, _, _, _, _, _, _, _, _, _, _, _, _, _, _, _, _, _, rfl, hk24, HLM.out, HZr.out, HC.out⟩)), by simp [readM]⟩
      · have hp28 : p < 32 := by omega
        have hpi : ¬ (p : Int) = 32 := by omega
        have hpi1 : (p : Int) < 32 := by omega
        have hpi0 : (0 : Int) ≤ (p : Int) := by omega
        have cF := HC.out.first p _ (HAt.out p hp28)
        rw [Nat.zero_add] at cF
        obtain ⟨x, hx⟩ : ∃ x, L.getD p 0 = x := ⟨_, rfl⟩
        have HX := hide hx
        rw [hx] at cF
        have hw7 : IntKind.u16.wrap ((p : Int) + 1) = (p : Int) + 1 := wrap_u16 (by omega) (by omega)
        clear hx
        by_cases hx0 : x = 0
        · subst hx0
          go_wp2
          go_step3
          have HZ2 : Hid (∀ i, 3 + k ≤ i → i < p + 1 → L.getD i 0 = 0) := by
            intro i h1 h2
            by_cases e : i = p
            · rw [e]; exact HX.out
            · exact HZr.out i h1 (by omega)
          exact ⟨Or.inr (Or.inl ⟨rfl, p + 1, (p : Int) + 1, x8, ao, c, _, _, _, _, _, _, _, _, _, _, _, _, _, _, _, _, _, _, _, _, _, _, _, _, _, _, _, _, _, _, _, _, _, _, _, _, _, _, _, _, _, _, _, _, rfl, by omega, by omega, by omega, hk24, HLM.out, HZ2.out, HC.out⟩), by simp [readM, intOf]; omega⟩
        · go_wp2
          go_step3
          exact ⟨Or.inr (Or.inr (Or.inr ⟨rfl, (p : Int), x8, ao, _, k, c, _, _, _, _, _, _, _, _, _, _, _, _, _, _, _, _, _, _, _, _, _, _, _, _, _, _, _, _, _, _, _, _, _, _, _, _, _, _, _, _, _, _, _, _, rfl, fun h => hx0 (by rw [← HX.out]; exact h.2.2.2 p (by rw [HK.out]; simp; omega) hp28), HC.out⟩)), by simp [readM, intOf]; omega⟩
    · refine ⟨_, rfl, ?_⟩
      have HLM := hide hLM
      have HZr := hide hzr
      clear hLM hzr
      have q0 := HC.out.h0
      have q1 := HC.out.h1
      have q2 := HC.out.h2
      have hadl : ((L.drop 3).take k).length = k := by simp [HL.out]; omega
      have HAl := hide hadl
      have HOw : Hid (OwI (w.heap.size + 4) wx (.slice ao k c) ((L.drop 3).take k)) := ow_of_owns hadl HC.out.own (by omega)
      have hsz := HC.out.size
      obtain ⟨z, hz⟩ : ∃ z, headF s t ((L.drop 3).take k) = z := ⟨_, rfl⟩
      have HZ := hide hz
      clear hz hadl
      go_wp2_with fail
      refine (implHeaderFault s t HOw.out.rd).mono ?_
      rintro e w1 ⟨he, hb1⟩
      rw [HZ.out] at he
      subst he
      have e0 := cell_later hb1 q0
      have e1 := cell_later hb1 q1
      have e2 := cell_later hb1 q2
      have r0 := cell_later hb1 HC.out.r0
      have r1 := cell_later hb1 HC.out.r1
      have r2 := cell_later hb1 HC.out.r2
      have f0 := ((bcell hb1).2 _ _ (by omega)).trans (HC.out.rf 0)
      have f1 := ((bcell hb1).2 _ _ (by omega)).trans (HC.out.rf 1)
      have f2 := ((bcell hb1).2 _ _ (by omega)).trans (HC.out.rf 2)
      have HB1 := hide (below_on HC.out.below hb1)
      have HO1 := hide (HOw.out.later hb1)
      clear hb1 q0 q1 q2
      by_cases h0 : z = 0
      · subst h0
        have HOk : Hid (okH L M) := by
          refine ⟨HLM.out, by rw [HK.out]; omega, ?_, fun i h1 h2 => HZr.out i (by rw [HK.out] at h1; simpa using h1) h2⟩
          rw [HS.out, HT.out, hAd.out]
          exact HZ.out
        go_wp2
        simp only [jumps]
        refine bodyPost_ret (v := .tuple #[.agg #[.int .i64 s, .int .i64 t, .slice ao k c], .bool true]) (by simp [results, Tryz.results230, go_sem, r0, r1, r2]) rfl ?_
        unfold readPost
        refine ⟨s, t, .slice ao k c, (L.drop 3).take k, true, rfl, ?_, ?_, by rw [HAl.out]; exact hk24, ⟨fun _ => HOk.out, fun _ => rfl⟩, fun _ => ⟨HS.out.symm, HT.out.symm, hAd.out.symm⟩⟩
        · repeat (first | refine Below.setCell ?_ (by first | (simp; done) | (simp; omega) | omega) _ | exact HB1.out)
        · refine OwI.mono (OwI.wr HO1.out (T := fun b => b < w.heap.size + 4) ?_ (fun b hb _ => by omega)) (by omega)
          repeat (first | refine Wr.setCell ?_ (by first | (simp; done) | (simp; omega) | omega) _ | exact Wr.refl _ _)
      · have HNo : Hid (¬ okH L M) := fun h => h0 (by rw [← HZ.out, ← HS.out, ← HT.out, ← hAd.out]; exact h.2.2.1)
        go_wp2
        go_step3
        go_wp2
        simp only [jumps]
        refine bodyPost_ret (v := .tuple #[.agg #[.int .i64 0, .int .i64 0, .slice none 0 0], .bool false]) (by simp [results, Tryz.results230, go_sem, r0, r1, r2]) rfl ?_
        unfold readPost
        refine ⟨0, 0, .slice none 0 0, [], false, rfl, ?_, OwI_nil _ _, by simp, ⟨fun h => absurd h (by decide), fun h => absurd h HNo.out⟩, fun h => absurd h (by decide)⟩
        repeat (first | refine Below.setCell ?_ (by first | (simp; done) | (simp; omega) | omega) _ | exact HB1.out)
    · refine ⟨_, rfl, ?_⟩
      have r0 := HC.out.r0
      have r1 := HC.out.r1
      have r2 := HC.out.r2
      have f0 := HC.out.rf 0
      have f1 := HC.out.rf 1
      have f2 := HC.out.rf 2
      have HNo := hide hno
      clear hno
      go_wp2
      simp only [jumps]
      refine bodyPost_ret (v := .tuple #[.agg #[.int .i64 0, .int .i64 0, .slice none 0 0], .bool false]) (by simp [results, Tryz.results230, go_sem, r0, r1, r2]) rfl ?_
      unfold readPost
      refine ⟨0, 0, .slice none 0 0, [], false, rfl, ?_, OwI_nil _ _, by simp, ⟨fun h => absurd h (by decide), fun h => absurd h HNo.out⟩, fun h => absurd h (by decide)⟩
      repeat (first | refine Below.setCell ?_ (by first | (simp; done) | (simp; omega) | omega) _ | exact HC.out.below)
  · intro hfall
    have HFa := hide hfall
    clear hfall
    have HW0 : Hid (Below w.heap.size w (((w.alloc (.cells A.toArray 251)).alloc (.cells B.toArray 251)).alloc (.cells #[.int .i64 0, .int .i64 0, .slice none 0 0] 178)) ∧
        (((w.alloc (.cells A.toArray 251)).alloc (.cells B.toArray 251)).alloc (.cells #[.int .i64 0, .int .i64 0, .slice none 0 0] 178)).heap.size = w.heap.size + 1 + 1 + 1 ∧
        (((w.alloc (.cells A.toArray 251)).alloc (.cells B.toArray 251)).alloc (.cells #[.int .i64 0, .int .i64 0, .slice none 0 0] 178)).rangeAt w.heap.size 0 A ∧
        (((w.alloc (.cells A.toArray 251)).alloc (.cells B.toArray 251)).alloc (.cells #[.int .i64 0, .int .i64 0, .slice none 0 0] 178)).rangeAt (w.heap.size + 1) 0 B ∧
        (((w.alloc (.cells A.toArray 251)).alloc (.cells B.toArray 251)).alloc (.cells #[.int .i64 0, .int .i64 0, .slice none 0 0] 178)).cell? ⟨w.heap.size + 1 + 1, 0, none⟩ = some (.int .i64 0) ∧
        (((w.alloc (.cells A.toArray 251)).alloc (.cells B.toArray 251)).alloc (.cells #[.int .i64 0, .int .i64 0, .slice none 0 0] 178)).cell? ⟨w.heap.size + 1 + 1, 1, none⟩ = some (.int .i64 0) ∧
        (((w.alloc (.cells A.toArray 251)).alloc (.cells B.toArray 251)).alloc (.cells #[.int .i64 0, .int .i64 0, .slice none 0 0] 178)).cell? ⟨w.heap.size + 1 + 1, 2, none⟩ = some (.slice none 0 0) ∧
        ∀ o, (((w.alloc (.cells A.toArray 251)).alloc (.cells B.toArray 251)).alloc (.cells #[.int .i64 0, .int .i64 0, .slice none 0 0] 178)).frozen? ⟨w.heap.size + 1 + 1, o, none⟩ = false) := by
      refine ⟨below_on (below_on (below_alloc _ _) (below_alloc _ _)) (below_alloc _ _), by simp, World.rangeAt_alloc (World.rangeAt_alloc (range_new w A _) _) _, ?_, by simp [go_sem], by simp [go_sem], by simp [go_sem], fun o => by simp [go_sem]⟩
      have := World.rangeAt_alloc (range_new (w.alloc (.cells A.toArray 251)) B 251) (.cells #[.int .i64 0, .int .i64 0, .slice none 0 0] 178)
      rw [World.size_alloc] at this
      exact this
    refine forget (fun wx => Below w.heap.size w wx ∧ wx.heap.size = w.heap.size + 1 + 1 + 1 ∧ wx.rangeAt w.heap.size 0 A ∧ wx.rangeAt (w.heap.size + 1) 0 B ∧ wx.cell? ⟨w.heap.size + 1 + 1, 0, none⟩ = some (.int .i64 0) ∧ wx.cell? ⟨w.heap.size + 1 + 1, 1, none⟩ = some (.int .i64 0) ∧ wx.cell? ⟨w.heap.size + 1 + 1, 2, none⟩ = some (.slice none 0 0) ∧ ∀ o, wx.frozen? ⟨w.heap.size + 1 + 1, o, none⟩ = false) HW0.out ?_
    clear HW0
    rintro W ⟨hbW, hWs, hrA, hrB, v0, v1, v2, vf⟩
    have cA0 := hrA 0 _ (HAt.out 0 (by omega))
    have cA1 := hrA 1 _ (HAt.out 1 (by omega))
    have cA2 := hrA 2 _ (HAt.out 2 (by omega))
    rw [Nat.zero_add, HS.out] at cA0
    rw [Nat.zero_add, HT.out] at cA1
    rw [Nat.zero_add, HK.out] at cA2
    have hws := HWs.out
    have hwt := HWt.out
    obtain ⟨W2, hW2⟩ : ∃ W2, W.alloc (.cells #[.int .i64 s, .int .i64 t, .slice none 0 0] 178) = W2 := ⟨_, rfl⟩
    have BA := below_alloc W (.cells #[.int .i64 s, .int .i64 t, .slice none 0 0] 178)
    have dA2 := cell_later BA cA2
    rw [hW2] at BA dA2
    have hrA2 : W2.rangeAt w.heap.size 0 A := fun j v hv => cell_later BA (hrA j v hv)
    have HrA2 := hide hrA2
    have HrB2 : Hid (W2.rangeAt (w.heap.size + 1) 0 B) := fun j v hv => cell_later BA (hrB j v hv)
    have HRd : Hid (ReadAt w A s t ((L.drop 3).take 0) none 0 0 W2) := by
      refine ⟨below_on hbW BA, by rw [← hW2]; simp [hWs], hrA2, cell_later BA v0, cell_later BA v1, cell_later BA v2, fun o => ((bcell BA).2 _ _ (by omega)).trans (vf o), ?_, ?_, ?_, fun o => ?_, World.ownsRow_nil _ _ _ _⟩
      · rw [← hW2, ← hWs]; simp [go_sem]
      · rw [← hW2, ← hWs]; simp [go_sem]
      · rw [← hW2, ← hWs]; simp [go_sem]
      · rw [← hW2, ← hWs]; simp [go_sem]
    have hszA := hide (show (Tryz.prog.info? 251).map (·.size) = some A.length by rw [hAl]; exact Tryz.sizeHHalf)
    have hszB := hide (show (Tryz.prog.info? 251).map (·.size) = some B.length by rw [hBl]; exact Tryz.sizeHHalf)
    have hgd := fun (x y : Operand) (w : World) => guard_u16 x y A.toArray B.toArray w
    have HWz := hide hWs
    have HW2 := hide hW2
    clear hW2
    clear hrA hrB v0 v1 v2 vf hrA2 hbW BA hWs
    go_upto_region 2 with fail
    rw [HWz.out]
    refine forget (fun wx => wx = W2) HW2.out ?_
    rintro wx rfl
    clear HW2 cA0 cA1 cA2 hws hwt HWz
    go_quiet (fail)
    by_cases hLM : L = M
    · have hneq : ∀ w, (binOp .neq 251 (.agg A.toArray) (.agg B.toArray)).run Tryz.prog w = .ok (.bool false) w := fun w => by have := hneq0.out w; rw [decide_eq_true hLM] at this; exact this
      have HLM := hide hLM
      clear hLM
      by_cases h24 : 24 < (k : Int)
      · go_wp2_with (first | (refine wpList_load_mid rfl 251 _ rfl w.heap.size 0 (by rfl) A _ HrA2.out Tryz.underlying251 rfl hszA.out ?_) | (refine wpList_load_mid rfl 251 _ rfl (w.heap.size + 1) 0 (by rfl) B _ HrB2.out Tryz.underlying251 rfl hszB.out ?_))
        go_step3
        exact Or.inr (Or.inr (Or.inr ⟨rfl, 3, (k : Int), none, _, 0, 0, _, _, _, _, _, _, _, _, _, _, _, _, _, _, _, _, _, _, _, _, _, _, _, _, _, _, _, _, _, _, _, _, _, _, _, _, _, _, _, _, _, _, _, _, rfl, fun h => by have := h.2.1; rw [HK.out] at this; omega, HRd.out.drewN _⟩))
      · go_wp2_with (first | (refine wpList_load_mid rfl 251 _ rfl w.heap.size 0 (by rfl) A _ HrA2.out Tryz.underlying251 rfl hszA.out ?_) | (refine wpList_load_mid rfl 251 _ rfl (w.heap.size + 1) 0 (by rfl) B _ HrB2.out Tryz.underlying251 rfl hszB.out ?_))
        go_step3
        simp only [Exit.then]
        rename_i hcont
        exact hcont _ _ (HFa.out 2 _ _ _ rfl (Or.inl ⟨rfl, 0, 3, (k : Int), none, 0, _, _, _, _, _, _, _, _, _, _, _, _, _, _, _, _, _, _, _, _, _, _, _, _, _, _, _, _, _, _, _, _, _, _, _, _, _, _, _, _, _, _, _, _, rfl, rfl, by omega, by omega, by omega, HLM.out, HRd.out.drewN _⟩))
    · have hneq : ∀ w, (binOp .neq 251 (.agg A.toArray) (.agg B.toArray)).run Tryz.prog w = .ok (.bool true) w := fun w => by have := hneq0.out w; rw [decide_eq_false hLM] at this; exact this
      go_wp2_with (first | (refine wpList_load_mid rfl 251 _ rfl w.heap.size 0 (by rfl) A _ HrA2.out Tryz.underlying251 rfl hszA.out ?_) | (refine wpList_load_mid rfl 251 _ rfl (w.heap.size + 1) 0 (by rfl) B _ HrB2.out Tryz.underlying251 rfl hszB.out ?_))
      go_step3
      exact Or.inr (Or.inr (Or.inr ⟨rfl, 3, (k : Int), none, _, 0, 0, _, _, _, _, _, _, _, _, _, _, _, _, _, _, _, _, _, _, _, _, _, _, _, _, _, _, _, _, _, _, _, _, _, _, _, _, _, _, _, _, _, _, _, _, rfl, fun h => hLM h.1, HRd.out.drewN _⟩))
end Go.Proofs.YtlmaopljihbdkaaGreat
