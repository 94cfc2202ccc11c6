/- Hd1 Hd Ob IvP ObS in one text: what each says stands at its head below. -/
import Derived.Test.YtncgpfapepminaaGreatDoorG05
import Derived.Test.YtncgpfapepminaaGreatDoorG04
import Derived.Test.YtncgpfapepminaaGreatDoorG03
/- Chapter 10, draws: 'spec.l10DrawData', walked. -/
namespace Go.Proofs.YtncgpfapepminaaGreatDoor
open Go.RowKit

set_option maxHeartbeats 4000000 in
set_option maxRecDepth 4000 in
/-- 'l10DrawData': some numbers, of new memory. -/
theorem l10DrawDataW {s : Nat} {v : Value} {bs : List Nat} {w : World} {t : Nat} (hS : Src s v bs w t) (ht : t ≤ 1000000000) :
    Calls Tryz.prog 46 #[.pointer (some ⟨s, 0, none⟩)] w fun e w' => ∃ (ao : Option Addr) (n c : Nat) (xs : List Int), e = .returned (.slice ao n c) ∧ xs.length = n ∧ n ≤ 20 ∧ w'.ownsRow w.heap.size 2 1 (.slice ao n c) n (xs.map (Value.int .i64)) ∧ ∃ t', Drawn 32 s v bs t t' w w' := by
  have HS := hide hS
  have hsl := hS.lt
  obtain ⟨i0, hi, hz0, hz1, hz2⟩ := info_parts Tryz.infoInt
  clear hS
  have D0 := hide ((Drawn.refl HS.out).later (below_alloc w (.cells #[] 2)))
  have O0 := hide (World.ownsRow_made (base := w.heap.size) (e := 2) (size := 1) w #[] 0 (Nat.le_refl _) (by unfold maxLen; omega) (by simp))
  have hs0 : w.heap.size + 1 = (w.alloc (.cells #[] 2)).heap.size := by simp
  obtain ⟨W0, hW0⟩ : ∃ x, w.alloc (.cells #[] 2) = x := ⟨_, rfl⟩
  rw [hW0] at D0 O0 hs0
  go_enter Tryz.func46, Tryz.ntmps46
  go_wp2_with fail
  (try rw [hW0])
  clear hW0
  refine (l1Next 20 D0.out.1 (by omega) (by omega) (by omega)).mono ?_
  rintro e w1 ⟨m0, rfl, a0, b0, t1, hd1⟩
  obtain ⟨m, rfl⟩ := Int.eq_ofNat_of_zero_le a0
  have hm : m < 20 := by have := b0 (by omega); omega
  have D1 := hide ((D0.out.on hd1).mono (show 0 + 1 ≤ 1 by omega))
  have O1 := hide (ownsRow_wr O0.out hd1.2.1 (ownBlock_ne O0.out hsl))
  clear hd1 D0 O0 a0 b0
  go_wp2
  go_loopw [3, 4] (fun v' k wr => ∃ (n K : Nat) (ao : Option Addr) (c : Nat) (xs : List Int) (t5 : Nat), n + K = m ∧ k = .int .i64 K ∧ v' = .slice ao n c ∧ Hid (xs.length = n) ∧ Hid (wr.ownsRow w.heap.size 2 1 (.slice ao n c) n (xs.map (Value.int .i64))) ∧ Hid (Drawn (1 + n) s v bs t t5 w wr)) (fun _ k _ => (intOf k).toNat)
  case atStart => exact ⟨0, m, _, _, [], t1, by omega, rfl, rfl, rfl, O1.out, D1.out⟩
  case round =>
    obtain ⟨n, K, ao, c, xs, t5, hnK, rfl, rfl, HL, HO, HD⟩ := hrel
    have hz := HD.out.2.1.size
    by_cases hK0 : 0 < K
    · have HnK := hide hnK
      clear hnK
      go_wp2_with fail
      refine (l1Next 99 HD.out.1 (by have := HD.out.2.2; have := HnK.out; omega) (by omega) (by omega)).mono ?_
      rintro e w6 ⟨r, rfl, ar, br, t6, hd6⟩
      have D6 := hide (HD.out.on hd6)
      have O6 := hide (ownsRow_wr HO.out hd6.2.1 (ownBlock_ne HO.out hsl))
      have hz6 := hd6.2.1.size
      have hn1 : n ≤ 1000 := by have := HnK.out; omega
      have hK1 : K ≤ 1000 := by have := HnK.out; omega
      clear hd6 br
      go_wp2_with (at_builtin; refine wpList_append_lies _ rfl _ _ _ rfl w.heap.size 2 i0 (.int .i64 0) 1 8 Tryz.underlying24 hi hz0 hz1 hz2 rfl (by omega) _ n _ (by rfl) (O6.out.alloc _) ⟨w6.heap.size, 0, none⟩ 1 1 [.int .i64 r] (by rfl) (by rfl) (World.news_of_block (cs := #[.int .i64 r]) (t := 2) (fr := (0, 0)) (heap_alloc_new w6 _)) (by simp [Value.oneCell']) (by omega) (by unfold maxLen; omega) (by omega) (by simp; omega) (w6.heap.size + 1) (by simp) ?_)
      intro g cap w7 hown hgrow hat hlt7
      have HB7 := hide ((Below.mono (below_alloc w6 (.cells #[.int .i64 r] 2)) (show w.heap.size ≤ w6.heap.size by omega)).grown hgrow (by simp; omega) (fun r hr => (O6.out.lt r hr).1))
      have D7 := hide ((D6.out.onBelow HS.out HB7.out).mono (show 1 + n + 1 ≤ 1 + (n + 1) by omega))
      have O7 : Hid (w7.ownsRow w.heap.size 2 1 (.slice (some ⟨g, 0, none⟩) (n + 1) cap) (n + 1) ((xs ++ [r]).map (Value.int .i64))) := by rw [Hid, List.map_append]; exact hown
      have HL7 : Hid ((xs ++ [r]).length = n + 1) := by unfold Hid; rw [List.length_append, HL.out]; rfl
      clear hown hgrow hat hlt7 HB7 O6 D6
      obtain ⟨K', rfl⟩ : ∃ K', K = K' + 1 := ⟨K - 1, by omega⟩
      go_wp2
      go_roundw
      case rel => exact ⟨n + 1, K', _, _, xs ++ [r], t6, by have := HnK.out; omega, by go_num, rfl, HL7.out, O7.out, D7.out⟩
      case measure => simp [intOf]
    · have hKz : K = 0 := by omega
      have hnm : n = m := by omega
      subst hKz hnm
      have hn20 : n ≤ 20 := by omega
      go_wp2
      go_ret
      exact ⟨_, _, _, xs, rfl, HL.out, hn20, HO.out, t5, HD.out.mono (by omega)⟩
theorem l10DrawData {s : Nat} {v : Value} {bs : List Nat} {w : World} {t : Nat} (hS : Src s v bs w t) (ht : t ≤ 1000000000) :
    Calls Tryz.prog 46 #[.pointer (some ⟨s, 0, none⟩)] w fun e w' => ∃ (z : Value) (xs : List Int), e = .returned z ∧ xs.length ≤ 20 ∧ OwI w.heap.size w' z xs ∧ ∃ t', Drawn 32 s v bs t t' w w' := by
  refine (l10DrawDataW hS ht).mono ?_
  rintro e w' ⟨ao, n, c, xs, rfl, hn, hl, ho, hd⟩
  exact ⟨_, xs, rfl, by omega, ow_of_owns hn ho (by omega), hd⟩
end Go.Proofs.YtncgpfapepminaaGreatDoor
/- The laws' helpers over Header and HeaderResult. Made by program (genflat.py). -/
namespace Go.Proofs.YtncgpfapepminaaGreatDoor
open Go.RowKit
end Go.Proofs.YtncgpfapepminaaGreatDoor
/- The laws' helpers over Object. Made by program (genobj.py). -/
namespace Go.Proofs.YtncgpfapepminaaGreatDoor
open Go.RowKit
end Go.Proofs.YtncgpfapepminaaGreatDoor
/- The laws' helpers over a code with puts; puts among the arguments. -/
namespace Go.Proofs.YtncgpfapepminaaGreatDoor
open Go.RowKit

/-- What a call that ends in a code and puts is to leave. -/
def EndsP (x : Int) (rs : List (Int × List Int)) (w : World) (e : Ending) (w' : World) : Prop :=
  ∃ z, e = .returned (.agg #[.int .i64 x, z]) ∧ Below w.heap.size w w' ∧ OwP (fun b => w.heap.size ≤ b ∧ b < w'.heap.size) w' z rs

theorem szD_nonneg (xss : List (List Int)) (ps : List (Int × List Int)) : 0 ≤ szD xss ps := by unfold szD; omega
def szQ (qs : List (Int × List Int)) : Int := (qs.length : Int) + (totW qs qs.length : Int)
theorem szQ_nonneg (qs : List (Int × List Int)) : 0 ≤ szQ qs := by unfold szQ; omega
theorem smallQ {qs : List (Int × List Int)} (h : szQ qs ≤ 1048576) : qs.length ≤ 1048576 ∧ (∀ i, i < qs.length → (qs.getD i (0, [])).2.length ≤ 1048576) ∧ (totP qs qs.length : Int) ≤ 2097152 := by
  unfold szQ at h
  have h3 := totP_eq qs qs.length (Nat.le_refl _)
  exact ⟨by omega, fun i hi => by have := len_le_totW qs i hi; omega, by omega⟩

/-- Puts in [lo, hi). -/
def IvP (lo hi : Nat) (w : World) (v : Value) (ps : List (Int × List Int)) : Prop :=
  ∃ S : Nat → Prop, hi ≤ w.heap.size ∧ (∀ b, S b → lo ≤ b ∧ b < hi) ∧ OwP S w v ps
theorem OwP.iv {B : Nat} {w : World} {v : Value} {ps : List (Int × List Int)} (h : OwP (fun b => B ≤ b ∧ b < w.heap.size) w v ps) : IvP B w.heap.size w v ps :=
  ⟨_, Nat.le_refl _, fun _ hb => hb, h⟩
theorem IvP.wr {lo hi : Nat} {V : Nat → Prop} {w w' : World} {v : Value} {ps : List (Int × List Int)} (h : IvP lo hi w v ps) (hw : Wr V w w') (hd : ∀ b, lo ≤ b → b < hi → ¬ V b) : IvP lo hi w' v ps := by
  obtain ⟨S, h0, h1, h2⟩ := h
  exact ⟨S, Nat.le_trans h0 hw.size, h1, h2.wr hw fun b hb => hd b (h1 b hb).1 (h1 b hb).2⟩
theorem IvP.later {lo hi : Nat} {w w' : World} {v : Value} {ps : List (Int × List Int)} (h : IvP lo hi w v ps) (hb : Below w.heap.size w w') : IvP lo hi w' v ps :=
  h.wr (Wr.of_below hb fun _ => False) fun _ _ _ => id
theorem IvP.rd {lo hi : Nat} {w : World} {v : Value} {ps : List (Int × List Int)} (h : IvP lo hi w v ps) : RdP (fun b => lo ≤ b ∧ b < hi) w v ps := by
  obtain ⟨S, h0, h1, h2⟩ := h
  exact (h2.mono h1).rd

/-- Puts in [lo, hi) whose marks stand from k on. -/
def MkPs (k : Int) (lo hi : Nat) (w : World) (v : Value) (ps : List (Int × List Int)) : Prop := RdP (fun b => lo ≤ b ∧ b < hi) w v (mkP k ps)
theorem MkPs.wr {k : Int} {lo hi : Nat} {V : Nat → Prop} {w w' : World} {v : Value} {ps : List (Int × List Int)} (h : MkPs k lo hi w v ps) (hw : Wr V w w') (hd : ∀ b, lo ≤ b → b < hi → ¬ V b) : MkPs k lo hi w' v ps :=
  RdP.wr h hw fun b hb => hd b hb.1 hb.2
theorem MkPs.later {k : Int} {lo hi : Nat} {w w' : World} {v : Value} {ps : List (Int × List Int)} (h : MkPs k lo hi w v ps) (hb : Below w.heap.size w w') : MkPs k lo hi w' v ps := RdP.later h hb

end Go.Proofs.YtncgpfapepminaaGreatDoor
/- Chapter 5: lists of objects: readings of them, and the laws' helpers over them. Made by program (genobs.py). -/
namespace Go.Proofs.YtncgpfapepminaaGreatDoor
open Go.RowKit

/-- An object: its block, its first word, its words. -/
abbrev Oj := Int × Int × List Int
def oj0 : Oj := (0, 0, [])

/-- The slice value v reads as the steps (three cells each), all of them in blocks of S. -/
def RdJ (S : Nat → Prop) (w : World) (v : Value) (ts : List Oj) : Prop :=
  ∃ (ao : Option Addr) (c : Nat), v = .slice ao ts.length c ∧ ts.length ≤ 9223372036854775807 ∧
    (ts ≠ [] → ∃ (b off : Nat) (V : Nat → Value), ao = some ⟨b, off, none⟩ ∧ S b ∧
      ∀ i, i < ts.length → w.cell? ⟨b, off + i * 3, none⟩ = some (.int .i64 (ts.getD i oj0).1) ∧ w.cell? ⟨b, off + i * 3 + 1, none⟩ = some (.int .i64 (ts.getD i oj0).2.1) ∧ w.cell? ⟨b, off + i * 3 + 2, none⟩ = some (V i) ∧ RdI S w (V i) (ts.getD i oj0).2.2)
theorem RdJ.shape {S : Nat → Prop} {w : World} {v : Value} {ts : List Oj} (h : RdJ S w v ts) : ∃ ao c, v = .slice ao ts.length c ∧ ts.length ≤ 9223372036854775807 := by
  obtain ⟨ao, c, h1, h2, _⟩ := h
  exact ⟨ao, c, h1, h2⟩
theorem RdJ.later {S : Nat → Prop} {w w' : World} {v : Value} {ts : List Oj} (h : RdJ S w v ts) (hb : Below w.heap.size w w') : RdJ S w' v ts := by
  obtain ⟨ao, c, h1, h2, h3⟩ := h
  refine ⟨ao, c, h1, h2, fun hne => ?_⟩
  obtain ⟨b, off, V, e, hs, hc⟩ := h3 hne
  exact ⟨b, off, V, e, hs, fun i hi => ⟨cell_later hb (hc i hi).1, cell_later hb (hc i hi).2.1, cell_later hb (hc i hi).2.2.1, (hc i hi).2.2.2.later hb⟩⟩
theorem RdJ.wr {S T : Nat → Prop} {w w' : World} {v : Value} {ts : List Oj} (h : RdJ S w v ts) (hw : Wr T w w') (hd : ∀ b, S b → ¬ T b) : RdJ S w' v ts := by
  obtain ⟨ao, c, h1, h2, h3⟩ := h
  refine ⟨ao, c, h1, h2, fun hne => ?_⟩
  obtain ⟨b, off, V, e, hs, hc⟩ := h3 hne
  exact ⟨b, off, V, e, hs, fun i hi => ⟨cell_wr hw (hc i hi).1 (hd b hs), cell_wr hw (hc i hi).2.1 (hd b hs), cell_wr hw (hc i hi).2.2.1 (hd b hs), (hc i hi).2.2.2.wr hw (fun _ => hd)⟩⟩

/-- What the cap reaches is there, and may be written. -/
def RoomJ (S : Nat → Prop) (w : World) (ao : Option Addr) (b off c : Nat) : Prop :=
  ∀ o, o < c * 3 → ao = some ⟨b, off, none⟩ ∧ S b ∧ (∀ q, w.frozen? ⟨b, q, none⟩ = false) ∧ ∃ x, w.cell? ⟨b, off + o, none⟩ = some x
theorem RoomJ.wr {S T : Nat → Prop} {w w' : World} {ao : Option Addr} {b off c : Nat} (h : RoomJ S w ao b off c) (hw : Wr T w w') (hd : ∀ b, S b → ¬ T b) : RoomJ S w' ao b off c := fun o ho => by
  obtain ⟨h1, h2, h3, x, h4⟩ := h o ho
  exact ⟨h1, h2, fun q => (hw.frz _ _ (World.block_lt_of_cell? _ _ h4)).trans (h3 q), x, cell_wr hw h4 (hd _ h2)⟩
theorem RoomJ.mono {S T : Nat → Prop} {w : World} {ao : Option Addr} {b off c : Nat} (h : RoomJ S w ao b off c) (hT : ∀ b, S b → T b) : RoomJ T w ao b off c := fun o ho => by
  obtain ⟨h1, h2, h3⟩ := h o ho
  exact ⟨h1, hT _ h2, h3⟩
theorem RoomJ_row {S : Nat → Prop} {w : World} {g c : Nat} {cur : Array Value} {t : TypeId} (hS : S g) (hh : w.heap[g]? = some (.cells cur t (0, 0))) (hc : cur.size = c * 3) : RoomJ S w (some ⟨g, 0, none⟩) g 0 c := fun o ho =>
  ⟨rfl, hS, fun q => by simp [World.frozen?, hh], cur[o]'(by omega), by
    have hlt : o < cur.size := by omega
    rw [Nat.zero_add]
    simp [World.cell?, hh, hlt]⟩
theorem RoomJ_cells {S : Nat → Prop} {w : World} {g : Nat} {os : List Oj} {V : Nat → Value} (hS : S g) (hf : ∀ q, w.frozen? ⟨g, q, none⟩ = false) (h : ∀ i, i < os.length → w.cell? ⟨g, i * 3, none⟩ = some (.int .i64 (os.getD i oj0).1) ∧ w.cell? ⟨g, i * 3 + 1, none⟩ = some (.int .i64 (os.getD i oj0).2.1) ∧ w.cell? ⟨g, i * 3 + 2, none⟩ = some (V i)) : RoomJ S w (some ⟨g, 0, none⟩) g 0 os.length := fun o ho => by
  refine ⟨rfl, hS, hf, ?_⟩
  rw [Nat.zero_add]
  obtain ⟨k0, k1, k2⟩ := h (o / 3) (by omega)
  rcases (show o = o / 3 * 3 ∨ o = o / 3 * 3 + 1 ∨ o = o / 3 * 3 + 2 by omega) with e | e | e
  · rw [e]; exact ⟨_, k0⟩
  · rw [e]; exact ⟨_, k1⟩
  · rw [e]; exact ⟨_, k2⟩
/-- .. its words lie in blocks of their own, each another one; nothing of it is frozen; all in S. -/
def OwJ (S : Nat → Prop) (w : World) (v : Value) (ts : List Oj) : Prop :=
  ∃ (ao : Option Addr) (c b off : Nat) (V : Nat → Value) (B : Nat → Nat), v = .slice ao ts.length c ∧ (ts.length ≤ 9223372036854775807 ∧ ts.length ≤ c ∧ RoomJ S w ao b off c) ∧
    (ts ≠ [] → ao = some ⟨b, off, none⟩ ∧ S b ∧ ∀ o, w.frozen? ⟨b, o, none⟩ = false) ∧
    ∀ i, i < ts.length → w.cell? ⟨b, off + i * 3, none⟩ = some (.int .i64 (ts.getD i oj0).1) ∧ w.cell? ⟨b, off + i * 3 + 1, none⟩ = some (.int .i64 (ts.getD i oj0).2.1) ∧ w.cell? ⟨b, off + i * 3 + 2, none⟩ = some (V i) ∧ RdI (· = B i) w (V i) (ts.getD i oj0).2.2 ∧
      ((ts.getD i oj0).2.2 ≠ [] → S (B i) ∧ B i ≠ b ∧ (∀ o, w.frozen? ⟨B i, o, none⟩ = false) ∧ ∀ j, j < ts.length → (ts.getD j oj0).2.2 ≠ [] → B j = B i → j = i)
theorem OwJ.rd {S : Nat → Prop} {w : World} {v : Value} {ts : List Oj} (h : OwJ S w v ts) : RdJ S w v ts := by
  obtain ⟨ao, c, b, off, V, B, h1, h2, h3, h4⟩ := h
  refine ⟨ao, c, h1, h2.1, fun hne => ?_⟩
  obtain ⟨e, hb, _⟩ := h3 hne
  exact ⟨b, off, V, e, hb, fun i hi => ⟨(h4 i hi).1, (h4 i hi).2.1, (h4 i hi).2.2.1, (h4 i hi).2.2.2.1.narrow fun hn x hx => hx ▸ ((h4 i hi).2.2.2.2 hn).1⟩⟩
theorem OwJ.wr {S T : Nat → Prop} {w w' : World} {v : Value} {ts : List Oj} (h : OwJ S w v ts) (hw : Wr T w w') (hd : ∀ b, S b → ¬ T b) : OwJ S w' v ts := by
  obtain ⟨ao, c, b, off, V, B, h1, h2, h3, h4⟩ := h
  refine ⟨ao, c, b, off, V, B, h1, ⟨h2.1, h2.2.1, h2.2.2.wr hw hd⟩, fun hne => ?_, fun i hi => ?_⟩
  · obtain ⟨q1, q2, q3⟩ := h3 hne
    have hl := World.block_lt_of_cell? _ _ (h4 0 (List.length_pos_iff.2 hne)).1
    exact ⟨q1, q2, fun o => by rw [hw.frz _ _ hl]; exact q3 o⟩
  · obtain ⟨f0, f1, f2, f2', f3⟩ := h4 i hi
    have hne : ts ≠ [] := by rintro rfl; exact absurd hi (Nat.not_lt_zero _)
    refine ⟨cell_wr hw f0 (hd b (h3 hne).2.1), cell_wr hw f1 (hd b (h3 hne).2.1), cell_wr hw f2 (hd b (h3 hne).2.1), f2'.wr hw (fun hn x hx => hx ▸ hd _ (f3 hn).1), fun hn => ?_⟩
    obtain ⟨q1, q2, q3, q4⟩ := f3 hn
    obtain ⟨x, rfl, hl⟩ := f2'.lt hn
    exact ⟨q1, q2, fun o => by rw [hw.frz _ _ hl]; exact q3 o, q4⟩
theorem OwJ.mono {S T : Nat → Prop} {w : World} {v : Value} {ts : List Oj} (h : OwJ S w v ts) (hT : ∀ b, S b → T b) : OwJ T w v ts := by
  obtain ⟨ao, c, b, off, V, B, h1, h2, h3, h4⟩ := h
  exact ⟨ao, c, b, off, V, B, h1, ⟨h2.1, h2.2.1, h2.2.2.mono hT⟩, fun hne => ⟨(h3 hne).1, hT _ (h3 hne).2.1, (h3 hne).2.2⟩, fun i hi => ⟨(h4 i hi).1, (h4 i hi).2.1, (h4 i hi).2.2.1, (h4 i hi).2.2.2.1, fun hn => ⟨hT _ ((h4 i hi).2.2.2.2 hn).1, ((h4 i hi).2.2.2.2 hn).2⟩⟩⟩
theorem OwJ.shape {S : Nat → Prop} {w : World} {v : Value} {ts : List Oj} (h : OwJ S w v ts) : ∃ ao c, v = .slice ao ts.length c := by
  obtain ⟨ao, c, _, _, _, _, h1, _⟩ := h
  exact ⟨ao, c, h1⟩
/-- .. and its cap is no smaller than its length. -/
theorem OwJ.caps {S : Nat → Prop} {w : World} {v : Value} {ts : List Oj} (h : OwJ S w v ts) : ∃ ao c, v = .slice ao ts.length c ∧ ts.length ≤ c := by
  obtain ⟨ao, c, _, _, _, _, h1, h2, _⟩ := h
  exact ⟨ao, c, h1, h2.2.1⟩
theorem OwJ_nil (S : Nat → Prop) (w : World) : OwJ S w (.slice none 0 0) [] :=
  ⟨none, 0, 0, 0, fun _ => .bool false, fun _ => 0, rfl, ⟨by simp, by simp, fun o ho => absurd ho (Nat.not_lt_zero _)⟩, fun h => absurd rfl h, fun i hi => absurd hi (Nat.not_lt_zero _)⟩

/-- How many marks the first i steps hold. -/
def totJ (ts : List Oj) (i : Nat) : Nat := ((ts.take i).map fun p => p.2.2.length + 2).sum
theorem totJ_zero (ts : List Oj) : totJ ts 0 = 0 := by simp [totJ]
theorem totJ_succ (ts : List Oj) (i : Nat) (h : i < ts.length) : totJ ts (i + 1) = totJ ts i + ((ts.getD i oj0).2.2.length + 2) := by
  unfold totJ
  rw [List.take_succ_eq_append_getElem h]
  simp only [List.map_append, List.sum_append, List.map_cons, List.map_nil, List.sum_cons, List.sum_nil]
  simp [List.getD, h]
theorem totJ_le (ts : List Oj) : ∀ (i j : Nat), i ≤ j → totJ ts i ≤ totJ ts j := by
  intro i j h
  unfold totJ
  have : ts.take j = ts.take i ++ (ts.drop i).take (j - i) := by
    rw [← List.take_add]; congr 1; omega
  rw [this]; simp
def mJ (k : Int) : Int := k
def mkJ (k : Int) (ts : List Oj) : List Oj :=
  (List.range ts.length).map fun i => (mJ (k + (totJ ts i : Int)), k + (totJ ts i : Int) + 1, mkI (k + (totJ ts i : Int) + 1 + 1) (ts.getD i oj0).2.2.length)
theorem mkJ_len (k : Int) (ts : List Oj) : (mkJ k ts).length = ts.length := by simp [mkJ]
theorem mkJ_at (k : Int) (ts : List Oj) (i : Nat) (h : i < ts.length) : (mkJ k ts).getD i oj0 = (mJ (k + (totJ ts i : Int)), k + (totJ ts i : Int) + 1, mkI (k + (totJ ts i : Int) + 1 + 1) (ts.getD i oj0).2.2.length) := by simp [mkJ, List.getD, h]

/-- What marking has done behind j steps. -/
structure MarkAtJ (ts : List Oj) (b off : Nat) (V : Nat → Value) (B : Nat → Nat) (k : Int) (w : World) (j : Nat) (wr : World) : Prop where
  cell : ∀ i, i < ts.length → wr.cell? ⟨b, off + i * 3 + 2, none⟩ = some (V i)
  th0 : ∀ i, i < ts.length → ∃ x, wr.cell? ⟨b, off + i * 3, none⟩ = some (.int .i64 x)
  th1 : ∀ i, i < ts.length → ∃ x, wr.cell? ⟨b, off + i * 3 + 1, none⟩ = some (.int .i64 x)
  flg : ∀ i, i < j → i < ts.length → wr.cell? ⟨b, off + i * 3, none⟩ = some (.int .i64 (mJ (k + (totJ ts i : Int))))
  num : ∀ i, i < j → i < ts.length → wr.cell? ⟨b, off + i * 3 + 1, none⟩ = some (.int .i64 (k + (totJ ts i : Int) + 1))
  done : ∀ i, i < j → i < ts.length → RdI (· = B i) wr (V i) (mkI (k + (totJ ts i : Int) + 1 + 1) (ts.getD i oj0).2.2.length)
  todo : ∀ i, j ≤ i → i < ts.length → RdI (· = B i) wr (V i) (ts.getD i oj0).2.2
  own : ∀ o, wr.frozen? ⟨b, o, none⟩ = false
  free : ∀ i, i < ts.length → (ts.getD i oj0).2.2 ≠ [] → B i ≠ b ∧ (∀ o, wr.frozen? ⟨B i, o, none⟩ = false) ∧ ∀ j, j < ts.length → (ts.getD j oj0).2.2 ≠ [] → B j = B i → j = i
  wr : Wr (fun x => x = b ∨ ∃ i, i < ts.length ∧ (ts.getD i oj0).2.2 ≠ [] ∧ x = B i) w wr

/-- The two cells of the j-th step are marked. -/
def markCellsJ (b off j : Nat) (k : Int) (wr : World) : World := (wr.setCell ⟨b, off + j * 3, none⟩ (.int .i64 (mJ k))).setCell ⟨b, off + j * 3 + 1, none⟩ (.int .i64 (k + 1))
theorem markCellsJ_wr (b off j : Nat) (k : Int) (wr : World) : Wr (· = b) wr (markCellsJ b off j k wr) :=
  ((Wr.refl (· = b) wr).setCell (p := ⟨b, off + j * 3, none⟩) rfl _).setCell (p := ⟨b, off + j * 3 + 1, none⟩) rfl _
theorem MarkAtJ.mid {ts : List Oj} {b off : Nat} {V : Nat → Value} {B : Nat → Nat} {k m : Int} {w : World} {j : Nat} {wr : World} (h : MarkAtJ ts b off V B k w j wr) (hj : j < ts.length) :
    RdI (· = B j) (markCellsJ b off j m wr) (V j) (ts.getD j oj0).2.2 ∧ ((ts.getD j oj0).2.2 ≠ [] → ∀ o, (markCellsJ b off j m wr).frozen? ⟨B j, o, none⟩ = false) :=
  ⟨(h.todo j (Nat.le_refl _) hj).wr (markCellsJ_wr b off j m wr) (fun hn x hx e => (h.free j hj hn).1 (hx ▸ e)), fun hn o => by unfold markCellsJ; rw [World.frozen?_setCell, World.frozen?_setCell]; exact (h.free j hj hn).2.1 o⟩

theorem MarkAtJ.step {ts : List Oj} {b off : Nat} {V : Nat → Value} {B : Nat → Nat} {k : Int} {w : World} {j : Nat} {wr w' : World}
    (h : MarkAtJ ts b off V B k w j wr) (hj : j < ts.length) (h1 : RdI (· = B j) w' (V j) (mkI (k + (totJ ts j : Int) + 1 + 1) (ts.getD j oj0).2.2.length))
    (h2 : Wr (fun x => x = B j ∧ (ts.getD j oj0).2.2 ≠ []) (markCellsJ b off j (k + (totJ ts j : Int)) wr) w') :
    MarkAtJ ts b off V B k w (j + 1) w' := by
  have hmc := markCellsJ_wr b off j (k + (totJ ts j : Int)) wr
  obtain ⟨x0, hx0⟩ := h.th0 j hj
  obtain ⟨x1, hx1⟩ := h.th1 j hj
  have hbl : b < wr.heap.size := World.block_lt_of_cell? _ _ hx0
  have hsz : (markCellsJ b off j (k + (totJ ts j : Int)) wr).heap.size = wr.heap.size := by simp [markCellsJ]
  have keepb : ∀ o v, (markCellsJ b off j (k + (totJ ts j : Int)) wr).cell? ⟨b, o, none⟩ = some v → w'.cell? ⟨b, o, none⟩ = some v := by
    intro o v hv
    rw [h2.cell (World.block_lt_of_cell? _ _ hv) (by rintro ⟨e, hne'⟩; exact (h.free j hj hne').1 e.symm)]
    exact hv
  have setb : ∀ o v, o ≠ off + j * 3 → o ≠ off + j * 3 + 1 → wr.cell? ⟨b, o, none⟩ = some v → w'.cell? ⟨b, o, none⟩ = some v := by
    intro o v ho ho1 hv
    refine keepb o v ?_
    unfold markCellsJ
    rw [World.cell?_setCell_other _ _ _ _ (by intro e; exact ho1 (congrArg Addr.off e).symm), World.cell?_setCell_other _ _ _ _ (by intro e; exact ho (congrArg Addr.off e).symm)]
    exact hv
  have seta : w'.cell? ⟨b, off + j * 3, none⟩ = some (.int .i64 (mJ (k + (totJ ts j : Int)))) := by
    refine keepb _ _ ?_
    unfold markCellsJ
    rw [World.cell?_setCell_other _ _ _ _ (by intro e; have := congrArg Addr.off e; simp at this)]
    exact World.cell?_setCell_same _ _ _ hx0
  have setn : w'.cell? ⟨b, off + j * 3 + 1, none⟩ = some (.int .i64 (k + (totJ ts j : Int) + 1)) := by
    refine keepb _ _ ?_
    unfold markCellsJ
    exact World.cell?_setCell_same _ _ _ ((World.cell?_setCell_other _ _ _ _ (by intro e; have := congrArg Addr.off e; simp at this)).trans hx1)
  have other : ∀ i, i < ts.length → i ≠ j → ∀ {xs : List Int}, (xs ≠ [] → (ts.getD i oj0).2.2 ≠ []) → RdI (· = B i) wr (V i) xs → RdI (· = B i) w' (V i) xs := by
    intro i hi hij xs hxs hr
    have hr' := hr.wr hmc (fun hn x hx e => (h.free i hi (hxs hn)).1 (hx ▸ e))
    exact hr'.wr h2 (fun hn x hx => by rintro ⟨e, hne'⟩; exact hij ((h.free j hj hne').2.2 i hi (hxs hn) (hx.symm.trans e)))
  refine ⟨fun i hi => setb _ _ (by omega) (by omega) (h.cell i hi), fun i hi => ?_, fun i hi => ?_, fun i hi hi' => ?_, fun i hi hi' => ?_, fun i hi hi' => ?_, fun i hi hi' => other i hi' (by omega) id (h.todo i (by omega) hi'), fun o => ?_, fun i hi hne => ?_, ?_⟩
  · by_cases e : i = j
    · subst e; exact ⟨_, seta⟩
    · obtain ⟨x, hx⟩ := h.th0 i hi
      exact ⟨x, setb _ _ (by omega) (by omega) hx⟩
  · by_cases e : i = j
    · subst e; exact ⟨_, setn⟩
    · obtain ⟨x, hx⟩ := h.th1 i hi
      exact ⟨x, setb _ _ (by omega) (by omega) hx⟩
  · by_cases e : i = j
    · subst e; exact seta
    · exact setb _ _ (by omega) (by omega) (h.flg i (by omega) hi')
  · by_cases e : i = j
    · subst e; exact setn
    · exact setb _ _ (by omega) (by omega) (h.num i (by omega) hi')
  · by_cases e : i = j
    · subst e; exact h1
    · exact other i hi' e (fun hne => by rw [mkI_ne] at hne; intro e0; rw [e0] at hne; exact hne rfl) (h.done i (by omega) hi')
  · rw [h2.frz _ _ (by rw [hsz]; exact hbl), hmc.frz _ _ hbl]; exact h.own o
  · obtain ⟨f1, f2, f3⟩ := h.free i hi hne
    refine ⟨f1, fun o => ?_, f3⟩
    have hlt : B i < wr.heap.size := by
      by_cases e : i < j
      · obtain ⟨b', hb, hl⟩ := (h.done i e hi).lt (mkI_ne.2 (fun e0 => hne (List.eq_nil_of_length_eq_zero e0)))
        exact hb ▸ hl
      · obtain ⟨b', hb, hl⟩ := (h.todo i (by omega) hi).lt hne
        exact hb ▸ hl
    rw [h2.frz _ _ (by rw [hsz]; exact hlt), hmc.frz _ _ hlt]; exact f2 o
  · exact (h.wr.trans (hmc.mono fun x e => Or.inl e)).trans (h2.mono fun x ⟨e, hne⟩ => Or.inr ⟨j, hj, hne, e⟩)

end Go.Proofs.YtncgpfapepminaaGreatDoor
