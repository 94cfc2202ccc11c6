/- Chapter 6, the program's side: '(heldLocks).put', 'heldIn', walked. -/
import Derived.Test.YtkpkoapcmnapoabLk4
import Derived.Deep.CutRange
namespace Go.Proofs.Ytkpkoapcmnapoab
open Go.RowKit Go.Maps

theorem forgetW {P : Program} {c : Code} {Q : Exit → Act → World → Prop} {a : Act} {w0 : World} (R : World → Prop) (h0 : R w0) (h : ∀ w, R w → c.wp P Q a w) : c.wp P Q a w0 := h _ h0
theorem eqlSet (b : Nat) (w : World) : (binOp BinOp.eql 52 (.map (some b)) (.map none)).run Try.prog w = .ok (.bool false) w := by kernel_rfl
theorem eqlSet0 (w : World) : (binOp BinOp.eql 52 (.map none) (.map none)).run Try.prog w = .ok (.bool true) w := by kernel_rfl
theorem asV_inj {v u : Value} {p : List MemPlace} (h : asV v = some (.held u, p)) : v = u := by
  simp [asV] at h
  exact h.1
theorem HeldD.look {w : World} {base h n : Nat} {f : Int → Int} {K : Int → Prop} {D : DataW Value} {B : Int → Nat} {t : Int} (H : HeldD w base h n f K D B) (hK : K t) :
    (Instr.lookup 46 (.map (some h)) (.agg #[.int .i64 t]) false).run Try.prog w = .ok (.map (some (B t))) w := by
  have ht := H.txn t hK
  obtain ⟨v', p', hrun, hv'⟩ := H.own.lookup lawH Try.underlying46 (zeroSet w) (zd := .held (.map none)) (zp := []) rfl (keyH (x := t) (wfI_of (by omega) (by omega)))
  rw [H.at_ t hK] at hv'
  rw [← asV_inj hv']
  exact hrun
theorem HeldD.look_no {w : World} {base h n : Nat} {f : Int → Int} {K : Int → Prop} {D : DataW Value} {B : Int → Nat} {t : Int} (H : HeldD w base h n f K D B) (ht : wfI t) (hK : ¬ K t) :
    (Instr.lookup 46 (.map (some h)) (.agg #[.int .i64 t]) false).run Try.prog w = .ok (.map none) w := by
  obtain ⟨v', p', hrun, hv'⟩ := H.own.lookup lawH Try.underlying46 (zeroSet w) (zd := .held (.map none)) (zp := []) rfl (keyH (x := t) ht)
  have hno : Maps.has D (kS t) = false := by
    cases hh : Maps.has D (kS t) with
    | false => rfl
    | true => exact absurd ((H.has t ht).1 hh) hK
  rw [atKey_of_not_has hno] at hv'
  rw [← asV_inj hv']
  exact hrun
theorem HeldD.congrK {w : World} {base h n : Nat} {f : Int → Int} {K K' : Int → Prop} {D : DataW Value} {B : Int → Nat} (H : HeldD w base h n f K D B) (hk : ∀ x, K x ↔ K' x) : HeldD w base h n f K' D B :=
  ⟨H.own, fun t ht => (H.has t ht).trans (hk t), fun t ht => H.at_ t ((hk t).2 ht), fun t ht => H.locks t ((hk t).2 ht), fun t t' h1 h2 => H.apart t t' ((hk t).2 h1) ((hk t').2 h2), fun t ht => H.txn t ((hk t).2 ht), H.low, fun a ha => ⟨(hk _).1 (H.some_ a ha).1, (H.some_ a ha).2⟩⟩
/-- A lock laid into the map of its owner. -/
theorem HeldD.ops {w : World} {base h n : Nat} {f : Int → Int} {K : Int → Prop} {D : DataW Value} {B : Int → Nat} {t a : Int} (H : HeldD w base h n f K D B) (hK : K t) (ha : 0 ≤ a ∧ a < 40) (hf : f a = 0 ∨ f a = t) (hn : n < maxLen) :
    ∃ (bt : Nat) (w' : World), (Instr.lookup 46 (.map (some h)) (.agg #[.int .i64 t]) false).run Try.prog w = .ok (.map (some bt)) w ∧
      (Instr.mapUpdate 52 (.map (some bt)) (.agg #[.int .i64 a]) (.agg #[.int .i64 a, .int .i64 t])).run Try.prog w = .ok () w' ∧ base ≤ bt ∧ w.grownBy w' (some bt) ∧ HeldD w' base h (n + 1) (updO f a t) K D B := by
  obtain ⟨D2, hD2⟩ := (H.locks t hK).2.2
  obtain ⟨w', hrun, hown, hg⟩ := hD2.1.update lawL Try.underlying52 hn (keyL (x := a) (wfI_of (by omega) (by omega))) (rfl : asV (.agg #[.int .i64 a, .int .i64 t]) = _)
  exact ⟨B t, w', H.look hK, hrun, (H.locks t hK).2.1, hg, H.put hK ha hf hD2 hown hg⟩

set_option maxHeartbeats 2000000 in
set_option maxRecDepth 4000 in
/-- '(heldLocks).put'. -/
theorem putL {w : World} {base h n : Nat} {f : Int → Int} {K : Int → Prop} {a t : Int} (H : HeldAt w base h n f K) (hn : n + 2 ≤ 1048576) (ha : 0 ≤ a ∧ a < 40) (ht : 0 < t ∧ t ≤ 99) (hf : f a = 0 ∨ f a = t) :
    Calls Try.prog 20 #[.map (some h), .agg #[.int .i64 a, .int .i64 t]] w fun e w' => e = .returned (.tuple #[]) ∧ Below base w w' ∧ HeldAt w' base h (n + 2) (updO f a t) (fun x => K x ∨ x = t) := by
  obtain ⟨D, B, hd⟩ := H
  have HD := hide hd
  have HF := hide hf
  have HA := hide ha
  have HT := hide ht
  have hmm := @run_makeMap Try.prog
  have hhw : Hid (h < w.heap.size) := hd.own.lt
  have hbs : Hid (base ≤ w.heap.size) := by have := hd.own.lt; have := hd.low; unfold Hid; omega
  clear hd hf ha ht
  go_enter Try.func20, Try.ntmps20
  go_upto_region 2 with fail
  refine forgetW (fun wx => Below w.heap.size w wx ∧ wx.heap.size = w.heap.size + 2 ∧ wx.cell? ⟨w.heap.size, 0, none⟩ = some (.int .i64 a) ∧ wx.cell? ⟨w.heap.size, 1, none⟩ = some (.int .i64 t) ∧ wx.cell? ⟨w.heap.size + 1, 0, none⟩ = some (.int .i64 t)) ⟨below_on (below_alloc _ _) (below_alloc _ _), by simp, by simp [go_sem], by simp [go_sem], by simp [go_sem]⟩ ?_
  rintro W ⟨hb, hz, c0, c1, c2⟩
  have HB := hide hb
  have HZ := hide hz
  have HDW := hide (HD.out.later hb)
  clear hb hz HD
  by_cases hK : K t
  · have hrun := HDW.out.look hK
    obtain ⟨bt, w', hl, hu, hbt, hg, hfin⟩ := (HDW.out.later (below_drewN W 1)).ops (a := a) hK HA.out HF.out (by unfold maxLen; omega)
    have hl' : (Instr.lookup 46 (.map (some h)) (.agg #[.int .i64 t]) false).run Try.prog W.drew = .ok (.map (some bt)) W.drew := hl
    have hu' : (Instr.mapUpdate 52 (.map (some bt)) (.agg #[.int .i64 a]) (.agg #[.int .i64 a, .int .i64 t])).run Try.prog W.drew = .ok () w' := hu
    have HG := hide hg
    have HFin := hide hfin
    have HBt := hide hbt
    generalize B t = b0 at hrun
    have hql := eqlSet b0 W
    clear hl hu hg hfin hbt
    go_wp2_with fail
    go_region
    have HBf := hide (((HB.out.mono hbs.out).trans ((below_drewN W 1).mono (by have := HZ.out; have := hbs.out; omega))).grown HG.out (by have := HZ.out; have := hbs.out; show base ≤ (W.drewN 1).heap.size; simp; omega) (fun r hr => by injection hr with hr; have := HBt.out; omega))
    go_wp2
    exact bodyPost_end (v := .tuple #[]) (by simp [results, Try.results20, go_sem]) rfl ⟨rfl, HBf.out, D, B, (HFin.out.mono (by omega)).congrK (fun x => ⟨Or.inl, fun h => h.elim id (fun e => e ▸ hK)⟩)⟩
  · have hrun := HDW.out.look_no (wfI_of (by have := HT.out; omega) (by have := HT.out; omega)) hK
    have hql := eqlSet0 W
    have hm0 := World.ownsMap_made W Try.prog 63 asV
    have HM0 := hide hm0
    have HNK := hide hK
    have hkt : Hid (keyOf Try.prog 54 (.agg #[.int .i64 t]) = some (kS t)) := keyH (wfI_of (by have := HT.out; omega) (by have := HT.out; omega))
    have hbt : ∀ x, K x → B x ≠ W.heap.size := fun x hx => by have := (HDW.out.locks x hx).2.2.lt; omega
    have HBn := hide hbt
    clear hm0 hK hbt
    go_wp2_with (at_mapUpdate; refine wpList_mapUpdate_own _ rfl _ _ _ 46 rfl 54 52 lawH Try.underlying46 _ h n D rfl (HDW.out.own.alloc _) (by unfold maxLen; omega) _ _ (kS t) rfl rfl hkt.out _ [] (rfl : asV _ = _) ?_; intro w4 hown4 hg4)
    have hbA := below_alloc W (.map #[] 0)
    have hlow := HDW.out.low
    have hlt := HDW.out.own.lt
    have hF := HeldD.fresh (HDW.out.later hbA) HT.out HNK.out (by have := HZ.out; have := hbs.out; omega) (by omega) HBn.out HM0.out hown4 hg4
    have far : ∀ b o x, b < W.heap.size → b ≠ h → W.cell? ⟨b, o, none⟩ = some x → w4.cell? ⟨b, o, none⟩ = some x := fun b o x h1 h2 h3 => (World.cell?_of_block (hg4.block b (by simp; omega) (fun e => h2 (Option.some.inj e)))).trans (cell_later hbA h3)
    have hhl : h < w.heap.size := hhw.out
    have d0 := far _ _ _ (by have := HZ.out; omega) (by omega) c0
    have d1 := far _ _ _ (by have := HZ.out; omega) (by omega) c1
    have d2 := far _ _ _ (by have := HZ.out; omega) (by omega) c2
    obtain ⟨bt, w', hl, hu, hbt, hg, hfin⟩ := (hF.later (below_drewN w4 1)).ops (a := a) (Or.inr rfl) HA.out HF.out (by unfold maxLen; omega)
    have hl' : (Instr.lookup 46 (.map (some h)) (.agg #[.int .i64 t]) false).run Try.prog w4.drew = .ok (.map (some bt)) w4.drew := hl
    have hu' : (Instr.mapUpdate 52 (.map (some bt)) (.agg #[.int .i64 a]) (.agg #[.int .i64 a, .int .i64 t])).run Try.prog w4.drew = .ok () w' := hu
    have HG := hide hg
    have HFin := hide hfin
    have HBt := hide hbt
    have HB4 := hide (((HB.out.mono hbs.out).trans (hbA.mono (by have := HZ.out; have := hbs.out; omega))).grown hg4 (by have := HZ.out; have := hbs.out; simp; omega) (fun r hr => by injection hr with hr; omega))
    have hz4 := hg4.size
    clear hl hu hg hfin hbt hF far hown4 hg4 c0 c1 c2 hrun hbA
    have HBf := hide ((HB4.out.trans ((below_drewN w4 1).mono (by have := HZ.out; have := hbs.out; simp at hz4; omega))).grown HG.out (by have := HZ.out; have := hbs.out; simp at hz4; show base ≤ (w4.drewN 1).heap.size; simp; omega) (fun r hr => by injection hr with hr; have := HBt.out; omega))
    go_wp2_with fail
    go_region
    all_goals
      go_wp2
      exact bodyPost_end (v := .tuple #[]) (by simp [results, Try.results20, go_sem]) rfl ⟨rfl, HBf.out, _, _, HFin.out⟩

/-- Who has a lock: 0: nobody. -/
def ownr (os : List Wn) (a : Int) : Int := match os.find? (fun o => o.1 == a) with | some o => o.2 | none => 0
theorem ownr_nil (a : Int) : ownr [] a = 0 := rfl
theorem ownr_snoc (os : List Wn) (o : Wn) (h : ∀ i, i < os.length → (os.getD i wn0).1 ≠ o.1) : ownr (os ++ [o]) = updO (ownr os) o.1 o.2 := by
  funext a
  unfold ownr updO
  rw [List.find?_append]
  by_cases e : a = o.1
  · subst e
    have hn : os.find? (fun x => x.1 == o.1) = none := by
      rw [List.find?_eq_none]
      intro x hx
      obtain ⟨i, hi, rfl⟩ := List.mem_iff_getElem.1 hx
      have := h i hi
      simp [List.getD, hi] at this
      simpa using this
    simp [hn]
  · have hne : (o.1 == a) = false := by simpa using fun h : o.1 = a => e h.symm
    cases hf : os.find? (fun x => x.1 == a) with
    | some x => simp [e, hf]
    | none => simp [e, hne, hf]
theorem ownr_none {os : List Wn} {a : Int} (h : ∀ i, i < os.length → (os.getD i wn0).1 ≠ a) : ownr os a = 0 := by
  unfold ownr
  have hn : os.find? (fun x => x.1 == a) = none := by
    rw [List.find?_eq_none]
    intro x hx
    obtain ⟨i, hi, rfl⟩ := List.mem_iff_getElem.1 hx
    have := h i hi
    simp [List.getD, hi] at this
    simpa using this
  rw [hn]
/-- Who has any. -/
def holds (os : List Wn) (t : Int) : Prop := ∃ i, i < os.length ∧ (os.getD i wn0).2 = t
theorem take_snoc (os : List Wn) (k : Nat) (h : k < os.length) : os.take (k + 1) = os.take k ++ [os.getD k wn0] := by
  rw [List.take_succ_eq_append_getElem h]
  simp [List.getD, h]
theorem take_at (os : List Wn) (k i : Nat) (h : i < k) : (os.take k).getD i wn0 = os.getD i wn0 := by
  simp [List.getD, h]
theorem holds_snoc (os : List Wn) (o : Wn) (t : Int) : (holds os t ∨ t = o.2) ↔ holds (os ++ [o]) t := by
  constructor
  · rintro (⟨i, hi, e⟩ | rfl)
    · exact ⟨i, by simp; omega, by simpa [List.getD, List.getElem?_append, hi] using e⟩
    · exact ⟨os.length, by simp, by simp [List.getD]⟩
  · rintro ⟨i, hi, e⟩
    by_cases h : i < os.length
    · exact Or.inl ⟨i, h, by simpa [List.getD, List.getElem?_append, h] using e⟩
    · have : i = os.length := by simp at hi; omega
      subst this
      exact Or.inr (by simpa [List.getD] using e.symm)

set_option maxHeartbeats 2000000 in
set_option maxRecDepth 4000 in
/-- 'heldIn' of owners without a fault. -/
theorem heldInL {S : Nat → Prop} {w : World} {v : Value} {os : List Wn} (hv : RdO S w v os) (ho : Own os) :
    Calls Try.prog 18 #[v] w fun e w' => ∃ h, e = .returned (.map (some h)) ∧ Below w.heap.size w w' ∧ HeldAt w' w.heap.size h (2 * os.length) (ownr os) (holds os) := by
  obtain ⟨ao, c, rfl⟩ := hv.shape
  have hmm := @run_makeMap Try.prog
  have HV := hide hv
  have HO := hide ho
  have h40 := ho.len
  obtain ⟨m, hm⟩ : ∃ m, os.length = m := ⟨_, rfl⟩
  have HM := hide hm
  rw [hm] at HV h40 ⊢
  clear hv ho hm
  go_enter Try.func18, Try.ntmps18
  go_wp2
  go_loopw [9] (fun i wr => ∃ k : Nat, k ≤ m ∧ i = .int .i64 k ∧ Hid (Below w.heap.size w wr) ∧ Hid (HeldAt wr w.heap.size w.heap.size (2 * k) (ownr (os.take k)) (holds (os.take k)))) (fun i _ => m - (RowKit.intOf i).toNat)
  case atStart =>
    refine ⟨0, Nat.zero_le _, rfl, below_alloc _ _, .map [], fun _ => 0, World.ownsMap_made w Try.prog 54 asV, fun t _ => ⟨fun h => absurd h (by simp [has_eq]), ?_⟩, ?_, ?_, ?_, ?_, Nat.le_refl _, fun a h => absurd rfl h⟩
    · rintro ⟨i, hi, _⟩; simp at hi
    · rintro t ⟨i, hi, _⟩; simp at hi
    · rintro t ⟨i, hi, _⟩; simp at hi
    · rintro t t' ⟨i, hi, _⟩; simp at hi
    · rintro t ⟨i, hi, _⟩; simp at hi
  case round =>
    obtain ⟨k, hk, rfl, HB, HH⟩ := hrel
    by_cases hlt : k < m
    · obtain ⟨b, off, rfl, q1, q2⟩ := HV.out.at (k := k) (by rw [HM.out]; exact hlt)
      have g1 := cell_later HB.out q1
      have g2 := cell_later HB.out q2
      have hz := HB.out.size
      have HS := hide (take_snoc os k (by rw [HM.out]; exact hlt))
      have hh := HO.out.home k (by rw [HM.out]; exact hlt)
      have ht := HO.out.txn k (by rw [HM.out]; exact hlt)
      have hne : ∀ i, i < (os.take k).length → ((os.take k).getD i wn0).1 ≠ (os.getD k wn0).1 := fun i hi => by
        simp at hi
        rw [take_at os k i (by omega)]
        have := own_up HO.out i k (by omega) (by rw [HM.out]; exact hlt)
        omega
      have HS2 := hide (ownr_snoc (os.take k) (os.getD k wn0) hne)
      have HS3 := hide (holds_snoc (os.take k) (os.getD k wn0))
      have HN := hide (ownr_none hne)
      obtain ⟨o, hoo⟩ : ∃ o, os.getD k wn0 = o := ⟨_, rfl⟩
      rw [hoo] at g1 g2 HS HS2 HS3 HN hh ht
      obtain ⟨x, y⟩ := o
      dsimp only at g1 g2 HS2 HS3 HN hh ht
      have HHh := hide hh
      have HHt := hide ht
      have HP := hide (fun (W : World) (hW : Below wr.heap.size wr W) => putL (w := W) (a := x) (t := y) (by obtain ⟨D, B, hd⟩ := HH.out; exact ⟨D, B, hd.later hW⟩) (by omega) HHh.out HHt.out (Or.inl HN.out))
      clear q1 q2 hh ht hne hoo
      go_wp2_with fail
      refine (HP.out _ (below_alloc _ _)).mono ?_
      rintro e w' ⟨rfl, hb, hd⟩
      have HB' := hide ((HB.out.trans ((below_alloc wr (.cells #[.int .i64 x, .int .i64 y] 40)).mono hz)).trans hb)
      have HD' : Hid (HeldAt w' w.heap.size w.heap.size (2 * (k + 1)) (ownr (os.take (k + 1))) (holds (os.take (k + 1)))) := by
        obtain ⟨D, B, hd⟩ := hd
        rw [HS.out, HS2.out]
        exact ⟨D, B, hd.congrK HS3.out⟩
      clear hb hd
      go_wp2
      go_roundw
      case rel => exact ⟨k + 1, hlt, by go_num, HB'.out, HD'.out⟩
      case measure => simp [RowKit.intOf]; omega
    · have hkm : k = m := by omega
      subst hkm
      have hfin : os.take k = os := by rw [← HM.out]; simp
      rw [hfin] at HH
      go_wp2
      go_ret
      exact ⟨_, rfl, HB.out, HH.out⟩
end Go.Proofs.Ytkpkoapcmnapoab
