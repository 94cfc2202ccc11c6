/- Fu3 Cat Last AbsI in one text: what each says stands at its head below. -/
import Derived.Test.YtlmaopljihbdkaaGreatG35
import Derived.Test.YtlmaopljihbdkaaGreatG40
import Derived.Test.YtlmaopljihbdkaaGreatG11
import Derived.Test.YtlmaopljihbdkaaGreatG39
import Derived.Laws.AppendOwnNone
namespace Go.Proofs.YtlmaopljihbdkaaGreat
open Go.RowKit
structure FbAt (wr : World) (a s : Int) (xs : List Int) (ao : Option Addr) (j c : Nat) (wi : World) : Prop where
  below : Below wr.heap.size wr wi
  c0 : wi.cell? ⟨wr.heap.size, 0, none⟩ = some (.int .i64 a)
  c1 : wi.cell? ⟨wr.heap.size, 1, none⟩ = some (.int .i64 s)
  c2 : wi.cell? ⟨wr.heap.size, 2, none⟩ = some (.slice ao j c)
  fr : ∀ o, wi.frozen? ⟨wr.heap.size, o, none⟩ = false
  row : wi.ownsRow (wr.heap.size + 1) 2 1 (.slice ao j c) j (xs.map (Value.int .i64))
theorem FbAt.lt {wr wi : World} {a s : Int} {xs : List Int} {ao : Option Addr} {j c : Nat} (h : FbAt wr a s xs ao j c wi) : wr.heap.size < wi.heap.size := World.block_lt_of_cell? _ _ h.c0
theorem FbAt.step {wr wi w6 : World} {a s x : Int} {xs : List Int} {ao : Option Addr} {j c g cap : Nat} {t : TypeId} (h : FbAt wr a s xs ao j c wi)
    (hown : w6.ownsRow (wr.heap.size + 1) 2 1 (.slice (some ⟨g, 0, none⟩) (j + 1) cap) (j + 1) (xs.map (Value.int .i64) ++ [.int .i64 x])) (hg : (wi.drew.alloc (.cells #[.int .i64 x] t)).grownBy w6 (Value.slice ao j c).ownBlock) :
    FbAt wr a s (xs ++ [x]) (some ⟨g, 0, none⟩) (j + 1) cap (w6.setCell ⟨wr.heap.size, 2, none⟩ (.slice (some ⟨g, 0, none⟩) (j + 1) cap)) := by
  have hl := h.lt
  have bA := below_on (below_drewN wi 1) (below_alloc (wi.drewN 1) (.cells #[.int .i64 x] t))
  have hno : ∀ r, (Value.slice ao j c).ownBlock = some r → wr.heap.size + 1 ≤ r := fun r hr => (h.row.lt r hr).1
  have hB6 : Below wr.heap.size wr w6 := (below_on h.below bA).grown hg (by simp; omega) (fun r hr => by have := hno r hr; omega)
  have far : ∀ o v, wi.cell? ⟨wr.heap.size, o, none⟩ = some v → w6.cell? ⟨wr.heap.size, o, none⟩ = some v := fun o v hv =>
    (hg.cell_far ⟨wr.heap.size, o, none⟩ (by simp; omega) (fun e => by have := hno _ e.symm; dsimp only at this; omega)).trans (cell_later bA hv)
  have ffar : ∀ o, w6.frozen? ⟨wr.heap.size, o, none⟩ = false := fun o =>
    (hg.frozen_far ⟨wr.heap.size, o, none⟩ (by simp; omega) (fun e => by have := hno _ e.symm; dsimp only at this; omega)).trans (((bcell bA).2 _ _ hl).trans (h.fr o))
  refine ⟨hB6.setCell (Nat.le_refl _) _, ?_, ?_, World.cell?_setCell_same _ _ _ (far _ _ h.c2), fun o => by rw [World.frozen?_setCell]; exact ffar o, ?_⟩
  · rw [World.cell?_setCell_other _ _ _ _ (by simp)]; exact far _ _ h.c0
  · rw [World.cell?_setCell_other _ _ _ _ (by simp)]; exact far _ _ h.c1
  · rw [List.map_append]
    exact ownsRow_setCell_below hown (by simp) _
theorem prs_stop {g : Int → Nat} {n : Nat} {us : List Int} (h : n = 0 ∨ us.length ≤ 1) : prs g n us = [] := by
  match n, us, h with
  | 0, _, _ => rfl
  | _ + 1, [], _ => rfl
  | _ + 1, [_], _ => rfl
  | _ + 1, _ :: _ :: _, h => simp at h
set_option maxHeartbeats 4000000 in
set_option maxRecDepth 4000 in
theorem l8Unpack {S : Nat → Prop} {w : World} {v : Value} {ws : List Int} (hv : RdI S w v ws) (hm : ws.length ≤ 64) (hw : ∀ x, x ∈ ws → 0 ≤ x ∧ x ≤ 65535) (hne : ws ≠ []) :
    Calls Tryz.prog 92 #[v] w fun e w' => ∃ z, e = .returned (.tuple #[z, .bool (dirB ws)]) ∧ Below w.heap.size w w' ∧ BuiltFi (w.heap.size ≤ ·) w' z (prs gS (ws.getD 0 0).toNat ws.tail).length (prs gS (ws.getD 0 0).toNat ws.tail) := by
  have HDr := hide (dirB_S (ws := ws))
  obtain ⟨av, cv, rfl⟩ := hv.shape
  have HV := hide hv
  have HW := hide hw
  obtain ⟨n, hn⟩ : ∃ n, ws.length = n := ⟨_, rfl⟩
  have HN := hide hn
  have hn0 : 0 < n := by rw [← hn]; exact List.length_pos_iff.2 hne
  obtain ⟨b, off, hav, q0⟩ := hv.at (k := 0) (by rw [hn]; exact hn0)
  subst hav
  have hx0 := hw (ws.getD 0 0) (by simp [List.getD, show 0 < ws.length by omega])
  obtain ⟨x0, hx⟩ : ∃ x0, ws.getD 0 0 = x0 := ⟨_, rfl⟩
  rw [hx] at q0 hx0 HDr ⊢
  obtain ⟨K, hK⟩ : ∃ K : Nat, x0 = (K : Int) := ⟨x0.toNat, by omega⟩
  subst hK
  rw [Int.toNat_natCast] at HDr ⊢
  have HFl := hide (prs_len gS K ws.tail)
  have HFl2 := hide (prs_lens gS K ws.tail)
  obtain ⟨fs, hfs⟩ : ∃ fs, prs gS K ws.tail = fs := ⟨_, rfl⟩
  rw [hfs] at HDr HFl HFl2 ⊢
  have hfl : fs.length ≤ 64 := by have := HFl.out; simp at this; omega
  have HFs : Hid (fs.drop 0 = prs gS (K - 0) (ws.drop 1)) := by rw [Hid, List.drop_zero, Nat.sub_zero, List.drop_one]; exact hfs.symm
  rw [hn] at HV hm ⊢
  have q0' : w.cell? ⟨b, off, none⟩ = some (.int .i64 (K : Int)) := by simpa using q0
  have HQ0 := hide q0'
  have hn0b : ((n : Int) == 0) = false := by simp; omega
  clear hv hn hw hne hfs q0 hx q0' HFl
  obtain ⟨i0, hi, hz0, hz1, hz2⟩ := info_parts Tryz.infoFl
  obtain ⟨j0, hj, jz0, jz1, jz2⟩ := info_parts Tryz.infoInt
  go_enter Tryz.func92, Tryz.ntmps92
  go_wp2
  go_loopw [4, 5, 6] (fun v i5 i6 wr => ∃ (m t : Nat), m ≤ fs.length ∧ 1 ≤ t ∧ t ≤ n ∧ i5 = .int .i64 t ∧ i6 = .int .i64 m ∧ Hid (fs.drop m = prs gS (K - m) (ws.drop t)) ∧ Hid (BuiltFi (w.heap.size ≤ ·) wr v m fs) ∧ Hid (Below w.heap.size w wr)) (fun _ i5 _ _ => 64 - (RowKit.intOf i5).toNat)
  case atStart => exact ⟨0, 1, Nat.zero_le _, Nat.le_refl _, hn0, rfl, rfl, HFs.out, BuiltFi.empty _ _ (Nat.le_refl _) _, below_alloc _ _⟩
  case round =>
    clear HFs
    obtain ⟨m, t, hmf, ht1, htn, rfl, rfl, HD, HBu, HB⟩ := hrel
    obtain ⟨wq, hwq⟩ : ∃ wq, wq = wr := ⟨_, rfl⟩
    subst hwq
    have g0 := cell_later HB.out HQ0.out
    have hzz := HB.out.size
    by_cases hgo : m < K ∧ t + 1 < n
    · obtain ⟨hmK, htn2⟩ := hgo
      have hmK' : (m : Int) < (K : Int) := by omega
      have htw : IntKind.i64.wrap ((t : Int) + 1) = ((t + 1 : Nat) : Int) := by simp [IntKind.wrap, IntKind.bits, IntKind.signed]; omega
      have htn3 : ((t + 1 : Nat) : Int) < (n : Int) := by omega
      obtain ⟨b1, off1, e1, p0⟩ := HV.out.at (k := t) (by rw [HN.out]; omega)
      injection e1 with e1
      injection e1 with e2 e3
      subst e2 e3
      obtain ⟨b1, off1, e1, p1⟩ := HV.out.at (k := t + 1) (by rw [HN.out]; omega)
      injection e1 with e1
      injection e1 with e2 e3
      subst e2 e3
      have HDd : Hid (ws.drop t = ws.getD t 0 :: ws.getD (t + 1) 0 :: ws.drop (t + 2)) := by
        rw [Hid, List.drop_eq_getElem_cons (by rw [HN.out]; omega), List.drop_eq_getElem_cons (i := t + 1) (by rw [HN.out]; omega)]
        simp [List.getD, show t < ws.length by rw [HN.out]; omega, show t + 1 < ws.length by rw [HN.out]; omega]
      have hs := HW.out (ws.getD (t + 1) 0) (by simp [List.getD, show t + 1 < ws.length by rw [HN.out]; omega])
      obtain ⟨a, ha⟩ : ∃ a, ws.getD t 0 = a := ⟨_, rfl⟩
      obtain ⟨s, hs'⟩ : ∃ s, ws.getD (t + 1) 0 = s := ⟨_, rfl⟩
      rw [ha] at p0 HDd
      rw [hs'] at p1 HDd hs
      have g1 := cell_later HB.out p0
      have g2 : wq.cell? ⟨b, off + (t + 1), none⟩ = some (.int .i64 s) := cell_later HB.out p1
      have HP : Hid (fs.drop m = (a, s, (ws.drop (t + 2)).take (gS s)) :: prs gS (K - (m + 1)) ((ws.drop (t + 2)).drop (gS s))) := by
        rw [Hid, HD.out, HDd.out, show K - m = (K - (m + 1)) + 1 by omega, prs]
      have ht0 : (0 : Int) ≤ (t : Int) := by omega
      have ht0' : (0 : Int) ≤ ((t + 1 : Nat) : Int) := by omega
      have htl : (t : Int) < (n : Int) := by omega
      have hbl := World.block_lt_of_cell? _ _ g0
      clear p0 p1 ha hs' HD HDd
      go_wp2_with fail
      go_region
      refine forgetE (fun wx => FbAt wq a s [] none 0 0 wx) ⟨below_on (below_alloc _ _) (below_drewN _ 1), by simp [go_sem], by simp [go_sem], by simp [go_sem], fun o => by simp [go_sem], ⟨rfl, .inl ⟨rfl, rfl⟩⟩⟩ ?_
      intro W1 hF1
      have HF1 := hide hF1
      have f1 := hF1.c1
      clear hF1 g0 g1 g2
      have htw2 : IntKind.i64.wrap ((t : Int) + 2) = ((t + 2 : Nat) : Int) := by simp [IntKind.wrap, IntKind.bits, IntKind.signed]; omega
      have hMx : ∃ M : Nat, nbF (if s < 100 then s else 100) = (M : Int) ∧ M ≤ 13 := by
        refine ⟨(nbF (if s < 100 then s else 100)).toNat, ?_⟩
        unfold nbF
        by_cases h : s < 100
        · rw [if_pos h]; omega
        · rw [if_neg h]; omega
      obtain ⟨M, hM, hM13⟩ := hMx
      have HGM : Hid (gS s = M) := by unfold gS; rw [Hid, hM]; rfl
      have HMn := hide (fun W => l1Min_any s 100 W)
      have HFor := hide (fun W => l8For (if s < 100 then s else 100) (by split <;> omega) (by split <;> omega) W)
      rw [hM] at HFor
      rw [HGM.out] at HP
      obtain ⟨y, hy⟩ : ∃ y, (if s < 100 then s else 100) = y := ⟨_, rfl⟩
      rw [hy] at HMn HFor
      clear hM hy
      obtain ⟨r, hr⟩ : ∃ r, ws.drop (t + 2) = r := ⟨_, rfl⟩
      rw [hr] at HP
      have HR := hide hr
      have hrl : r.length + t + 2 = n := by rw [← hr]; simp [HN.out]; omega
      clear hr
      obtain ⟨t2, ht2⟩ : ∃ t2, t + 2 = t2 := ⟨_, rfl⟩
      rw [ht2] at htw2 HR
      have ht2n : r.length + t2 = n := by omega
      go_wp2_with fail
      refine (HMn.out _).mono ?_
      rintro e w2 ⟨rfl, hw2⟩
      have hw2 := hw2.symm
      subst hw2
      go_wp2_with fail
      refine (HFor.out _).mono ?_
      rintro e w2 ⟨rfl, hw2⟩
      have hw2 := hw2.symm
      subst hw2
      have HC0 : Hid (FbAt wq a s (r.take 0) none 0 0 W1) := by rw [Hid, List.take_zero]; exact HF1.out
      clear HF1 f1 HMn HFor
      go_wp2
      go_loopw [5, 8] (fun i5 i8 wi => ∃ (j c : Nat) (ao : Option Addr), j ≤ M ∧ j ≤ r.length ∧ i5 = .int .i64 ((t2 + j : Nat) : Int) ∧ i8 = .int .i64 ((M - j : Nat) : Int) ∧ Hid (FbAt wq a s (r.take j) ao j c wi)) (fun _ i8 _ => (RowKit.intOf i8).toNat)
      case atStart => exact ⟨0, 0, none, Nat.zero_le _, Nat.zero_le _, rfl, rfl, HC0.out⟩
      case round =>
        clear HC0
        obtain ⟨j, c, ao, hjM, hjr, rfl, rfl, HF⟩ := hrel
        obtain ⟨wi, hwi⟩ : ∃ wi, wi = wr := ⟨_, rfl⟩
        subst hwi
        by_cases hgo2 : j < M ∧ j < r.length
        · obtain ⟨hj1, hj2⟩ := hgo2
          obtain ⟨b1, off1, e1, p0⟩ := HV.out.at (k := t2 + j) (by rw [HN.out]; omega)
          injection e1 with e1
          injection e1 with e2 e3
          subst e2 e3
          have p1 := cell_later (below_on HB.out HF.out.below) p0
          have HTk : Hid (r.take (j + 1) = r.take j ++ [ws.getD (t2 + j) 0]) := by
            rw [Hid, List.take_succ_eq_append_getElem hj2]
            congr 2
            have : r[j] = (ws.drop t2)[j]'(by rw [HR.out]; exact hj2) := by simp [HR.out]
            rw [this]
            simp [List.getD, show t2 + j < ws.length by rw [HN.out]; omega]
          obtain ⟨x, hx⟩ : ∃ x, ws.getD (t2 + j) 0 = x := ⟨_, rfl⟩
          rw [hx] at p1 HTk
          clear p0 hx
          obtain ⟨T, hT⟩ : ∃ T, t2 + j = T := ⟨_, rfl⟩
          rw [hT] at p1 ⊢
          have hTn : (T : Int) < (n : Int) := by omega
          have hTn' : T < n := by omega
          have hT0 : (0 : Int) ≤ (T : Int) := by omega
          have hTw : IntKind.i64.wrap ((T : Int) + 1) = ((t2 + (j + 1) : Nat) : Int) := by simp [IntKind.wrap, IntKind.bits, IntKind.signed]; omega
          obtain ⟨d, hd⟩ : ∃ d, M - j = d + 1 := ⟨M - j - 1, by omega⟩
          rw [hd]
          have hdp : (0 : Int) < ((d + 1 : Nat) : Int) := by omega
          have hdw : IntKind.i64.wrap (((d + 1 : Nat) : Int) - 1) = ((M - (j + 1) : Nat) : Int) := by simp [IntKind.wrap, IntKind.bits, IntKind.signed]; omega
          have c2 := HF.out.c2
          have c2f := HF.out.fr 2
          have HRowd : Hid (wi.drew.ownsRow (wq.heap.size + 1) 2 1 (.slice ao j c) j ((r.take j).map (Value.int .i64))) := HF.out.row
          have hlt2 := HF.out.lt
          have HSt := hide (fun (w6 : World) (g cap : Nat) h1 h2 => HF.out.step (w6 := w6) (g := g) (cap := cap) (x := x) (t := 2) h1 h2)
          have HC2 := hide c2
          have HFF := hide HF.out.fr
          go_wp2_with fail
          go_region_law (first | (refine step_append_lies _ (by rfl) _ _ _ (by rfl) (wq.heap.size + 1) 2 j0 (.int .i64 0) 1 8 Tryz.underlying22 hj jz0 jz1 jz2 rfl (by omega) (.slice ao j c) j _ (by rfl) (HRowd.out.alloc (.cells #[.int .i64 x] 2)) ⟨wi.heap.size, 0, none⟩ 1 1 [.int .i64 x] (by rfl) (by rfl) (World.news_of_block (cs := #[.int .i64 x]) (t := 2) (fr := (0, 0)) (heap_alloc_new wi.drew _)) (by simp [Value.oneCell']) (by omega) (by unfold maxLen; omega) (by omega) (by simp; omega) (wi.heap.size + 1) (by simp) ?_; intro g cap w6 hown hgrow hat hlt3; have y1 : w6.cell? ⟨wq.heap.size, 2, none⟩ = some (.slice ao j c) := (hgrow.cell_far ⟨wq.heap.size, 2, none⟩ (by simp; omega) (fun e => by have := (HRowd.out.lt _ e.symm).1; dsimp only at this; omega)).trans (cell_later (below_on (below_drewN wi 1) (below_alloc (wi.drewN 1) _)) HC2.out); have yf : w6.frozen? ⟨wq.heap.size, 2, none⟩ = false := (hgrow.frozen_far ⟨wq.heap.size, 2, none⟩ (by simp; omega) (fun e => by have := (HRowd.out.lt _ e.symm).1; dsimp only at this; omega)).trans (((bcell (below_on (below_drewN wi 1) (below_alloc (wi.drewN 1) _))).2 _ _ hlt2).trans (HFF.out 2))))
          all_goals
            have HF2 := hide (HSt.out w6 g cap hown hgrow)
            rw [← HTk.out] at HF2
            clear hown hgrow hat hlt3 y1 yf c2 c2f
            go_wp2
            go_roundw
            case rel => exact ⟨j + 1, cap, some ⟨g, 0, none⟩, by omega, by omega, by first | rfl | go_num, by first | rfl | go_num, HF2.out⟩
            case measure => first | (simp [RowKit.intOf]; done) | (simp [RowKit.intOf]; omega)
        · have hend : j = M ∨ j = r.length := by omega
          have HTk : Hid (r.take M = r.take j ∧ r.drop M = r.drop j) := by
            rcases hend with e | e
            · rw [e]; exact ⟨rfl, rfl⟩
            · exact ⟨by rw [List.take_of_length_le (by omega), List.take_of_length_le (by omega)], by rw [List.drop_eq_nil_of_le (by omega), List.drop_eq_nil_of_le (by omega)]⟩
          rw [HTk.out.1, HTk.out.2] at HP
          have hmf2 : m < fs.length := by
            by_cases e : m < fs.length
            · exact e
            · have := HP.out
              rw [List.drop_eq_nil_of_le (by omega)] at this
              cases this
          have HG : Hid (fs.getD m oj0 = (a, s, r.take j)) := by
            have h := HP.out
            rw [List.drop_eq_getElem_cons hmf2] at h
            injection h with h1 h2
            simp only [List.getD, List.getElem?_eq_getElem hmf2, Option.getD_some]
            exact h1
          have HD2 : Hid (fs.drop (m + 1) = prs gS (K - (m + 1)) (ws.drop (t2 + j))) := by
            have h := HP.out
            rw [List.drop_eq_getElem_cons hmf2] at h
            injection h with h1 h2
            rw [Hid, h2, ← HR.out, List.drop_drop]
          obtain ⟨V2, Bk2, hown, hpr, hin⟩ := HBu.out
          have HOw0 := hide hown
          have HPr := hide hpr
          have HIn2 := hide hin
          have k0 := HF.out.c0
          have k1 := HF.out.c1
          have k2 := HF.out.c2
          have HFB := hide HF.out.below
          have hlt2 := HF.out.lt
          have HO4 := hide ((ow_of_owns (by simp; omega) HF.out.row (by simp; omega)).mono (show wq.heap.size ≤ wq.heap.size + 1 by omega))
          have hmw : IntKind.i64.wrap ((m : Int) + 1) = ((m + 1 : Nat) : Int) := by simp [IntKind.wrap, IntKind.bits, IntKind.signed]; omega
          obtain ⟨T, hT⟩ : ∃ T, t2 + j = T := ⟨_, rfl⟩
          rw [hT] at HD2 ⊢
          have hTn : T ≤ n := by omega
          have hTt : 1 ≤ T := by omega
          have hcond : ¬ (0 < M - j ∧ T < n) := by rintro ⟨h1, h2⟩; exact hgo2 ⟨by omega, by omega⟩
          have hmeas : t < T := by omega
          clear hown hpr hin HF hgo2 hend
          have hfin : ∀ (g cap : Nat) (w5 : World), w5.ownsRow 0 114 3 (.slice (some ⟨g, 0, none⟩) (m + 1) cap) (m + 1) (cellsFi fs m V2 ++ [.int .i64 a, .int .i64 s, .slice ao j c]) → (wi.alloc (.cells #[.int .i64 a, .int .i64 s, .slice ao j c] 114)).grownBy w5 u4.ownBlock → (u4.ownBlock = some g ∨ g = wi.heap.size + 1) → BuiltFi (w.heap.size ≤ ·) w5 (.slice (some ⟨g, 0, none⟩) (m + 1) cap) (m + 1) fs ∧ Below w.heap.size w w5 := by
            intro g cap w5 hown5 hgrow hat
            refine ⟨BuiltFi.step (P' := (w.heap.size ≤ ·)) HIn2.out HOw0.out HPr.out (fun _ h => h) (fun b hb => by omega) HFB.out (by rw [HG.out]; exact HO4.out) (below_alloc wi (.cells #[.int .i64 a, .int .i64 s, .slice ao j c] 114)) (by rw [HG.out]; exact hown5) hgrow (by simpa using hat), ?_⟩
            exact (below_on (below_on HB.out HFB.out) (below_alloc wi (.cells #[.int .i64 a, .int .i64 s, .slice ao j c] 114))).grown hgrow (by simp; omega) (fun r hr => HPr.out r hr)
          have HFin := hide hfin
          clear hfin
          by_cases hd0 : M - j = 0
          · rw [hd0]
            clear hcond
            go_wp2_with (at_builtin; refine wpList_append_lies _ rfl _ _ _ rfl 0 114 i0 (.agg #[.int .i64 0, .int .i64 0, .slice none 0 0]) 3 40 Tryz.underlying111 hi hz0 hz1 hz2 rfl (by omega) _ m _ (by rfl) (ownsRow_later (ownsRow_later HOw0.out HFB.out) (below_alloc wi (.cells #[.int .i64 a, .int .i64 s, .slice ao j c] 114))) ⟨wi.heap.size, 0, none⟩ 1 1 [.int .i64 a, .int .i64 s, .slice ao j c] (by rfl) (by rfl) (World.news_of_block (cs := #[.int .i64 a, .int .i64 s, .slice ao j c]) (t := 114) (fr := (0, 0)) (heap_alloc_new wi _)) cellsFi_one (by omega) (by unfold maxLen; omega) (by omega) (Nat.zero_le _) (wi.heap.size + 1) (by simp) ?_; intro g cap w5 hown5 hgrow hat hlt5)
            have HS := hide (HFin.out g cap w5 hown5 hgrow hat)
            clear hown5 hgrow hat hlt5
            go_wp2
            go_roundw
            case rel => exact ⟨m + 1, T, hmf2, hTt, hTn, by first | rfl | go_num, by first | rfl | go_num, HD2.out, HS.out.1, HS.out.2⟩
            case measure => simp [RowKit.intOf]; omega
          · have hTge : ¬ (T : Int) < (n : Int) := by omega
            have hTge' : ¬ T < n := by omega
            obtain ⟨d, hd⟩ : ∃ d, M - j = d + 1 := ⟨M - j - 1, by omega⟩
            rw [hd]
            have hdp : (0 : Int) < ((d + 1 : Nat) : Int) := by omega
            clear hcond hd0
            go_wp2_with (at_builtin; refine wpList_append_lies _ rfl _ _ _ rfl 0 114 i0 (.agg #[.int .i64 0, .int .i64 0, .slice none 0 0]) 3 40 Tryz.underlying111 hi hz0 hz1 hz2 rfl (by omega) _ m _ (by rfl) (ownsRow_later (ownsRow_later HOw0.out HFB.out) (below_alloc wi (.cells #[.int .i64 a, .int .i64 s, .slice ao j c] 114))) ⟨wi.heap.size, 0, none⟩ 1 1 [.int .i64 a, .int .i64 s, .slice ao j c] (by rfl) (by rfl) (World.news_of_block (cs := #[.int .i64 a, .int .i64 s, .slice ao j c]) (t := 114) (fr := (0, 0)) (heap_alloc_new wi _)) cellsFi_one (by omega) (by unfold maxLen; omega) (by omega) (Nat.zero_le _) (wi.heap.size + 1) (by simp) ?_; intro g cap w5 hown5 hgrow hat hlt5)
            have HS := hide (HFin.out g cap w5 hown5 hgrow hat)
            clear hown5 hgrow hat hlt5
            go_wp2
            go_roundw
            case rel => exact ⟨m + 1, T, hmf2, hTt, hTn, by first | rfl | go_num, by first | rfl | go_num, HD2.out, HS.out.1, HS.out.2⟩
            case measure => simp [RowKit.intOf]; omega
    · have HE : Hid (prs gS (K - m) (ws.drop t) = []) := by
        refine prs_stop ?_
        by_cases e : m < K
        · exact Or.inr (by rw [List.length_drop, HN.out]; have : ¬ t + 1 < n := fun h => hgo ⟨e, h⟩; omega)
        · exact Or.inl (by omega)
      rw [HE.out] at HD
      have hmeq : m = fs.length := by
        have := congrArg List.length HD.out
        simp at this
        omega
      subst hmeq
      have HO := hide (HBu.out.ow rfl (by omega))
      have HC := hide (specL8Fault HO.out.rd)
      obtain ⟨au, cu, hu⟩ := HBu.out.shape
      obtain ⟨l, hl⟩ : ∃ l, fs.length = l := ⟨_, rfl⟩
      rw [hl] at hu
      subst hu
      have HPf := hide (fun (h : filF fs = 0) => pkF_small h)
      obtain ⟨z, hz⟩ : ∃ z, filF fs = z := ⟨_, rfl⟩
      rw [hz] at HC
      have HZ := hide hz
      have HLl := hide hl
      rw [hl] at hgo ⊢
      clear hz HE HD hl
      have hbool : ∀ B : Bool, dirB ws = B → (Ending.returned (Value.tuple #[.slice au l cu, .bool B])) = .returned (.tuple #[.slice au l cu, .bool (dirB ws)]) := fun B h => by rw [h]
      have HBl := hide hbool
      clear hbool
      have stop : ∃ p q : Prop, True := ⟨True, True, trivial⟩
      clear stop
      by_cases hlK : l < K
      · have hlK' : (l : Int) < (K : Int) := by omega
        have htge : ¬ t + 1 < n := fun h => hgo ⟨hlK, h⟩
        have htw : IntKind.i64.wrap ((t : Int) + 1) = ((t + 1 : Nat) : Int) := by simp [IntKind.wrap, IntKind.bits, IntKind.signed]; omega
        have htge' : ¬ ((t + 1 : Nat) : Int) < (n : Int) := by omega
        clear hgo
        by_cases hz0' : z = 0
        · subst hz0'
          have hsm := HPf.out HZ.out
          go_wp2_with fail
          refine HC.out.mono ?_
          rintro e w2 ⟨rfl, hb⟩
          have HB2 := hide (below_on HB.out hb)
          have HBu2 := hide (HBu.out.later hb)
          have HC2 := hide (l8Pack (HO.out.rd.later hb) (by omega))
          rw [HLl.out] at HBu2
          clear hb HC
          go_wp2_with fail
          refine HC2.out.mono ?_
          rintro e w3 ⟨z3, rfl, hb, ho⟩
          have HB3 := hide (below_on HB2.out hb)
          have HBu3 := hide (HBu2.out.later hb)
          have HC3 := hide (l2SameR (ow_of_owns rfl ho (by omega)).rd (HV.out.later HB3.out))
          obtain ⟨a3, c3, hz3⟩ := owns_shapeM ho
          subst hz3
          obtain ⟨B, hBe⟩ : ∃ B, decide (pkF fs = ws) = B := ⟨_, rfl⟩
          have HDb : Hid (dirB ws = B) := by rw [Hid, HDr.out, HZ.out, hBe]; simp
          rw [hBe] at HC3
          clear hb ho HC2 hBe
          go_wp2_with fail
          refine HC3.out.mono ?_
          rintro e w4 ⟨rfl, q, hq⟩
          have HB4 : Hid (Below w.heap.size w w4) := hq ▸ below_on HB3.out (below_drewN _ q)
          have HBu4 : Hid (BuiltFi (w.heap.size ≤ ·) w4 (.slice au l cu) l fs) := hq ▸ HBu3.out.later (below_drewN _ q)
          clear hq
          go_wp2
          refine bodyPost_ret (v := .tuple #[.slice au l cu, .bool B]) (by simp [results, Tryz.results92, go_sem]) rfl ?_
          exact ⟨_, HBl.out B HDb.out, HB4.out, by rw [HLl.out]; exact HBu4.out⟩
        · have hz0b : (z == 0) = false := by simpa using hz0'
          have HDb : Hid (dirB ws = false) := by rw [Hid, HDr.out, HZ.out]; simp [hz0']
          go_wp2_with fail
          refine HC.out.mono ?_
          rintro e w2 ⟨rfl, hb⟩
          have HB2 := hide (below_on HB.out hb)
          have HBu2 := hide (HBu.out.later hb)
          rw [HLl.out] at HBu2
          clear hb HC
          go_wp2
          refine bodyPost_ret (v := .tuple #[.slice au l cu, .bool false]) (by simp [results, Tryz.results92, go_sem]) rfl ?_
          exact ⟨_, HBl.out false HDb.out, HB2.out, by rw [HLl.out]; exact HBu2.out⟩
      · have hlK' : ¬ (l : Int) < (K : Int) := by omega
        clear hgo
        by_cases hz0' : z = 0
        · subst hz0'
          have hsm := HPf.out HZ.out
          go_wp2_with fail
          refine HC.out.mono ?_
          rintro e w2 ⟨rfl, hb⟩
          have HB2 := hide (below_on HB.out hb)
          have HBu2 := hide (HBu.out.later hb)
          have HC2 := hide (l8Pack (HO.out.rd.later hb) (by omega))
          rw [HLl.out] at HBu2
          clear hb HC
          go_wp2_with fail
          refine HC2.out.mono ?_
          rintro e w3 ⟨z3, rfl, hb, ho⟩
          have HB3 := hide (below_on HB2.out hb)
          have HBu3 := hide (HBu2.out.later hb)
          have HC3 := hide (l2SameR (ow_of_owns rfl ho (by omega)).rd (HV.out.later HB3.out))
          obtain ⟨a3, c3, hz3⟩ := owns_shapeM ho
          subst hz3
          obtain ⟨B, hBe⟩ : ∃ B, decide (pkF fs = ws) = B := ⟨_, rfl⟩
          have HDb : Hid (dirB ws = B) := by rw [Hid, HDr.out, HZ.out, hBe]; simp
          rw [hBe] at HC3
          clear hb ho HC2 hBe
          go_wp2_with fail
          refine HC3.out.mono ?_
          rintro e w4 ⟨rfl, q, hq⟩
          have HB4 : Hid (Below w.heap.size w w4) := hq ▸ below_on HB3.out (below_drewN _ q)
          have HBu4 : Hid (BuiltFi (w.heap.size ≤ ·) w4 (.slice au l cu) l fs) := hq ▸ HBu3.out.later (below_drewN _ q)
          clear hq
          go_wp2
          refine bodyPost_ret (v := .tuple #[.slice au l cu, .bool B]) (by simp [results, Tryz.results92, go_sem]) rfl ?_
          exact ⟨_, HBl.out B HDb.out, HB4.out, by rw [HLl.out]; exact HBu4.out⟩
        · have hz0b : (z == 0) = false := by simpa using hz0'
          have HDb : Hid (dirB ws = false) := by rw [Hid, HDr.out, HZ.out]; simp [hz0']
          go_wp2_with fail
          refine HC.out.mono ?_
          rintro e w2 ⟨rfl, hb⟩
          have HB2 := hide (below_on HB.out hb)
          have HBu2 := hide (HBu.out.later hb)
          rw [HLl.out] at HBu2
          clear hb HC
          go_wp2
          refine bodyPost_ret (v := .tuple #[.slice au l cu, .bool false]) (by simp [results, Tryz.results92, go_sem]) rfl ?_
          exact ⟨_, HBl.out false HDb.out, HB2.out, by rw [HLl.out]; exact HBu2.out⟩
theorem udS {ws : List Int} (h : dirB ws = true) : prs gS (ws.getD 0 0).toNat ws.tail = prI ws.tail := by
  have hd := dirB_iff.1 h
  rw [dir_S hd]
end Go.Proofs.YtlmaopljihbdkaaGreat
namespace Go.Proofs.YtlmaopljihbdkaaGreat
open Go.RowKit Go.Maps
theorem cellsP_two (ps : List (Int × List Int)) (k : Nat) (V : Nat → Value) (j : Nat) (h : j < k * 2) : (cellsP ps k V)[j]? = some (if j % 2 = 0 then .int .i64 (ps.getD (j / 2) (0, [])).1 else V (j / 2)) := by
  unfold cellsP
  rw [List.getElem?_map, List.getElem?_range h]
  rfl
theorem cellsP_append (L M : List (Int × List Int)) (V V' : Nat → Value) : cellsP (L ++ M) (L.length + M.length) (fun i => if i < L.length then V i else V' (i - L.length)) = cellsP L L.length V ++ cellsP M M.length V' := by
  apply List.ext_getElem?
  intro j
  by_cases h1 : j < L.length * 2
  · rw [List.getElem?_append_left (by rw [cellsP_len]; exact h1), cellsP_two _ _ _ _ h1, cellsP_two _ _ _ _ (by omega)]
    have h2 : j / 2 < L.length := by omega
    have e : (L ++ M).getD (j / 2) (0, []) = L.getD (j / 2) (0, []) := by simp [List.getD, List.getElem?_append_left h2]
    rw [e, if_pos h2]
  · rw [List.getElem?_append_right (by rw [cellsP_len]; omega), cellsP_len]
    by_cases h3 : j < (L.length + M.length) * 2
    · rw [cellsP_two _ _ _ _ h3, cellsP_two _ _ _ _ (by omega)]
      have h2 : ¬ j / 2 < L.length := by omega
      have e1 : (j - L.length * 2) / 2 = j / 2 - L.length := by omega
      have e2 : (j - L.length * 2) % 2 = j % 2 := by omega
      have e : (L ++ M).getD (j / 2) (0, []) = M.getD (j / 2 - L.length) (0, []) := by simp [List.getD, List.getElem?_append_right (show L.length ≤ j / 2 by omega)]
      rw [e, if_neg h2, e1, e2]
    · rw [List.getElem?_eq_none (by rw [cellsP_len]; omega), List.getElem?_eq_none (by rw [cellsP_len]; omega)]
theorem cellsP_one {S : Nat → Prop} {w : World} {M : List (Int × List Int)} {V : Nat → Value} (h : ∀ i, i < M.length → RdI S w (V i) (M.getD i (0, [])).2) : ∀ u ∈ cellsP M M.length V, u.oneCell' = true := by
  intro u hu
  obtain ⟨j, hj⟩ := List.mem_iff_getElem?.1 hu
  have hlt : j < M.length * 2 := by
    have := (List.getElem?_eq_some_iff.1 hj).1
    rwa [cellsP_len] at this
  rw [cellsP_two _ _ _ _ hlt] at hj
  injection hj with hj
  subst hj
  by_cases e : j % 2 = 0
  · rw [if_pos e]; rfl
  · rw [if_neg e]
    obtain ⟨a, c, e'⟩ := (h (j / 2) (by omega)).shape
    rw [e']; rfl
theorem cellsP_at {w : World} {M : List (Int × List Int)} {V : Nat → Value} {b off : Nat} (h : ∀ i, i < M.length → w.cell? ⟨b, off + i * 2, none⟩ = some (.int .i64 (M.getD i (0, [])).1) ∧ w.cell? ⟨b, off + i * 2 + 1, none⟩ = some (V i)) :
    ∀ j u, (cellsP M M.length V)[j]? = some u → w.cell? ((⟨b, off, none⟩ : Addr).add j) = some u := by
  intro j u hj
  have hlt : j < M.length * 2 := by
    have := (List.getElem?_eq_some_iff.1 hj).1
    rwa [cellsP_len] at this
  rw [cellsP_two _ _ _ _ hlt] at hj
  injection hj with hj
  subst hj
  have := h (j / 2) (by omega)
  by_cases e : j % 2 = 0
  · rw [if_pos e]
    have e2 : off + j / 2 * 2 = off + j := by omega
    rw [← this.1, e2]; unfold Addr.add; split <;> simp_all
  · rw [if_neg e]
    have e2 : off + j / 2 * 2 + 1 = off + j := by omega
    rw [← this.2, e2]; unfold Addr.add; split <;> simp_all
theorem RowP.join {B : Nat} {w w3 : World} {v v3 : Value} {L M : List (Int × List Int)} {V V' : Nat → Value} {k : Nat} (hk : M.length = k) (h1 : w.ownsRow B 74 2 v L.length (cellsP L L.length V)) (h2 : ∀ i, i < L.length → RdI (fun b => b < B) w (V i) (L.getD i (0, [])).2) (hB : B ≤ w.heap.size)
    (hz : ∀ i, i < M.length → RdI (fun b => b < B) w (V' i) (M.getD i (0, [])).2) (hown : w3.ownsRow B 74 2 v3 (L.length + k) (cellsP L L.length V ++ cellsP M M.length V')) (hg : w.grownBy w3 v.ownBlock) :
    RowP B w3 v3 (L ++ M) ∧ Below B w w3 := by
  subst hk
  have hb : Below B w w3 := ((Below.refl B w)).grown hg hB (fun r hr => (h1.lt r hr).1)
  refine ⟨⟨fun i => if i < L.length then V i else V' (i - L.length), ?_, fun i hi => ?_⟩, hb⟩
  · rw [List.length_append, cellsP_append]
    exact hown
  · rw [List.length_append] at hi
    by_cases h : i < L.length
    · have e : (L ++ M).getD i (0, []) = L.getD i (0, []) := by simp [List.getD, List.getElem?_append_left h]
      rw [e]
      simp only [if_pos h]
      exact (h2 i h).under hb
    · have e : (L ++ M).getD i (0, []) = M.getD (i - L.length) (0, []) := by simp [List.getD, List.getElem?_append_right (show L.length ≤ i by omega)]
      rw [e]
      simp only [if_neg h]
      exact (hz _ (by omega)).under hb
theorem run_append_zeroR {w : World} (base : Nat) (t ty e : TypeId) (i : TypeInfo) (size : Nat) (ht : Tryz.prog.underlying t = some (.slice e)) (hi : Tryz.prog.info? e = some i)
    (v : Value) (n : Nat) (xs : List Value) (hown : w.ownsRow base e size v n xs) (ao : Option Addr) (c : Nat) :
    (Builtin.append_ #[t, t] ty #[v, .slice ao 0 c]).run Tryz.prog w = .ok v w := by
  rcases hown.2 with ⟨rfl, rfl⟩ | ⟨g, cap, cur, rfl, _, _, hnc, _⟩
  · exact run_append_zero w t ty e i ht hi none 0 0 (Nat.le_refl _) ao c
  · exact run_append_zero w t ty e i ht hi _ n cap hnc ao c
theorem wpList_append_zeroR {w : World} {ops : Array Oper} {rest : List Oper} {o : Oper} {a : Act} {Q : Exit → Act → World → Prop} (hgd : o.guard = none) (s x : Operand) (t : TypeId)
    (ho : o.op = .call { callee := .builtin .append, args := #[s, x], argTypes := #[t, t] })
    (base : Nat) (e : TypeId) (i : TypeInfo) (size : Nat) (ht : Tryz.prog.underlying t = some (.slice e)) (hi : Tryz.prog.info? e = some i)
    (v : Value) (n : Nat) (xs : List Value) (hs : a.eval s = v) (hown : w.ownsRow base e size v n xs) (ao : Option Addr) (c : Nat) (hx : a.eval x = .slice ao 0 c)
    (h : wpList Tryz.prog ops Q rest (a.put o.dst v) w) : wpList Tryz.prog ops Q (o :: rest) a w := by
  refine wpList_plain hgd fun K hK => ?_
  have hrun := run_append_zeroR (w := w) base t o.type e i size ht hi v n xs hown ao c
  unfold Oper.wp
  simp [execOp, ho, resolve, invoke, builtin, hs, hx, hrun, Result.andThen]
  exact hK _ _ h
end Go.Proofs.YtlmaopljihbdkaaGreat
namespace Go.Proofs.YtlmaopljihbdkaaGreat
open Go.RowKit Go.Maps
def lastI (ps : List (Int × List Int)) : Nat → Int → Int
  | 0, _ => 0
  | k + 1, x => if x = (ps.getD k (0, [])).1 then (k : Int) else lastI ps k x
def absP (ps : List (Int × List Int)) (n : Nat) : Nat → List (Int × List Int)
  | 0 => []
  | k + 1 => absP ps n k ++ if lastI ps n (ps.getD k (0, [])).1 = (k : Int) then [ps.getD k (0, [])] else []
end Go.Proofs.YtlmaopljihbdkaaGreat
namespace Go.Proofs.YtlmaopljihbdkaaGreat
open Go.RowKit Go.Maps
end Go.Proofs.YtlmaopljihbdkaaGreat
