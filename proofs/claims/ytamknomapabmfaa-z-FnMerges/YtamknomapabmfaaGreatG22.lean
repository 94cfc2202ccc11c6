/- Log2 in one text: what each says stands at its head below. -/
import Derived.Test.YtamknomapabmfaaGreatG20
/- Chapter 3: the log, the model's side: 'l3Log', 'LogOf', walked. -/
namespace Go.Proofs.YtamknomapabmfaaGreat
open Go.RowKit

set_option maxHeartbeats 4000000 in
set_option maxRecDepth 4000 in
/-- 'spec.l3Log' of a disk and a header of it. -/
theorem l3Log {S T S3 : Nat → Prop} {w : World} {bd bh o : Nat} {u v y : Value} {xss : List (List Int)} {ps : List (Int × List Int)} {s t : Int} {A : List Int} (hd0 : w.cell? ⟨bd, 0, none⟩ = some u) (hd1 : w.cell? ⟨bd, 1, none⟩ = some v) (hu : RdII S w u xss) (hv : RdP T w v ps) (hs : Small xss ps) (h66 : xss.length = 66)
    (hh : HdAt w bh o s t y) (hA : RdI S3 w y A) (ht : 0 ≤ t) (ht' : t ≤ 23) (hl24 : A.length ≤ 24) :
    Calls Tryz.prog 63 #[.pointer (some ⟨bd, 0, none⟩), .pointer (some ⟨bh, o, none⟩)] w fun e w' => ∃ z, e = .returned z ∧ Below w.heap.size w w' ∧ BuiltP (w.heap.size ≤ ·) w' z A.length (logPs xss ps t A) := by
  obtain ⟨ao, c, rfl, _⟩ := hu.shape
  obtain ⟨ao', c', rfl, hm63⟩ := hv.shape
  obtain ⟨ay, cy, rfl⟩ := hA.shape
  obtain ⟨i0, hi, hz0, hz1, hz2⟩ := info_parts Tryz.infoPut
  have HSl := hide (fun (w' : World) (i : Int) (hb : Below w.heap.size w w') (hi : 0 ≤ i) (hi' : i ≤ 1048576) => l3Slot i w' (hh.later hb) ht ht' hi hi')
  have HAt := hide (fun (w' : World) (at_ : Int) (hb : Below w.heap.size w w') (ha1 : 0 ≤ at_) (ha2 : at_ < (xss.length : Int)) => l1At_cells xss ps xss.length ps.length bd ao ao' c c' w' at_ rfl rfl hm63 (cell_later hb hd0) (cell_later hb hd1) (hu.later hb) (hv.later hb) ha1 ha2)
  have HWl := hide (fun (i : Int) => slotW_len hs h66 t i)
  rw [h66] at HAt
  have HPsA := hide (logPs_at xss ps t A)
  have HR := hide hA
  generalize logPs xss ps t A = lps at HPsA ⊢
  obtain ⟨l, hl⟩ : ∃ l, A.length = l := ⟨_, rfl⟩
  have HL := hide hl
  have c2 := hh.addrs
  rw [hl] at hl24 HPsA HR c2 ⊢
  clear hu hv hs hA hh hl hd0 hd1
  go_enter Tryz.func63, Tryz.ntmps63
  go_wp2
  go_loopw [5, 6] (fun v i wr => ∃ k : Nat, k ≤ l ∧ i = .int .i64 k ∧ Hid (BuiltP (w.heap.size ≤ ·) wr v k lps) ∧ Hid (Below w.heap.size w wr)) (fun _ i _ => l - (intOf i).toNat)
  case atStart => exact ⟨0, Nat.zero_le _, rfl, BuiltP.empty _ _ (Nat.le_refl _) _, below_alloc _ _⟩
  case round =>
    obtain ⟨k, hk, rfl, HBu, HB⟩ := hrel
    have g2 := cell_later HB.out c2
    by_cases hlt : k < l
    · obtain ⟨b, off, rfl, hx⟩ := (HR.out).at (k := k) (by rw [HL.out]; exact hlt)
      have hbl : b < w.heap.size := World.block_lt_of_cell? _ _ hx
      have hhl : bh < w.heap.size := World.block_lt_of_cell? _ _ c2
      have hx' := cell_later HB.out hx
      obtain ⟨x, hxe⟩ : ∃ x, A.getD k 0 = x := ⟨_, rfl⟩
      rw [hxe] at hx'
      have HX := hide (HPsA.out k hlt)
      rw [hxe] at HX
      have HLw := hide (HWl.out (k : Int))
      unfold slotW at HX HLw
      obtain ⟨q, hq⟩ : ∃ q, (t + (k : Int)) % 24 = q := ⟨_, rfl⟩
      have hq1 : 0 ≤ q := by omega
      have hq2 : q ≤ 23 := by omega
      have HWr := hide (show IntKind.i64.wrap (2 + q) = 2 + q by simp [IntKind.wrap, IntKind.bits, IntKind.signed]; omega)
      have HSlk := hide (fun (w' : World) (hb : Below w.heap.size w w') => HSl.out w' (k : Int) hb (by omega) (by omega))
      have HAtk := hide (fun (w' : World) (hb : Below w.heap.size w w') => HAt.out w' (2 + q) hb (by omega) (by omega))
      rw [hq] at HX HLw HSlk
      generalize blkTo xss ps (2 + q) ps.length = ws at HX HLw HAtk
      clear hx hxe hq
      obtain ⟨V2, Bk2, hown, hpr, hin⟩ := HBu.out
      have HOw0 := hide hown
      have HPr := hide hpr
      have HIn := hide hin
      have hz := HB.out.size
      have hk0 : (0 : Int) ≤ (k : Int) := Int.natCast_nonneg _
      have hk1 : (k : Int) < (l : Int) := by omega
      clear hin hown hpr
      go_wp2_with fail
      go_region_held3 (fun w' => w'.cell? ⟨bh, o + 2, none⟩ = some (.slice (some ⟨b, off, none⟩) l cy) ∧ w'.cell? ⟨b, off + k, none⟩ = some (.int .i64 x)) (first | exact ⟨g2, hx'⟩ | exact ⟨e0, e1⟩ | exact ⟨cell_later (below_alloc _ _) e0, cell_later (below_alloc _ _) e1⟩ | exact ⟨(far _ _ hhl).trans e0, (far _ _ hbl).trans e1⟩)
        (first
          | (go_at_call 30; refine (l1Ints HRr.out HLw.out).mono ?_; rintro e w2 ⟨z, rfl, hb2, ho2⟩; obtain ⟨ao4, c4, rfl⟩ := ho2.shape; have e0 := cell_later hb2 g2; have e1 := cell_later hb2 hx'; have HB1 := hide (below_on (below_drewN wr _) hb2); have HO1 := hide ho2; have hzz : wr.heap.size ≤ w2.heap.size := hb2.size; clear hb2 ho2)
          | (go_at_call 64; rw [HWr.out]; refine (HAtk.out _ (below_on HB.out (below_drewN wr _))).mono ?_; rintro e wq ⟨zq, rfl, ⟨nq, rfl⟩, hrq⟩; obtain ⟨aq, kq, rfl⟩ := hrq.shape; (try rw [World.drewN_drewN] at hrq); have HRr := hide hrq; clear hrq)
          | (go_at_call 82; refine (HSlk.out _ (below_on HB.out (below_drewN wr _))).mono ?_; rintro e wq ⟨rfl, rfl⟩)
          | (refine step_append_lies _ (by rfl) _ _ _ (by rfl) 0 38 i0 (.agg #[.int .i64 0, .slice none 0 0]) 2 32 Tryz.underlying30 hi hz0 hz1 hz2 rfl (by omega) _ k _ (by rfl) (ownsRow_later (ownsRow_later HOw0.out HB1.out) (below_alloc w2 (.cells #[.int .i64 x, .slice ao4 ws.length c4] 38))) ⟨w2.heap.size, 0, none⟩ 1 1 [.int .i64 x, .slice ao4 ws.length c4] (by rfl) (by rfl) (World.news_of_block (cs := #[.int .i64 x, .slice ao4 ws.length c4]) (t := 38) (fr := (0, 0)) (heap_alloc_new w2 _)) cells2_one (by omega) (by unfold maxLen; omega) (by omega) (Nat.zero_le _) (w2.heap.size + 1) (by simp) ?_; intro g cap w3 hown3 hgrow hat hlt3; have far : ∀ b o, b < w.heap.size → w3.cell? ⟨b, o, none⟩ = w2.cell? ⟨b, o, none⟩ := fun b o hb => (hgrow.cell_far ⟨b, o, none⟩ (by simp; omega) (fun e => by have := HPr.out _ e.symm; dsimp only at this; omega)).trans ((bcell (below_alloc w2 _)).1 _ _ (by omega))))
      have HS := hide (BuiltP.step (P' := (w.heap.size ≤ ·)) (ps := lps) HIn.out HOw0.out HPr.out (fun _ h => h) (fun b hb => Nat.le_trans hz hb) HB1.out (by rw [HX.out]; exact HO1.out) (below_alloc w2 (.cells #[.int .i64 x, .slice ao4 ws.length c4] 38)) (by rw [HX.out]; exact hown3) hgrow (by simpa using hat))
      have HB3 := hide ((below_on (below_on HB.out HB1.out) (below_alloc w2 (.cells #[.int .i64 x, .slice ao4 ws.length c4] 38))).grown hgrow (by simp; omega) (fun r hr => HPr.out r hr))
      clear hown3 hgrow hat far e0 e1 hzz
      go_wp2
      go_roundw
      case rel => exact ⟨k + 1, hlt, by go_num, HS.out, HB3.out⟩
      case measure => simp [intOf]; omega
    · have hkn : k = l := by omega
      subst hkn
      go_wp2
      go_ret
      exact ⟨_, rfl, HB.out, HBu.out⟩

set_option maxHeartbeats 1000000 in
set_option maxRecDepth 4000 in
theorem specLogOf {S T : Nat → Prop} {w : World} {u v : Value} {xss : List (List Int)} {ps : List (Int × List Int)} (hu : RdII S w u xss) (hv : RdP T w v ps) (hs : Small xss ps) :
    Calls Tryz.prog 46 #[.agg #[u, v]] w (EndsP (lgF xss ps) (lgP xss ps) w) := by
  unfold EndsP lgF lgP
  obtain ⟨ao, c, rfl, _⟩ := hu.shape
  obtain ⟨ao', c', rfl, _⟩ := hv.shape
  have HIn := hide (fun (w' : World) (hb : Below w.heap.size w w') => specHeaderIn (hu.later hb) (hv.later hb) hs)
  have HU := hide hu
  have HV := hide hv
  have HS := hide hs
  obtain ⟨n, hn⟩ : ∃ n, xss.length = n := ⟨_, rfl⟩
  obtain ⟨m, hm⟩ : ∃ m, ps.length = m := ⟨_, rfl⟩
  have A0 := hide (below_on (below_alloc w (.cells #[.slice ao n c, .slice ao' m c'] 54)) (below_alloc _ (.cells #[.int .i64 0, .slice none 0 0] 35)))
  rw [hn] at HU
  rw [hm] at HV
  by_cases h0 : inF xss ps = 0
  · obtain ⟨_, h66, hhd⟩ := in_ok h0
    obtain ⟨⟨_, _, ht1, ht2⟩, hA24, _⟩ := headF_zero hhd
    rw [if_pos h0, h0]
    have HIn2 := hide (fun w' hb => HIn.out w' hb)
    rw [h0] at HIn2
    clear HIn
    have HLg := hide (fun (S3 : Nat → Prop) (w' : World) (bd bh : Nat) (s : Int) (y : Value) (hd0 : w'.cell? ⟨bd, 0, none⟩ = some (.slice ao n c)) (hd1 : w'.cell? ⟨bd, 1, none⟩ = some (.slice ao' m c')) (hb : Below w.heap.size w w') (hh : HdAt w' bh 1 s (inT xss ps) y) (hA : RdI S3 w' y (inA xss ps)) => l3Log hd0 hd1 (HU.out.later hb) (HV.out.later hb) HS.out h66 hh hA ht1 ht2 hA24)
    have HPsL := hide (logPs_len xss ps (inT xss ps) (inA xss ps))
    generalize logPs xss ps (inT xss ps) (inA xss ps) = lps at HLg HPsL ⊢
    generalize inS xss ps = s at HIn2
    generalize inT xss ps = t at HIn2 HLg
    generalize inA xss ps = A at HIn2 HLg hA24 HPsL
    obtain ⟨l, hl⟩ : ∃ l, A.length = l := ⟨_, rfl⟩
    have HL := hide hl
    rw [hl] at HPsL HLg hA24
    rw [hn, hm] at HIn2
    rw [hn, hm]
    clear hu hv hs hn hm h0 h66 hhd hl
    go_enter Tryz.func46, Tryz.ntmps46
    go_wp2_with fail
    refine (HIn2.out _ A0.out).mono ?_
    rintro e w1 ⟨z1, rfl, hb1, ho1⟩
    obtain ⟨a1, k1, hz1'⟩ := ho1.shape
    rw [HL.out] at hz1'
    subst hz1'
    have BA := below_alloc w1 (.cells #[.int .i64 0, .int .i64 s, .int .i64 t, .slice a1 l k1] 104)
    have d0 : w1.cell? ⟨w.heap.size, 0, none⟩ = some (.slice ao n c) := cell_later hb1 (by simp [go_sem])
    have d1 : w1.cell? ⟨w.heap.size, 1, none⟩ = some (.slice ao' m c') := cell_later hb1 (by simp [go_sem])
    have q0 : w1.cell? ⟨w.heap.size + 1, 0, none⟩ = some (.int .i64 0) := cell_later hb1 (by simp [go_sem])
    have q1 : w1.cell? ⟨w.heap.size + 1, 1, none⟩ = some (.slice none 0 0) := cell_later hb1 (by simp [go_sem])
    have qf : ∀ o, w1.frozen? ⟨w.heap.size + 1, o, none⟩ = false := fun o => ((bcell hb1).2 _ _ (by simp)).trans (by simp [go_sem])
    have hsz : w.heap.size + 1 < w1.heap.size := World.block_lt_of_cell? _ _ q0
    have HR := hide (ho1.rd.later BA)
    have HBW := hide (below_on A0.out hb1)
    have HD0 := hide (cell_later BA d0)
    have HD1 := hide (cell_later BA d1)
    have hdn : w1.heap.size ≠ w.heap.size := by omega
    clear hb1 ho1 BA
    go_wp2_with fail
    refine (HLg.out _ _ _ _ s _ HD0.out HD1.out (below_on HBW.out (below_alloc _ _)) ⟨by simp [go_sem], by simp [go_sem], by simp [go_sem]⟩ HR.out).mono ?_
    rintro e w2 ⟨z2, rfl, hb2, ho2⟩
    obtain ⟨a2, k2, rfl⟩ := ho2.shape
    have hb2' := below_on (below_alloc w1 (.cells #[.int .i64 0, .int .i64 s, .int .i64 t, .slice a1 l k1] 104)) hb2
    have x0 := cell_later hb2' q0
    have x1 := cell_later hb2' q1
    have y0 := ((bcell hb2').2 _ _ hsz).trans (qf 0)
    have y1 := ((bcell hb2').2 _ _ hsz).trans (qf 1)
    have hs2 := hb2'.size
    have hfin := ret_puts (x := .int .i64 0) (below_on HBW.out hb2') (r := w.heap.size + 1) (by omega) (ho2.ow HPsL.out (by omega)) (fun b hb => ⟨by have := hb.1; simp at this; omega, hb.2⟩)
    have HFin := hide hfin
    clear hfin hb2 hb2' ho2 q0 q1 qf d0 d1
    go_wp2
    exact bodyPost_ret (v := .agg #[.int .i64 0, .slice a2 l k2]) (by simp [results, Tryz.results46, go_sem, x0, x1]) rfl ⟨_, rfl, HFin.out.1, HFin.out.2⟩
  · rw [if_neg h0]
    rw [hn, hm] at HIn
    rw [hn, hm]
    clear hu hv hs hn hm
    generalize inF xss ps = z at HIn h0 ⊢
    go_enter Tryz.func46, Tryz.ntmps46
    go_wp2_with fail
    refine (HIn.out _ A0.out).mono ?_
    rintro e w1 ⟨z1, rfl, hb1, ho1⟩
    obtain ⟨a1, k1, rfl⟩ := ho1.shape
    have q0 : w1.cell? ⟨w.heap.size + 1, 0, none⟩ = some (.int .i64 0) := cell_later hb1 (by simp [go_sem])
    have q1 : w1.cell? ⟨w.heap.size + 1, 1, none⟩ = some (.slice none 0 0) := cell_later hb1 (by simp [go_sem])
    have f0 : w1.frozen? ⟨w.heap.size + 1, 0, none⟩ = false := ((bcell hb1).2 _ _ (by simp)).trans (by simp [go_sem])
    have f1 : w1.frozen? ⟨w.heap.size + 1, 1, none⟩ = false := ((bcell hb1).2 _ _ (by simp)).trans (by simp [go_sem])
    have hlt : w.heap.size + 1 < w1.heap.size := World.block_lt_of_cell? _ _ q0
    have HB := hide (below_on A0.out hb1)
    generalize (inA xss ps).length = l
    generalize inS xss ps = s
    generalize inT xss ps = t
    clear hb1 ho1
    go_wp2
    have BA := below_alloc ((w1.setCell ⟨w.heap.size + 1, 0, none⟩ (.int .i64 z)).setCell ⟨w.heap.size + 1, 1, none⟩ (.slice none 0 0)) (.cells #[.int .i64 z, .int .i64 s, .int .i64 t, .slice a1 l k1] 104)
    have m0 := cell_later BA (a := ⟨w.heap.size + 1, 0, none⟩) (v := .int .i64 z) (by simp [go_sem, q0])
    have m1 := cell_later BA (a := ⟨w.heap.size + 1, 1, none⟩) (v := .slice none 0 0) (by simp [go_sem, q1])
    exact bodyPost_ret (v := .agg #[.int .i64 z, .slice none 0 0]) (by simp [results, Tryz.results46, go_sem, m0, m1]) rfl ⟨_, rfl, ((HB.out.setCell (by simp) _).setCell (by simp) _).trans (BA.mono (by simp; omega)), OwP_nil _ _⟩

theorem totP_most {ps : List (Int × List Int)} {B : Nat} (h : ∀ i, i < ps.length → (ps.getD i (0, [])).2.length ≤ B) : ∀ i, i ≤ ps.length → totP ps i ≤ i * (B + 1) := by
  intro i
  induction i with
  | zero => intro _; rw [totP_zero]; omega
  | succ i ih =>
    intro hi
    rw [totP_succ ps i (by omega), Nat.succ_mul]
    have := ih (by omega)
    have := h i (by omega)
    omega
theorem lg_bound {xss : List (List Int)} {ps : List (Int × List Int)} (hs : Small xss ps) : totP (lgP xss ps) (lgP xss ps).length ≤ 1073741824 := by
  unfold lgP
  split
  · rename_i h
    obtain ⟨_, h66, hhd⟩ := in_ok h
    obtain ⟨_, hA24, _⟩ := headF_zero hhd
    have hl := logPs_len xss ps (inT xss ps) (inA xss ps)
    have := totP_most (ps := logPs xss ps (inT xss ps) (inA xss ps)) (B := 1048576) (fun i hi => by rw [logPs_at _ _ _ _ _ (by rw [← hl]; exact hi)]; exact slotW_len hs h66 _ _) _ (Nat.le_refl _)
    rw [hl] at this ⊢
    have h2 : (inA xss ps).length * (1048576 + 1) ≤ 24 * (1048576 + 1) := Nat.mul_le_mul_right _ hA24
    omega
  · simp [totP]
end Go.Proofs.YtamknomapabmfaaGreat
