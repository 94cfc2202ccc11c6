/- Log Seen3 Log2 in one text: what each says stands at its head below. -/
import Derived.Test.YtlmaopljihbdkaaGreatG21
import Derived.Test.YtlmaopljihbdkaaGreatG26
import Derived.Test.YtlmaopljihbdkaaGreatG15
import Derived.Test.YtlmaopljihbdkaaGreatG05
namespace Go.Proofs.YtlmaopljihbdkaaGreat
open Go.RowKit
theorem nw_ok {ca sa ta cb sb tb : Int} {xa xb : List Int} {k : Nat} (hk : nwP ca sa ta xa cb sb tb xb = k) (h : nwF k = 0) : headF (nwI k sa sb) (nwI k ta tb) (nwA k xa xb) = 0 := by
  unfold nwP at hk
  split at hk
  · rename_i h1
    subst hk
    have := h1.1
    unfold rightB at this
    simp at this
    simpa [nwI, nwA] using this.2
  · split at hk
    · rename_i h1
      subst hk
      unfold rightB at h1
      simp at h1
      simpa [nwI, nwA] using h1.2
    · subst hk
      exact absurd h (by decide)
theorem in_ok {xss : List (List Int)} {ps : List (Int × List Int)} (h : inF xss ps = 0) : diskF xss ps = 0 ∧ xss.length = 66 ∧ headF (inS xss ps) (inT xss ps) (inA xss ps) = 0 := by
  unfold inF at h
  split at h
  · rename_i h1
    split at h
    · rename_i h2
      refine ⟨h1, h2, ?_⟩
      unfold inS inT inA
      rw [if_pos ⟨h1, h2⟩, if_pos ⟨h1, h2⟩, if_pos ⟨h1, h2⟩]
      exact nw_ok rfl h
    · exact absurd h (by decide)
  · rename_i h1
    exact absurd h h1
def slotW (xss : List (List Int)) (ps : List (Int × List Int)) (t i : Int) : List Int := blkToD xss ps (2 + (t + i) % 24) ps.length
theorem slotW_len {xss : List (List Int)} {ps : List (Int × List Int)} (hs : Small xss ps) (hl : xss.length = 66) (t i : Int) : (slotW xss ps t i).length ≤ 1048576 :=
  blkToD_len hs ps.length (Nat.le_refl _) (by omega) (by rw [hl]; omega)
set_option maxHeartbeats 1000000 in
set_option maxRecDepth 4000 in
theorem slotWords {S T : Nat → Prop} {w : World} {u v : Value} {xss : List (List Int)} {ps : List (Int × List Int)} (s t i : Int) (ay : Option Addr) (l cy : Nat) (hu : RdII S w u xss) (hv : RdP T w v ps) (hs : Small xss ps) (h66 : xss.length = 66) (ht : 0 ≤ t) (ht' : t ≤ 23) (hi : 0 ≤ i) (hi' : i ≤ 1048576) :
    Calls Tryz.prog 150 #[.agg #[u, v], .agg #[.int .i64 s, .int .i64 t, .slice ay l cy], .int .i64 i] w fun e w' => ∃ z, e = .returned z ∧ Below w.heap.size w w' ∧ OwI w.heap.size w' z (slotW xss ps t i) := by
  obtain ⟨ao, c, rfl, _⟩ := hu.shape
  obtain ⟨ao', c', rfl, _⟩ := hv.shape
  obtain ⟨m, hm⟩ : ∃ m, ps.length = m := ⟨_, rfl⟩
  have HSl := hide (fun (w : World) => slotFrom s t i (.slice ay l cy) w ht ht' hi hi')
  unfold slotW
  obtain ⟨q, hq⟩ : ∃ q, (t + i) % 24 = q := ⟨_, rfl⟩
  have hq1 : 0 ≤ q := by omega
  have hq2 : q ≤ 23 := by omega
  have HWr := hide (show IntKind.i64.wrap (2 + q) = 2 + q by simp [IntKind.wrap, IntKind.bits, IntKind.signed]; omega)
  have HWd : Hid (∀ (w' : World), Below w.heap.size w w' → Calls Tryz.prog 151 #[.agg #[.slice ao xss.length c, .slice ao' ps.length c'], .int .i64 (2 + q)] w' fun e w'' => ∃ z, e = .returned z ∧ Below w'.heap.size w' w'' ∧ OwI w'.heap.size w'' z (blkToD xss ps (2 + q) ps.length)) :=
    fun w' hb => wordsAt (2 + q) (hu.later hb) (hv.later hb) hs (by omega) (by rw [h66]; omega)
  rw [hq] at HSl ⊢
  rw [h66, hm] at HWd
  rw [h66, hm]
  generalize blkToD xss ps (2 + q) m = ws at HWd ⊢
  clear hu hv hs hq hm h66 ht ht' hi hi'
  obtain ⟨W, hW⟩ : ∃ W, (w.alloc (.cells #[.slice ao 66 c, .slice ao' m c'] 59)).alloc (.cells #[.int .i64 s, .int .i64 t, .slice ay l cy] 178) = W := ⟨_, rfl⟩
  have BW : Hid (Below w.heap.size w W) := by rw [← hW]; exact below_on (below_alloc _ _) (below_alloc _ _)
  have c0 : W.cell? ⟨w.heap.size, 0, none⟩ = some (.slice ao 66 c) := by rw [← hW]; simp [go_sem]
  have c1 : W.cell? ⟨w.heap.size, 1, none⟩ = some (.slice ao' m c') := by rw [← hW]; simp [go_sem]
  have v0 : W.cell? ⟨w.heap.size + 1, 0, none⟩ = some (.int .i64 s) := by rw [← hW]; simp [go_sem]
  have v1 : W.cell? ⟨w.heap.size + 1, 1, none⟩ = some (.int .i64 t) := by rw [← hW]; simp [go_sem]
  have v2 : W.cell? ⟨w.heap.size + 1, 2, none⟩ = some (.slice ay l cy) := by rw [← hW]; simp [go_sem]
  go_enter Tryz.func150, Tryz.ntmps150
  go_wp2_with fail
  go_region_held3 (fun w' => w'.cell? ⟨w.heap.size, 0, none⟩ = some (.slice ao 66 c) ∧ w'.cell? ⟨w.heap.size, 1, none⟩ = some (.slice ao' m c') ∧ w'.cell? ⟨w.heap.size + 1, 0, none⟩ = some (.int .i64 s) ∧ w'.cell? ⟨w.heap.size + 1, 1, none⟩ = some (.int .i64 t) ∧ w'.cell? ⟨w.heap.size + 1, 2, none⟩ = some (.slice ay l cy)) (first | exact ⟨c0, c1, v0, v1, v2⟩ | exact ⟨e0, e1, e2, e3, e4⟩ | exact ⟨i0, i1, i2, i3, i4⟩)
    (first
      | (go_at_call 151; rw [HWr.out]; refine (HWd.out _ (below_on BW.out HB1.out)).mono ?_; rintro e w2 ⟨z, rfl, hb2, ho2⟩; obtain ⟨a2, k2, rfl⟩ := ho2.shape; have i0 := cell_later hb2 e0; have i1 := cell_later hb2 e1; have i2 := cell_later hb2 e2; have i3 := cell_later hb2 e3; have i4 := cell_later hb2 e4; have HB2 := hide hb2; have HO2 := hide ho2; clear hb2 ho2)
      | (go_at_call 186; refine (HSl.out _).mono ?_; rintro e w1 ⟨rfl, hb1⟩; have e0 := cell_later hb1 c0; have e1 := cell_later hb1 c1; have e2 := cell_later hb1 v0; have e3 := cell_later hb1 v1; have e4 := cell_later hb1 v2; have HB1 := hide (below_on (below_drewN W 1) hb1); clear hb1))
  go_wp2
  go_ret
  have hz0 := BW.out.size
  have hz1 := HB1.out.size
  exact ⟨_, rfl, below_on BW.out (below_on HB1.out HB2.out), HO2.out.mono (by omega)⟩
def logPs (xss : List (List Int)) (ps : List (Int × List Int)) (t : Int) (A : List Int) : List (Int × List Int) := (List.range A.length).map fun (i : Nat) => (A.getD i 0, slotW xss ps t (i : Int))
theorem logPs_len (xss : List (List Int)) (ps : List (Int × List Int)) (t : Int) (A : List Int) : (logPs xss ps t A).length = A.length := by simp [logPs]
theorem logPs_at (xss : List (List Int)) (ps : List (Int × List Int)) (t : Int) (A : List Int) (i : Nat) (h : i < A.length) : (logPs xss ps t A).getD i (0, []) = (A.getD i 0, slotW xss ps t (i : Int)) := by simp [logPs, List.getD, h]
def lgF (xss : List (List Int)) (ps : List (Int × List Int)) : Int := inF xss ps
def lgP (xss : List (List Int)) (ps : List (Int × List Int)) : List (Int × List Int) := if inF xss ps = 0 then logPs xss ps (inT xss ps) (inA xss ps) else []
theorem ret_puts {w w3 : World} {P : Nat → Prop} {r : Nat} {z x : Value} {ps : List (Int × List Int)} (hb : Below w.heap.size w w3) (hr : w.heap.size ≤ r) (ho : OwP P w3 z ps) (hP : ∀ b, P b → r < b ∧ b < w3.heap.size) :
    Below w.heap.size w ((w3.setCell ⟨r, 0, none⟩ x).setCell ⟨r, 1, none⟩ z) ∧ OwP (fun b => w.heap.size ≤ b ∧ b < ((w3.setCell ⟨r, 0, none⟩ x).setCell ⟨r, 1, none⟩ z).heap.size) ((w3.setCell ⟨r, 0, none⟩ x).setCell ⟨r, 1, none⟩ z) z ps := by
  have hw : Wr (fun y => y = r) w3 ((w3.setCell ⟨r, 0, none⟩ x).setCell ⟨r, 1, none⟩ z) := ((Wr.refl (fun y => y = r) _).setCell (p := ⟨r, 0, none⟩) rfl _).setCell (p := ⟨r, 1, none⟩) rfl _
  exact ⟨(hb.setCell (p := ⟨r, 0, none⟩) hr _).setCell (p := ⟨r, 1, none⟩) hr _, (ho.wr hw (fun b h1 e => by have := (hP b h1).1; omega)).mono fun b h1 => by have := hP b h1; simp; omega⟩
set_option maxHeartbeats 4000000 in
set_option maxRecDepth 4000 in
theorem implLogOf {S T : Nat → Prop} {w : World} {u v : Value} {xss : List (List Int)} {ps : List (Int × List Int)} (hu : RdII S w u xss) (hv : RdP T w v ps) (hs : Small xss ps) :
    Calls Tryz.prog 109 #[.agg #[u, v]] w (EndsP (lgF xss ps) (lgP xss ps) w) := by
  unfold EndsP lgF lgP
  obtain ⟨ao, c, rfl, _⟩ := hu.shape
  obtain ⟨ao', c', rfl, _⟩ := hv.shape
  obtain ⟨i0, hi, hz0, hz1, hz2⟩ := info_parts Tryz.infoPut
  have HIn := hide (fun (w' : World) (hb : Below w.heap.size w w') => implHeaderIn (hu.later hb) (hv.later hb) hs)
  obtain ⟨n, hn⟩ : ∃ n, xss.length = n := ⟨_, rfl⟩
  obtain ⟨m, hm⟩ : ∃ m, ps.length = m := ⟨_, rfl⟩
  have A0 := hide (below_on (below_alloc w (.cells #[.slice ao n c, .slice ao' m c'] 59)) (below_alloc _ (.cells #[.int .i64 0, .slice none 0 0] 29)))
  by_cases h0 : inF xss ps = 0
  · obtain ⟨_, h66, hhd⟩ := in_ok h0
    obtain ⟨⟨hs1, hs2, ht1, ht2⟩, hA24, _⟩ := headF_zero hhd
    have HSW := hide (fun (w' : World) (s i : Int) (ay : Option Addr) (l cy : Nat) (hb : Below w.heap.size w w') (hi : 0 ≤ i) (hi' : i ≤ 1048576) => slotWords s (inT xss ps) i ay l cy (hu.later hb) (hv.later hb) hs h66 ht1 ht2 hi hi')
    rw [if_pos h0, h0]
    have HIn2 := hide (fun w' hb => HIn.out w' hb)
    rw [h0] at HIn2
    clear HIn
    have HPsL := hide (logPs_len xss ps (inT xss ps) (inA xss ps))
    have HPsA := hide (logPs_at xss ps (inT xss ps) (inA xss ps))
    generalize logPs xss ps (inT xss ps) (inA xss ps) = lps at HPsL HPsA ⊢
    generalize inS xss ps = s at HIn2 hs1 hs2
    generalize inT xss ps = t at HIn2 HSW HPsA ht1 ht2
    generalize inA xss ps = A at HIn2 HPsL HPsA hA24
    obtain ⟨l, hl⟩ : ∃ l, A.length = l := ⟨_, rfl⟩
    have HL := hide hl
    rw [hl] at hA24 HPsL HPsA
    rw [hn, hm] at HIn2 HSW
    rw [hn, hm]
    clear hu hv hs hn hm h0 h66 hhd hl
    go_enter Tryz.func109, Tryz.ntmps109
    go_wp2_with fail
    refine (HIn2.out _ A0.out).mono ?_
    rintro e w1 ⟨z1, rfl, hb1, ho1⟩
    obtain ⟨a1, k1, hz1'⟩ := ho1.shape
    rw [HL.out] at hz1'
    subst hz1'
    have hb1' := below_on hb1 (below_alloc w1 (.cells #[.int .i64 0, .int .i64 s, .int .i64 t, .slice a1 l k1] 180))
    have d0 : (w1.alloc (.cells #[.int .i64 0, .int .i64 s, .int .i64 t, .slice a1 l k1] 180)).cell? ⟨w.heap.size, 0, none⟩ = some (.slice ao n c) := cell_later hb1' (by simp [go_sem])
    have d1 : (w1.alloc (.cells #[.int .i64 0, .int .i64 s, .int .i64 t, .slice a1 l k1] 180)).cell? ⟨w.heap.size, 1, none⟩ = some (.slice ao' m c') := cell_later hb1' (by simp [go_sem])
    have q0 : (w1.alloc (.cells #[.int .i64 0, .int .i64 s, .int .i64 t, .slice a1 l k1] 180)).cell? ⟨w.heap.size + 1, 0, none⟩ = some (.int .i64 0) := cell_later hb1' (by simp [go_sem])
    have q1 : (w1.alloc (.cells #[.int .i64 0, .int .i64 s, .int .i64 t, .slice a1 l k1] 180)).cell? ⟨w.heap.size + 1, 1, none⟩ = some (.slice none 0 0) := cell_later hb1' (by simp [go_sem])
    have qf : ∀ o, (w1.alloc (.cells #[.int .i64 0, .int .i64 s, .int .i64 t, .slice a1 l k1] 180)).frozen? ⟨w.heap.size + 1, o, none⟩ = false := fun o => ((bcell hb1').2 _ _ (by simp)).trans (by simp [go_sem])
    have HR := hide (ho1.rd.later (below_alloc w1 (.cells #[.int .i64 0, .int .i64 s, .int .i64 t, .slice a1 l k1] 180)))
    have HBW := hide (below_on A0.out hb1')
    have hsz : w.heap.size + 1 < w1.heap.size + 1 := by have := hb1.size; simp at this; omega
    clear hb1 hb1' ho1
    go_upto_region 4 with fail
    refine forget (fun wx => Below w.heap.size w wx ∧ (wx.cell? ⟨w.heap.size, 0, none⟩ = some (.slice ao n c) ∧ wx.cell? ⟨w.heap.size, 1, none⟩ = some (.slice ao' m c')) ∧ (wx.cell? ⟨w.heap.size + 1, 0, none⟩ = some (.int .i64 0) ∧ wx.cell? ⟨w.heap.size + 1, 1, none⟩ = some (.slice none 0 0)) ∧ (∀ o, wx.frozen? ⟨w.heap.size + 1, o, none⟩ = false) ∧ (wx.cell? ⟨w1.heap.size, 1, none⟩ = some (.int .i64 s) ∧ wx.cell? ⟨w1.heap.size, 2, none⟩ = some (.int .i64 t) ∧ wx.cell? ⟨w1.heap.size, 3, none⟩ = some (.slice a1 l k1)) ∧ RdI (fun b => b < wx.heap.size) wx (.slice a1 l k1) A ∧ w1.heap.size + 1 ≤ wx.heap.size) ⟨HBW.out, ⟨d0, d1⟩, ⟨q0, q1⟩, qf, ⟨by simp [go_sem], by simp [go_sem], by simp [go_sem]⟩, HR.out.narrow (fun _ b hb => by have := hb.2; simp; omega), by simp⟩ ?_
    obtain ⟨R, hR⟩ : ∃ R, w1.heap.size = R := ⟨_, rfl⟩
    rw [hR] at hsz ⊢
    clear HBW d0 d1 q0 q1 qf HR hR
    rintro V ⟨hbV, ⟨d0, d1⟩, ⟨q0, q1⟩, qf, ⟨r1, r2, r3⟩, hR, hVs⟩
    have HBV := hide hbV
    have HQ0 := hide q0
    have HQ1 := hide q1
    have HQf := hide qf
    have HR := hide hR
    clear hbV q0 q1 qf hR
    go_wp2
    go_loopw [4, 18] (fun v i wr => ∃ k : Nat, k ≤ l ∧ i = .int .i64 k ∧ Hid (BuiltP (V.heap.size ≤ ·) wr v k lps) ∧ Hid (Below V.heap.size V wr)) (fun _ i _ => l - (intOf i).toNat)
    case atStart => exact ⟨0, Nat.zero_le _, rfl, BuiltP.nil _ _ _, Below.refl _ _⟩
    case round =>
      obtain ⟨k, hk, rfl, HBu, HB⟩ := hrel
      have g0 := cell_later HB.out d0
      have g1 := cell_later HB.out d1
      have j1 := cell_later HB.out r1
      have j2 := cell_later HB.out r2
      have j3 := cell_later HB.out r3
      by_cases hlt : k < l
      · obtain ⟨b, off, rfl, hx⟩ := (HR.out).at (k := k) (by rw [HL.out]; exact hlt)
        have hbl : b < V.heap.size := World.block_lt_of_cell? _ _ hx
        have hx' := cell_later HB.out hx
        obtain ⟨x, hxe⟩ : ∃ x, A.getD k 0 = x := ⟨_, rfl⟩
        rw [hxe] at hx'
        have HX := hide (HPsA.out k hlt)
        rw [hxe] at HX
        obtain ⟨ws, hws⟩ : ∃ ws, slotW xss ps t (k : Int) = ws := ⟨_, rfl⟩
        rw [hws] at HX
        have HSWk := hide (fun (w' : World) (ay : Option Addr) (cy : Nat) (hb : Below w.heap.size w w') => HSW.out w' s (k : Int) ay l cy hb (by omega) (by omega))
        rw [hws] at HSWk
        clear hx hxe hws
        obtain ⟨V2, Bk2, hown, hpr, hin⟩ := HBu.out
        have HOw0 := hide hown
        have HPr := hide hpr
        have HIn := hide hin
        have hz := HB.out.size
        have hk0 : (0 : Int) ≤ (k : Int) := Int.natCast_nonneg _
        have hk1 : (k : Int) < (l : Int) := by omega
        have hRV : R < V.heap.size := by omega
        have hwV : w.heap.size < V.heap.size := by omega
        clear hin hown hpr
        go_wp2_with fail
        go_region_held3 (fun w' => w'.cell? ⟨w.heap.size, 0, none⟩ = some (.slice ao n c) ∧ w'.cell? ⟨w.heap.size, 1, none⟩ = some (.slice ao' m c') ∧ w'.cell? ⟨R, 1, none⟩ = some (.int .i64 s) ∧ w'.cell? ⟨R, 2, none⟩ = some (.int .i64 t) ∧ w'.cell? ⟨R, 3, none⟩ = some (.slice (some ⟨b, off, none⟩) l k1) ∧ w'.cell? ⟨b, off + k, none⟩ = some (.int .i64 x)) (first | exact ⟨g0, g1, j1, j2, j3, hx'⟩ | exact ⟨e0, e1, e2, e3, e4, e5⟩ | exact ⟨cell_later (below_alloc _ _) e0, cell_later (below_alloc _ _) e1, cell_later (below_alloc _ _) e2, cell_later (below_alloc _ _) e3, cell_later (below_alloc _ _) e4, cell_later (below_alloc _ _) e5⟩ | exact ⟨(far _ _ hwV).trans e0, (far _ _ hwV).trans e1, (far _ _ hRV).trans e2, (far _ _ hRV).trans e3, (far _ _ hRV).trans e4, (far _ _ hbl).trans e5⟩)
          (first
            | (go_at_call 150; refine (HSWk.out _ _ _ (below_on (below_on HBV.out HB.out) (below_drewN wr 1))).mono ?_; rintro e w2 ⟨z, rfl, hb2, ho2⟩; obtain ⟨ao4, c4, rfl⟩ := ho2.shape; have e0 := cell_later hb2 g0; have e1 := cell_later hb2 g1; have e2 := cell_later hb2 j1; have e3 := cell_later hb2 j2; have e4 := cell_later hb2 j3; have e5 := cell_later hb2 hx'; have HB1 := hide (below_on (below_drewN wr 1) hb2); have HO1 := hide ho2; have hzz : wr.heap.size ≤ w2.heap.size := hb2.size; clear hb2 ho2)
            | (refine step_append_lies _ (by rfl) _ _ _ (by rfl) 0 74 i0 (.agg #[.int .i64 0, .slice none 0 0]) 2 32 Tryz.underlying27 hi hz0 hz1 hz2 rfl (by omega) _ k _ (by rfl) (ownsRow_later (ownsRow_later HOw0.out HB1.out) (below_alloc w2 (.cells #[.int .i64 x, .slice ao4 ws.length c4] 74))) ⟨w2.heap.size, 0, none⟩ 1 1 [.int .i64 x, .slice ao4 ws.length c4] (by rfl) (by rfl) (World.news_of_block (cs := #[.int .i64 x, .slice ao4 ws.length c4]) (t := 74) (fr := (0, 0)) (heap_alloc_new w2 _)) cells2_one (by omega) (by unfold maxLen; omega) (by omega) (Nat.zero_le _) (w2.heap.size + 1) (by simp) ?_; intro g cap w3 hown3 hgrow hat hlt3; have far : ∀ b o, b < V.heap.size → w3.cell? ⟨b, o, none⟩ = w2.cell? ⟨b, o, none⟩ := fun b o hb => (hgrow.cell_far ⟨b, o, none⟩ (by simp; omega) (fun e => by have := HPr.out _ e.symm; dsimp only at this; omega)).trans ((bcell (below_alloc w2 _)).1 _ _ (by omega))))
        have HS := hide (BuiltP.step (P' := (V.heap.size ≤ ·)) (ps := lps) HIn.out HOw0.out HPr.out (fun _ h => h) (fun b hb => Nat.le_trans hz hb) HB1.out (by rw [HX.out]; exact HO1.out) (below_alloc w2 (.cells #[.int .i64 x, .slice ao4 ws.length c4] 74)) (by rw [HX.out]; exact hown3) hgrow (by simpa using hat))
        have HB3 := hide ((below_on (below_on HB.out HB1.out) (below_alloc w2 (.cells #[.int .i64 x, .slice ao4 ws.length c4] 74))).grown hgrow (by simp; omega) (fun r hr => HPr.out r hr))
        clear hown3 hgrow hat far e0 e1 e2 e3 e4 e5 hzz
        go_wp2
        go_roundw
        case rel => exact ⟨k + 1, hlt, by go_num, HS.out, HB3.out⟩
        case measure => simp [intOf]; omega
      · have hkn : k = l := by omega
        subst hkn
        obtain ⟨av, cv, rfl⟩ := HBu.out.shape
        have x0 := cell_later HB.out HQ0.out
        have x1 := cell_later HB.out HQ1.out
        have y0 := ((bcell HB.out).2 _ _ (show w.heap.size + 1 < V.heap.size by omega)).trans (HQf.out 0)
        have y1 := ((bcell HB.out).2 _ _ (show w.heap.size + 1 < V.heap.size by omega)).trans (HQf.out 1)
        have hfin := ret_puts (x := .int .i64 0) (below_on HBV.out HB.out) (r := w.heap.size + 1) (by omega) (HBu.out.ow HPsL.out (by omega)) (fun b hb => ⟨by have := hb.1; omega, hb.2⟩)
        have HFin := hide hfin
        clear hfin g0 g1 j1 j2 j3
        go_wp2
        exact bodyPost_ret (v := .agg #[.int .i64 0, .slice av k cv]) (by simp [results, Tryz.results109, go_sem, x0, x1]) rfl ⟨_, rfl, HFin.out.1, HFin.out.2⟩
  · rw [if_neg h0]
    rw [hn, hm] at HIn
    rw [hn, hm]
    clear hu hv hs hn hm
    generalize inF xss ps = z at HIn h0 ⊢
    go_enter Tryz.func109, Tryz.ntmps109
    go_wp2_with fail
    refine (HIn.out _ A0.out).mono ?_
    rintro e w1 ⟨z1, rfl, hb1, ho1⟩
    obtain ⟨a1, k1, rfl⟩ := ho1.shape
    have q0 : w1.cell? ⟨w.heap.size + 1, 0, none⟩ = some (.int .i64 0) := cell_later hb1 (by simp [go_sem])
    have q1 : w1.cell? ⟨w.heap.size + 1, 1, none⟩ = some (.slice none 0 0) := cell_later hb1 (by simp [go_sem])
    have f0 : w1.frozen? ⟨w.heap.size + 1, 0, none⟩ = false := ((bcell hb1).2 _ _ (by simp)).trans (by simp [go_sem])
    have f1 : w1.frozen? ⟨w.heap.size + 1, 1, none⟩ = false := ((bcell hb1).2 _ _ (by simp)).trans (by simp [go_sem])
    have hlt : w.heap.size + 1 < w1.heap.size := World.block_lt_of_cell? _ _ q0
    have HB := hide (below_on A0.out hb1)
    generalize (inA xss ps).length = l
    generalize inS xss ps = s
    generalize inT xss ps = t
    clear hb1 ho1
    go_wp2
    have BA := below_alloc ((w1.setCell ⟨w.heap.size + 1, 0, none⟩ (.int .i64 z)).setCell ⟨w.heap.size + 1, 1, none⟩ (.slice none 0 0)) (.cells #[.int .i64 z, .int .i64 s, .int .i64 t, .slice a1 l k1] 180)
    have m0 := cell_later BA (a := ⟨w.heap.size + 1, 0, none⟩) (v := .int .i64 z) (by simp [go_sem, q0])
    have m1 := cell_later BA (a := ⟨w.heap.size + 1, 1, none⟩) (v := .slice none 0 0) (by simp [go_sem, q1])
    exact bodyPost_ret (v := .agg #[.int .i64 z, .slice none 0 0]) (by simp [results, Tryz.results109, go_sem, m0, m1]) rfl ⟨_, rfl, ((HB.out.setCell (by simp) _).setCell (by simp) _).trans (BA.mono (by simp; omega)), OwP_nil _ _⟩
end Go.Proofs.YtlmaopljihbdkaaGreat
namespace Go.Proofs.YtlmaopljihbdkaaGreat
open Go.RowKit Go.Maps
theorem lg_facts {xss : List (List Int)} {ps : List (Int × List Int)} (hs : Small xss ps) (h0 : inF xss ps = 0) :
    xss.length = 66 ∧ (lgP xss ps).length ≤ 24 ∧ ∀ i, i < (lgP xss ps).length → (0 ≤ ((lgP xss ps).getD i (0, [])).1 ∧ ((lgP xss ps).getD i (0, [])).1 < 40) ∧ ((lgP xss ps).getD i (0, [])).2.length ≤ 1048576 := by
  obtain ⟨_, h66, hhd⟩ := in_ok h0
  obtain ⟨_, hA24, hA39⟩ := headF_zero hhd
  unfold lgP
  rw [if_pos h0]
  refine ⟨h66, by rw [logPs_len]; exact hA24, fun i hi => ?_⟩
  rw [logPs_len] at hi
  rw [logPs_at _ _ _ _ _ hi]
  have := hA39 i hi
  exact ⟨⟨this.1, by dsimp only; omega⟩, slotW_len hs h66 _ _⟩
theorem rh_len {xss : List (List Int)} {ps : List (Int × List Int)} (hs : Small xss ps) (h0 : inF xss ps = 0) {a : Int} (h1 : 0 ≤ a) (h2 : a < 40) : ((lgP xss ps).foldl putM (homeM xss ps 40) a).length ≤ 1048576 := by
  obtain ⟨h66, _, h⟩ := lg_facts hs h0
  refine foldl_len ?_ (fun i hi => (h i hi).2)
  unfold homeM
  rw [if_pos (by omega)]
  exact blkToD_len hs _ (Nat.le_refl _) (by omega) (by rw [h66]; omega)
end Go.Proofs.YtlmaopljihbdkaaGreat
namespace Go.Proofs.YtlmaopljihbdkaaGreat
open Go.RowKit
set_option maxHeartbeats 4000000 in
set_option maxRecDepth 4000 in
theorem l3Log {S T S3 : Nat → Prop} {w : World} {bd bh o : Nat} {u v y : Value} {xss : List (List Int)} {ps : List (Int × List Int)} {s t : Int} {A : List Int} (hd0 : w.cell? ⟨bd, 0, none⟩ = some u) (hd1 : w.cell? ⟨bd, 1, none⟩ = some v) (hu : RdII S w u xss) (hv : RdP T w v ps) (hs : Small xss ps) (h66 : xss.length = 66)
    (hh : HdAt w bh o s t y) (hA : RdI S3 w y A) (ht : 0 ≤ t) (ht' : t ≤ 23) (hl24 : A.length ≤ 24) :
    Calls Tryz.prog 180 #[.pointer (some ⟨bd, 0, none⟩), .pointer (some ⟨bh, o, none⟩)] w fun e w' => ∃ z, e = .returned z ∧ Below w.heap.size w w' ∧ BuiltP (w.heap.size ≤ ·) w' z A.length (logPs xss ps t A) := by
  obtain ⟨ao, c, rfl, _⟩ := hu.shape
  obtain ⟨ao', c', rfl, hm63⟩ := hv.shape
  obtain ⟨ay, cy, rfl⟩ := hA.shape
  obtain ⟨i0, hi, hz0, hz1, hz2⟩ := info_parts Tryz.infoPut
  have HSl := hide (fun (w' : World) (i : Int) (hb : Below w.heap.size w w') (hi : 0 ≤ i) (hi' : i ≤ 1048576) => l3Slot i w' (hh.later hb) ht ht' hi hi')
  have HAt := hide (fun (w' : World) (at_ : Int) (hb : Below w.heap.size w w') (ha1 : 0 ≤ at_) (ha2 : at_ < (xss.length : Int)) => l1At_cells xss ps xss.length ps.length bd ao ao' c c' w' at_ rfl rfl hm63 (cell_later hb hd0) (cell_later hb hd1) (hu.later hb) (hv.later hb) ha1 ha2)
  have HWl := hide (fun (i : Int) => slotW_len hs h66 t i)
  rw [h66] at HAt
  have HPsA := hide (logPs_at xss ps t A)
  have HR := hide hA
  generalize logPs xss ps t A = lps at HPsA ⊢
  obtain ⟨l, hl⟩ : ∃ l, A.length = l := ⟨_, rfl⟩
  have HL := hide hl
  have c2 := hh.addrs
  rw [hl] at hl24 HPsA HR c2 ⊢
  clear hu hv hs hA hh hl hd0 hd1
  go_enter Tryz.func180, Tryz.ntmps180
  go_wp2
  go_loopw [5, 6] (fun v i wr => ∃ k : Nat, k ≤ l ∧ i = .int .i64 k ∧ Hid (BuiltP (w.heap.size ≤ ·) wr v k lps) ∧ Hid (Below w.heap.size w wr)) (fun _ i _ => l - (intOf i).toNat)
  case atStart => exact ⟨0, Nat.zero_le _, rfl, BuiltP.empty _ _ (Nat.le_refl _) _, below_alloc _ _⟩
  case round =>
    obtain ⟨k, hk, rfl, HBu, HB⟩ := hrel
    have g2 := cell_later HB.out c2
    by_cases hlt : k < l
    · obtain ⟨b, off, rfl, hx⟩ := (HR.out).at (k := k) (by rw [HL.out]; exact hlt)
      have hbl : b < w.heap.size := World.block_lt_of_cell? _ _ hx
      have hhl : bh < w.heap.size := World.block_lt_of_cell? _ _ c2
      have hx' := cell_later HB.out hx
      obtain ⟨x, hxe⟩ : ∃ x, A.getD k 0 = x := ⟨_, rfl⟩
      rw [hxe] at hx'
      have HX := hide (HPsA.out k hlt)
      rw [hxe] at HX
      have HLw := hide (HWl.out (k : Int))
      unfold slotW at HX HLw
      obtain ⟨q, hq⟩ : ∃ q, (t + (k : Int)) % 24 = q := ⟨_, rfl⟩
      have hq1 : 0 ≤ q := by omega
      have hq2 : q ≤ 23 := by omega
      have HWr := hide (show IntKind.i64.wrap (2 + q) = 2 + q by simp [IntKind.wrap, IntKind.bits, IntKind.signed]; omega)
      have HSlk := hide (fun (w' : World) (hb : Below w.heap.size w w') => HSl.out w' (k : Int) hb (by omega) (by omega))
      have HAtk := hide (fun (w' : World) (hb : Below w.heap.size w w') => HAt.out w' (2 + q) hb (by omega) (by omega))
      rw [hq] at HX HLw HSlk
      generalize blkToD xss ps (2 + q) ps.length = ws at HX HLw HAtk
      clear hx hxe hq
      obtain ⟨V2, Bk2, hown, hpr, hin⟩ := HBu.out
      have HOw0 := hide hown
      have HPr := hide hpr
      have HIn := hide hin
      have hz := HB.out.size
      have hk0 : (0 : Int) ≤ (k : Int) := Int.natCast_nonneg _
      have hk1 : (k : Int) < (l : Int) := by omega
      clear hin hown hpr
      go_wp2_with fail
      go_region_held3 (fun w' => w'.cell? ⟨bh, o + 2, none⟩ = some (.slice (some ⟨b, off, none⟩) l cy) ∧ w'.cell? ⟨b, off + k, none⟩ = some (.int .i64 x)) (first | exact ⟨g2, hx'⟩ | exact ⟨e0, e1⟩ | exact ⟨cell_later (below_alloc _ _) e0, cell_later (below_alloc _ _) e1⟩ | exact ⟨(far _ _ hhl).trans e0, (far _ _ hbl).trans e1⟩)
        (first
          | (go_at_call 119; refine (l1Ints HRr.out HLw.out).mono ?_; rintro e w2 ⟨z, rfl, hb2, ho2⟩; obtain ⟨ao4, c4, rfl⟩ := ho2.shape; have e0 := cell_later hb2 g2; have e1 := cell_later hb2 hx'; have HB1 := hide (below_on (below_drewN wr _) hb2); have HO1 := hide ho2; have hzz : wr.heap.size ≤ w2.heap.size := hb2.size; clear hb2 ho2)
          | (go_at_call 181; rw [HWr.out]; refine (HAtk.out _ (below_on HB.out (below_drewN wr _))).mono ?_; rintro e wq ⟨zq, rfl, ⟨nq, rfl⟩, hrq⟩; obtain ⟨aq, kq, rfl⟩ := hrq.shape; (try rw [World.drewN_drewN] at hrq); have HRr := hide hrq; clear hrq)
          | (go_at_call 205; refine (HSlk.out _ (below_on HB.out (below_drewN wr _))).mono ?_; rintro e wq ⟨rfl, rfl⟩)
          | (refine step_append_lies _ (by rfl) _ _ _ (by rfl) 0 74 i0 (.agg #[.int .i64 0, .slice none 0 0]) 2 32 Tryz.underlying27 hi hz0 hz1 hz2 rfl (by omega) _ k _ (by rfl) (ownsRow_later (ownsRow_later HOw0.out HB1.out) (below_alloc w2 (.cells #[.int .i64 x, .slice ao4 ws.length c4] 74))) ⟨w2.heap.size, 0, none⟩ 1 1 [.int .i64 x, .slice ao4 ws.length c4] (by rfl) (by rfl) (World.news_of_block (cs := #[.int .i64 x, .slice ao4 ws.length c4]) (t := 74) (fr := (0, 0)) (heap_alloc_new w2 _)) cells2_one (by omega) (by unfold maxLen; omega) (by omega) (Nat.zero_le _) (w2.heap.size + 1) (by simp) ?_; intro g cap w3 hown3 hgrow hat hlt3; have far : ∀ b o, b < w.heap.size → w3.cell? ⟨b, o, none⟩ = w2.cell? ⟨b, o, none⟩ := fun b o hb => (hgrow.cell_far ⟨b, o, none⟩ (by simp; omega) (fun e => by have := HPr.out _ e.symm; dsimp only at this; omega)).trans ((bcell (below_alloc w2 _)).1 _ _ (by omega))))
      have HS := hide (BuiltP.step (P' := (w.heap.size ≤ ·)) (ps := lps) HIn.out HOw0.out HPr.out (fun _ h => h) (fun b hb => Nat.le_trans hz hb) HB1.out (by rw [HX.out]; exact HO1.out) (below_alloc w2 (.cells #[.int .i64 x, .slice ao4 ws.length c4] 74)) (by rw [HX.out]; exact hown3) hgrow (by simpa using hat))
      have HB3 := hide ((below_on (below_on HB.out HB1.out) (below_alloc w2 (.cells #[.int .i64 x, .slice ao4 ws.length c4] 74))).grown hgrow (by simp; omega) (fun r hr => HPr.out r hr))
      clear hown3 hgrow hat far e0 e1 hzz
      go_wp2
      go_roundw
      case rel => exact ⟨k + 1, hlt, by go_num, HS.out, HB3.out⟩
      case measure => simp [intOf]; omega
    · have hkn : k = l := by omega
      subst hkn
      go_wp2
      go_ret
      exact ⟨_, rfl, HB.out, HBu.out⟩
set_option maxHeartbeats 1000000 in
set_option maxRecDepth 4000 in
theorem specLogOf {S T : Nat → Prop} {w : World} {u v : Value} {xss : List (List Int)} {ps : List (Int × List Int)} (hu : RdII S w u xss) (hv : RdP T w v ps) (hs : Small xss ps) :
    Calls Tryz.prog 146 #[.agg #[u, v]] w (EndsP (lgF xss ps) (lgP xss ps) w) := by
  unfold EndsP lgF lgP
  obtain ⟨ao, c, rfl, _⟩ := hu.shape
  obtain ⟨ao', c', rfl, _⟩ := hv.shape
  have HIn := hide (fun (w' : World) (hb : Below w.heap.size w w') => specHeaderIn (hu.later hb) (hv.later hb) hs)
  have HU := hide hu
  have HV := hide hv
  have HS := hide hs
  obtain ⟨n, hn⟩ : ∃ n, xss.length = n := ⟨_, rfl⟩
  obtain ⟨m, hm⟩ : ∃ m, ps.length = m := ⟨_, rfl⟩
  have A0 := hide (below_on (below_alloc w (.cells #[.slice ao n c, .slice ao' m c'] 59)) (below_alloc _ (.cells #[.int .i64 0, .slice none 0 0] 29)))
  rw [hn] at HU
  rw [hm] at HV
  by_cases h0 : inF xss ps = 0
  · obtain ⟨_, h66, hhd⟩ := in_ok h0
    obtain ⟨⟨_, _, ht1, ht2⟩, hA24, _⟩ := headF_zero hhd
    rw [if_pos h0, h0]
    have HIn2 := hide (fun w' hb => HIn.out w' hb)
    rw [h0] at HIn2
    clear HIn
    have HLg := hide (fun (S3 : Nat → Prop) (w' : World) (bd bh : Nat) (s : Int) (y : Value) (hd0 : w'.cell? ⟨bd, 0, none⟩ = some (.slice ao n c)) (hd1 : w'.cell? ⟨bd, 1, none⟩ = some (.slice ao' m c')) (hb : Below w.heap.size w w') (hh : HdAt w' bh 1 s (inT xss ps) y) (hA : RdI S3 w' y (inA xss ps)) => l3Log hd0 hd1 (HU.out.later hb) (HV.out.later hb) HS.out h66 hh hA ht1 ht2 hA24)
    have HPsL := hide (logPs_len xss ps (inT xss ps) (inA xss ps))
    generalize logPs xss ps (inT xss ps) (inA xss ps) = lps at HLg HPsL ⊢
    generalize inS xss ps = s at HIn2
    generalize inT xss ps = t at HIn2 HLg
    generalize inA xss ps = A at HIn2 HLg hA24 HPsL
    obtain ⟨l, hl⟩ : ∃ l, A.length = l := ⟨_, rfl⟩
    have HL := hide hl
    rw [hl] at HPsL HLg hA24
    rw [hn, hm] at HIn2
    rw [hn, hm]
    clear hu hv hs hn hm h0 h66 hhd hl
    go_enter Tryz.func146, Tryz.ntmps146
    go_wp2_with fail
    refine (HIn2.out _ A0.out).mono ?_
    rintro e w1 ⟨z1, rfl, hb1, ho1⟩
    obtain ⟨a1, k1, hz1'⟩ := ho1.shape
    rw [HL.out] at hz1'
    subst hz1'
    have BA := below_alloc w1 (.cells #[.int .i64 0, .int .i64 s, .int .i64 t, .slice a1 l k1] 180)
    have d0 : w1.cell? ⟨w.heap.size, 0, none⟩ = some (.slice ao n c) := cell_later hb1 (by simp [go_sem])
    have d1 : w1.cell? ⟨w.heap.size, 1, none⟩ = some (.slice ao' m c') := cell_later hb1 (by simp [go_sem])
    have q0 : w1.cell? ⟨w.heap.size + 1, 0, none⟩ = some (.int .i64 0) := cell_later hb1 (by simp [go_sem])
    have q1 : w1.cell? ⟨w.heap.size + 1, 1, none⟩ = some (.slice none 0 0) := cell_later hb1 (by simp [go_sem])
    have qf : ∀ o, w1.frozen? ⟨w.heap.size + 1, o, none⟩ = false := fun o => ((bcell hb1).2 _ _ (by simp)).trans (by simp [go_sem])
    have hsz : w.heap.size + 1 < w1.heap.size := World.block_lt_of_cell? _ _ q0
    have HR := hide (ho1.rd.later BA)
    have HBW := hide (below_on A0.out hb1)
    have HD0 := hide (cell_later BA d0)
    have HD1 := hide (cell_later BA d1)
    have hdn : w1.heap.size ≠ w.heap.size := by omega
    clear hb1 ho1 BA
    go_wp2_with fail
    refine (HLg.out _ _ _ _ s _ HD0.out HD1.out (below_on HBW.out (below_alloc _ _)) ⟨by simp [go_sem], by simp [go_sem], by simp [go_sem]⟩ HR.out).mono ?_
    rintro e w2 ⟨z2, rfl, hb2, ho2⟩
    obtain ⟨a2, k2, rfl⟩ := ho2.shape
    have hb2' := below_on (below_alloc w1 (.cells #[.int .i64 0, .int .i64 s, .int .i64 t, .slice a1 l k1] 180)) hb2
    have x0 := cell_later hb2' q0
    have x1 := cell_later hb2' q1
    have y0 := ((bcell hb2').2 _ _ hsz).trans (qf 0)
    have y1 := ((bcell hb2').2 _ _ hsz).trans (qf 1)
    have hs2 := hb2'.size
    have hfin := ret_puts (x := .int .i64 0) (below_on HBW.out hb2') (r := w.heap.size + 1) (by omega) (ho2.ow HPsL.out (by omega)) (fun b hb => ⟨by have := hb.1; simp at this; omega, hb.2⟩)
    have HFin := hide hfin
    clear hfin hb2 hb2' ho2 q0 q1 qf d0 d1
    go_wp2
    exact bodyPost_ret (v := .agg #[.int .i64 0, .slice a2 l k2]) (by simp [results, Tryz.results146, go_sem, x0, x1]) rfl ⟨_, rfl, HFin.out.1, HFin.out.2⟩
  · rw [if_neg h0]
    rw [hn, hm] at HIn
    rw [hn, hm]
    clear hu hv hs hn hm
    generalize inF xss ps = z at HIn h0 ⊢
    go_enter Tryz.func146, Tryz.ntmps146
    go_wp2_with fail
    refine (HIn.out _ A0.out).mono ?_
    rintro e w1 ⟨z1, rfl, hb1, ho1⟩
    obtain ⟨a1, k1, rfl⟩ := ho1.shape
    have q0 : w1.cell? ⟨w.heap.size + 1, 0, none⟩ = some (.int .i64 0) := cell_later hb1 (by simp [go_sem])
    have q1 : w1.cell? ⟨w.heap.size + 1, 1, none⟩ = some (.slice none 0 0) := cell_later hb1 (by simp [go_sem])
    have f0 : w1.frozen? ⟨w.heap.size + 1, 0, none⟩ = false := ((bcell hb1).2 _ _ (by simp)).trans (by simp [go_sem])
    have f1 : w1.frozen? ⟨w.heap.size + 1, 1, none⟩ = false := ((bcell hb1).2 _ _ (by simp)).trans (by simp [go_sem])
    have hlt : w.heap.size + 1 < w1.heap.size := World.block_lt_of_cell? _ _ q0
    have HB := hide (below_on A0.out hb1)
    generalize (inA xss ps).length = l
    generalize inS xss ps = s
    generalize inT xss ps = t
    clear hb1 ho1
    go_wp2
    have BA := below_alloc ((w1.setCell ⟨w.heap.size + 1, 0, none⟩ (.int .i64 z)).setCell ⟨w.heap.size + 1, 1, none⟩ (.slice none 0 0)) (.cells #[.int .i64 z, .int .i64 s, .int .i64 t, .slice a1 l k1] 180)
    have m0 := cell_later BA (a := ⟨w.heap.size + 1, 0, none⟩) (v := .int .i64 z) (by simp [go_sem, q0])
    have m1 := cell_later BA (a := ⟨w.heap.size + 1, 1, none⟩) (v := .slice none 0 0) (by simp [go_sem, q1])
    exact bodyPost_ret (v := .agg #[.int .i64 z, .slice none 0 0]) (by simp [results, Tryz.results146, go_sem, m0, m1]) rfl ⟨_, rfl, ((HB.out.setCell (by simp) _).setCell (by simp) _).trans (BA.mono (by simp; omega)), OwP_nil _ _⟩
end Go.Proofs.YtlmaopljihbdkaaGreat
