/- Chapter 3: the log: 'slotWords', 'l3Log', 'LogOf' of the model and of the program, walked. -/
import Derived.Test.YtbjmmhcbjcngcaaSlot
import Derived.Test.YtbjmmhcbjcngcaaImpl2h
import Derived.Test.YtbjmmhcbjcngcaaBuilt3
import Derived.Test.YtbjmmhcbjcngcaaIvP
namespace Go.Proofs.Ytbjmmhcbjcngcaa
open Go.RowKit

theorem nw_ok {ca sa ta cb sb tb : Int} {xa xb : List Int} {k : Nat} (hk : nwP ca sa ta xa cb sb tb xb = k) (h : nwF k = 0) : headF (nwI k sa sb) (nwI k ta tb) (nwA k xa xb) = 0 := by
  unfold nwP at hk
  split at hk
  · rename_i h1
    subst hk
    have := h1.1
    unfold rightB at this
    simp at this
    simpa [nwI, nwA] using this.2
  · split at hk
    · rename_i h1
      subst hk
      unfold rightB at h1
      simp at h1
      simpa [nwI, nwA] using h1.2
    · subst hk
      exact absurd h (by decide)

/-- What 'HeaderIn' answers has no fault. -/
theorem in_ok {xss : List (List Int)} {ps : List (Int × List Int)} (h : inF xss ps = 0) : diskF xss ps = 0 ∧ xss.length = 66 ∧ headF (inS xss ps) (inT xss ps) (inA xss ps) = 0 := by
  unfold inF at h
  split at h
  · rename_i h1
    split at h
    · rename_i h2
      refine ⟨h1, h2, ?_⟩
      unfold inS inT inA
      rw [if_pos ⟨h1, h2⟩, if_pos ⟨h1, h2⟩, if_pos ⟨h1, h2⟩]
      exact nw_ok rfl h
    · exact absurd h (by decide)
  · rename_i h1
    exact absurd h h1

/-- The words of the i-th block of a log that begins at t. -/
def slotW (xss : List (List Int)) (ps : List (Int × List Int)) (t i : Int) : List Int := blkTo xss ps (2 + (t + i) % 24) ps.length

theorem slotW_len {xss : List (List Int)} {ps : List (Int × List Int)} (hs : Small xss ps) (hl : xss.length = 66) (t i : Int) : (slotW xss ps t i).length ≤ 1048576 :=
  blkTo_len hs ps.length (Nat.le_refl _) (by omega) (by rw [hl]; omega)

set_option maxHeartbeats 1000000 in
set_option maxRecDepth 4000 in
/-- 'impl.slotWords'. -/
theorem slotWords {S T : Nat → Prop} {w : World} {u v : Value} {xss : List (List Int)} {ps : List (Int × List Int)} (s t i : Int) (ay : Option Addr) (l cy : Nat) (hu : RdII S w u xss) (hv : RdP T w v ps) (hs : Small xss ps) (h66 : xss.length = 66) (ht : 0 ≤ t) (ht' : t ≤ 23) (hi : 0 ≤ i) (hi' : i ≤ 1048576) :
    Calls Try.prog 37 #[.agg #[u, v], .agg #[.int .i64 s, .int .i64 t, .slice ay l cy], .int .i64 i] w fun e w' => ∃ z, e = .returned z ∧ Below w.heap.size w w' ∧ OwI w.heap.size w' z (slotW xss ps t i) := by
  obtain ⟨ao, c, rfl, _⟩ := hu.shape
  obtain ⟨ao', c', rfl, _⟩ := hv.shape
  obtain ⟨m, hm⟩ : ∃ m, ps.length = m := ⟨_, rfl⟩
  have HSl := hide (fun (w : World) => slotFrom s t i (.slice ay l cy) w ht ht' hi hi')
  unfold slotW
  obtain ⟨q, hq⟩ : ∃ q, (t + i) % 24 = q := ⟨_, rfl⟩
  have hq1 : 0 ≤ q := by omega
  have hq2 : q ≤ 23 := by omega
  have HWr := hide (show IntKind.i64.wrap (2 + q) = 2 + q by simp [IntKind.wrap, IntKind.bits, IntKind.signed]; omega)
  have HWd : Hid (∀ (w' : World), Below w.heap.size w w' → Calls Try.prog 39 #[.agg #[.slice ao xss.length c, .slice ao' ps.length c'], .int .i64 (2 + q)] w' fun e w'' => ∃ z, e = .returned z ∧ Below w'.heap.size w' w'' ∧ OwI w'.heap.size w'' z (blkTo xss ps (2 + q) ps.length)) :=
    fun w' hb => wordsAt (2 + q) (hu.later hb) (hv.later hb) hs (by omega) (by rw [h66]; omega)
  rw [hq] at HSl ⊢
  rw [h66, hm] at HWd
  rw [h66, hm]
  generalize blkTo xss ps (2 + q) m = ws at HWd ⊢
  clear hu hv hs hq hm h66 ht ht' hi hi'
  obtain ⟨W, hW⟩ : ∃ W, (w.alloc (.cells #[.slice ao 66 c, .slice ao' m c'] 32)).alloc (.cells #[.int .i64 s, .int .i64 t, .slice ay l cy] 59) = W := ⟨_, rfl⟩
  have BW : Hid (Below w.heap.size w W) := by rw [← hW]; exact below_on (below_alloc _ _) (below_alloc _ _)
  have c0 : W.cell? ⟨w.heap.size, 0, none⟩ = some (.slice ao 66 c) := by rw [← hW]; simp [go_sem]
  have c1 : W.cell? ⟨w.heap.size, 1, none⟩ = some (.slice ao' m c') := by rw [← hW]; simp [go_sem]
  have v0 : W.cell? ⟨w.heap.size + 1, 0, none⟩ = some (.int .i64 s) := by rw [← hW]; simp [go_sem]
  have v1 : W.cell? ⟨w.heap.size + 1, 1, none⟩ = some (.int .i64 t) := by rw [← hW]; simp [go_sem]
  have v2 : W.cell? ⟨w.heap.size + 1, 2, none⟩ = some (.slice ay l cy) := by rw [← hW]; simp [go_sem]
  go_enter Try.func37, Try.ntmps37
  go_wp2_with fail
  go_region_held3 (fun w' => w'.cell? ⟨w.heap.size, 0, none⟩ = some (.slice ao 66 c) ∧ w'.cell? ⟨w.heap.size, 1, none⟩ = some (.slice ao' m c') ∧ w'.cell? ⟨w.heap.size + 1, 0, none⟩ = some (.int .i64 s) ∧ w'.cell? ⟨w.heap.size + 1, 1, none⟩ = some (.int .i64 t) ∧ w'.cell? ⟨w.heap.size + 1, 2, none⟩ = some (.slice ay l cy)) (first | exact ⟨c0, c1, v0, v1, v2⟩ | exact ⟨e0, e1, e2, e3, e4⟩ | exact ⟨i0, i1, i2, i3, i4⟩)
    (first
      | (go_at_call 39; rw [HWr.out]; refine (HWd.out _ (below_on BW.out HB1.out)).mono ?_; rintro e w2 ⟨z, rfl, hb2, ho2⟩; obtain ⟨a2, k2, rfl⟩ := ho2.shape; have i0 := cell_later hb2 e0; have i1 := cell_later hb2 e1; have i2 := cell_later hb2 e2; have i3 := cell_later hb2 e3; have i4 := cell_later hb2 e4; have HB2 := hide hb2; have HO2 := hide ho2; clear hb2 ho2)
      | (go_at_call 54; refine (HSl.out _).mono ?_; rintro e w1 ⟨rfl, hb1⟩; have e0 := cell_later hb1 c0; have e1 := cell_later hb1 c1; have e2 := cell_later hb1 v0; have e3 := cell_later hb1 v1; have e4 := cell_later hb1 v2; have HB1 := hide (below_on (below_drewN W 1) hb1); clear hb1))
  go_wp2
  go_ret
  have hz0 := BW.out.size
  have hz1 := HB1.out.size
  exact ⟨_, rfl, below_on BW.out (below_on HB1.out HB2.out), HO2.out.mono (by omega)⟩

/-- The log of a header. -/
def logPs (xss : List (List Int)) (ps : List (Int × List Int)) (t : Int) (A : List Int) : List (Int × List Int) := (List.range A.length).map fun (i : Nat) => (A.getD i 0, slotW xss ps t (i : Int))
theorem logPs_len (xss : List (List Int)) (ps : List (Int × List Int)) (t : Int) (A : List Int) : (logPs xss ps t A).length = A.length := by simp [logPs]
theorem logPs_at (xss : List (List Int)) (ps : List (Int × List Int)) (t : Int) (A : List Int) (i : Nat) (h : i < A.length) : (logPs xss ps t A).getD i (0, []) = (A.getD i 0, slotW xss ps t (i : Int)) := by simp [logPs, List.getD, h]

def lgF (xss : List (List Int)) (ps : List (Int × List Int)) : Int := inF xss ps
def lgP (xss : List (List Int)) (ps : List (Int × List Int)) : List (Int × List Int) := if inF xss ps = 0 then logPs xss ps (inT xss ps) (inA xss ps) else []

/-- The end of a function that stores a code and puts into its result's variable. -/
theorem ret_puts {w w3 : World} {P : Nat → Prop} {r : Nat} {z x : Value} {ps : List (Int × List Int)} (hb : Below w.heap.size w w3) (hr : w.heap.size ≤ r) (ho : OwP P w3 z ps) (hP : ∀ b, P b → r < b ∧ b < w3.heap.size) :
    Below w.heap.size w ((w3.setCell ⟨r, 0, none⟩ x).setCell ⟨r, 1, none⟩ z) ∧ OwP (fun b => w.heap.size ≤ b ∧ b < ((w3.setCell ⟨r, 0, none⟩ x).setCell ⟨r, 1, none⟩ z).heap.size) ((w3.setCell ⟨r, 0, none⟩ x).setCell ⟨r, 1, none⟩ z) z ps := by
  have hw : Wr (fun y => y = r) w3 ((w3.setCell ⟨r, 0, none⟩ x).setCell ⟨r, 1, none⟩ z) := ((Wr.refl (fun y => y = r) _).setCell (p := ⟨r, 0, none⟩) rfl _).setCell (p := ⟨r, 1, none⟩) rfl _
  exact ⟨(hb.setCell (p := ⟨r, 0, none⟩) hr _).setCell (p := ⟨r, 1, none⟩) hr _, (ho.wr hw (fun b h1 e => by have := (hP b h1).1; omega)).mono fun b h1 => by have := hP b h1; simp; omega⟩

set_option maxHeartbeats 4000000 in
set_option maxRecDepth 4000 in
theorem implLogOf {S T : Nat → Prop} {w : World} {u v : Value} {xss : List (List Int)} {ps : List (Int × List Int)} (hu : RdII S w u xss) (hv : RdP T w v ps) (hs : Small xss ps) :
    Calls Try.prog 19 #[.agg #[u, v]] w (EndsP (lgF xss ps) (lgP xss ps) w) := by
  unfold EndsP lgF lgP
  obtain ⟨ao, c, rfl, _⟩ := hu.shape
  obtain ⟨ao', c', rfl, _⟩ := hv.shape
  obtain ⟨i0, hi, hz0, hz1, hz2⟩ := info_parts Try.infoPut
  have HIn := hide (fun (w' : World) (hb : Below w.heap.size w w') => implHeaderIn (hu.later hb) (hv.later hb) hs)
  obtain ⟨n, hn⟩ : ∃ n, xss.length = n := ⟨_, rfl⟩
  obtain ⟨m, hm⟩ : ∃ m, ps.length = m := ⟨_, rfl⟩
  have A0 := hide (below_on (below_alloc w (.cells #[.slice ao n c, .slice ao' m c'] 32)) (below_alloc _ (.cells #[.int .i64 0, .slice none 0 0] 29)))
  by_cases h0 : inF xss ps = 0
  · obtain ⟨_, h66, hhd⟩ := in_ok h0
    obtain ⟨⟨hs1, hs2, ht1, ht2⟩, hA24, _⟩ := headF_zero hhd
    have HSW := hide (fun (w' : World) (s i : Int) (ay : Option Addr) (l cy : Nat) (hb : Below w.heap.size w w') (hi : 0 ≤ i) (hi' : i ≤ 1048576) => slotWords s (inT xss ps) i ay l cy (hu.later hb) (hv.later hb) hs h66 ht1 ht2 hi hi')
    rw [if_pos h0, h0]
    have HIn2 := hide (fun w' hb => HIn.out w' hb)
    rw [h0] at HIn2
    clear HIn
    have HPsL := hide (logPs_len xss ps (inT xss ps) (inA xss ps))
    have HPsA := hide (logPs_at xss ps (inT xss ps) (inA xss ps))
    generalize logPs xss ps (inT xss ps) (inA xss ps) = lps at HPsL HPsA ⊢
    generalize inS xss ps = s at HIn2 hs1 hs2
    generalize inT xss ps = t at HIn2 HSW HPsA ht1 ht2
    generalize inA xss ps = A at HIn2 HPsL HPsA hA24
    obtain ⟨l, hl⟩ : ∃ l, A.length = l := ⟨_, rfl⟩
    have HL := hide hl
    rw [hl] at hA24 HPsL HPsA
    rw [hn, hm] at HIn2 HSW
    rw [hn, hm]
    clear hu hv hs hn hm h0 h66 hhd hl
    go_enter Try.func19, Try.ntmps19
    go_wp2_with fail
    refine (HIn2.out _ A0.out).mono ?_
    rintro e w1 ⟨z1, rfl, hb1, ho1⟩
    obtain ⟨a1, k1, hz1'⟩ := ho1.shape
    rw [HL.out] at hz1'
    subst hz1'
    have hb1' := below_on hb1 (below_alloc w1 (.cells #[.int .i64 0, .int .i64 s, .int .i64 t, .slice a1 l k1] 61))
    have d0 : (w1.alloc (.cells #[.int .i64 0, .int .i64 s, .int .i64 t, .slice a1 l k1] 61)).cell? ⟨w.heap.size, 0, none⟩ = some (.slice ao n c) := cell_later hb1' (by simp [go_sem])
    have d1 : (w1.alloc (.cells #[.int .i64 0, .int .i64 s, .int .i64 t, .slice a1 l k1] 61)).cell? ⟨w.heap.size, 1, none⟩ = some (.slice ao' m c') := cell_later hb1' (by simp [go_sem])
    have q0 : (w1.alloc (.cells #[.int .i64 0, .int .i64 s, .int .i64 t, .slice a1 l k1] 61)).cell? ⟨w.heap.size + 1, 0, none⟩ = some (.int .i64 0) := cell_later hb1' (by simp [go_sem])
    have q1 : (w1.alloc (.cells #[.int .i64 0, .int .i64 s, .int .i64 t, .slice a1 l k1] 61)).cell? ⟨w.heap.size + 1, 1, none⟩ = some (.slice none 0 0) := cell_later hb1' (by simp [go_sem])
    have qf : ∀ o, (w1.alloc (.cells #[.int .i64 0, .int .i64 s, .int .i64 t, .slice a1 l k1] 61)).frozen? ⟨w.heap.size + 1, o, none⟩ = false := fun o => ((bcell hb1').2 _ _ (by simp)).trans (by simp [go_sem])
    have HR := hide (ho1.rd.later (below_alloc w1 (.cells #[.int .i64 0, .int .i64 s, .int .i64 t, .slice a1 l k1] 61)))
    have HBW := hide (below_on A0.out hb1')
    have hsz : w.heap.size + 1 < w1.heap.size + 1 := by have := hb1.size; simp at this; omega
    clear hb1 hb1' ho1
    go_upto_region 4 with fail
    refine forget (fun wx => Below w.heap.size w wx ∧ (wx.cell? ⟨w.heap.size, 0, none⟩ = some (.slice ao n c) ∧ wx.cell? ⟨w.heap.size, 1, none⟩ = some (.slice ao' m c')) ∧ (wx.cell? ⟨w.heap.size + 1, 0, none⟩ = some (.int .i64 0) ∧ wx.cell? ⟨w.heap.size + 1, 1, none⟩ = some (.slice none 0 0)) ∧ (∀ o, wx.frozen? ⟨w.heap.size + 1, o, none⟩ = false) ∧ (wx.cell? ⟨w1.heap.size, 1, none⟩ = some (.int .i64 s) ∧ wx.cell? ⟨w1.heap.size, 2, none⟩ = some (.int .i64 t) ∧ wx.cell? ⟨w1.heap.size, 3, none⟩ = some (.slice a1 l k1)) ∧ RdI (fun b => b < wx.heap.size) wx (.slice a1 l k1) A ∧ w1.heap.size + 1 ≤ wx.heap.size) ⟨HBW.out, ⟨d0, d1⟩, ⟨q0, q1⟩, qf, ⟨by simp [go_sem], by simp [go_sem], by simp [go_sem]⟩, HR.out.narrow (fun _ b hb => by have := hb.2; simp; omega), by simp⟩ ?_
    obtain ⟨R, hR⟩ : ∃ R, w1.heap.size = R := ⟨_, rfl⟩
    rw [hR] at hsz ⊢
    clear HBW d0 d1 q0 q1 qf HR hR
    rintro V ⟨hbV, ⟨d0, d1⟩, ⟨q0, q1⟩, qf, ⟨r1, r2, r3⟩, hR, hVs⟩
    have HBV := hide hbV
    have HQ0 := hide q0
    have HQ1 := hide q1
    have HQf := hide qf
    have HR := hide hR
    clear hbV q0 q1 qf hR
    go_wp2
    go_loopw [4, 18] (fun v i wr => ∃ k : Nat, k ≤ l ∧ i = .int .i64 k ∧ Hid (BuiltP (V.heap.size ≤ ·) wr v k lps) ∧ Hid (Below V.heap.size V wr)) (fun _ i _ => l - (intOf i).toNat)
    case atStart => exact ⟨0, Nat.zero_le _, rfl, BuiltP.nil _ _ _, Below.refl _ _⟩
    case round =>
      obtain ⟨k, hk, rfl, HBu, HB⟩ := hrel
      have g0 := cell_later HB.out d0
      have g1 := cell_later HB.out d1
      have j1 := cell_later HB.out r1
      have j2 := cell_later HB.out r2
      have j3 := cell_later HB.out r3
      by_cases hlt : k < l
      · obtain ⟨b, off, rfl, hx⟩ := (HR.out).at (k := k) (by rw [HL.out]; exact hlt)
        have hbl : b < V.heap.size := World.block_lt_of_cell? _ _ hx
        have hx' := cell_later HB.out hx
        obtain ⟨x, hxe⟩ : ∃ x, A.getD k 0 = x := ⟨_, rfl⟩
        rw [hxe] at hx'
        have HX := hide (HPsA.out k hlt)
        rw [hxe] at HX
        obtain ⟨ws, hws⟩ : ∃ ws, slotW xss ps t (k : Int) = ws := ⟨_, rfl⟩
        rw [hws] at HX
        have HSWk := hide (fun (w' : World) (ay : Option Addr) (cy : Nat) (hb : Below w.heap.size w w') => HSW.out w' s (k : Int) ay l cy hb (by omega) (by omega))
        rw [hws] at HSWk
        clear hx hxe hws
        obtain ⟨V2, Bk2, hown, hpr, hin⟩ := HBu.out
        have HOw0 := hide hown
        have HPr := hide hpr
        have HIn := hide hin
        have hz := HB.out.size
        have hk0 : (0 : Int) ≤ (k : Int) := Int.natCast_nonneg _
        have hk1 : (k : Int) < (l : Int) := by omega
        have hRV : R < V.heap.size := by omega
        have hwV : w.heap.size < V.heap.size := by omega
        clear hin hown hpr
        go_wp2_with fail
        go_region_held3 (fun w' => w'.cell? ⟨w.heap.size, 0, none⟩ = some (.slice ao n c) ∧ w'.cell? ⟨w.heap.size, 1, none⟩ = some (.slice ao' m c') ∧ w'.cell? ⟨R, 1, none⟩ = some (.int .i64 s) ∧ w'.cell? ⟨R, 2, none⟩ = some (.int .i64 t) ∧ w'.cell? ⟨R, 3, none⟩ = some (.slice (some ⟨b, off, none⟩) l k1) ∧ w'.cell? ⟨b, off + k, none⟩ = some (.int .i64 x)) (first | exact ⟨g0, g1, j1, j2, j3, hx'⟩ | exact ⟨e0, e1, e2, e3, e4, e5⟩ | exact ⟨cell_later (below_alloc _ _) e0, cell_later (below_alloc _ _) e1, cell_later (below_alloc _ _) e2, cell_later (below_alloc _ _) e3, cell_later (below_alloc _ _) e4, cell_later (below_alloc _ _) e5⟩ | exact ⟨(far _ _ hwV).trans e0, (far _ _ hwV).trans e1, (far _ _ hRV).trans e2, (far _ _ hRV).trans e3, (far _ _ hRV).trans e4, (far _ _ hbl).trans e5⟩)
          (first
            | (go_at_call 37; refine (HSWk.out _ _ _ (below_on (below_on HBV.out HB.out) (below_drewN wr 1))).mono ?_; rintro e w2 ⟨z, rfl, hb2, ho2⟩; obtain ⟨ao4, c4, rfl⟩ := ho2.shape; have e0 := cell_later hb2 g0; have e1 := cell_later hb2 g1; have e2 := cell_later hb2 j1; have e3 := cell_later hb2 j2; have e4 := cell_later hb2 j3; have e5 := cell_later hb2 hx'; have HB1 := hide (below_on (below_drewN wr 1) hb2); have HO1 := hide ho2; have hzz : wr.heap.size ≤ w2.heap.size := hb2.size; clear hb2 ho2)
            | (refine step_append_lies _ (by rfl) _ _ _ (by rfl) 0 45 i0 (.agg #[.int .i64 0, .slice none 0 0]) 2 32 Try.underlying27 hi hz0 hz1 hz2 rfl (by omega) _ k _ (by rfl) (ownsRow_later (ownsRow_later HOw0.out HB1.out) (below_alloc w2 (.cells #[.int .i64 x, .slice ao4 ws.length c4] 45))) ⟨w2.heap.size, 0, none⟩ 1 1 [.int .i64 x, .slice ao4 ws.length c4] (by rfl) (by rfl) (World.news_of_block (cs := #[.int .i64 x, .slice ao4 ws.length c4]) (t := 45) (fr := (0, 0)) (heap_alloc_new w2 _)) cells2_one (by omega) (by unfold maxLen; omega) (by omega) (Nat.zero_le _) (w2.heap.size + 1) (by simp) ?_; intro g cap w3 hown3 hgrow hat hlt3; have far : ∀ b o, b < V.heap.size → w3.cell? ⟨b, o, none⟩ = w2.cell? ⟨b, o, none⟩ := fun b o hb => (hgrow.cell_far ⟨b, o, none⟩ (by simp; omega) (fun e => by have := HPr.out _ e.symm; dsimp only at this; omega)).trans ((bcell (below_alloc w2 _)).1 _ _ (by omega))))
        have HS := hide (BuiltP.step (P' := (V.heap.size ≤ ·)) (ps := lps) HIn.out HOw0.out HPr.out (fun _ h => h) (fun b hb => Nat.le_trans hz hb) HB1.out (by rw [HX.out]; exact HO1.out) (below_alloc w2 (.cells #[.int .i64 x, .slice ao4 ws.length c4] 45)) (by rw [HX.out]; exact hown3) hgrow (by simpa using hat))
        have HB3 := hide ((below_on (below_on HB.out HB1.out) (below_alloc w2 (.cells #[.int .i64 x, .slice ao4 ws.length c4] 45))).grown hgrow (by simp; omega) (fun r hr => HPr.out r hr))
        clear hown3 hgrow hat far e0 e1 e2 e3 e4 e5 hzz
        go_wp2
        go_roundw
        case rel => exact ⟨k + 1, hlt, by go_num, HS.out, HB3.out⟩
        case measure => simp [intOf]; omega
      · have hkn : k = l := by omega
        subst hkn
        obtain ⟨av, cv, rfl⟩ := HBu.out.shape
        have x0 := cell_later HB.out HQ0.out
        have x1 := cell_later HB.out HQ1.out
        have y0 := ((bcell HB.out).2 _ _ (show w.heap.size + 1 < V.heap.size by omega)).trans (HQf.out 0)
        have y1 := ((bcell HB.out).2 _ _ (show w.heap.size + 1 < V.heap.size by omega)).trans (HQf.out 1)
        have hfin := ret_puts (x := .int .i64 0) (below_on HBV.out HB.out) (r := w.heap.size + 1) (by omega) (HBu.out.ow HPsL.out (by omega)) (fun b hb => ⟨by have := hb.1; omega, hb.2⟩)
        have HFin := hide hfin
        clear hfin g0 g1 j1 j2 j3
        go_wp2
        exact bodyPost_ret (v := .agg #[.int .i64 0, .slice av k cv]) (by simp [results, Try.results19, go_sem, x0, x1]) rfl ⟨_, rfl, HFin.out.1, HFin.out.2⟩
  · rw [if_neg h0]
    rw [hn, hm] at HIn
    rw [hn, hm]
    clear hu hv hs hn hm
    generalize inF xss ps = z at HIn h0 ⊢
    go_enter Try.func19, Try.ntmps19
    go_wp2_with fail
    refine (HIn.out _ A0.out).mono ?_
    rintro e w1 ⟨z1, rfl, hb1, ho1⟩
    obtain ⟨a1, k1, rfl⟩ := ho1.shape
    have q0 : w1.cell? ⟨w.heap.size + 1, 0, none⟩ = some (.int .i64 0) := cell_later hb1 (by simp [go_sem])
    have q1 : w1.cell? ⟨w.heap.size + 1, 1, none⟩ = some (.slice none 0 0) := cell_later hb1 (by simp [go_sem])
    have f0 : w1.frozen? ⟨w.heap.size + 1, 0, none⟩ = false := ((bcell hb1).2 _ _ (by simp)).trans (by simp [go_sem])
    have f1 : w1.frozen? ⟨w.heap.size + 1, 1, none⟩ = false := ((bcell hb1).2 _ _ (by simp)).trans (by simp [go_sem])
    have hlt : w.heap.size + 1 < w1.heap.size := World.block_lt_of_cell? _ _ q0
    have HB := hide (below_on A0.out hb1)
    generalize (inA xss ps).length = l
    generalize inS xss ps = s
    generalize inT xss ps = t
    clear hb1 ho1
    go_wp2
    have BA := below_alloc ((w1.setCell ⟨w.heap.size + 1, 0, none⟩ (.int .i64 z)).setCell ⟨w.heap.size + 1, 1, none⟩ (.slice none 0 0)) (.cells #[.int .i64 z, .int .i64 s, .int .i64 t, .slice a1 l k1] 61)
    have m0 := cell_later BA (a := ⟨w.heap.size + 1, 0, none⟩) (v := .int .i64 z) (by simp [go_sem, q0])
    have m1 := cell_later BA (a := ⟨w.heap.size + 1, 1, none⟩) (v := .slice none 0 0) (by simp [go_sem, q1])
    exact bodyPost_ret (v := .agg #[.int .i64 z, .slice none 0 0]) (by simp [results, Try.results19, go_sem, m0, m1]) rfl ⟨_, rfl, ((HB.out.setCell (by simp) _).setCell (by simp) _).trans (BA.mono (by simp; omega)), OwP_nil _ _⟩
end Go.Proofs.Ytbjmmhcbjcngcaa
