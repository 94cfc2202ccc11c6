/- Impl2g BlockAt2 Spec2f in one text: what each says stands at its head below. -/
import Derived.Test.YtlmaopljihbdkaaGreatG18
import Derived.Test.YtlmaopljihbdkaaGreatG24
import Derived.Test.YtlmaopljihbdkaaGreatG21
import Derived.Test.YtlmaopljihbdkaaGreatG04
namespace Go.Proofs.YtlmaopljihbdkaaGreat
open Go.RowKit
set_option maxRecDepth 4000 in
theorem hasHeader {S : Nat → Prop} {w : World} {y : Value} {xs : List Int} (c s t : Int) (hy : RdI S w y xs) :
    Calls Tryz.prog 208 #[.agg #[.int .i64 c, .int .i64 s, .int .i64 t, y]] w fun e w' => e = .returned (.bool (rightB c s t xs)) ∧ Below w.heap.size w w' := by
  unfold rightB
  have HY := hide hy
  obtain ⟨ay, cy, rfl⟩ := hy.shape
  obtain ⟨n, hn⟩ : ∃ n, xs.length = n := ⟨_, rfl⟩
  rw [hn] at HY ⊢
  clear hy hn
  obtain ⟨z, hz⟩ : ∃ z, headF s t xs = z := ⟨_, rfl⟩
  have A0 := hide (below_alloc w (.cells #[.int .i64 c, .int .i64 s, .int .i64 t, .slice ay n cy] 180))
  have HF := hide (implHeaderFault s t (HY.out.later A0.out))
  rw [hz] at HF ⊢
  clear hz
  by_cases h0 : c = 0
  · subst h0
    by_cases h1 : z = 0
    · subst h1
      go_enter Tryz.func208, Tryz.ntmps208
      go_wp2_with fail
      refine HF.out.mono ?_
      rintro e w1 ⟨rfl, hb⟩
      have HB := hide (below_on A0.out hb)
      clear hb
      go_wp2
      go_ret
      exact ⟨by simp, HB.out⟩
    · go_enter Tryz.func208, Tryz.ntmps208
      go_wp2_with fail
      refine HF.out.mono ?_
      rintro e w1 ⟨rfl, hb⟩
      have HB := hide (below_on A0.out hb)
      clear hb
      go_wp2
      go_ret
      exact ⟨by simp [h1], HB.out⟩
  · go_enter Tryz.func208, Tryz.ntmps208
    go_wp2
    go_ret
    exact ⟨by simp [h0], A0.out⟩
set_option maxHeartbeats 1000000 in
set_option maxRecDepth 4000 in
theorem copyHeader {S : Nat → Prop} {w : World} {y : Value} {xs : List Int} (s t : Int) (hy : RdI S w y xs) (hm : xs.length ≤ 1048576) :
    Calls Tryz.prog 209 #[.agg #[.int .i64 s, .int .i64 t, y]] w fun e w' => ∃ z, e = .returned (.agg #[.int .i64 s, .int .i64 t, z]) ∧ Below w.heap.size w w' ∧ OwI (w.heap.size + 2) w' z xs := by
  have HY := hide hy
  obtain ⟨ay, cy, rfl⟩ := hy.shape
  obtain ⟨l, hl⟩ : ∃ l, xs.length = l := ⟨_, rfl⟩
  have HL := hide hl
  rw [hl] at HY ⊢
  clear hy hl
  obtain ⟨W, hW⟩ : ∃ W, (w.alloc (.cells #[.int .i64 s, .int .i64 t, .slice ay l cy] 178)).alloc (.cells #[.int .i64 0, .int .i64 0, .slice none 0 0] 178) = W := ⟨_, rfl⟩
  have BW : Hid (Below w.heap.size w W) := by rw [← hW]; exact below_on (below_alloc _ _) (below_alloc _ _)
  have hWs : W.heap.size = w.heap.size + 2 := by rw [← hW]; simp
  have c0 : W.cell? ⟨w.heap.size, 0, none⟩ = some (.int .i64 s) := by rw [← hW]; simp [go_sem]
  have c1 : W.cell? ⟨w.heap.size, 1, none⟩ = some (.int .i64 t) := by rw [← hW]; simp [go_sem]
  have c2 : W.cell? ⟨w.heap.size, 2, none⟩ = some (.slice ay l cy) := by rw [← hW]; simp [go_sem]
  have v0 : W.cell? ⟨w.heap.size + 1, 0, none⟩ = some (.int .i64 0) := by rw [← hW]; simp [go_sem]
  have v1 : W.cell? ⟨w.heap.size + 1, 1, none⟩ = some (.int .i64 0) := by rw [← hW]; simp [go_sem]
  have v2 : W.cell? ⟨w.heap.size + 1, 2, none⟩ = some (.slice none 0 0) := by rw [← hW]; simp [go_sem]
  have vf : ∀ o, W.frozen? ⟨w.heap.size + 1, o, none⟩ = false := by rw [← hW]; intro o; simp [go_sem]
  have hbv : w.heap.size ≠ w.heap.size + 1 := by omega
  go_enter Tryz.func209, Tryz.ntmps209
  go_wp2_with fail
  go_region_held3 (fun w' => w'.cell? ⟨w.heap.size, 0, none⟩ = some (.int .i64 s) ∧ w'.cell? ⟨w.heap.size, 1, none⟩ = some (.int .i64 t) ∧ w'.cell? ⟨w.heap.size, 2, none⟩ = some (.slice ay l cy)) (first | exact ⟨c0, c1, c2⟩ | exact ⟨e0, e1, e2⟩ | exact ⟨(set3_far hbv).trans e0, (set3_far hbv).trans e1, (set3_far hbv).trans e2⟩)
    (first | (go_at_call 134; refine (copyWords ((HY.out.later BW.out).drewN 1) hm).mono ?_; rintro e w1 ⟨z, rfl, hb1, ho1⟩; obtain ⟨az, cz, hz1⟩ := ho1.shape; rw [HL.out] at hz1; subst hz1; have e0 := cell_later hb1 c0; have e1 := cell_later hb1 c1; have e2 := cell_later hb1 c2; have x0 := cell_later hb1 v0; have x1 := cell_later hb1 v1; have x2 := cell_later hb1 v2; have y0 := ((bcell hb1).2 _ _ (show w.heap.size + 1 < W.heap.size by omega)).trans (vf 0); have y1 := ((bcell hb1).2 _ _ (show w.heap.size + 1 < W.heap.size by omega)).trans (vf 1); have y2 := ((bcell hb1).2 _ _ (show w.heap.size + 1 < W.heap.size by omega)).trans (vf 2); have HB := hide (below_on BW.out (below_on (below_drewN _ 1) hb1)); have HO := hide ho1; clear hb1 ho1))
  go_wp2
  refine bodyPost_ret (v := .agg #[.int .i64 s, .int .i64 t, .slice az l cz]) (by simp [results, Tryz.results209, go_sem, x0, x1, x2]) rfl ⟨_, rfl, ?_, ?_⟩
  · repeat (first | refine Below.setCell ?_ (by first | (simp; done) | (simp; omega) | omega) _ | exact HB.out)
  · refine OwI.mono (OwI.wr HO.out (T := fun b => b < w.heap.size + 2) ?_ (fun b hb _ => by simp at hb; omega)) (by simp; omega)
    repeat (first | refine Wr.setCell ?_ (by first | (simp; done) | (simp; omega) | omega) _ | exact Wr.refl _ _)
structure NwAt (w : World) (ca sa ta : Int) (ya : Value) (cb sb tb : Int) (yb : Value) (W : World) : Prop where
  below : Below w.heap.size w W
  size : w.heap.size + 3 ≤ W.heap.size
  a0 : W.cell? ⟨w.heap.size, 0, none⟩ = some (.int .i64 ca)
  ah : HdAt W w.heap.size 1 sa ta ya
  b0 : W.cell? ⟨w.heap.size + 1, 0, none⟩ = some (.int .i64 cb)
  bh : HdAt W (w.heap.size + 1) 1 sb tb yb
  r0 : W.cell? ⟨w.heap.size + 1 + 1, 0, none⟩ = some (.int .i64 0)
  rh : HdAt W (w.heap.size + 1 + 1) 1 0 0 (.slice none 0 0)
  rf : ∀ o, W.frozen? ⟨w.heap.size + 1 + 1, o, none⟩ = false
theorem NwAt.later {w W W' : World} {ca sa ta cb sb tb : Int} {ya yb : Value} (h : NwAt w ca sa ta ya cb sb tb yb W) (hb : Below W.heap.size W W') : NwAt w ca sa ta ya cb sb tb yb W' :=
  ⟨below_on h.below hb, Nat.le_trans h.size hb.size, cell_later hb h.a0, h.ah.later hb, cell_later hb h.b0, h.bh.later hb, cell_later hb h.r0, h.rh.later hb, fun o => ((bcell hb).2 _ _ (by have := h.size; omega)).trans (h.rf o)⟩
set_option maxHeartbeats 4000000 in
set_option maxRecDepth 4000 in
theorem implNewest {S T : Nat → Prop} {w : World} {ya yb : Value} {xa xb : List Int} (ca sa ta cb sb tb : Int) (ha : RdI S w ya xa) (hb : RdI T w yb xb) (hma : xa.length ≤ 1048576) (hmb : xb.length ≤ 1048576) :
    Calls Tryz.prog 184 #[.agg #[.int .i64 ca, .int .i64 sa, .int .i64 ta, ya], .agg #[.int .i64 cb, .int .i64 sb, .int .i64 tb, yb]] w
      (EndsH (nwF (nwP ca sa ta xa cb sb tb xb)) (nwI (nwP ca sa ta xa cb sb tb xb) sa sb) (nwI (nwP ca sa ta xa cb sb tb xb) ta tb) (nwA (nwP ca sa ta xa cb sb tb xb) xa xb) w) := by
  unfold EndsH
  have HA := hide ha
  have HB := hide hb
  obtain ⟨aa, ka, rfl⟩ := ha.shape
  obtain ⟨ab, kb, rfl⟩ := hb.shape
  obtain ⟨la, hla⟩ : ∃ la, xa.length = la := ⟨_, rfl⟩
  obtain ⟨lb, hlb⟩ : ∃ lb, xb.length = lb := ⟨_, rfl⟩
  have HLa := hide hla
  have HLb := hide hlb
  rw [hla] at HA ⊢
  rw [hlb] at HB ⊢
  clear ha hb hla hlb
  have HN0 : Hid (NwAt w ca sa ta (.slice aa la ka) cb sb tb (.slice ab lb kb) (((w.alloc (.cells #[.int .i64 ca, .int .i64 sa, .int .i64 ta, .slice aa la ka] 180)).alloc (.cells #[.int .i64 cb, .int .i64 sb, .int .i64 tb, .slice ab lb kb] 180)).alloc (.cells #[.int .i64 0, .int .i64 0, .int .i64 0, .slice none 0 0] 180))) :=
    ⟨below_on (below_on (below_alloc _ _) (below_alloc _ _)) (below_alloc _ _), by simp, by simp [go_sem], ⟨by simp [go_sem], by simp [go_sem], by simp [go_sem]⟩, by simp [go_sem], ⟨by simp [go_sem], by simp [go_sem], by simp [go_sem]⟩, by simp [go_sem], ⟨by simp [go_sem], by simp [go_sem], by simp [go_sem]⟩, fun o => by simp [go_sem]⟩
  have RA := hide (fun (W : World) (h : NwAt w ca sa ta (.slice aa la ka) cb sb tb (.slice ab lb kb) W) => hasHeader ca sa ta (HA.out.later h.below))
  have RB := hide (fun (W : World) (h : NwAt w ca sa ta (.slice aa la ka) cb sb tb (.slice ab lb kb) W) => hasHeader cb sb tb (HB.out.later h.below))
  obtain ⟨pa, hpa⟩ : ∃ pa, rightB ca sa ta xa = pa := ⟨_, rfl⟩
  obtain ⟨pb, hpb⟩ : ∃ pb, rightB cb sb tb xb = pb := ⟨_, rfl⟩
  rw [hpa] at RA
  rw [hpb] at RB
  obtain ⟨k, hk⟩ : ∃ k, nwP ca sa ta xa cb sb tb xb = k := ⟨_, rfl⟩
  have HK : Hid (k = if pa = true ∧ (pb = false ∨ sb ≤ sa) then 1 else if pb = true then 2 else 0) := by unfold Hid; rw [← hk]; unfold nwP; rw [hpa, hpb]
  rw [hk]
  clear hk hpa hpb
  cases pb with
  | false =>
    cases pa with
    | true =>
      have hk : k = 1 := by rw [HK.out]; simp
      subst hk
      go_enter Tryz.func184, Tryz.ntmps184
      go_wp2_with fail
      refine (RB.out _ HN0.out).mono ?_
      rintro e w1 ⟨rfl, hb1⟩
      have HN := hide (HN0.out.later hb1)
      clear hb1
      have a0 := HN.out.a0
      have a1 := HN.out.ah.seq
      have a2 := HN.out.ah.start
      have a3 := HN.out.ah.addrs
      have b0 := HN.out.b0
      have b1 := HN.out.bh.seq
      have b2 := HN.out.bh.start
      have b3 := HN.out.bh.addrs
      skip
      go_wp2_with fail
      refine (RA.out _ HN.out).mono ?_
      rintro e w2 ⟨rfl, hb1⟩
      have HN2 := hide (HN.out.later hb1)
      clear hb1
      clear a0 a1 a2 a3 b0 b1 b2 b3
      clear HN
      have HN := HN2
      clear HN2
      have a0 := HN.out.a0
      have a1 := HN.out.ah.seq
      have a2 := HN.out.ah.start
      have a3 := HN.out.ah.addrs
      have b0 := HN.out.b0
      have b1 := HN.out.bh.seq
      have b2 := HN.out.bh.start
      have b3 := HN.out.bh.addrs
      skip
      go_wp2_with fail
      refine (copyHeader sa ta (HA.out.later HN.out.below) hma).mono ?_
      rintro e w9 ⟨z1, rfl, hb1, ho1⟩
      obtain ⟨az, cz, hz1⟩ := ho1.shape
      rw [HLa.out] at hz1
      subst hz1
      have hsz := HN.out.size
      have HN2 := hide (HN.out.later hb1)
      have HO1 := hide ho1
      clear hb1 ho1
      clear a0 a1 a2 a3 b0 b1 b2 b3
      have v0 := HN2.out.r0
      have v1 := HN2.out.rh.seq
      have v2 := HN2.out.rh.start
      have v3 := HN2.out.rh.addrs
      have y0 := HN2.out.rf 0
      have y1 := HN2.out.rf 1
      have y2 := HN2.out.rf 2
      have y3 := HN2.out.rf 3
      go_wp2
      have hfin := ret_head (x := .int .i64 0) (s := .int .i64 sa) (t := .int .i64 ta) HN2.out.below (r := w.heap.size + 1 + 1) (by omega) HO1.out (by omega) (by omega)
      exact bodyPost_ret (v := .agg #[.int .i64 0, .int .i64 sa, .int .i64 ta, .slice az la cz]) (by simp [results, Tryz.results184, go_sem, v0, v1, v2, v3]) rfl ⟨_, rfl, hfin.1, hfin.2⟩
    | false =>
      have hk : k = 0 := by rw [HK.out]; simp
      subst hk
      go_enter Tryz.func184, Tryz.ntmps184
      go_wp2_with fail
      refine (RB.out _ HN0.out).mono ?_
      rintro e w1 ⟨rfl, hb1⟩
      have HN := hide (HN0.out.later hb1)
      clear hb1
      have a0 := HN.out.a0
      have a1 := HN.out.ah.seq
      have a2 := HN.out.ah.start
      have a3 := HN.out.ah.addrs
      have b0 := HN.out.b0
      have b1 := HN.out.bh.seq
      have b2 := HN.out.bh.start
      have b3 := HN.out.bh.addrs
      skip
      go_wp2_with fail
      refine (RA.out _ HN.out).mono ?_
      rintro e w3 ⟨rfl, hb1⟩
      have HN2 := hide (HN.out.later hb1)
      clear hb1
      clear a0 a1 a2 a3 b0 b1 b2 b3
      clear HN
      have HN := HN2
      clear HN2
      have v0 := HN.out.r0
      have v1 := HN.out.rh.seq
      have v2 := HN.out.rh.start
      have v3 := HN.out.rh.addrs
      have y0 := HN.out.rf 0
      have y1 := HN.out.rf 1
      have y2 := HN.out.rf 2
      have y3 := HN.out.rf 3
      go_wp2
      refine bodyPost_ret (v := .agg #[.int .i64 4, .int .i64 0, .int .i64 0, .slice none 0 0]) (by simp [results, Tryz.results184, go_sem, v0, v1, v2, v3]) rfl ⟨_, rfl, ?_, OwI_nil _ _⟩
      repeat (first | refine Below.setCell ?_ (by first | (simp; done) | (simp; omega) | omega) _ | exact HN.out.below)
  | true =>
    cases pa with
    | false =>
      have hk : k = 2 := by rw [HK.out]; simp
      subst hk
      go_enter Tryz.func184, Tryz.ntmps184
      go_wp2_with fail
      refine (RB.out _ HN0.out).mono ?_
      rintro e w1 ⟨rfl, hb1⟩
      have HN := hide (HN0.out.later hb1)
      clear hb1
      have a0 := HN.out.a0
      have a1 := HN.out.ah.seq
      have a2 := HN.out.ah.start
      have a3 := HN.out.ah.addrs
      have b0 := HN.out.b0
      have b1 := HN.out.bh.seq
      have b2 := HN.out.bh.start
      have b3 := HN.out.bh.addrs
      skip
      go_wp2_with fail
      refine (RA.out _ HN.out).mono ?_
      rintro e w2 ⟨rfl, hb1⟩
      have HN2 := hide (HN.out.later hb1)
      clear hb1
      clear a0 a1 a2 a3 b0 b1 b2 b3
      clear HN
      have HN := HN2
      clear HN2
      have a0 := HN.out.a0
      have a1 := HN.out.ah.seq
      have a2 := HN.out.ah.start
      have a3 := HN.out.ah.addrs
      have b0 := HN.out.b0
      have b1 := HN.out.bh.seq
      have b2 := HN.out.bh.start
      have b3 := HN.out.bh.addrs
      skip
      go_wp2_with fail
      refine (copyHeader sb tb (HB.out.later HN.out.below) hmb).mono ?_
      rintro e w9 ⟨z1, rfl, hb1, ho1⟩
      obtain ⟨az, cz, hz1⟩ := ho1.shape
      rw [HLb.out] at hz1
      subst hz1
      have hsz := HN.out.size
      have HN2 := hide (HN.out.later hb1)
      have HO1 := hide ho1
      clear hb1 ho1
      clear a0 a1 a2 a3 b0 b1 b2 b3
      have v0 := HN2.out.r0
      have v1 := HN2.out.rh.seq
      have v2 := HN2.out.rh.start
      have v3 := HN2.out.rh.addrs
      have y0 := HN2.out.rf 0
      have y1 := HN2.out.rf 1
      have y2 := HN2.out.rf 2
      have y3 := HN2.out.rf 3
      go_wp2
      have hfin := ret_head (x := .int .i64 0) (s := .int .i64 sb) (t := .int .i64 tb) HN2.out.below (r := w.heap.size + 1 + 1) (by omega) HO1.out (by omega) (by omega)
      exact bodyPost_ret (v := .agg #[.int .i64 0, .int .i64 sb, .int .i64 tb, .slice az lb cz]) (by simp [results, Tryz.results184, go_sem, v0, v1, v2, v3]) rfl ⟨_, rfl, hfin.1, hfin.2⟩
    | true =>
      by_cases hs : sb ≤ sa
      · have hs2 : ¬ sa < sb := by omega
        have hk : k = 1 := by rw [HK.out]; simp [hs]
        subst hk
        go_enter Tryz.func184, Tryz.ntmps184
        go_wp2_with fail
        refine (RB.out _ HN0.out).mono ?_
        rintro e w1 ⟨rfl, hb1⟩
        have HN := hide (HN0.out.later hb1)
        clear hb1
        have a0 := HN.out.a0
        have a1 := HN.out.ah.seq
        have a2 := HN.out.ah.start
        have a3 := HN.out.ah.addrs
        have b0 := HN.out.b0
        have b1 := HN.out.bh.seq
        have b2 := HN.out.bh.start
        have b3 := HN.out.bh.addrs
        skip
        go_wp2_with fail
        refine (RA.out _ HN.out).mono ?_
        rintro e w2 ⟨rfl, hb1⟩
        have HN2 := hide (HN.out.later hb1)
        clear hb1
        clear a0 a1 a2 a3 b0 b1 b2 b3
        clear HN
        have HN := HN2
        clear HN2
        have a0 := HN.out.a0
        have a1 := HN.out.ah.seq
        have a2 := HN.out.ah.start
        have a3 := HN.out.ah.addrs
        have b0 := HN.out.b0
        have b1 := HN.out.bh.seq
        have b2 := HN.out.bh.start
        have b3 := HN.out.bh.addrs
        skip
        go_wp2_with fail
        refine (RA.out _ HN.out).mono ?_
        rintro e w3 ⟨rfl, hb1⟩
        have HN2 := hide (HN.out.later hb1)
        clear hb1
        clear a0 a1 a2 a3 b0 b1 b2 b3
        clear HN
        have HN := HN2
        clear HN2
        have a0 := HN.out.a0
        have a1 := HN.out.ah.seq
        have a2 := HN.out.ah.start
        have a3 := HN.out.ah.addrs
        have b0 := HN.out.b0
        have b1 := HN.out.bh.seq
        have b2 := HN.out.bh.start
        have b3 := HN.out.bh.addrs
        skip
        go_wp2_with fail
        refine (copyHeader sa ta (HA.out.later HN.out.below) hma).mono ?_
        rintro e w9 ⟨z1, rfl, hb1, ho1⟩
        obtain ⟨az, cz, hz1⟩ := ho1.shape
        rw [HLa.out] at hz1
        subst hz1
        have hsz := HN.out.size
        have HN2 := hide (HN.out.later hb1)
        have HO1 := hide ho1
        clear hb1 ho1
        clear a0 a1 a2 a3 b0 b1 b2 b3
        have v0 := HN2.out.r0
        have v1 := HN2.out.rh.seq
        have v2 := HN2.out.rh.start
        have v3 := HN2.out.rh.addrs
        have y0 := HN2.out.rf 0
        have y1 := HN2.out.rf 1
        have y2 := HN2.out.rf 2
        have y3 := HN2.out.rf 3
        go_wp2
        have hfin := ret_head (x := .int .i64 0) (s := .int .i64 sa) (t := .int .i64 ta) HN2.out.below (r := w.heap.size + 1 + 1) (by omega) HO1.out (by omega) (by omega)
        exact bodyPost_ret (v := .agg #[.int .i64 0, .int .i64 sa, .int .i64 ta, .slice az la cz]) (by simp [results, Tryz.results184, go_sem, v0, v1, v2, v3]) rfl ⟨_, rfl, hfin.1, hfin.2⟩
      · have hs2 : sa < sb := by omega
        have hk : k = 2 := by rw [HK.out]; simp [hs]
        subst hk
        go_enter Tryz.func184, Tryz.ntmps184
        go_wp2_with fail
        refine (RB.out _ HN0.out).mono ?_
        rintro e w1 ⟨rfl, hb1⟩
        have HN := hide (HN0.out.later hb1)
        clear hb1
        have a0 := HN.out.a0
        have a1 := HN.out.ah.seq
        have a2 := HN.out.ah.start
        have a3 := HN.out.ah.addrs
        have b0 := HN.out.b0
        have b1 := HN.out.bh.seq
        have b2 := HN.out.bh.start
        have b3 := HN.out.bh.addrs
        skip
        go_wp2_with fail
        refine (RA.out _ HN.out).mono ?_
        rintro e w2 ⟨rfl, hb1⟩
        have HN2 := hide (HN.out.later hb1)
        clear hb1
        clear a0 a1 a2 a3 b0 b1 b2 b3
        clear HN
        have HN := HN2
        clear HN2
        have a0 := HN.out.a0
        have a1 := HN.out.ah.seq
        have a2 := HN.out.ah.start
        have a3 := HN.out.ah.addrs
        have b0 := HN.out.b0
        have b1 := HN.out.bh.seq
        have b2 := HN.out.bh.start
        have b3 := HN.out.bh.addrs
        skip
        go_wp2_with fail
        refine (copyHeader sb tb (HB.out.later HN.out.below) hmb).mono ?_
        rintro e w9 ⟨z1, rfl, hb1, ho1⟩
        obtain ⟨az, cz, hz1⟩ := ho1.shape
        rw [HLb.out] at hz1
        subst hz1
        have hsz := HN.out.size
        have HN2 := hide (HN.out.later hb1)
        have HO1 := hide ho1
        clear hb1 ho1
        clear a0 a1 a2 a3 b0 b1 b2 b3
        have v0 := HN2.out.r0
        have v1 := HN2.out.rh.seq
        have v2 := HN2.out.rh.start
        have v3 := HN2.out.rh.addrs
        have y0 := HN2.out.rf 0
        have y1 := HN2.out.rf 1
        have y2 := HN2.out.rf 2
        have y3 := HN2.out.rf 3
        go_wp2
        have hfin := ret_head (x := .int .i64 0) (s := .int .i64 sb) (t := .int .i64 tb) HN2.out.below (r := w.heap.size + 1 + 1) (by omega) HO1.out (by omega) (by omega)
        exact bodyPost_ret (v := .agg #[.int .i64 0, .int .i64 sb, .int .i64 tb, .slice az lb cz]) (by simp [results, Tryz.results184, go_sem, v0, v1, v2, v3]) rfl ⟨_, rfl, hfin.1, hfin.2⟩
end Go.Proofs.YtlmaopljihbdkaaGreat
namespace Go.Proofs.YtlmaopljihbdkaaGreat
open Go.RowKit
theorem l1At_cells {S T : Nat → Prop} (xss : List (List Int)) (ps : List (Int × List Int)) (n m bd : Nat) (ao ao' : Option Addr) (c c' : Nat) (w : World) (at_ : Int) (hn : xss.length = n) (hm : ps.length = m) (hm' : m ≤ 9223372036854775807)
    (hd0 : w.cell? ⟨bd, 0, none⟩ = some (.slice ao n c)) (hd1 : w.cell? ⟨bd, 1, none⟩ = some (.slice ao' m c'))
    (hu : RdII S w (.slice ao n c) xss) (hv : RdP T w (.slice ao' m c') ps) (ha1 : 0 ≤ at_) (ha2 : at_ < (n : Int)) :
    Calls Tryz.prog 181 #[.pointer (some ⟨bd, 0, none⟩), .int .i64 at_] w fun e w' => ∃ z, e = .returned z ∧ (∃ q, w' = w.drewN q) ∧ RdI (fun _ => True) w' z (blkToD xss ps at_ m) := by
  have HU := hide hu
  have HV := hide hv
  have HN := hide hn
  have HM := hide hm
  clear hu hv hn hm
  go_enter Tryz.func181, Tryz.ntmps181
  go_wp2
  go_loopw [5] (fun i wr => ∃ k : Nat, k ≤ m ∧ i = .int .i64 ((k : Int) - 1) ∧ Hid (blkToD xss ps at_ m = blkToD xss ps at_ k) ∧ wr = w) (fun i _ => (intOf i + 1).toNat)
  case atStart => exact ⟨m, Nat.le_refl _, rfl, rfl, rfl⟩
  case round =>
    obtain ⟨k, hk, rfl, HK, rfl⟩ := hrel
    cases k with
    | zero =>
      obtain ⟨b, off, V, rfl, g1, g2⟩ := HU.out.at (k := at_.toNat) (by rw [HN.out]; omega)
      have R := hide g2
      clear g2
      go_wp2
      go_ret
      exact ⟨V, rfl, ⟨0, rfl⟩, by rw [HK.out]; exact R.out.narrow fun _ _ _ => trivial⟩
    | succ k =>
      obtain ⟨b, off, V, rfl, g1, g2, gR⟩ := HV.out.at (k := k) (by rw [HM.out]; omega)
      have R := hide gR
      obtain ⟨x, hx⟩ : ∃ x, (ps.getD k (0, [])).1 = x := ⟨_, rfl⟩
      rw [hx] at g1
      have e : (((k + 1 : Nat) : Int) - 1) = (k : Int) := by omega
      rw [e]
      have hkl : k < m := by omega
      clear e gR hk
      by_cases hxa : x = at_
      · subst hxa
        have HK2 : Hid (blkToD xss ps x m = (ps.getD k (0, [])).2) := by rw [Hid, HK.out]; unfold blkToD; rw [if_pos hx]
        clear hx
        go_wp2
        go_ret
        exact ⟨V, rfl, ⟨0, rfl⟩, by rw [HK2.out]; exact R.out.narrow fun _ _ _ => trivial⟩
      · have HK2 : Hid (blkToD xss ps at_ m = blkToD xss ps at_ k) := by rw [Hid, HK.out]; show (if (ps.getD k (0, [])).1 = at_ then _ else _) = _; rw [if_neg (by rw [hx]; exact hxa)]
        clear hx
        go_wp2
        go_roundw
        case rel => exact ⟨k, by omega, by go_num, HK2.out, by simp⟩
        case measure => simp [intOf]
end Go.Proofs.YtlmaopljihbdkaaGreat
namespace Go.Proofs.YtlmaopljihbdkaaGreat
open Go.RowKit
def sideF (ws : List Int) (at_ : Int) : Int := if unpF ws = 0 then (if unpS ws % 2 = at_ then 0 else 5) else unpF ws
def sideS (ws : List Int) (at_ : Int) : Int := if unpF ws = 0 ∧ unpS ws % 2 ≠ at_ then 0 else unpS ws
def sideT (ws : List Int) (at_ : Int) : Int := if unpF ws = 0 ∧ unpS ws % 2 ≠ at_ then 0 else unpT ws
def sideA (ws : List Int) (at_ : Int) : List Int := if unpF ws = 0 ∧ unpS ws % 2 ≠ at_ then [] else unpA ws
theorem unp_pos {ws : List Int} (h : unpF ws = 0) : 0 ≤ unpS ws := by
  unfold unpS
  rw [if_pos h]
  unfold unpF at h
  split at h
  · split at h
    · rename_i h1 h2
      have := ((okUb_iff ws).1 h2).2.2.1
      have := (headF_zero this).1
      omega
    · exact absurd h (by decide)
  · rename_i h1
    exact absurd h h1
theorem unpA_len (ws : List Int) (hw : ws.length ≤ 1048576) : (unpA ws).length ≤ 1048576 := by
  unfold unpA
  split
  · unfold addrsOf; simp; omega
  · simp
theorem sideA_len (ws : List Int) (at_ : Int) (hw : ws.length ≤ 1048576) : (sideA ws at_).length ≤ 1048576 := by
  unfold sideA
  split
  · simp
  · exact unpA_len ws hw
set_option maxHeartbeats 4000000 in
set_option maxRecDepth 4000 in
theorem l2Side {S T : Nat → Prop} {w : World} {bd : Nat} {u v : Value} {xss : List (List Int)} {ps : List (Int × List Int)} (at_ : Int) (hd0 : w.cell? ⟨bd, 0, none⟩ = some u) (hd1 : w.cell? ⟨bd, 1, none⟩ = some v) (hu : RdII S w u xss) (hv : RdP T w v ps) (ha1 : 0 ≤ at_) (ha2 : at_ < (xss.length : Int)) :
    Calls Tryz.prog 204 #[.pointer (some ⟨bd, 0, none⟩), .int .i64 at_] w (EndsH (sideF (blkToD xss ps at_ ps.length) at_) (sideS (blkToD xss ps at_ ps.length) at_) (sideT (blkToD xss ps at_ ps.length) at_) (sideA (blkToD xss ps at_ ps.length) at_) w) := by
  unfold EndsH
  have hm : ps.length ≤ 9223372036854775807 := by obtain ⟨_, _, _, h⟩ := hv.shape; exact h
  have A0 := hide (below_alloc w (.cells #[.int .i64 0, .int .i64 0, .int .i64 0, .slice none 0 0] 180))
  obtain ⟨ao, cu, rfl, _⟩ := hu.shape
  obtain ⟨ao', cv, rfl, _⟩ := hv.shape
  have HAt := hide (l1At_cells xss ps xss.length ps.length bd ao ao' cu cv _ at_ rfl rfl hm (cell_later A0.out hd0) (cell_later A0.out hd1) (hu.later A0.out) (hv.later A0.out) ha1 ha2)
  obtain ⟨ws, hws⟩ : ∃ ws, blkToD xss ps at_ ps.length = ws := ⟨_, rfl⟩
  rw [hws] at HAt ⊢
  obtain ⟨c, hc⟩ : ∃ c, unpF ws = c := ⟨_, rfl⟩
  obtain ⟨s, hs⟩ : ∃ s, unpS ws = s := ⟨_, rfl⟩
  obtain ⟨t, ht⟩ : ∃ t, unpT ws = t := ⟨_, rfl⟩
  obtain ⟨A, hA⟩ : ∃ A, unpA ws = A := ⟨_, rfl⟩
  have HUn := hide (fun (S : Nat → Prop) (w : World) (y : Value) (hy : RdI S w y ws) => specUnpack hy)
  rw [hc, hs, ht, hA] at HUn
  have HPos : Hid (c = 0 → 0 ≤ s) := by unfold Hid; rw [← hc, ← hs]; exact unp_pos
  obtain ⟨x, hx⟩ : ∃ x, sideF ws at_ = x := ⟨_, rfl⟩
  obtain ⟨s1, hs1⟩ : ∃ s1, sideS ws at_ = s1 := ⟨_, rfl⟩
  obtain ⟨t1, ht1⟩ : ∃ t1, sideT ws at_ = t1 := ⟨_, rfl⟩
  obtain ⟨A1, hA1⟩ : ∃ A1, sideA ws at_ = A1 := ⟨_, rfl⟩
  rw [hx, hs1, ht1, hA1]
  unfold sideF at hx
  unfold sideS at hs1
  unfold sideT at ht1
  unfold sideA at hA1
  rw [hc, hs] at hx hs1
  rw [hc, hs, ht] at ht1
  rw [hc, hs, hA] at hA1
  have HX := hide hx
  have HS1 := hide hs1
  have HT1 := hide ht1
  have HA1 := hide hA1
  clear hx hs1 ht1 hA1 hc hs ht hA hws hu hv hm ha1 ha2 hd0 hd1
  go_enter Tryz.func204, Tryz.ntmps204
  go_wp2_with fail
  refine HAt.out.mono ?_
  rintro e w1 ⟨z1, rfl, ⟨q, rfl⟩, hr1⟩
  have HR1 := hide hr1
  clear hr1
  go_wp2_with fail
  refine (HUn.out _ _ _ HR1.out).mono ?_
  rintro e w2 ⟨z2, rfl, hb2, ho2⟩
  obtain ⟨az, cz, rfl⟩ := ho2.shape
  obtain ⟨l, hl⟩ : ∃ l, A.length = l := ⟨_, rfl⟩
  rw [hl] at ho2 ⊢
  have v0 : w2.cell? ⟨w.heap.size, 0, none⟩ = some (.int .i64 0) := cell_later hb2 (by simp [go_sem])
  have v1 : w2.cell? ⟨w.heap.size, 1, none⟩ = some (.int .i64 0) := cell_later hb2 (by simp [go_sem])
  have v2 : w2.cell? ⟨w.heap.size, 2, none⟩ = some (.int .i64 0) := cell_later hb2 (by simp [go_sem])
  have v3 : w2.cell? ⟨w.heap.size, 3, none⟩ = some (.slice none 0 0) := cell_later hb2 (by simp [go_sem])
  have f : ∀ o, w2.frozen? ⟨w.heap.size, o, none⟩ = false := fun o => ((bcell hb2).2 _ _ (by simp)).trans (by simp [go_sem])
  have hsz : w.heap.size < w2.heap.size := by have := hb2.size; simp at this; omega
  have y0 := f 0
  have y1 := f 1
  have y2 := f 2
  have y3 := f 3
  have HB := hide (below_on A0.out (below_on (below_drewN _ q) hb2))
  have HO : Hid (OwI (w.heap.size + 1) w2 (.slice az l cz) A) := ho2.mono (by simp)
  clear hb2 ho2 f hl
  by_cases hc0 : c = 0
  · subst hc0
    have hs0 := HPos.out rfl
    have hmod : Int.tmod s 2 = s % 2 := Int.tmod_eq_emod_of_nonneg hs0
    by_cases hat : s % 2 = at_
    · have e1 : x = 0 := by rw [← HX.out, if_pos rfl, if_pos hat]
      have e2 : s1 = s := by rw [← HS1.out, if_neg (fun h => h.2 hat)]
      have e3 : t1 = t := by rw [← HT1.out, if_neg (fun h => h.2 hat)]
      have e4 : A1 = A := by rw [← HA1.out, if_neg (fun h => h.2 hat)]
      subst e1 e2 e3 e4
      clear HX HS1 HT1 HA1
      go_wp2
      have BA := below_alloc ((((w2.setCell ⟨w.heap.size, 0, none⟩ (.int .i64 0)).setCell ⟨w.heap.size, 1, none⟩ (.int .i64 s1)).setCell ⟨w.heap.size, 2, none⟩ (.int .i64 t1)).setCell ⟨w.heap.size, 3, none⟩ (.slice az l cz)) (.cells #[.int .i64 0, .int .i64 s1, .int .i64 t1, .slice az l cz] 180)
      have m0 := cell_later BA (a := ⟨w.heap.size, 0, none⟩) (v := .int .i64 0) (by simp [go_sem, v0])
      have m1 := cell_later BA (a := ⟨w.heap.size, 1, none⟩) (v := .int .i64 s1) (by simp [go_sem, v1])
      have m2 := cell_later BA (a := ⟨w.heap.size, 2, none⟩) (v := .int .i64 t1) (by simp [go_sem, v2])
      have m3 := cell_later BA (a := ⟨w.heap.size, 3, none⟩) (v := .slice az l cz) (by simp [go_sem, v3])
      have hfin := ret_head (x := .int .i64 0) (s := .int .i64 s1) (t := .int .i64 t1) HB.out (r := w.heap.size) (Nat.le_refl _) HO.out (by omega) (by omega)
      exact bodyPost_ret (v := .agg #[.int .i64 0, .int .i64 s1, .int .i64 t1, .slice az l cz]) (by simp [results, Tryz.results204, go_sem, m0, m1, m2, m3]) rfl ⟨_, rfl, hfin.1.trans (BA.mono (by simp; omega)), hfin.2.later BA⟩
    · have e1 : x = 5 := by rw [← HX.out, if_pos rfl, if_neg hat]
      have e2 : s1 = 0 := by rw [← HS1.out, if_pos ⟨rfl, hat⟩]
      have e3 : t1 = 0 := by rw [← HT1.out, if_pos ⟨rfl, hat⟩]
      have e4 : A1 = [] := by rw [← HA1.out, if_pos ⟨rfl, hat⟩]
      subst e1 e2 e3 e4
      clear HX HS1 HT1 HA1
      go_wp2
      have BA := below_alloc ((((w2.setCell ⟨w.heap.size, 0, none⟩ (.int .i64 5)).setCell ⟨w.heap.size, 1, none⟩ (.int .i64 0)).setCell ⟨w.heap.size, 2, none⟩ (.int .i64 0)).setCell ⟨w.heap.size, 3, none⟩ (.slice none 0 0)) (.cells #[.int .i64 0, .int .i64 s, .int .i64 t, .slice az l cz] 180)
      have m0 := cell_later BA (a := ⟨w.heap.size, 0, none⟩) (v := .int .i64 5) (by simp [go_sem, v0])
      have m1 := cell_later BA (a := ⟨w.heap.size, 1, none⟩) (v := .int .i64 0) (by simp [go_sem, v1])
      have m2 := cell_later BA (a := ⟨w.heap.size, 2, none⟩) (v := .int .i64 0) (by simp [go_sem, v2])
      have m3 := cell_later BA (a := ⟨w.heap.size, 3, none⟩) (v := .slice none 0 0) (by simp [go_sem, v3])
      have hfin := ret_head (x := .int .i64 5) (s := .int .i64 0) (t := .int .i64 0) HB.out (r := w.heap.size) (Nat.le_refl _) (OwI_nil (w.heap.size + 1) w2) (by omega) (by omega)
      exact bodyPost_ret (v := .agg #[.int .i64 5, .int .i64 0, .int .i64 0, .slice none 0 0]) (by simp [results, Tryz.results204, go_sem, m0, m1, m2, m3]) rfl ⟨_, rfl, hfin.1.trans (BA.mono (by simp; omega)), hfin.2.later BA⟩
  · have e1 : x = c := by rw [← HX.out, if_neg hc0]
    have e2 : s1 = s := by rw [← HS1.out, if_neg (fun h => hc0 h.1)]
    have e3 : t1 = t := by rw [← HT1.out, if_neg (fun h => hc0 h.1)]
    have e4 : A1 = A := by rw [← HA1.out, if_neg (fun h => hc0 h.1)]
    subst e1 e2 e3 e4
    clear HX HS1 HT1 HA1
    go_wp2
    have BA := below_alloc ((((w2.setCell ⟨w.heap.size, 0, none⟩ (.int .i64 x)).setCell ⟨w.heap.size, 1, none⟩ (.int .i64 s1)).setCell ⟨w.heap.size, 2, none⟩ (.int .i64 t1)).setCell ⟨w.heap.size, 3, none⟩ (.slice az l cz)) (.cells #[.int .i64 x, .int .i64 s1, .int .i64 t1, .slice az l cz] 180)
    have m0 := cell_later BA (a := ⟨w.heap.size, 0, none⟩) (v := .int .i64 x) (by simp [go_sem, v0])
    have m1 := cell_later BA (a := ⟨w.heap.size, 1, none⟩) (v := .int .i64 s1) (by simp [go_sem, v1])
    have m2 := cell_later BA (a := ⟨w.heap.size, 2, none⟩) (v := .int .i64 t1) (by simp [go_sem, v2])
    have m3 := cell_later BA (a := ⟨w.heap.size, 3, none⟩) (v := .slice az l cz) (by simp [go_sem, v3])
    have hfin := ret_head (x := .int .i64 x) (s := .int .i64 s1) (t := .int .i64 t1) HB.out (r := w.heap.size) (Nat.le_refl _) HO.out (by omega) (by omega)
    exact bodyPost_ret (v := .agg #[.int .i64 x, .int .i64 s1, .int .i64 t1, .slice az l cz]) (by simp [results, Tryz.results204, go_sem, m0, m1, m2, m3]) rfl ⟨_, rfl, hfin.1.trans (BA.mono (by simp; omega)), hfin.2.later BA⟩
end Go.Proofs.YtlmaopljihbdkaaGreat
