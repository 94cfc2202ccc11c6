/- Chapter 2, the program's side: 'impl.hasHeader', 'impl.copyHeader', 'impl.NewestOf', walked. Made by program (gen2g.py). -/
import Derived.Test.YtbjmmhcbjcngcaaImpl2
import Derived.Test.YtbjmmhcbjcngcaaSpec2e
namespace Go.Proofs.Ytbjmmhcbjcngcaa
open Go.RowKit

set_option maxRecDepth 4000 in
theorem hasHeader {S : Nat → Prop} {w : World} {y : Value} {xs : List Int} (c s t : Int) (hy : RdI S w y xs) :
    Calls Try.prog 64 #[.agg #[.int .i64 c, .int .i64 s, .int .i64 t, y]] w fun e w' => e = .returned (.bool (rightB c s t xs)) ∧ Below w.heap.size w w' := by
  unfold rightB
  have HY := hide hy
  obtain ⟨ay, cy, rfl⟩ := hy.shape
  obtain ⟨n, hn⟩ : ∃ n, xs.length = n := ⟨_, rfl⟩
  rw [hn] at HY ⊢
  clear hy hn
  obtain ⟨z, hz⟩ : ∃ z, headF s t xs = z := ⟨_, rfl⟩
  have A0 := hide (below_alloc w (.cells #[.int .i64 c, .int .i64 s, .int .i64 t, .slice ay n cy] 61))
  have HF := hide (implHeaderFault s t (HY.out.later A0.out))
  rw [hz] at HF ⊢
  clear hz
  by_cases h0 : c = 0
  · subst h0
    by_cases h1 : z = 0
    · subst h1
      go_enter Try.func64, Try.ntmps64
      go_wp2_with fail
      refine HF.out.mono ?_
      rintro e w1 ⟨rfl, hb⟩
      have HB := hide (below_on A0.out hb)
      clear hb
      go_wp2
      go_ret
      exact ⟨by simp, HB.out⟩
    · go_enter Try.func64, Try.ntmps64
      go_wp2_with fail
      refine HF.out.mono ?_
      rintro e w1 ⟨rfl, hb⟩
      have HB := hide (below_on A0.out hb)
      clear hb
      go_wp2
      go_ret
      exact ⟨by simp [h1], HB.out⟩
  · go_enter Try.func64, Try.ntmps64
    go_wp2
    go_ret
    exact ⟨by simp [h0], A0.out⟩

set_option maxHeartbeats 1000000 in
set_option maxRecDepth 4000 in
theorem copyHeader {S : Nat → Prop} {w : World} {y : Value} {xs : List Int} (s t : Int) (hy : RdI S w y xs) (hm : xs.length ≤ 1048576) :
    Calls Try.prog 65 #[.agg #[.int .i64 s, .int .i64 t, y]] w fun e w' => ∃ z, e = .returned (.agg #[.int .i64 s, .int .i64 t, z]) ∧ Below w.heap.size w w' ∧ OwI (w.heap.size + 2) w' z xs := by
  have HY := hide hy
  obtain ⟨ay, cy, rfl⟩ := hy.shape
  obtain ⟨l, hl⟩ : ∃ l, xs.length = l := ⟨_, rfl⟩
  have HL := hide hl
  rw [hl] at HY ⊢
  clear hy hl
  obtain ⟨W, hW⟩ : ∃ W, (w.alloc (.cells #[.int .i64 s, .int .i64 t, .slice ay l cy] 59)).alloc (.cells #[.int .i64 0, .int .i64 0, .slice none 0 0] 59) = W := ⟨_, rfl⟩
  have BW : Hid (Below w.heap.size w W) := by rw [← hW]; exact below_on (below_alloc _ _) (below_alloc _ _)
  have hWs : W.heap.size = w.heap.size + 2 := by rw [← hW]; simp
  have c0 : W.cell? ⟨w.heap.size, 0, none⟩ = some (.int .i64 s) := by rw [← hW]; simp [go_sem]
  have c1 : W.cell? ⟨w.heap.size, 1, none⟩ = some (.int .i64 t) := by rw [← hW]; simp [go_sem]
  have c2 : W.cell? ⟨w.heap.size, 2, none⟩ = some (.slice ay l cy) := by rw [← hW]; simp [go_sem]
  have v0 : W.cell? ⟨w.heap.size + 1, 0, none⟩ = some (.int .i64 0) := by rw [← hW]; simp [go_sem]
  have v1 : W.cell? ⟨w.heap.size + 1, 1, none⟩ = some (.int .i64 0) := by rw [← hW]; simp [go_sem]
  have v2 : W.cell? ⟨w.heap.size + 1, 2, none⟩ = some (.slice none 0 0) := by rw [← hW]; simp [go_sem]
  have vf : ∀ o, W.frozen? ⟨w.heap.size + 1, o, none⟩ = false := by rw [← hW]; intro o; simp [go_sem]
  have hbv : w.heap.size ≠ w.heap.size + 1 := by omega
  go_enter Try.func65, Try.ntmps65
  go_wp2_with fail
  go_region_held3 (fun w' => w'.cell? ⟨w.heap.size, 0, none⟩ = some (.int .i64 s) ∧ w'.cell? ⟨w.heap.size, 1, none⟩ = some (.int .i64 t) ∧ w'.cell? ⟨w.heap.size, 2, none⟩ = some (.slice ay l cy)) (first | exact ⟨c0, c1, c2⟩ | exact ⟨e0, e1, e2⟩ | exact ⟨(set3_far hbv).trans e0, (set3_far hbv).trans e1, (set3_far hbv).trans e2⟩)
    (first | (go_at_call 42; refine (copyWords ((HY.out.later BW.out).drewN 1) hm).mono ?_; rintro e w1 ⟨z, rfl, hb1, ho1⟩; obtain ⟨az, cz, hz1⟩ := ho1.shape; rw [HL.out] at hz1; subst hz1; have e0 := cell_later hb1 c0; have e1 := cell_later hb1 c1; have e2 := cell_later hb1 c2; have x0 := cell_later hb1 v0; have x1 := cell_later hb1 v1; have x2 := cell_later hb1 v2; have y0 := ((bcell hb1).2 _ _ (show w.heap.size + 1 < W.heap.size by omega)).trans (vf 0); have y1 := ((bcell hb1).2 _ _ (show w.heap.size + 1 < W.heap.size by omega)).trans (vf 1); have y2 := ((bcell hb1).2 _ _ (show w.heap.size + 1 < W.heap.size by omega)).trans (vf 2); have HB := hide (below_on BW.out (below_on (below_drewN _ 1) hb1)); have HO := hide ho1; clear hb1 ho1))
  go_wp2
  refine bodyPost_ret (v := .agg #[.int .i64 s, .int .i64 t, .slice az l cz]) (by simp [results, Try.results65, go_sem, x0, x1, x2]) rfl ⟨_, rfl, ?_, ?_⟩
  · repeat (first | refine Below.setCell ?_ (by first | (simp; done) | (simp; omega) | omega) _ | exact HB.out)
  · refine OwI.mono (OwI.wr HO.out (T := fun b => b < w.heap.size + 2) ?_ (fun b hb _ => by simp at hb; omega)) (by simp; omega)
    repeat (first | refine Wr.setCell ?_ (by first | (simp; done) | (simp; omega) | omega) _ | exact Wr.refl _ _)

/-- What 'NewestOf' keeps while it asks. -/
structure NwAt (w : World) (ca sa ta : Int) (ya : Value) (cb sb tb : Int) (yb : Value) (W : World) : Prop where
  below : Below w.heap.size w W
  size : w.heap.size + 3 ≤ W.heap.size
  a0 : W.cell? ⟨w.heap.size, 0, none⟩ = some (.int .i64 ca)
  ah : HdAt W w.heap.size 1 sa ta ya
  b0 : W.cell? ⟨w.heap.size + 1, 0, none⟩ = some (.int .i64 cb)
  bh : HdAt W (w.heap.size + 1) 1 sb tb yb
  r0 : W.cell? ⟨w.heap.size + 1 + 1, 0, none⟩ = some (.int .i64 0)
  rh : HdAt W (w.heap.size + 1 + 1) 1 0 0 (.slice none 0 0)
  rf : ∀ o, W.frozen? ⟨w.heap.size + 1 + 1, o, none⟩ = false
theorem NwAt.later {w W W' : World} {ca sa ta cb sb tb : Int} {ya yb : Value} (h : NwAt w ca sa ta ya cb sb tb yb W) (hb : Below W.heap.size W W') : NwAt w ca sa ta ya cb sb tb yb W' :=
  ⟨below_on h.below hb, Nat.le_trans h.size hb.size, cell_later hb h.a0, h.ah.later hb, cell_later hb h.b0, h.bh.later hb, cell_later hb h.r0, h.rh.later hb, fun o => ((bcell hb).2 _ _ (by have := h.size; omega)).trans (h.rf o)⟩

set_option maxHeartbeats 4000000 in
set_option maxRecDepth 4000 in
theorem implNewest {S T : Nat → Prop} {w : World} {ya yb : Value} {xa xb : List Int} (ca sa ta cb sb tb : Int) (ha : RdI S w ya xa) (hb : RdI T w yb xb) (hma : xa.length ≤ 1048576) (hmb : xb.length ≤ 1048576) :
    Calls Try.prog 52 #[.agg #[.int .i64 ca, .int .i64 sa, .int .i64 ta, ya], .agg #[.int .i64 cb, .int .i64 sb, .int .i64 tb, yb]] w
      (EndsH (nwF (nwP ca sa ta xa cb sb tb xb)) (nwI (nwP ca sa ta xa cb sb tb xb) sa sb) (nwI (nwP ca sa ta xa cb sb tb xb) ta tb) (nwA (nwP ca sa ta xa cb sb tb xb) xa xb) w) := by
  unfold EndsH
  have HA := hide ha
  have HB := hide hb
  obtain ⟨aa, ka, rfl⟩ := ha.shape
  obtain ⟨ab, kb, rfl⟩ := hb.shape
  obtain ⟨la, hla⟩ : ∃ la, xa.length = la := ⟨_, rfl⟩
  obtain ⟨lb, hlb⟩ : ∃ lb, xb.length = lb := ⟨_, rfl⟩
  have HLa := hide hla
  have HLb := hide hlb
  rw [hla] at HA ⊢
  rw [hlb] at HB ⊢
  clear ha hb hla hlb
  have HN0 : Hid (NwAt w ca sa ta (.slice aa la ka) cb sb tb (.slice ab lb kb) (((w.alloc (.cells #[.int .i64 ca, .int .i64 sa, .int .i64 ta, .slice aa la ka] 61)).alloc (.cells #[.int .i64 cb, .int .i64 sb, .int .i64 tb, .slice ab lb kb] 61)).alloc (.cells #[.int .i64 0, .int .i64 0, .int .i64 0, .slice none 0 0] 61))) :=
    ⟨below_on (below_on (below_alloc _ _) (below_alloc _ _)) (below_alloc _ _), by simp, by simp [go_sem], ⟨by simp [go_sem], by simp [go_sem], by simp [go_sem]⟩, by simp [go_sem], ⟨by simp [go_sem], by simp [go_sem], by simp [go_sem]⟩, by simp [go_sem], ⟨by simp [go_sem], by simp [go_sem], by simp [go_sem]⟩, fun o => by simp [go_sem]⟩
  have RA := hide (fun (W : World) (h : NwAt w ca sa ta (.slice aa la ka) cb sb tb (.slice ab lb kb) W) => hasHeader ca sa ta (HA.out.later h.below))
  have RB := hide (fun (W : World) (h : NwAt w ca sa ta (.slice aa la ka) cb sb tb (.slice ab lb kb) W) => hasHeader cb sb tb (HB.out.later h.below))
  obtain ⟨pa, hpa⟩ : ∃ pa, rightB ca sa ta xa = pa := ⟨_, rfl⟩
  obtain ⟨pb, hpb⟩ : ∃ pb, rightB cb sb tb xb = pb := ⟨_, rfl⟩
  rw [hpa] at RA
  rw [hpb] at RB
  obtain ⟨k, hk⟩ : ∃ k, nwP ca sa ta xa cb sb tb xb = k := ⟨_, rfl⟩
  have HK : Hid (k = if pa = true ∧ (pb = false ∨ sb ≤ sa) then 1 else if pb = true then 2 else 0) := by unfold Hid; rw [← hk]; unfold nwP; rw [hpa, hpb]
  rw [hk]
  clear hk hpa hpb
  cases pb with
  | false =>
    cases pa with
    | true =>
      have hk : k = 1 := by rw [HK.out]; simp
      subst hk
      go_enter Try.func52, Try.ntmps52
      go_wp2_with fail
      refine (RB.out _ HN0.out).mono ?_
      rintro e w1 ⟨rfl, hb1⟩
      have HN := hide (HN0.out.later hb1)
      clear hb1
      have a0 := HN.out.a0
      have a1 := HN.out.ah.seq
      have a2 := HN.out.ah.start
      have a3 := HN.out.ah.addrs
      have b0 := HN.out.b0
      have b1 := HN.out.bh.seq
      have b2 := HN.out.bh.start
      have b3 := HN.out.bh.addrs
      skip
      go_wp2_with fail
      refine (RA.out _ HN.out).mono ?_
      rintro e w2 ⟨rfl, hb1⟩
      have HN2 := hide (HN.out.later hb1)
      clear hb1
      clear a0 a1 a2 a3 b0 b1 b2 b3
      clear HN
      have HN := HN2
      clear HN2
      have a0 := HN.out.a0
      have a1 := HN.out.ah.seq
      have a2 := HN.out.ah.start
      have a3 := HN.out.ah.addrs
      have b0 := HN.out.b0
      have b1 := HN.out.bh.seq
      have b2 := HN.out.bh.start
      have b3 := HN.out.bh.addrs
      skip
      go_wp2_with fail
      refine (copyHeader sa ta (HA.out.later HN.out.below) hma).mono ?_
      rintro e w9 ⟨z1, rfl, hb1, ho1⟩
      obtain ⟨az, cz, hz1⟩ := ho1.shape
      rw [HLa.out] at hz1
      subst hz1
      have hsz := HN.out.size
      have HN2 := hide (HN.out.later hb1)
      have HO1 := hide ho1
      clear hb1 ho1
      clear a0 a1 a2 a3 b0 b1 b2 b3
      have v0 := HN2.out.r0
      have v1 := HN2.out.rh.seq
      have v2 := HN2.out.rh.start
      have v3 := HN2.out.rh.addrs
      have y0 := HN2.out.rf 0
      have y1 := HN2.out.rf 1
      have y2 := HN2.out.rf 2
      have y3 := HN2.out.rf 3
      go_wp2
      have hfin := ret_head (x := .int .i64 0) (s := .int .i64 sa) (t := .int .i64 ta) HN2.out.below (r := w.heap.size + 1 + 1) (by omega) HO1.out (by omega) (by omega)
      exact bodyPost_ret (v := .agg #[.int .i64 0, .int .i64 sa, .int .i64 ta, .slice az la cz]) (by simp [results, Try.results52, go_sem, v0, v1, v2, v3]) rfl ⟨_, rfl, hfin.1, hfin.2⟩
    | false =>
      have hk : k = 0 := by rw [HK.out]; simp
      subst hk
      go_enter Try.func52, Try.ntmps52
      go_wp2_with fail
      refine (RB.out _ HN0.out).mono ?_
      rintro e w1 ⟨rfl, hb1⟩
      have HN := hide (HN0.out.later hb1)
      clear hb1
      have a0 := HN.out.a0
      have a1 := HN.out.ah.seq
      have a2 := HN.out.ah.start
      have a3 := HN.out.ah.addrs
      have b0 := HN.out.b0
      have b1 := HN.out.bh.seq
      have b2 := HN.out.bh.start
      have b3 := HN.out.bh.addrs
      skip
      go_wp2_with fail
      refine (RA.out _ HN.out).mono ?_
      rintro e w3 ⟨rfl, hb1⟩
      have HN2 := hide (HN.out.later hb1)
      clear hb1
      clear a0 a1 a2 a3 b0 b1 b2 b3
      clear HN
      have HN := HN2
      clear HN2
      have v0 := HN.out.r0
      have v1 := HN.out.rh.seq
      have v2 := HN.out.rh.start
      have v3 := HN.out.rh.addrs
      have y0 := HN.out.rf 0
      have y1 := HN.out.rf 1
      have y2 := HN.out.rf 2
      have y3 := HN.out.rf 3
      go_wp2
      refine bodyPost_ret (v := .agg #[.int .i64 4, .int .i64 0, .int .i64 0, .slice none 0 0]) (by simp [results, Try.results52, go_sem, v0, v1, v2, v3]) rfl ⟨_, rfl, ?_, OwI_nil _ _⟩
      repeat (first | refine Below.setCell ?_ (by first | (simp; done) | (simp; omega) | omega) _ | exact HN.out.below)
  | true =>
    cases pa with
    | false =>
      have hk : k = 2 := by rw [HK.out]; simp
      subst hk
      go_enter Try.func52, Try.ntmps52
      go_wp2_with fail
      refine (RB.out _ HN0.out).mono ?_
      rintro e w1 ⟨rfl, hb1⟩
      have HN := hide (HN0.out.later hb1)
      clear hb1
      have a0 := HN.out.a0
      have a1 := HN.out.ah.seq
      have a2 := HN.out.ah.start
      have a3 := HN.out.ah.addrs
      have b0 := HN.out.b0
      have b1 := HN.out.bh.seq
      have b2 := HN.out.bh.start
      have b3 := HN.out.bh.addrs
      skip
      go_wp2_with fail
      refine (RA.out _ HN.out).mono ?_
      rintro e w2 ⟨rfl, hb1⟩
      have HN2 := hide (HN.out.later hb1)
      clear hb1
      clear a0 a1 a2 a3 b0 b1 b2 b3
      clear HN
      have HN := HN2
      clear HN2
      have a0 := HN.out.a0
      have a1 := HN.out.ah.seq
      have a2 := HN.out.ah.start
      have a3 := HN.out.ah.addrs
      have b0 := HN.out.b0
      have b1 := HN.out.bh.seq
      have b2 := HN.out.bh.start
      have b3 := HN.out.bh.addrs
      skip
      go_wp2_with fail
      refine (copyHeader sb tb (HB.out.later HN.out.below) hmb).mono ?_
      rintro e w9 ⟨z1, rfl, hb1, ho1⟩
      obtain ⟨az, cz, hz1⟩ := ho1.shape
      rw [HLb.out] at hz1
      subst hz1
      have hsz := HN.out.size
      have HN2 := hide (HN.out.later hb1)
      have HO1 := hide ho1
      clear hb1 ho1
      clear a0 a1 a2 a3 b0 b1 b2 b3
      have v0 := HN2.out.r0
      have v1 := HN2.out.rh.seq
      have v2 := HN2.out.rh.start
      have v3 := HN2.out.rh.addrs
      have y0 := HN2.out.rf 0
      have y1 := HN2.out.rf 1
      have y2 := HN2.out.rf 2
      have y3 := HN2.out.rf 3
      go_wp2
      have hfin := ret_head (x := .int .i64 0) (s := .int .i64 sb) (t := .int .i64 tb) HN2.out.below (r := w.heap.size + 1 + 1) (by omega) HO1.out (by omega) (by omega)
      exact bodyPost_ret (v := .agg #[.int .i64 0, .int .i64 sb, .int .i64 tb, .slice az lb cz]) (by simp [results, Try.results52, go_sem, v0, v1, v2, v3]) rfl ⟨_, rfl, hfin.1, hfin.2⟩
    | true =>
      by_cases hs : sb ≤ sa
      · have hs2 : ¬ sa < sb := by omega
        have hk : k = 1 := by rw [HK.out]; simp [hs]
        subst hk
        go_enter Try.func52, Try.ntmps52
        go_wp2_with fail
        refine (RB.out _ HN0.out).mono ?_
        rintro e w1 ⟨rfl, hb1⟩
        have HN := hide (HN0.out.later hb1)
        clear hb1
        have a0 := HN.out.a0
        have a1 := HN.out.ah.seq
        have a2 := HN.out.ah.start
        have a3 := HN.out.ah.addrs
        have b0 := HN.out.b0
        have b1 := HN.out.bh.seq
        have b2 := HN.out.bh.start
        have b3 := HN.out.bh.addrs
        skip
        go_wp2_with fail
        refine (RA.out _ HN.out).mono ?_
        rintro e w2 ⟨rfl, hb1⟩
        have HN2 := hide (HN.out.later hb1)
        clear hb1
        clear a0 a1 a2 a3 b0 b1 b2 b3
        clear HN
        have HN := HN2
        clear HN2
        have a0 := HN.out.a0
        have a1 := HN.out.ah.seq
        have a2 := HN.out.ah.start
        have a3 := HN.out.ah.addrs
        have b0 := HN.out.b0
        have b1 := HN.out.bh.seq
        have b2 := HN.out.bh.start
        have b3 := HN.out.bh.addrs
        skip
        go_wp2_with fail
        refine (RA.out _ HN.out).mono ?_
        rintro e w3 ⟨rfl, hb1⟩
        have HN2 := hide (HN.out.later hb1)
        clear hb1
        clear a0 a1 a2 a3 b0 b1 b2 b3
        clear HN
        have HN := HN2
        clear HN2
        have a0 := HN.out.a0
        have a1 := HN.out.ah.seq
        have a2 := HN.out.ah.start
        have a3 := HN.out.ah.addrs
        have b0 := HN.out.b0
        have b1 := HN.out.bh.seq
        have b2 := HN.out.bh.start
        have b3 := HN.out.bh.addrs
        skip
        go_wp2_with fail
        refine (copyHeader sa ta (HA.out.later HN.out.below) hma).mono ?_
        rintro e w9 ⟨z1, rfl, hb1, ho1⟩
        obtain ⟨az, cz, hz1⟩ := ho1.shape
        rw [HLa.out] at hz1
        subst hz1
        have hsz := HN.out.size
        have HN2 := hide (HN.out.later hb1)
        have HO1 := hide ho1
        clear hb1 ho1
        clear a0 a1 a2 a3 b0 b1 b2 b3
        have v0 := HN2.out.r0
        have v1 := HN2.out.rh.seq
        have v2 := HN2.out.rh.start
        have v3 := HN2.out.rh.addrs
        have y0 := HN2.out.rf 0
        have y1 := HN2.out.rf 1
        have y2 := HN2.out.rf 2
        have y3 := HN2.out.rf 3
        go_wp2
        have hfin := ret_head (x := .int .i64 0) (s := .int .i64 sa) (t := .int .i64 ta) HN2.out.below (r := w.heap.size + 1 + 1) (by omega) HO1.out (by omega) (by omega)
        exact bodyPost_ret (v := .agg #[.int .i64 0, .int .i64 sa, .int .i64 ta, .slice az la cz]) (by simp [results, Try.results52, go_sem, v0, v1, v2, v3]) rfl ⟨_, rfl, hfin.1, hfin.2⟩
      · have hs2 : sa < sb := by omega
        have hk : k = 2 := by rw [HK.out]; simp [hs]
        subst hk
        go_enter Try.func52, Try.ntmps52
        go_wp2_with fail
        refine (RB.out _ HN0.out).mono ?_
        rintro e w1 ⟨rfl, hb1⟩
        have HN := hide (HN0.out.later hb1)
        clear hb1
        have a0 := HN.out.a0
        have a1 := HN.out.ah.seq
        have a2 := HN.out.ah.start
        have a3 := HN.out.ah.addrs
        have b0 := HN.out.b0
        have b1 := HN.out.bh.seq
        have b2 := HN.out.bh.start
        have b3 := HN.out.bh.addrs
        skip
        go_wp2_with fail
        refine (RA.out _ HN.out).mono ?_
        rintro e w2 ⟨rfl, hb1⟩
        have HN2 := hide (HN.out.later hb1)
        clear hb1
        clear a0 a1 a2 a3 b0 b1 b2 b3
        clear HN
        have HN := HN2
        clear HN2
        have a0 := HN.out.a0
        have a1 := HN.out.ah.seq
        have a2 := HN.out.ah.start
        have a3 := HN.out.ah.addrs
        have b0 := HN.out.b0
        have b1 := HN.out.bh.seq
        have b2 := HN.out.bh.start
        have b3 := HN.out.bh.addrs
        skip
        go_wp2_with fail
        refine (copyHeader sb tb (HB.out.later HN.out.below) hmb).mono ?_
        rintro e w9 ⟨z1, rfl, hb1, ho1⟩
        obtain ⟨az, cz, hz1⟩ := ho1.shape
        rw [HLb.out] at hz1
        subst hz1
        have hsz := HN.out.size
        have HN2 := hide (HN.out.later hb1)
        have HO1 := hide ho1
        clear hb1 ho1
        clear a0 a1 a2 a3 b0 b1 b2 b3
        have v0 := HN2.out.r0
        have v1 := HN2.out.rh.seq
        have v2 := HN2.out.rh.start
        have v3 := HN2.out.rh.addrs
        have y0 := HN2.out.rf 0
        have y1 := HN2.out.rf 1
        have y2 := HN2.out.rf 2
        have y3 := HN2.out.rf 3
        go_wp2
        have hfin := ret_head (x := .int .i64 0) (s := .int .i64 sb) (t := .int .i64 tb) HN2.out.below (r := w.heap.size + 1 + 1) (by omega) HO1.out (by omega) (by omega)
        exact bodyPost_ret (v := .agg #[.int .i64 0, .int .i64 sb, .int .i64 tb, .slice az lb cz]) (by simp [results, Try.results52, go_sem, v0, v1, v2, v3]) rfl ⟨_, rfl, hfin.1, hfin.2⟩
end Go.Proofs.Ytbjmmhcbjcngcaa
