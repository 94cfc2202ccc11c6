/- Chapter 2, the model's side: 'spec.l2Right', 'spec.l2Copy', 'spec.NewestOf', walked. Made by program in part. -/
import Derived.Test.YtbjmmhcbjcngcaaSpec2d
namespace Go.Proofs.Ytbjmmhcbjcngcaa
open Go.RowKit

/-- Is a header there, without a fault? -/
def rightB (c s t : Int) (xs : List Int) : Bool := decide (c = 0) && decide (headF s t xs = 0)

set_option maxRecDepth 4000 in
theorem l2Right {S : Nat → Prop} {w : World} {b : Nat} {c s t : Int} {y : Value} {xs : List Int} (hc : w.cell? ⟨b, 0, none⟩ = some (.int .i64 c)) (hd : HdAt w b 1 s t y) (hy : RdI S w y xs) :
    Calls Try.prog 60 #[.pointer (some ⟨b, 0, none⟩)] w fun e w' => e = .returned (.bool (rightB c s t xs)) ∧ w' = w := by
  unfold rightB
  obtain ⟨z, hz⟩ : ∃ z, headF s t xs = z := ⟨_, rfl⟩
  have HF := hide (l2Fault hd hy)
  rw [hz] at HF ⊢
  clear hz hd hy
  by_cases h0 : c = 0
  · subst h0
    by_cases h1 : z = 0
    · subst h1
      go_enter Try.func60, Try.ntmps60
      go_wp2_with fail
      refine HF.out.mono ?_
      rintro e w1 ⟨rfl, rfl⟩
      go_wp2
      go_ret
      exact ⟨by simp, rfl⟩
    · go_enter Try.func60, Try.ntmps60
      go_wp2_with fail
      refine HF.out.mono ?_
      rintro e w1 ⟨rfl, rfl⟩
      go_wp2
      go_ret
      exact ⟨by simp [h1], rfl⟩
  · go_enter Try.func60, Try.ntmps60
    go_wp2
    go_ret
    exact ⟨by simp [h0], rfl⟩

set_option maxHeartbeats 1000000 in
set_option maxRecDepth 4000 in
theorem l2Copy {S : Nat → Prop} {w : World} {y : Value} {xs : List Int} (s t : Int) (hy : RdI S w y xs) (hm : xs.length ≤ 1048576) :
    Calls Try.prog 61 #[.agg #[.int .i64 s, .int .i64 t, y]] w fun e w' => ∃ z, e = .returned (.agg #[.int .i64 s, .int .i64 t, z]) ∧ Below w.heap.size w w' ∧ OwI (w.heap.size + 2) w' z xs := by
  have HY := hide hy
  obtain ⟨ay, cy, rfl⟩ := hy.shape
  obtain ⟨l, hl⟩ : ∃ l, xs.length = l := ⟨_, rfl⟩
  have HL := hide hl
  rw [hl] at HY ⊢
  clear hy hl
  go_enter Try.func61, Try.ntmps61
  go_wp2_with fail
  refine (l1Ints ((HY.out.later (below_alloc _ _)).later (below_alloc _ _)) hm).mono ?_
  rintro e w1 ⟨z, rfl, hb, ho⟩
  obtain ⟨az, cz, rfl⟩ := ho.shape
  rw [HL.out] at ho ⊢
  have c0 : w1.cell? ⟨w.heap.size, 0, none⟩ = some (.int .i64 s) := cell_later hb (by simp [go_sem])
  have c1 : w1.cell? ⟨w.heap.size, 1, none⟩ = some (.int .i64 t) := cell_later hb (by simp [go_sem])
  have c2 : w1.cell? ⟨w.heap.size, 2, none⟩ = some (.slice ay l cy) := cell_later hb (by simp [go_sem])
  have d2 : w1.frozen? ⟨w.heap.size, 2, none⟩ = false := ((bcell hb).2 _ _ (by simp; omega)).trans (by simp [go_sem])
  have v0 : w1.cell? ⟨w.heap.size + 1, 0, none⟩ = some (.int .i64 0) := cell_later hb (by simp [go_sem])
  have v1 : w1.cell? ⟨w.heap.size + 1, 1, none⟩ = some (.int .i64 0) := cell_later hb (by simp [go_sem])
  have v2 : w1.cell? ⟨w.heap.size + 1, 2, none⟩ = some (.slice none 0 0) := cell_later hb (by simp [go_sem])
  have f0 : w1.frozen? ⟨w.heap.size + 1, 0, none⟩ = false := ((bcell hb).2 _ _ (by simp)).trans (by simp [go_sem])
  have f1 : w1.frozen? ⟨w.heap.size + 1, 1, none⟩ = false := ((bcell hb).2 _ _ (by simp)).trans (by simp [go_sem])
  have f2 : w1.frozen? ⟨w.heap.size + 1, 2, none⟩ = false := ((bcell hb).2 _ _ (by simp)).trans (by simp [go_sem])
  have HB := hide (below_on (below_on (below_alloc _ _) (below_alloc _ _)) hb)
  have HO := hide ho
  clear hb ho
  go_wp2
  refine bodyPost_ret (v := .agg #[.int .i64 s, .int .i64 t, .slice az l cz]) (by simp [results, Try.results61, go_sem, v0, v1, v2]) rfl ⟨_, rfl, ?_, ?_⟩
  · repeat (first | refine Below.setCell ?_ (by first | (simp; done) | (simp; omega) | omega) _ | exact HB.out)
  · refine OwI.mono (OwI.wr HO.out (T := fun b => b < w.heap.size + 2) ?_ (fun b hb _ => by simp at hb; omega)) (by simp)
    repeat (first | refine Wr.setCell ?_ (by first | (simp; done) | (simp; omega) | omega) _ | exact Wr.refl _ _)

/-- Which of two results is taken: the first, the second, none. -/
def nwP (ca sa ta : Int) (xa : List Int) (cb sb tb : Int) (xb : List Int) : Nat :=
  if rightB ca sa ta xa = true ∧ (rightB cb sb tb xb = false ∨ sb ≤ sa) then 1 else if rightB cb sb tb xb = true then 2 else 0
def nwF (k : Nat) : Int := if k = 0 then 4 else 0
def nwI (k : Nat) (a b : Int) : Int := if k = 1 then a else if k = 2 then b else 0
def nwA (k : Nat) (xa xb : List Int) : List Int := if k = 1 then xa else if k = 2 then xb else []

set_option maxHeartbeats 4000000 in
set_option maxRecDepth 4000 in
theorem specNewest {S T : Nat → Prop} {w : World} {ya yb : Value} {xa xb : List Int} (ca sa ta cb sb tb : Int) (ha : RdI S w ya xa) (hb : RdI T w yb xb) (hma : xa.length ≤ 1048576) (hmb : xb.length ≤ 1048576) :
    Calls Try.prog 48 #[.agg #[.int .i64 ca, .int .i64 sa, .int .i64 ta, ya], .agg #[.int .i64 cb, .int .i64 sb, .int .i64 tb, yb]] w
      (EndsH (nwF (nwP ca sa ta xa cb sb tb xb)) (nwI (nwP ca sa ta xa cb sb tb xb) sa sb) (nwI (nwP ca sa ta xa cb sb tb xb) ta tb) (nwA (nwP ca sa ta xa cb sb tb xb) xa xb) w) := by
  unfold EndsH
  have HA := hide ha
  have HB := hide hb
  obtain ⟨aa, ka, rfl⟩ := ha.shape
  obtain ⟨ab, kb, rfl⟩ := hb.shape
  obtain ⟨la, hla⟩ : ∃ la, xa.length = la := ⟨_, rfl⟩
  obtain ⟨lb, hlb⟩ : ∃ lb, xb.length = lb := ⟨_, rfl⟩
  have HLa := hide hla
  have HLb := hide hlb
  rw [hla] at HA ⊢
  rw [hlb] at HB ⊢
  clear ha hb hla hlb
  obtain ⟨W, hW⟩ : ∃ W, ((w.alloc (.cells #[.int .i64 ca, .int .i64 sa, .int .i64 ta, .slice aa la ka] 61)).alloc (.cells #[.int .i64 cb, .int .i64 sb, .int .i64 tb, .slice ab lb kb] 61)).alloc (.cells #[.int .i64 0, .int .i64 0, .int .i64 0, .slice none 0 0] 61) = W := ⟨_, rfl⟩
  have BW : Hid (Below w.heap.size w W) := by rw [← hW]; exact below_on (below_on (below_alloc _ _) (below_alloc _ _)) (below_alloc _ _)
  have hWs : W.heap.size = w.heap.size + 3 := by rw [← hW]; simp
  have a0 : W.cell? ⟨w.heap.size, 0, none⟩ = some (.int .i64 ca) := by rw [← hW]; simp [go_sem]
  have a1 : W.cell? ⟨w.heap.size, 1, none⟩ = some (.int .i64 sa) := by rw [← hW]; simp [go_sem]
  have a2 : W.cell? ⟨w.heap.size, 2, none⟩ = some (.int .i64 ta) := by rw [← hW]; simp [go_sem]
  have a3 : W.cell? ⟨w.heap.size, 3, none⟩ = some (.slice aa la ka) := by rw [← hW]; simp [go_sem]
  have b0 : W.cell? ⟨w.heap.size + 1, 0, none⟩ = some (.int .i64 cb) := by rw [← hW]; simp [go_sem]
  have b1 : W.cell? ⟨w.heap.size + 1, 1, none⟩ = some (.int .i64 sb) := by rw [← hW]; simp [go_sem]
  have b2 : W.cell? ⟨w.heap.size + 1, 2, none⟩ = some (.int .i64 tb) := by rw [← hW]; simp [go_sem]
  have b3 : W.cell? ⟨w.heap.size + 1, 3, none⟩ = some (.slice ab lb kb) := by rw [← hW]; simp [go_sem]
  have r0 : W.cell? ⟨w.heap.size + 1 + 1, 0, none⟩ = some (.int .i64 0) := by rw [← hW]; simp [go_sem]
  have r1 : W.cell? ⟨w.heap.size + 1 + 1, 1, none⟩ = some (.int .i64 0) := by rw [← hW]; simp [go_sem]
  have r2 : W.cell? ⟨w.heap.size + 1 + 1, 2, none⟩ = some (.int .i64 0) := by rw [← hW]; simp [go_sem]
  have r3 : W.cell? ⟨w.heap.size + 1 + 1, 3, none⟩ = some (.slice none 0 0) := by rw [← hW]; simp [go_sem]
  have rf : ∀ o, W.frozen? ⟨w.heap.size + 1 + 1, o, none⟩ = false := by rw [← hW]; intro o; simp [go_sem]
  have RA := hide (fun (q : Nat) => l2Right (w := W.drewN q) (b := w.heap.size) a0 ⟨a1, a2, a3⟩ ((HA.out.later BW.out).drewN q))
  have RB := hide (fun (q : Nat) => l2Right (w := W.drewN q) (b := w.heap.size + 1) b0 ⟨b1, b2, b3⟩ ((HB.out.later BW.out).drewN q))
  obtain ⟨pa, hpa⟩ : ∃ pa, rightB ca sa ta xa = pa := ⟨_, rfl⟩
  obtain ⟨pb, hpb⟩ : ∃ pb, rightB cb sb tb xb = pb := ⟨_, rfl⟩
  rw [hpa] at RA
  rw [hpb] at RB
  obtain ⟨k, hk⟩ : ∃ k, nwP ca sa ta xa cb sb tb xb = k := ⟨_, rfl⟩
  have HK : Hid (k = if pa = true ∧ (pb = false ∨ sb ≤ sa) then 1 else if pb = true then 2 else 0) := by unfold Hid; rw [← hk]; unfold nwP; rw [hpa, hpb]
  rw [hk]
  clear hk hpa hpb
  cases pa with
  | true =>
    cases pb with
    | true =>
      by_cases hs : sb ≤ sa
      · have hk1 : k = 1 := by rw [HK.out]; simp [hs]
        subst hk1
        go_enter Try.func48, Try.ntmps48
        go_wp2_with fail
        refine (RA.out 0).mono ?_
        rintro e wy ⟨he, hwy⟩
        rw [he, hwy, show W.drewN 0 = W from rfl]
        clear he hwy
        go_wp2_with fail
        refine (RB.out 0).mono ?_
        rintro e wy ⟨he, hwy⟩
        rw [he, hwy, show W.drewN 0 = W from rfl]
        clear he hwy
        go_wp2_with fail
        refine (l2Copy sa ta (HA.out.later BW.out) hma).mono ?_
        rintro e w1 ⟨z1, rfl, hb1, ho1⟩
        obtain ⟨az, cz, hz1⟩ := ho1.shape
        rw [HLa.out] at hz1
        subst hz1
        have v0 := cell_later hb1 r0
        have v1 := cell_later hb1 r1
        have v2 := cell_later hb1 r2
        have v3 := cell_later hb1 r3
        have y0 := ((bcell hb1).2 _ _ (by omega)).trans (rf 0)
        have y1 := ((bcell hb1).2 _ _ (by omega)).trans (rf 1)
        have y2 := ((bcell hb1).2 _ _ (by omega)).trans (rf 2)
        have y3 := ((bcell hb1).2 _ _ (by omega)).trans (rf 3)
        have HB1 := hide (below_on BW.out hb1)
        have HO1 := hide ho1
        clear hb1 ho1
        go_wp2
        have hfin := ret_head (x := .int .i64 0) (s := .int .i64 sa) (t := .int .i64 ta) HB1.out (r := w.heap.size + 1 + 1) (by omega) HO1.out (by omega) (by omega)
        exact bodyPost_ret (v := .agg #[.int .i64 0, .int .i64 sa, .int .i64 ta, .slice az la cz]) (by simp [results, Try.results48, go_sem, v0, v1, v2, v3]) rfl ⟨_, rfl, hfin.1, hfin.2⟩
      · have hk2 : k = 2 := by rw [HK.out]; simp [hs]
        subst hk2
        go_enter Try.func48, Try.ntmps48
        go_wp2_with fail
        refine (RA.out 0).mono ?_
        rintro e wy ⟨he, hwy⟩
        rw [he, hwy, show W.drewN 0 = W from rfl]
        clear he hwy
        go_wp2_with fail
        refine (RB.out 0).mono ?_
        rintro e wy ⟨he, hwy⟩
        rw [he, hwy, show W.drewN 0 = W from rfl]
        clear he hwy
        go_wp2_with fail
        refine (RB.out 0).mono ?_
        rintro e wy ⟨he, hwy⟩
        rw [he, hwy, show W.drewN 0 = W from rfl]
        clear he hwy
        go_wp2_with fail
        refine (l2Copy sb tb (HB.out.later BW.out) hmb).mono ?_
        rintro e w1 ⟨z1, rfl, hb1, ho1⟩
        obtain ⟨az, cz, hz1⟩ := ho1.shape
        rw [HLb.out] at hz1
        subst hz1
        have v0 := cell_later hb1 r0
        have v1 := cell_later hb1 r1
        have v2 := cell_later hb1 r2
        have v3 := cell_later hb1 r3
        have y0 := ((bcell hb1).2 _ _ (by omega)).trans (rf 0)
        have y1 := ((bcell hb1).2 _ _ (by omega)).trans (rf 1)
        have y2 := ((bcell hb1).2 _ _ (by omega)).trans (rf 2)
        have y3 := ((bcell hb1).2 _ _ (by omega)).trans (rf 3)
        have HB1 := hide (below_on BW.out hb1)
        have HO1 := hide ho1
        clear hb1 ho1
        go_wp2
        have hfin := ret_head (x := .int .i64 0) (s := .int .i64 sb) (t := .int .i64 tb) HB1.out (r := w.heap.size + 1 + 1) (by omega) HO1.out (by omega) (by omega)
        exact bodyPost_ret (v := .agg #[.int .i64 0, .int .i64 sb, .int .i64 tb, .slice az lb cz]) (by simp [results, Try.results48, go_sem, v0, v1, v2, v3]) rfl ⟨_, rfl, hfin.1, hfin.2⟩
    | false =>
      have hk1 : k = 1 := by rw [HK.out]; simp
      subst hk1
      go_enter Try.func48, Try.ntmps48
      go_wp2_with fail
      refine (RA.out 0).mono ?_
      rintro e wy ⟨he, hwy⟩
      rw [he, hwy, show W.drewN 0 = W from rfl]
      clear he hwy
      go_wp2_with fail
      refine (RB.out 0).mono ?_
      rintro e wy ⟨he, hwy⟩
      rw [he, hwy, show W.drewN 0 = W from rfl]
      clear he hwy
      go_wp2_with fail
      refine (l2Copy sa ta (HA.out.later BW.out) hma).mono ?_
      rintro e w1 ⟨z1, rfl, hb1, ho1⟩
      obtain ⟨az, cz, hz1⟩ := ho1.shape
      rw [HLa.out] at hz1
      subst hz1
      have v0 := cell_later hb1 r0
      have v1 := cell_later hb1 r1
      have v2 := cell_later hb1 r2
      have v3 := cell_later hb1 r3
      have y0 := ((bcell hb1).2 _ _ (by omega)).trans (rf 0)
      have y1 := ((bcell hb1).2 _ _ (by omega)).trans (rf 1)
      have y2 := ((bcell hb1).2 _ _ (by omega)).trans (rf 2)
      have y3 := ((bcell hb1).2 _ _ (by omega)).trans (rf 3)
      have HB1 := hide (below_on BW.out hb1)
      have HO1 := hide ho1
      clear hb1 ho1
      go_wp2
      have hfin := ret_head (x := .int .i64 0) (s := .int .i64 sa) (t := .int .i64 ta) HB1.out (r := w.heap.size + 1 + 1) (by omega) HO1.out (by omega) (by omega)
      exact bodyPost_ret (v := .agg #[.int .i64 0, .int .i64 sa, .int .i64 ta, .slice az la cz]) (by simp [results, Try.results48, go_sem, v0, v1, v2, v3]) rfl ⟨_, rfl, hfin.1, hfin.2⟩
  | false =>
    cases pb with
    | true =>
      have hk2 : k = 2 := by rw [HK.out]; simp
      subst hk2
      go_enter Try.func48, Try.ntmps48
      go_wp2_with fail
      refine (RA.out 0).mono ?_
      rintro e wy ⟨he, hwy⟩
      rw [he, hwy, show W.drewN 0 = W from rfl]
      clear he hwy
      go_wp2_with fail
      refine (RB.out 0).mono ?_
      rintro e wy ⟨he, hwy⟩
      rw [he, hwy, show W.drewN 0 = W from rfl]
      clear he hwy
      go_wp2_with fail
      refine (l2Copy sb tb (HB.out.later BW.out) hmb).mono ?_
      rintro e w1 ⟨z1, rfl, hb1, ho1⟩
      obtain ⟨az, cz, hz1⟩ := ho1.shape
      rw [HLb.out] at hz1
      subst hz1
      have v0 := cell_later hb1 r0
      have v1 := cell_later hb1 r1
      have v2 := cell_later hb1 r2
      have v3 := cell_later hb1 r3
      have y0 := ((bcell hb1).2 _ _ (by omega)).trans (rf 0)
      have y1 := ((bcell hb1).2 _ _ (by omega)).trans (rf 1)
      have y2 := ((bcell hb1).2 _ _ (by omega)).trans (rf 2)
      have y3 := ((bcell hb1).2 _ _ (by omega)).trans (rf 3)
      have HB1 := hide (below_on BW.out hb1)
      have HO1 := hide ho1
      clear hb1 ho1
      go_wp2
      have hfin := ret_head (x := .int .i64 0) (s := .int .i64 sb) (t := .int .i64 tb) HB1.out (r := w.heap.size + 1 + 1) (by omega) HO1.out (by omega) (by omega)
      exact bodyPost_ret (v := .agg #[.int .i64 0, .int .i64 sb, .int .i64 tb, .slice az lb cz]) (by simp [results, Try.results48, go_sem, v0, v1, v2, v3]) rfl ⟨_, rfl, hfin.1, hfin.2⟩
    | false =>
      have hk0 : k = 0 := by rw [HK.out]; simp
      subst hk0
      go_enter Try.func48, Try.ntmps48
      go_wp2_with fail
      refine (RA.out 0).mono ?_
      rintro e wy ⟨he, hwy⟩
      rw [he, hwy, show W.drewN 0 = W from rfl]
      clear he hwy
      go_wp2_with fail
      refine (RB.out 0).mono ?_
      rintro e wy ⟨he, hwy⟩
      rw [he, hwy, show W.drewN 0 = W from rfl]
      clear he hwy
      have y0 := rf 0
      have y1 := rf 1
      have y2 := rf 2
      have y3 := rf 3
      go_wp2
      refine bodyPost_ret (v := .agg #[.int .i64 4, .int .i64 0, .int .i64 0, .slice none 0 0]) (by simp [results, Try.results48, go_sem, r0, r1, r2, r3]) rfl ⟨_, rfl, ?_, OwI_nil _ _⟩
      repeat (first | refine Below.setCell ?_ (by first | (simp; done) | (simp; omega) | omega) _ | exact BW.out)

end Go.Proofs.Ytbjmmhcbjcngcaa
