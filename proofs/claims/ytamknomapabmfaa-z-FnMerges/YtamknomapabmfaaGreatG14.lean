/- Run1 DrawP in one text: what each says stands at its head below. -/
import Derived.Test.YtamknomapabmfaaGreatG12
import Derived.Test.YtamknomapabmfaaGreatG13
import Derived.Deep.RegionLaw
import Derived.Test.YtamknomapabmfaaGreatG10
import Derived.Test.YtamknomapabmfaaGreatG06
/- Chapter 3, the model's side: 'l3Run': steps run on a disk without a fault leave one without a fault. -/
namespace Go.Proofs.YtamknomapabmfaaGreat
open Go.RowKit

theorem RdT.at {S : Nat → Prop} {w : World} {ao : Option Addr} {n c k : Nat} {ts : List St} (h : RdT S w (.slice ao n c) ts) (hk : k < ts.length) : ∃ b off V, ao = some ⟨b, off, none⟩ ∧ w.cell? ⟨b, off + k * 3, none⟩ = some (.bool (ts.getD k st0).1) ∧ w.cell? ⟨b, off + k * 3 + 1, none⟩ = some (.int .i64 (ts.getD k st0).2.1) ∧ w.cell? ⟨b, off + k * 3 + 2, none⟩ = some V ∧ RdI S w V (ts.getD k st0).2.2 := by
  obtain ⟨ao', c', e, _, h3⟩ := h
  injection e with e1 e2 e3
  obtain ⟨b, off, V, f1, _, f3⟩ := h3 (by rintro rfl; simp at hk)
  exact ⟨b, off, V k, e1.trans f1, f3 k hk⟩
/-- What the loop knows: the disk in the variable O, beside the result's. -/
structure RunAt (w : World) (O : Nat) (x : Int) (u v : Value) (xss : List (List Int)) (ps : List (Int × List Int)) (wr : World) : Prop where
  below : Below w.heap.size w wr
  o : w.heap.size + 1 < O ∧ O < wr.heap.size
  c0 : wr.cell? ⟨O, 0, none⟩ = some (.int .i64 x)
  c1 : wr.cell? ⟨O, 1, none⟩ = some u
  c2 : wr.cell? ⟨O, 2, none⟩ = some v
  of : ∀ o, wr.frozen? ⟨O, o, none⟩ = false
  r0 : wr.cell? ⟨w.heap.size + 1, 0, none⟩ = some (.int .i64 0)
  r1 : wr.cell? ⟨w.heap.size + 1, 1, none⟩ = some (.slice none 0 0)
  r2 : wr.cell? ⟨w.heap.size + 1, 2, none⟩ = some (.slice none 0 0)
  rf : ∀ o, wr.frozen? ⟨w.heap.size + 1, o, none⟩ = false
  rd : RdII (fun b => w.heap.size ≤ b ∧ b ≠ O ∧ b ≠ w.heap.size + 1) wr u xss
  rp : RdP (fun b => w.heap.size ≤ b ∧ b ≠ O ∧ b ≠ w.heap.size + 1) wr v ps
  so : Sound xss ps
theorem RdII.monoR {S T : Nat → Prop} {w : World} {v : Value} {xss : List (List Int)} (h : RdII S w v xss) (hT : ∀ b, S b → T b) : RdII T w v xss := h.keep (fun _ _ => rfl) hT
theorem RdP.monoR {S T : Nat → Prop} {w : World} {v : Value} {ps : List (Int × List Int)} (h : RdP S w v ps) (hT : ∀ b, S b → T b) : RdP T w v ps := h.keep (fun _ _ => rfl) hT
/-- A store of three cells into O. -/
theorem RunAt.next {w : World} {O : Nat} {u v z1 z2 : Value} {xss yss : List (List Int)} {ps qs : List (Int × List Int)} {wr w' : World} {B : Nat} (h : RunAt w O 0 u v xss ps wr) (hb : Below wr.heap.size wr w') (ho : OwD B w' z1 z2 yss qs) (hB : wr.heap.size ≤ B) (hs : Sound yss qs) (x : Int) :
    (RunAt w O x z1 z2 yss qs (((w'.setCell ⟨O, 0, none⟩ (.int .i64 x)).setCell ⟨O, 1, none⟩ z1).setCell ⟨O, 2, none⟩ z2)) ∧
    RunAt w O 0 z1 z2 yss qs ((w'.setCell ⟨O, 1, none⟩ z1).setCell ⟨O, 2, none⟩ z2) := by
  have ho1 := h.o
  have hsz := hb.size
  have a0 := cell_later hb h.c0
  have a1 := cell_later hb h.c1
  have a2 := cell_later hb h.c2
  have b0 := cell_later hb h.r0
  have b1 := cell_later hb h.r1
  have b2 := cell_later hb h.r2
  have fo : ∀ o, w'.frozen? ⟨O, o, none⟩ = false := fun o => ((bcell hb).2 _ _ (by omega)).trans (h.of o)
  have fr : ∀ o, w'.frozen? ⟨w.heap.size + 1, o, none⟩ = false := fun o => ((bcell hb).2 _ _ (by omega)).trans (h.rf o)
  have hbw := below_on h.below hb
  have hws := h.below.size
  obtain ⟨S, T, k1, k2, _, k4, k5⟩ := ho
  have kr := k4.rd
  have kp := k5.rd
  have key : ∀ w6, Wr (fun b => b = O) w' w6 → RdII (fun b => w.heap.size ≤ b ∧ b ≠ O ∧ b ≠ w.heap.size + 1) w6 z1 yss ∧ RdP (fun b => w.heap.size ≤ b ∧ b ≠ O ∧ b ≠ w.heap.size + 1) w6 z2 qs := fun w6 hw =>
    ⟨(kr.wr hw (fun b hb' e => by have := k1 b hb'; omega)).monoR fun b hb' => by have := k1 b hb'; omega, (kp.wr hw (fun b hb' e => by have := k2 b hb'; omega)).monoR fun b hb' => by have := k2 b hb'; omega⟩
  constructor
  · have hw : Wr (fun b => b = O) w' (((w'.setCell ⟨O, 0, none⟩ (.int .i64 x)).setCell ⟨O, 1, none⟩ z1).setCell ⟨O, 2, none⟩ z2) := (((Wr.refl (fun b => b = O) _).setCell (p := ⟨O, 0, none⟩) rfl _).setCell (p := ⟨O, 1, none⟩) rfl _).setCell (p := ⟨O, 2, none⟩) rfl _
    obtain ⟨q1, q2⟩ := key _ hw
    exact ⟨((hbw.setCell (p := ⟨O, 0, none⟩) (by dsimp only; omega) _).setCell (p := ⟨O, 1, none⟩) (by dsimp only; omega) _).setCell (p := ⟨O, 2, none⟩) (by dsimp only; omega) _, ⟨ho1.1, by simp; omega⟩, by simp [go_sem, a0], by simp [go_sem, a1], by simp [go_sem, a2], fun o => by rw [World.frozen?_setCell, World.frozen?_setCell, World.frozen?_setCell]; exact fo o,
      cell_wr hw b0 (by omega), cell_wr hw b1 (by omega), cell_wr hw b2 (by omega), fun o => by rw [World.frozen?_setCell, World.frozen?_setCell, World.frozen?_setCell]; exact fr o, q1, q2, hs⟩
  · have hw : Wr (fun b => b = O) w' ((w'.setCell ⟨O, 1, none⟩ z1).setCell ⟨O, 2, none⟩ z2) := ((Wr.refl (fun b => b = O) _).setCell (p := ⟨O, 1, none⟩) rfl _).setCell (p := ⟨O, 2, none⟩) rfl _
    obtain ⟨q1, q2⟩ := key _ hw
    exact ⟨(hbw.setCell (p := ⟨O, 1, none⟩) (by dsimp only; omega) _).setCell (p := ⟨O, 2, none⟩) (by dsimp only; omega) _, ⟨ho1.1, by simp; omega⟩, by simp [go_sem, a0], by simp [go_sem, a1], by simp [go_sem, a2], fun o => by rw [World.frozen?_setCell, World.frozen?_setCell]; exact fo o,
      cell_wr hw b0 (by omega), cell_wr hw b1 (by omega), cell_wr hw b2 (by omega), fun o => by rw [World.frozen?_setCell, World.frozen?_setCell]; exact fr o, q1, q2, hs⟩
/-- What the call leaves. -/
def RunEnds (w : World) (e : Ending) (w' : World) : Prop := ∃ (x : Int) (ao : Option Addr) (n c : Nat) (ao' : Option Addr) (n' c' : Nat) (yss : List (List Int)) (qs : List (Int × List Int)), e = .returned (.agg #[.int .i64 x, .slice ao n c, .slice ao' n' c']) ∧ Below w.heap.size w w' ∧ RdII (fun b => w.heap.size ≤ b) w' (.slice ao n c) yss ∧ RdP (fun b => w.heap.size ≤ b) w' (.slice ao' n' c') qs ∧ Sound yss qs
theorem run_ends {w : World} {x : Int} {u v : Value} {w6 : World} {S : Nat → Prop} {yss : List (List Int)} {qs : List (Int × List Int)} (hb : Below w.heap.size w w6) (h1 : RdII S w6 u yss) (h2 : RdP S w6 v qs) (hS : ∀ b, S b → w.heap.size ≤ b ∧ b ≠ w.heap.size + 1) :
    Below w.heap.size w (((w6.setCell ⟨w.heap.size + 1, 0, none⟩ (.int .i64 x)).setCell ⟨w.heap.size + 1, 1, none⟩ u).setCell ⟨w.heap.size + 1, 2, none⟩ v) ∧ RdII (fun b => w.heap.size ≤ b) (((w6.setCell ⟨w.heap.size + 1, 0, none⟩ (.int .i64 x)).setCell ⟨w.heap.size + 1, 1, none⟩ u).setCell ⟨w.heap.size + 1, 2, none⟩ v) u yss ∧ RdP (fun b => w.heap.size ≤ b) (((w6.setCell ⟨w.heap.size + 1, 0, none⟩ (.int .i64 x)).setCell ⟨w.heap.size + 1, 1, none⟩ u).setCell ⟨w.heap.size + 1, 2, none⟩ v) v qs := by
  have hw : Wr (fun b => b = w.heap.size + 1) w6 (((w6.setCell ⟨w.heap.size + 1, 0, none⟩ (.int .i64 x)).setCell ⟨w.heap.size + 1, 1, none⟩ u).setCell ⟨w.heap.size + 1, 2, none⟩ v) := (((Wr.refl (fun b => b = w.heap.size + 1) _).setCell (p := ⟨w.heap.size + 1, 0, none⟩) rfl _).setCell (p := ⟨w.heap.size + 1, 1, none⟩) rfl _).setCell (p := ⟨w.heap.size + 1, 2, none⟩) rfl _
  exact ⟨((hb.setCell (p := ⟨w.heap.size + 1, 0, none⟩) (by dsimp only; omega) _).setCell (p := ⟨w.heap.size + 1, 1, none⟩) (by dsimp only; omega) _).setCell (p := ⟨w.heap.size + 1, 2, none⟩) (by dsimp only; omega) _,
    (h1.wr hw fun b hb' => (hS b hb').2).monoR fun b hb' => (hS b hb').1, (h2.wr hw fun b hb' => (hS b hb').2).monoR fun b hb' => (hS b hb').1⟩

theorem forgetX {Q : Exit → Act → World → Prop} {x : Exit} {a : Act} {w0 : World} (R : World → Prop) (h0 : R w0) (h : ∀ w, R w → Q x a w) : Q x a w0 := h _ h0

set_option linter.unusedSimpArgs false in
set_option maxHeartbeats 8000000 in
set_option maxRecDepth 4000 in
theorem l3Run_some {S T S2 : Nat → Prop} {w : World} {u v y : Value} {xss : List (List Int)} {ps : List (Int × List Int)} {ts : List St} (hu : RdII S w u xss) (hv : RdP T w v ps) (hy : RdT S2 w y ts) (hs : Sound xss ps) (hl : ∀ i, i < ts.length → (ts.getD i st0).2.2.length ≤ 1048576) :
    Calls Tryz.prog 52 #[.agg #[u, v], y] w (RunEnds w) := by
  obtain ⟨ao, c, rfl, _⟩ := hu.shape
  obtain ⟨ao', c', rfl, _⟩ := hv.shape
  obtain ⟨ay, cy, rfl, hyl⟩ := hy.shape
  have HU := hide hu
  have HV := hide hv
  have HY := hide hy
  have HS := hide hs
  have HL := hide hl
  obtain ⟨n, hn⟩ : ∃ n, xss.length = n := ⟨_, rfl⟩
  obtain ⟨m, hm⟩ : ∃ m, ps.length = m := ⟨_, rfl⟩
  obtain ⟨k0, hk0⟩ : ∃ k, ts.length = k := ⟨_, rfl⟩
  rw [hn] at HU
  rw [hm] at HV
  rw [hk0] at HY hyl HL
  rw [hn, hm, hk0]
  have HK := hide hk0
  clear hu hv hy hs hl hn hm hk0
  have A0 := hide (below_on (below_alloc w (.cells #[.slice ao n c, .slice ao' m c'] 54)) (below_alloc _ (.cells #[.int .i64 0, .slice none 0 0, .slice none 0 0] 92)))
  go_enter Tryz.func52, Tryz.ntmps52
  go_wp2_with fail
  refine (l1Copy_cells (HU.out.later A0.out) (HV.out.later A0.out) HS.out.small).mono ?_
  rintro e w1 ⟨z1, z2, mm, rfl, hb1, hm1, hm2, hII, hP⟩
  obtain ⟨a1, k1, hz1⟩ := hII.shape
  obtain ⟨a2, k2, hz2⟩ := hP.shape
  generalize hxl : xss.length = lx at hz1
  generalize hpl : ps.length = lp at hz2
  subst hz1 hz2
  have hm1' : w.heap.size + 2 ≤ mm := by simpa using hm1
  have bA := below_alloc w1 (.cells #[.int .i64 0, .slice a1 lx k1, .slice a2 lp k2] 92)
  have HRun : Hid (RunAt w w1.heap.size 0 (.slice a1 lx k1) (.slice a2 lp k2) xss ps (w1.alloc (.cells #[.int .i64 0, .slice a1 lx k1, .slice a2 lp k2] 92))) := by
    have hz : w.heap.size + 2 ≤ w1.heap.size := by omega
    have hb := below_on A0.out hb1
    have e0 := cell_later bA (cell_later hb1 (show World.cell? _ ⟨w.heap.size + 1, 0, none⟩ = some (.int .i64 0) by simp [go_sem]))
    have e1 := cell_later bA (cell_later hb1 (show World.cell? _ ⟨w.heap.size + 1, 1, none⟩ = some (.slice none 0 0) by simp [go_sem]))
    have e2 := cell_later bA (cell_later hb1 (show World.cell? _ ⟨w.heap.size + 1, 2, none⟩ = some (.slice none 0 0) by simp [go_sem]))
    refine ⟨below_on hb bA, ⟨by omega, by simp⟩, by simp [go_sem], by simp [go_sem], by simp [go_sem], fun o => by simp [go_sem], e0, e1, e2, fun o => ((bcell bA).2 _ _ (by omega)).trans (((bcell hb1).2 _ _ (by simp)).trans (by simp [go_sem])), ?_, ?_, HS.out⟩
    · have h := (hII.ow rfl (by have := HS.out.rows; omega)).rd
      exact (h.later bA).monoR fun b hb' => by (try simp only [World.size_alloc] at hb'); omega
    · have h := (hP.ow rfl (by have := HS.out.puts; omega)).rd
      exact (h.later bA).monoR fun b hb' => by (try simp only [World.size_alloc] at hb'); omega
  clear hb1 hII hP hxl hpl bA hm1 hm2 hm1'
  obtain ⟨O, hO⟩ : ∃ O, w1.heap.size = O := ⟨_, rfl⟩
  go_wp2
  rw [hO] at HRun
  go_loopw [6] (fun i wr => ∃ (k : Nat) (a1 : Option Addr) (n1 c1 : Nat) (a2 : Option Addr) (n2 c2 : Nat) (yss : List (List Int)) (qs : List (Int × List Int)), k ≤ k0 ∧ i = .int .i64 (k : Int) ∧ Hid (RunAt w O 0 (.slice a1 n1 c1) (.slice a2 n2 c2) yss qs wr)) (fun i _ => k0 - (RowKit.intOf i).toNat)
  case atStart => exact ⟨0, a1, lx, k1, a2, lp, k2, xss, ps, Nat.zero_le _, rfl, HRun.out⟩
  case round =>
    obtain ⟨k, a1, n1, c1, a2, n2, c2, yss, qs, hk, rfl, HR⟩ := hrel
    have x0 := HR.out.c0
    have x1 := HR.out.c1
    have x2 := HR.out.c2
    have y0 := HR.out.of 0
    have y1 := HR.out.of 1
    have y2 := HR.out.of 2
    have ho := HR.out.o
    by_cases hlt : k < k0
    · obtain ⟨b, off, V, rfl, q0, q1, q2, hr⟩ := HY.out.at (k := k) (by rw [HK.out]; exact hlt)
      have g0 := cell_later HR.out.below q0
      have g1 := cell_later HR.out.below q1
      have g2 := cell_later HR.out.below q2
      have HRw := hide (hr.later HR.out.below)
      have HLw := hide (HL.out k hlt)
      obtain ⟨aw, cw, rfl⟩ := hr.shape
      obtain ⟨fl, hfl⟩ : ∃ fl, (ts.getD k st0).1 = fl := ⟨_, rfl⟩
      obtain ⟨at_, hat⟩ : ∃ at_, (ts.getD k st0).2.1 = at_ := ⟨_, rfl⟩
      rw [hfl] at g0
      rw [hat] at g1
      generalize (ts.getD k st0).2.2 = ws at g2 HRw HLw
      have hk0i : (0 : Int) ≤ (k : Int) := Int.natCast_nonneg _
      have hk1i : (k : Int) < (k0 : Int) := by omega
      clear q0 q1 q2 hr hfl hat
      cases fl with
      | true =>
        have HKp := hide (fun (w' : World) (hb : Below wr.heap.size wr w') => l1Keep (all := true) (qs := []) (HR.out.rd.later hb) (HR.out.rp.later hb) (RdI_nil (fun _ => True) w' none 0) HR.out.so.small HR.out.so (fun k _ => by simp [pkOf_all]))
        go_wp2_with fail
        refine (HKp.out _ (Below.refl _ _)).mono ?_
        rintro e w5 ⟨z1, z2, rfl, hb5, hD⟩
        obtain ⟨b1, d1, b2, d2, e1, e2⟩ := hD.shape
        have HN := hide ((HR.out.next hb5 hD (by omega) (sound_keep HR.out.so _) 0).2)
        generalize List.length (keepTo yss qs (pkOf true []) qs.length) = l1 at e1
        generalize List.length ([] : List (Int × List Int)) = l2 at e2
        subst e1 e2
        have v1 := cell_later hb5 x1
        have v2 := cell_later hb5 x2
        have f1 := ((bcell hb5).2 _ _ ho.2).trans y1
        have f2 := ((bcell hb5).2 _ _ ho.2).trans y2
        clear hb5 hD
        go_wp2
        go_roundw
        case rel => exact ⟨k + 1, b1, l1, d1, b2, l2, d2, _, _, hlt, by go_num, HN.out⟩
        case measure => simp [RowKit.intOf]; omega
      | false =>
        have HPt := hide (fun (w' : World) (hb : Below wr.heap.size wr w') => specPut at_ (HR.out.rd.later hb) (HR.out.rp.later hb) (HRw.out.later hb) HR.out.so.small HLw.out)
        have HSp := hide (sound_put HR.out.so at_ ws)
        generalize putXs yss qs at_ ws = yss' at HPt HSp
        generalize putPs yss qs at_ ws = qs' at HPt HSp
        generalize putF yss qs at_ ws = cd at HPt
        go_wp2_with fail
        go_region_law (go_simp; go_at_call 73; refine (HPt.out _ (below_drewN wr 1)).mono ?_; rintro e w5 ⟨z1, z2, rfl, hb5, hD⟩; obtain ⟨b1, d1, b2, d2, e1, e2⟩ := hD.shape; have HB5 := hide (below_on (below_drewN wr 1) hb5); have HD5 := hide hD; generalize yss'.length = l1 at e1; generalize qs'.length = l2 at e2; subst e1 e2; have v0 := cell_later HB5.out x0; have v1 := cell_later HB5.out x1; have v2 := cell_later HB5.out x2; have f0 := ((bcell HB5.out).2 _ _ ho.2).trans y0; have f1 := ((bcell HB5.out).2 _ _ ho.2).trans y1; have f2 := ((bcell HB5.out).2 _ _ ho.2).trans y2; clear hb5 hD)
        all_goals
          have HNx := hide ((HR.out.next HB5.out HD5.out (Nat.le_refl _) HSp.out cd).1)
          clear HB5 HD5 v0 v1 v2 f0 f1 f2 x0 x1 x2 y0 y1 y2 g0 g1 g2
          refine forgetX (fun wx => RunAt w O cd (.slice b1 l1 d1) (.slice b2 l2 d2) yss' qs' wx) HNx.out ?_
          clear HNx
          intro W6 hN
          have HN6 := hide hN
          have p0 := hN.c0
          have p1 := hN.c1
          have p2 := hN.c2
          have s0 := hN.r0
          have s1 := hN.r1
          have s2 := hN.r2
          have t0 := hN.rf 0
          have t1 := hN.rf 1
          have t2 := hN.rf 2
          have hno := hN.o
          clear hN
          by_cases hcd : cd = 0
          · subst hcd
            go_wp2
            go_roundw
            case rel => exact ⟨k + 1, b1, l1, d1, b2, l2, d2, _, _, hlt, by go_num, HN6.out⟩
            case measure => simp [RowKit.intOf]; omega
          · have hcb : (cd == 0) = false := by simpa using hcd
            have HE := hide (run_ends (x := cd) HN6.out.below HN6.out.rd HN6.out.rp (fun b hb => ⟨hb.1, hb.2.2⟩))
            go_wp2
            refine bodyPost_ret (v := .agg #[.int .i64 cd, .slice b1 l1 d1, .slice b2 l2 d2]) (by simp [results, Tryz.results52, go_sem, s0, s1, s2]) rfl ⟨cd, b1, l1, d1, b2, l2, d2, _, _, rfl, HE.out.1, HE.out.2.1, HE.out.2.2, HN6.out.so⟩
    · have HE := hide (run_ends (x := 0) HR.out.below HR.out.rd HR.out.rp (fun b hb => ⟨hb.1, hb.2.2⟩))
      have s0 := HR.out.r0
      have s1 := HR.out.r1
      have s2 := HR.out.r2
      have t0 := HR.out.rf 0
      have t1 := HR.out.rf 1
      have t2 := HR.out.rf 2
      go_wp2
      refine bodyPost_ret (v := .agg #[.int .i64 0, .slice a1 n1 c1, .slice a2 n2 c2]) (by simp [results, Tryz.results52, go_sem, s0, s1, s2]) rfl ⟨0, a1, n1, c1, a2, n2, c2, _, _, rfl, HE.out.1, HE.out.2.1, HE.out.2.2, HR.out.so⟩
end Go.Proofs.YtamknomapabmfaaGreat
/- Chapter 3: the model's draw of puts, walked: 'l3DrawPuts'; 'l1Chance'. -/
namespace Go.Proofs.YtamknomapabmfaaGreat
open Go.RowKit

theorem l1WordsR {S : Nat → Prop} {w : World} {v : Value} {xs : List Int} (hv : RdI S w v xs) :
    Calls Tryz.prog 45 #[v] w fun e w' => ∃ c : Int, e = .returned (.int .i64 c) ∧ ∃ q, w' = w.drewN q := by
  obtain ⟨ao, c, rfl, hm, hc⟩ := hv
  by_cases h : xs = []
  · subst h
    exact (l1Words_none ao _ w).mono fun e w' ⟨he, hq⟩ => ⟨0, he, hq⟩
  · obtain ⟨b, off, rfl, _, hcc⟩ := hc h
    exact (l1Words_cells (fun i => xs.getD i 0) xs.length b off _ w hm hcc).mono fun e w' ⟨he, hq⟩ => ⟨_, he, hq⟩
theorem l1Chance {s : Nat} {v : Value} {bs : List Nat} {w : World} {t : Nat} (n : Int) (hS : Src s v bs w t) (ht : t ≤ 1073741824) (hn : n ≤ 1073741824) (hn1 : -1073741824 ≤ n) :
    Calls Tryz.prog 22 #[.pointer (some ⟨s, 0, none⟩), .int .i64 n] w fun e w' => ∃ r : Bool, e = .returned (.bool r) ∧ ∃ t', Drawn 1 s v bs t t' w w' := by
  have HS := hide hS
  clear hS
  go_enter Tryz.func22, Tryz.ntmps22
  go_wp2_with fail
  refine (l1Next n HS.out ht hn hn1).mono ?_
  rintro e w1 ⟨r, rfl, ra, rb, t1, hd1⟩
  have D1 := hide hd1
  clear hd1 rb
  go_wp2
  go_ret
  exact ⟨_, rfl, t1, D1.out⟩
theorem BuiltP.drawn {P : Nat → Prop} {s : Nat} {w w' : World} {v : Value} {k : Nat} {ps : List (Int × List Int)} (h : BuiltP P w v k ps) (hw : Wr (· = s) w w') (hP : ∀ b, P b → b ≠ s) : BuiltP P w' v k ps := by
  obtain ⟨V, Bk, h1, h2, h3⟩ := h
  refine ⟨V, Bk, ownsRow_wr h1 hw (fun e => hP s (h2 s e) rfl), h2, fun i hi => ?_, fun i hi hn => ?_⟩
  · exact (h3.rd i hi).wr hw (fun hn b e h => hP b (by rw [e]; exact (h3.own i hi hn).1) h)
  · obtain ⟨k1, k2, k3, k4, k5⟩ := h3.own i hi hn
    exact ⟨k1, Nat.lt_of_lt_of_le k2 hw.size, fun o => (hw.frz _ _ k2).trans (k3 o), k4, k5⟩
theorem cellsP_congr {ps qs : List (Int × List Int)} {k : Nat} (V : Nat → Value) (h : ∀ i, i < k → qs.getD i (0, []) = ps.getD i (0, [])) : cellsP qs k V = cellsP ps k V := by
  unfold cellsP
  refine List.map_congr_left fun t ht => ?_
  have := List.mem_range.1 ht
  rw [h (t / 2) (by omega)]
theorem OwI_new (w : World) (xs : List Int) (t : TypeId) (hl : xs.length ≤ 1048576) : OwI w.heap.size (w.alloc (.cells (xs.map (Value.int .i64)).toArray t)) (.slice (some ⟨w.heap.size, 0, none⟩) xs.length xs.length) xs := by
  refine ⟨w.heap.size, ⟨_, 0, by simp, by omega, fun _ => ⟨w.heap.size, 0, rfl, rfl, fun i hi => ?_⟩⟩, fun _ => ⟨Nat.le_refl _, by simp, fun o => by simp [go_sem]⟩⟩
  simp [go_sem, List.getD, hi]
theorem RdI.grownD {S : Nat → Prop} {w w' : World} {v : Value} {xs : List Int} {row : Option Nat} (h : RdI S w v xs) (hS : xs ≠ [] → ∀ b, S b → some b ≠ row) (hg : w.grownBy w' row) : RdI S w' v xs := by
  obtain ⟨ao, c, e1, e2, e3⟩ := h
  refine ⟨ao, c, e1, e2, fun hne => ?_⟩
  obtain ⟨b, off, f1, f2, f3⟩ := e3 hne
  exact ⟨b, off, f1, f2, fun j hj => (World.cell?_of_block (hg.block b (World.block_lt_of_cell? _ _ (f3 j hj)) (fun e => hS hne b f2 e))).trans (f3 j hj)⟩
/-- k puts have been built, all in blocks of [B, M). -/
def BltM (B M : Nat) (w : World) (v : Value) (ps : List (Int × List Int)) : Prop := BuiltP (fun b => B ≤ b ∧ b < M) w v ps.length ps
theorem BltM.drawn {B M s : Nat} {w w' : World} {v : Value} {ps : List (Int × List Int)} (h : BltM B M w v ps) (hw : Wr (· = s) w w') (hs : s < B) : BltM B M w' v ps := BuiltP.drawn h hw (fun b hb => by omega)
theorem BltM.later {B M : Nat} {w w' : World} {v : Value} {ps : List (Int × List Int)} (h : BltM B M w v ps) (hb : Below w.heap.size w w') : BltM B M w' v ps := BuiltP.later h hb
/-- One put more, whose words lie in a block from M on. -/
theorem BltM.one {B M : Nat} {w w3 : World} {v : Value} {g cap : Nat} {z : Value} {ps : List (Int × List Int)} {x : Int} {ws : List Int} {o : Obj} {V : Nat → Value} {Bk : Nat → Nat}
    (hp : ∀ r, v.ownBlock = some r → B ≤ r ∧ r < M) (hi : Inner (fun b => B ≤ b ∧ b < M) w v.ownBlock ps.length V Bk (fun i => (ps.getD i (0, [])).2)) (hB : B ≤ M) (hM : M ≤ w.heap.size) (hz : OwI M w z ws)
    (hown : w3.ownsRow 0 38 2 (.slice (some ⟨g, 0, none⟩) (ps.length + 1) cap) (ps.length + 1) (cellsP ps ps.length V ++ [.int .i64 x, z])) (hg : (w.alloc o).grownBy w3 v.ownBlock) (hat : v.ownBlock = some g ∨ g = (w.alloc o).heap.size) :
    BltM B w3.heap.size w3 (.slice (some ⟨g, 0, none⟩) (ps.length + 1) cap) (ps ++ [(x, ws)]) := by
  have hnew : (ps ++ [(x, ws)]).getD ps.length (0, []) = (x, ws) := by simp [List.getD]
  have hold : ∀ i, i < ps.length → (ps ++ [(x, ws)]).getD i (0, []) = ps.getD i (0, []) := fun i hi => by simp [List.getD, List.getElem?_append_left hi]
  have hlen : (ps ++ [(x, ws)]).length = ps.length + 1 := by simp
  have hs3 := hg.size
  simp only [World.size_alloc] at hs3 hat
  obtain ⟨bz, hz1, hz2⟩ := hz
  have hA := below_alloc w o
  have h2 := hi.later hA
  have hgl := (hown.lt g rfl).2
  have hzr : ws ≠ [] → v.ownBlock ≠ some bz := fun hn e => by have h1 := (hz2 hn).1; have h2 := (hp bz e).2; omega
  unfold BltM
  rw [hlen]
  refine ⟨fun i => if i = ps.length then z else V i, fun i => if i = ps.length then bz else Bk i, ?_, fun r hr' => ?_, fun i hi' => ?_, fun i hi' hne => ?_⟩
  · rw [cellsP_succ, hnew, cellsP_congr V hold]; exact hown
  · injection hr' with hr'
    subst hr'
    rcases hat with e | e
    · exact ⟨(hp _ e).1, hgl⟩
    · exact ⟨by dsimp only; omega, hgl⟩
  · by_cases e : i = ps.length
    · subst e
      rw [hnew]
      simp only [if_true]
      exact (hz1.later hA).grownD (fun hn b hb e => hzr hn (by rw [← e, hb])) hg
    · rw [hold i (by omega)]
      simp only [if_neg e]
      exact (h2.rd i (by omega)).grownD (fun hn b hb e => (h2.own i (by omega) hn).2.2.2.1 (by rw [← e, hb])) hg
  · by_cases e : i = ps.length
    · subst e
      rw [hnew] at hne
      simp only [if_true]
      obtain ⟨k1, k2, k3⟩ := hz2 hne
      refine ⟨⟨by omega, by omega⟩, by omega, fun o' => ?_, fun e => ?_, fun j hj hj' ej => ?_⟩
      · rw [hg.frozen_far ⟨bz, o', none⟩ (by simp; omega) (fun e => hzr hne e.symm)]
        exact ((bcell hA).2 _ _ k2).trans (k3 o')
      · injection e with e
        rcases hat with e' | e'
        · have := (hp _ e').2; dsimp only at e; omega
        · dsimp only at e; omega
      · by_cases ejj : j = ps.length
        · exact ejj
        · rw [if_neg ejj] at ej
          rw [hold j (by omega)] at hj'
          have := (hi.own j (by omega) hj').1.2
          omega
    · rw [hold i (by omega)] at hne
      simp only [if_neg e]
      obtain ⟨k1, k2, k3, k4, k5⟩ := hi.own i (by omega) hne
      refine ⟨⟨k1.1, by omega⟩, by omega, fun o' => ?_, fun e2 => ?_, fun j hj hj' ej => ?_⟩
      · rw [hg.frozen_far ⟨Bk i, o', none⟩ (by simp; omega) (fun e => k4 e.symm)]
        exact ((bcell hA).2 _ _ k2).trans (k3 o')
      · injection e2 with e2
        rcases hat with e' | e'
        · exact k4 (e'.trans (congrArg some e2))
        · dsimp only at e2; omega
      · by_cases ejj : j = ps.length
        · subst ejj
          rw [if_pos rfl] at ej
          rw [hnew] at hj'
          have := (hz2 hj').1
          omega
        · rw [if_neg ejj] at ej
          rw [hold j (by omega)] at hj'
          exact k5 j (by omega) hj' ej
theorem rep_at (m i : Nat) : (List.replicate m ((0, []) : Int × List Int)).getD i (0, []) = (0, []) := by
  rw [List.getD, List.getElem?_replicate]
  split <;> rfl
theorem made_cellsP (m : Nat) : (madeCells #[Value.int .i64 0, Value.slice none 0 0] (m * 2)).toList = cellsP (List.replicate m (0, [])) m (fun _ => .slice none 0 0) := by
  have h : (madeCells #[Value.int .i64 0, Value.slice none 0 0] (m * 2)).toList = (List.range (m * 2)).map (fun i => #[Value.int .i64 0, Value.slice none 0 0][i % 2]!) := by simp [madeCells]
  rw [h]
  unfold cellsP
  refine List.map_congr_left fun t _ => ?_
  rw [rep_at]
  rcases Nat.mod_two_eq_zero_or_one t with e | e <;> simp [e]
theorem run_make_puts (m : Nat) (hm : m ≤ 1000) (w : World) : (Instr.makeSlice 30 (.int .i64 (m : Int)) (.int .i64 (m : Int))).run Tryz.prog w = .ok (.slice (some ⟨w.heap.size, 0, none⟩) m m) (w.alloc (.cells (madeCells #[.int .i64 0, .slice none 0 0] (m * 2)) 38)) := by
  obtain ⟨i0, hi, hz0, hz1, hz2⟩ := info_parts Tryz.infoPut
  have h := run_make (P := Tryz.prog) w 30 38 i0 _ Tryz.underlying30 hi hz0 .i64 .i64 (m : Int) (m : Int) (by omega) (by omega) (by rw [hz2]; omega) (by omega)
  rw [hz1, Int.toNat_natCast] at h
  exact h
theorem made_bltM (w : World) (m : Nat) (hm : m ≤ 1000) : BltM w.heap.size (w.heap.size + 1) (w.alloc (.cells (madeCells #[.int .i64 0, .slice none 0 0] (m * 2)) 38)) (.slice (some ⟨w.heap.size, 0, none⟩) m m) (List.replicate m (0, [])) := by
  unfold BltM
  rw [List.length_replicate]
  refine ⟨fun _ => .slice none 0 0, fun _ => 0, ⟨by rw [cellsP_len], Or.inr ⟨w.heap.size, m, _, rfl, Nat.zero_le _, heap_alloc_new w _, Nat.le_refl _, by unfold maxLen; omega, size_madeCells _ _, ?_⟩⟩, fun r hr => ?_, fun i _ => ?_, fun i _ hn => ?_⟩
  · rw [made_cellsP, List.take_of_length_le (by rw [cellsP_len]; omega)]
  · injection hr with hr
    subst hr
    exact ⟨Nat.le_refl _, Nat.lt_succ_self _⟩
  · rw [rep_at]
    exact ⟨none, 0, by simp, by simp, fun h => absurd rfl h⟩
  · rw [rep_at] at hn
    exact absurd rfl hn
end Go.Proofs.YtamknomapabmfaaGreat
