/- Chapter 3: 'PlanInstall' of the program and of the model, walked. -/
import Derived.Test.YtdjdfkhgkadhgaaInst3
namespace Go.Proofs.Ytdjdfkhgkadhgaa
open Go.RowKit

/-- The code of 'PlanInstall', and its steps. -/
def pnF (xss : List (List Int)) (ps : List (Int × List Int)) : Int := if inF xss ps = 0 then (if inS xss ps = 65000 then 10 else 0) else inF xss ps
def pnT (xss : List (List Int)) (ps : List (Int × List Int)) : List St := if inF xss ps = 0 ∧ inS xss ps ≠ 65000 ∧ (inA xss ps).length ≠ 0 then insTs xss ps (inS xss ps) (inT xss ps) (inA xss ps) else []

theorem head_next {s t : Int} {n : Int} (h1 : 1 ≤ s) (h2 : s < 65000) : headF (s + 1) ((t + n) % 24) [] = 0 :=
  headF_ok ⟨by omega, by omega, by omega, by omega⟩ (by simp) (fun i hi => absurd hi (Nat.not_lt_zero _))

set_option maxHeartbeats 4000000 in
set_option maxRecDepth 4000 in
theorem implPlanInstall {S T : Nat → Prop} {w : World} {u v : Value} {xss : List (List Int)} {ps : List (Int × List Int)} (hu : RdII S w u xss) (hv : RdP T w v ps) (hs : Small xss ps) :
    Calls Try.prog 11 #[.agg #[u, v]] w (EndsT (pnF xss ps) (pnT xss ps) w) := by
  unfold EndsT pnF pnT
  obtain ⟨ao, c, rfl, _⟩ := hu.shape
  obtain ⟨ao', c', rfl, _⟩ := hv.shape
  have hmf : ∀ (fn : Fn) (first cap : Array Value) (w : World), (Instr.makeFunc fn first cap).run Try.prog w = .ok (.func fn first cap) w := fun _ _ _ _ => rfl
  have HIn := hide (fun (w' : World) (hb : Below w.heap.size w w') => implHeaderIn (hu.later hb) (hv.later hb) hs)
  have HU := hide hu
  have HV := hide hv
  have HS := hide hs
  obtain ⟨n, hn⟩ : ∃ n, xss.length = n := ⟨_, rfl⟩
  obtain ⟨m, hm⟩ : ∃ m, ps.length = m := ⟨_, rfl⟩
  have A0 := hide (below_on (below_alloc w (.cells #[.slice ao n c, .slice ao' m c'] 33)) (below_alloc _ (.cells #[.int .i64 0, .slice none 0 0] 29)))
  rw [hn] at HU
  rw [hm] at HV
  by_cases h0 : inF xss ps = 0
  · obtain ⟨_, h66, hhd⟩ := in_ok h0
    obtain ⟨⟨hs1, hs2, ht1, ht2⟩, hA24, hA39⟩ := headF_zero hhd
    rw [if_pos h0]
    rw [h0] at HIn
    have HCl := hide (fun (w' : World) (H : Nat) (s i addr : Int) (ay : Option Addr) (l cy : Nat) (hb : Below w.heap.size w w') (hd0 : w'.cell? ⟨w.heap.size, 0, none⟩ = some (.slice ao n c)) (hd1 : w'.cell? ⟨w.heap.size, 1, none⟩ = some (.slice ao' m c')) (hh : HdAt w' H 0 s (inT xss ps) (.slice ay l cy)) (h1 : 0 ≤ i) (h2 : i ≤ 1048576) (h3 : 0 ≤ addr) (h4 : addr ≤ 39) => planIn1 i addr hd0 hd1 hh (HU.out.later hb) (HV.out.later hb) HS.out h66 ht1 ht2 h1 h2 h3 h4)
    have HTL := hide (insTs_len xss ps (inS xss ps) (inT xss ps) (inA xss ps))
    have HTA := hide (insTs_at xss ps (inS xss ps) (inT xss ps) (inA xss ps))
    have HT0 := hide (insTs_0 xss ps (inS xss ps) (inT xss ps) (inA xss ps))
    have HT1 := hide (insTs_1 xss ps (inS xss ps) (inT xss ps) (inA xss ps))
    have HT2 := hide (insTs_2 xss ps (inS xss ps) (inT xss ps) (inA xss ps))
    generalize insTs xss ps (inS xss ps) (inT xss ps) (inA xss ps) = ts at HTL HTA HT0 HT1 HT2 ⊢
    have h00 : inF xss ps = 0 := h0
    generalize hsx : inS xss ps = s at HIn HT1 hs1 hs2 ⊢
    generalize inT xss ps = t at HIn HCl HTA HT1 ht1 ht2
    have HA39 := hide hA39
    generalize hAx : inA xss ps = A at HIn HTL HTA HT0 HT1 HT2 hA24 HA39 ⊢
    obtain ⟨l, hl⟩ : ∃ l, A.length = l := ⟨_, rfl⟩
    have HL := hide hl
    rw [hl] at hA24
    rw [hn, hm] at HIn
    rw [hn, hm, hl]
    have H00 := hide h00
    obtain ⟨cc, hcc⟩ : ∃ cc : Int, (if s = 65000 then (10 : Int) else 0) = cc := ⟨_, rfl⟩
    obtain ⟨rs, hrs⟩ : ∃ rs : List St, (if inF xss ps = 0 ∧ s ≠ 65000 ∧ l ≠ 0 then ts else []) = rs := ⟨_, rfl⟩
    rw [hcc, hrs]
    have HCC := hide hcc
    have HRS := hide hrs
    clear hu hv hs hn hm h0 h00 h66 hhd hl hA39 hsx hAx hcc hrs
    go_enter Try.func11, Try.ntmps11
    go_wp2_with fail
    refine (HIn.out _ A0.out).mono ?_
    rintro e w1 ⟨z1, rfl, hb1, ho1⟩
    obtain ⟨a1, k1, hz1'⟩ := ho1.shape
    rw [HL.out] at hz1'
    subst hz1'
    have bR := below_alloc w1 (.cells #[.int .i64 0, .int .i64 s, .int .i64 t, .slice a1 l k1] 66)
    have bH := below_alloc (w1.alloc (.cells #[.int .i64 0, .int .i64 s, .int .i64 t, .slice a1 l k1] 66)) (.cells #[.int .i64 s, .int .i64 t, .slice a1 l k1] 52)
    have bb := below_on bR bH
    have b1' := below_on hb1 bb
    have hHd := HdAt_new (w1.alloc (.cells #[.int .i64 0, .int .i64 s, .int .i64 t, .slice a1 l k1] 66)) s t (.slice a1 l k1) 52
    rw [World.size_alloc] at hHd
    have HW : Hid (Below w.heap.size w ((w1.alloc (.cells #[.int .i64 0, .int .i64 s, .int .i64 t, .slice a1 l k1] 66)).alloc (.cells #[.int .i64 s, .int .i64 t, .slice a1 l k1] 52)) ∧ Var2 ((w1.alloc (.cells #[.int .i64 0, .int .i64 s, .int .i64 t, .slice a1 l k1] 66)).alloc (.cells #[.int .i64 s, .int .i64 t, .slice a1 l k1] 52)) w.heap.size (.slice ao n c) (.slice ao' m c') ∧ Var2 ((w1.alloc (.cells #[.int .i64 0, .int .i64 s, .int .i64 t, .slice a1 l k1] 66)).alloc (.cells #[.int .i64 s, .int .i64 t, .slice a1 l k1] 52)) (w.heap.size + 1) (.int .i64 0) (.slice none 0 0) ∧ (∀ o, ((w1.alloc (.cells #[.int .i64 0, .int .i64 s, .int .i64 t, .slice a1 l k1] 66)).alloc (.cells #[.int .i64 s, .int .i64 t, .slice a1 l k1] 52)).frozen? ⟨w.heap.size + 1, o, none⟩ = false) ∧ HdAt ((w1.alloc (.cells #[.int .i64 0, .int .i64 s, .int .i64 t, .slice a1 l k1] 66)).alloc (.cells #[.int .i64 s, .int .i64 t, .slice a1 l k1] 52)) (w1.heap.size + 1) 0 s t (.slice a1 l k1) ∧ RdI (fun _ => True) ((w1.alloc (.cells #[.int .i64 0, .int .i64 s, .int .i64 t, .slice a1 l k1] 66)).alloc (.cells #[.int .i64 s, .int .i64 t, .slice a1 l k1] 52)) (.slice a1 l k1) A) :=
      ⟨below_on A0.out b1', ⟨cell_later b1' (by simp [go_sem]), cell_later b1' (by simp [go_sem])⟩, ⟨cell_later b1' (by simp [go_sem]), cell_later b1' (by simp [go_sem])⟩, fun o => ((bcell b1').2 _ _ (by simp)).trans (by simp [go_sem]), hHd, (ho1.rd.later bb).narrow (fun _ _ _ => trivial)⟩
    have hsz : w.heap.size + 1 < w1.heap.size + 1 := by have := hb1.size; simp at this; omega
    clear hb1 ho1 bR bH bb b1' hHd HIn A0
    go_upto_region 5 with fail
    refine forget (fun wx => Below w.heap.size w wx ∧ Var2 wx w.heap.size (.slice ao n c) (.slice ao' m c') ∧ Var2 wx (w.heap.size + 1) (.int .i64 0) (.slice none 0 0) ∧ (∀ o, wx.frozen? ⟨w.heap.size + 1, o, none⟩ = false) ∧ HdAt wx (w1.heap.size + 1) 0 s t (.slice a1 l k1) ∧ RdI (fun _ => True) wx (.slice a1 l k1) A) HW.out ?_
    obtain ⟨H, hH⟩ : ∃ H, w1.heap.size + 1 = H := ⟨_, rfl⟩
    rw [hH] at hsz ⊢
    clear HW hH
    rintro V ⟨hbV, ⟨d0, d1⟩, ⟨q0, q1⟩, qf, hHd, hRA⟩
    have HBV := hide hbV
    have HD0 := hide d0
    have HD1 := hide d1
    have HQ0 := hide q0
    have HQ1 := hide q1
    have HQf := hide qf
    have HHd := hide hHd
    have HRA := hide hRA
    have h0 := hHd.seq
    have h1 := hHd.start
    have h2 := hHd.addrs
    simp only [Nat.zero_add] at h0 h1 h2
    have hHl : H < V.heap.size := World.block_lt_of_cell? _ _ h0
    have f0 := qf 0
    have f1 := qf 1
    clear hbV hHd hRA d0 d1 qf
    by_cases h65 : s = 65000
    · have e1 : cc = 10 := by rw [← HCC.out, if_pos h65]
      have e2 : rs = [] := by rw [← HRS.out, if_neg (fun h => h.2.1 h65)]
      subst e1 e2 h65
      go_wp2
      exact bodyPost_ret (v := .agg #[.int .i64 10, .slice none 0 0]) (by simp [results, Try.results11, go_sem, q0, q1]) rfl ⟨_, rfl, (HBV.out.setCell (by simp) _).setCell (by simp) _, OwT_nil _ _⟩
    · have e1 : cc = 0 := by rw [← HCC.out, if_neg h65]
      subst e1
      by_cases hl0 : l = 0
      · have e2 : rs = [] := by rw [← HRS.out, if_neg (fun h => h.2.2 hl0)]
        subst e2 hl0
        go_wp2
        exact bodyPost_ret (v := .agg #[.int .i64 0, .slice none 0 0]) (by simp [results, Try.results11, go_sem, q0, q1]) rfl ⟨_, rfl, (HBV.out.setCell (by simp) _).setCell (by simp) _, OwT_nil _ _⟩
      · have e2 : rs = ts := by rw [← HRS.out, if_pos ⟨H00.out, h65, hl0⟩]
        subst e2
        have hl0' : ¬ (l : Int) = 0 := by omega
        have HSl := hide (fun (w' : World) => slotFrom s t (l : Int) (.slice a1 l k1) w' ht1 ht2 (by omega) (by omega))
        have HNx := hide (head_next (t := t) (n := (A.length : Int)) hs1 (by omega : s < 65000))
        rw [HL.out] at HNx
        rw [HL.out] at HT1
        generalize (t + (l : Int)) % 24 = q at HSl HNx HT1
        have hws : IntKind.i64.wrap (s + 1) = s + 1 := by simp [IntKind.wrap, IntKind.bits, IntKind.signed]; omega
        obtain ⟨W1, hW1⟩ : ∃ W1, V.drew = W1 := ⟨_, rfl⟩
        obtain ⟨W2, hW2⟩ : ∃ W2, (V.alloc (.cells #[.int .i64 0, .int .i64 0, .slice none 0 0] 52)).drew = W2 := ⟨_, rfl⟩
        have b1 : Below V.heap.size V W1 := by rw [← hW1]; exact below_drewN V 1
        have b2 : Below V.heap.size V W2 := by rw [← hW2]; exact below_on (below_alloc V _) (below_drewN _ 1)
        have z2 : W2.heap.size = V.heap.size + 1 := by rw [← hW2]; show (V.alloc _).heap.size = _; simp
        have m0 : W2.cell? ⟨V.heap.size, 0, none⟩ = some (.int .i64 0) := by rw [← hW2]; show (V.alloc _).cell? _ = _; simp [go_sem]
        have m1 : W2.cell? ⟨V.heap.size, 1, none⟩ = some (.int .i64 0) := by rw [← hW2]; show (V.alloc _).cell? _ = _; simp [go_sem]
        have m2 : W2.cell? ⟨V.heap.size, 2, none⟩ = some (.slice none 0 0) := by rw [← hW2]; show (V.alloc _).cell? _ = _; simp [go_sem]
        have mf : ∀ o, W2.frozen? ⟨V.heap.size, o, none⟩ = false := by rw [← hW2]; intro o; show (V.alloc _).frozen? _ = _; simp [go_sem]
        have Q1 := hide b1
        have Q2 := hide (And.intro (And.intro b2 z2) (And.intro m0 (And.intro m1 (And.intro m2 mf))))
        have HW1 := hide hW1
        have HW2 := hide hW2
        have hr0 : ¬ H = V.heap.size := by omega
        clear hW1 hW2 b1 b2 z2 m0 m1 m2 mf q0 q1 f0 f1
        go_wp2_with fail
        go_region_held3 (fun w' => w'.cell? ⟨H, 0, none⟩ = some (.int .i64 s) ∧ w'.cell? ⟨H, 1, none⟩ = some (.int .i64 t) ∧ w'.cell? ⟨H, 2, none⟩ = some (.slice a1 l k1)) (simp [go_sem, *])
          (first
            | (go_at_call 43; rw [HW1.out]; refine (HSl.out W1).mono ?_; rintro e w4 ⟨rfl, hb4⟩; have c0 := cell_later hb4 (cell_later Q1.out h0); have c1 := cell_later hb4 (cell_later Q1.out h1); have c3 := cell_later hb4 (cell_later Q1.out h2); have HB4 := hide (below_on Q1.out hb4); have hw4 : H < w4.heap.size := World.block_lt_of_cell? _ _ c0; have hr4 : ¬ H = w4.heap.size := (by omega); clear hb4)
            | (go_at_call 43; rw [HW2.out]; refine (HSl.out W2).mono ?_; rintro e w4 ⟨rfl, hb4⟩; have c0 := cell_later hb4 (cell_later Q2.out.1.1 h0); have c1 := cell_later hb4 (cell_later Q2.out.1.1 h1); have c3 := cell_later hb4 (cell_later Q2.out.1.1 h2); have n0 := cell_later hb4 Q2.out.2.1; have n1 := cell_later hb4 Q2.out.2.2.1; have n2 := cell_later hb4 Q2.out.2.2.2.1; have nf0 := ((bcell hb4).2 _ 0 (by rw [Q2.out.1.2]; exact Nat.lt_succ_self _)).trans (Q2.out.2.2.2.2 0); have nf1 := ((bcell hb4).2 _ 1 (by rw [Q2.out.1.2]; exact Nat.lt_succ_self _)).trans (Q2.out.2.2.2.2 1); have nf2 := ((bcell hb4).2 _ 2 (by rw [Q2.out.1.2]; exact Nat.lt_succ_self _)).trans (Q2.out.2.2.2.2 2); have HB4 := hide (below_on Q2.out.1.1 hb4); have hw4 : V.heap.size < w4.heap.size := World.block_lt_of_cell? _ _ n0; clear hb4))
        · clear c0 c1 c3
          obtain ⟨V5, hV5⟩ : ∃ V5, w4.alloc (.cells #[.int .i64 (s + 1), .int .i64 q, .slice none 0 0] 52) = V5 := ⟨_, rfl⟩
          have n0 : V5.cell? ⟨w4.heap.size, 0, none⟩ = some (.int .i64 (s + 1)) := by rw [← hV5]; simp [go_sem]
          have n1 : V5.cell? ⟨w4.heap.size, 1, none⟩ = some (.int .i64 q) := by rw [← hV5]; simp [go_sem]
          have n2 : V5.cell? ⟨w4.heap.size, 2, none⟩ = some (.slice none 0 0) := by rw [← hV5]; simp [go_sem]
          have b5 : Hid (Below V.heap.size V V5) := by rw [← hV5]; exact below_on HB4.out (below_alloc _ _)
          rw [hV5]
          obtain ⟨N, hN⟩ : ∃ N, w4.heap.size = N := ⟨_, rfl⟩
          rw [hN] at n0 n1 n2 ⊢
          clear hV5 hN HB4
          have x0 := cell_later b5.out HD0.out
          have x1 := cell_later b5.out HD1.out
          have y2 := cell_later b5.out h2
          have hHd5 := HHd.out.later b5.out
          have HPut : Hid (∀ i, i < A.length → (rs.getD i st0).1 = false ∧ ∀ w', Below V5.heap.size V5 w' → Calls Try.prog 41 #[.int .i64 (i : Int), .int .i64 (A.getD i 0), .pointer (some ⟨w.heap.size, 0, none⟩), .pointer (some ⟨H, 0, none⟩)] w' fun e w'' => ∃ z, e = .returned (.agg #[.bool false, .int .i64 (rs.getD i st0).2.1, z]) ∧ Below w'.heap.size w' w'' ∧ OwI w'.heap.size w'' z (rs.getD i st0).2.2) := by
            intro i hi
            rw [HTA.out i hi]
            exact ⟨rfl, fun w' hb => HCl.out w' H s (i : Int) (A.getD i 0) a1 l k1 (below_on HBV.out (below_on b5.out hb)) (cell_later hb x0) (cell_later hb x1) (hHd5.later hb) (by omega) (by rw [HL.out] at hi; omega) (HA39.out i hi).1 (HA39.out i hi).2⟩
          have HSt := hide (stepsOfI (s + 1) q rs (HRA.out.later b5.out) (by rw [HL.out]; exact hA24) (RdI_nil (fun _ => True) V5 none 0) HNx.out HTL.out (by first | exact HT0.out | (rw [HL.out]; exact HT0.out)) (by rw [HL.out]; exact HT1.out) (by first | exact HT2.out | (rw [HL.out]; exact HT2.out)) HPut.out)
          have hHl5 : H < V5.heap.size := World.block_lt_of_cell? _ _ y2
          clear hHd5
          go_wp2_with fail
          refine HSt.out.mono ?_
          rintro e w6 ⟨z6, rfl, hb6, ho6⟩
          obtain ⟨a6, k6, hz6⟩ := ho6.shape
          rw [HTL.out, HL.out] at hz6
          subst hz6
          have hb56 := below_on b5.out hb6
          have v0 := cell_later hb56 HQ0.out
          have v1 := cell_later hb56 HQ1.out
          have f0 := ((bcell hb56).2 _ _ (by omega)).trans (HQf.out 0)
          have f1 := ((bcell hb56).2 _ _ (by omega)).trans (HQf.out 1)
          have hz56 := b5.out.size
          have HFin := hide (ret_steps (x := .int .i64 0) (below_on HBV.out hb56) (r := w.heap.size + 1) (by omega) (ho6.ow rfl (by rw [HTL.out, HL.out]; omega)) (fun b hb => ⟨by have := hb.1; omega, hb.2⟩))
          clear hb6 hb56 ho6 x0 x1 y2 n0 n1 n2
          go_wp2
          exact bodyPost_ret (v := .agg #[.int .i64 0, .slice a6 (l + 3) k6]) (by simp [results, Try.results11, go_sem, v0, v1]) rfl ⟨_, rfl, HFin.out.1, HFin.out.2⟩
        · clear c0 c1 c3
          obtain ⟨V5, hV5⟩ : ∃ V5, ((w4.setCell ⟨V.heap.size, 0, none⟩ (.int .i64 (s + 1))).setCell ⟨V.heap.size, 1, none⟩ (.int .i64 q)).setCell ⟨V.heap.size, 2, none⟩ (.slice none 0 0) = V5 := ⟨_, rfl⟩
          have m0 : V5.cell? ⟨V.heap.size, 0, none⟩ = some (.int .i64 (s + 1)) := by rw [← hV5]; simp [go_sem, n0]
          have m1 : V5.cell? ⟨V.heap.size, 1, none⟩ = some (.int .i64 q) := by rw [← hV5]; simp [go_sem, n1]
          have m2 : V5.cell? ⟨V.heap.size, 2, none⟩ = some (.slice none 0 0) := by rw [← hV5]; simp [go_sem, n2]
          have b5 : Hid (Below V.heap.size V V5) := by rw [← hV5]; exact ((HB4.out.setCell (p := ⟨V.heap.size, 0, none⟩) (Nat.le_refl _) _).setCell (p := ⟨V.heap.size, 1, none⟩) (Nat.le_refl _) _).setCell (p := ⟨V.heap.size, 2, none⟩) (Nat.le_refl _) _
          rw [hV5]
          clear n0 n1 n2 nf0 nf1 nf2
          have n0 := m0
          have n1 := m1
          have n2 := m2
          clear m0 m1 m2 hV5 HB4
          have x0 := cell_later b5.out HD0.out
          have x1 := cell_later b5.out HD1.out
          have y2 := cell_later b5.out h2
          have hHd5 := HHd.out.later b5.out
          have HPut : Hid (∀ i, i < A.length → (rs.getD i st0).1 = false ∧ ∀ w', Below V5.heap.size V5 w' → Calls Try.prog 41 #[.int .i64 (i : Int), .int .i64 (A.getD i 0), .pointer (some ⟨w.heap.size, 0, none⟩), .pointer (some ⟨H, 0, none⟩)] w' fun e w'' => ∃ z, e = .returned (.agg #[.bool false, .int .i64 (rs.getD i st0).2.1, z]) ∧ Below w'.heap.size w' w'' ∧ OwI w'.heap.size w'' z (rs.getD i st0).2.2) := by
            intro i hi
            rw [HTA.out i hi]
            exact ⟨rfl, fun w' hb => HCl.out w' H s (i : Int) (A.getD i 0) a1 l k1 (below_on HBV.out (below_on b5.out hb)) (cell_later hb x0) (cell_later hb x1) (hHd5.later hb) (by omega) (by rw [HL.out] at hi; omega) (HA39.out i hi).1 (HA39.out i hi).2⟩
          have HSt := hide (stepsOfI (s + 1) q rs (HRA.out.later b5.out) (by rw [HL.out]; exact hA24) (RdI_nil (fun _ => True) V5 none 0) HNx.out HTL.out (by first | exact HT0.out | (rw [HL.out]; exact HT0.out)) (by rw [HL.out]; exact HT1.out) (by first | exact HT2.out | (rw [HL.out]; exact HT2.out)) HPut.out)
          have hHl5 : H < V5.heap.size := World.block_lt_of_cell? _ _ y2
          clear hHd5
          go_wp2_with fail
          refine HSt.out.mono ?_
          rintro e w6 ⟨z6, rfl, hb6, ho6⟩
          obtain ⟨a6, k6, hz6⟩ := ho6.shape
          rw [HTL.out, HL.out] at hz6
          subst hz6
          have hb56 := below_on b5.out hb6
          have v0 := cell_later hb56 HQ0.out
          have v1 := cell_later hb56 HQ1.out
          have f0 := ((bcell hb56).2 _ _ (by omega)).trans (HQf.out 0)
          have f1 := ((bcell hb56).2 _ _ (by omega)).trans (HQf.out 1)
          have hz56 := b5.out.size
          have HFin := hide (ret_steps (x := .int .i64 0) (below_on HBV.out hb56) (r := w.heap.size + 1) (by omega) (ho6.ow rfl (by rw [HTL.out, HL.out]; omega)) (fun b hb => ⟨by have := hb.1; omega, hb.2⟩))
          clear hb6 hb56 ho6 x0 x1 y2 n0 n1 n2
          go_wp2
          exact bodyPost_ret (v := .agg #[.int .i64 0, .slice a6 (l + 3) k6]) (by simp [results, Try.results11, go_sem, v0, v1]) rfl ⟨_, rfl, HFin.out.1, HFin.out.2⟩
  · rw [if_neg h0, if_neg (fun h => h0 h.1)]
    rw [hn, hm] at HIn
    rw [hn, hm]
    clear hu hv hs hn hm HU HV
    generalize inF xss ps = z at HIn h0 ⊢
    go_enter Try.func11, Try.ntmps11
    go_wp2_with fail
    refine (HIn.out _ A0.out).mono ?_
    rintro e w1 ⟨z1, rfl, hb1, ho1⟩
    obtain ⟨a1, k1, rfl⟩ := ho1.shape
    have q0 : w1.cell? ⟨w.heap.size + 1, 0, none⟩ = some (.int .i64 0) := cell_later hb1 (by simp [go_sem])
    have q1 : w1.cell? ⟨w.heap.size + 1, 1, none⟩ = some (.slice none 0 0) := cell_later hb1 (by simp [go_sem])
    have f0 : w1.frozen? ⟨w.heap.size + 1, 0, none⟩ = false := ((bcell hb1).2 _ _ (by simp)).trans (by simp [go_sem])
    have f1 : w1.frozen? ⟨w.heap.size + 1, 1, none⟩ = false := ((bcell hb1).2 _ _ (by simp)).trans (by simp [go_sem])
    have hlt : w.heap.size + 1 < w1.heap.size := World.block_lt_of_cell? _ _ q0
    have HB := hide (below_on A0.out hb1)
    generalize (inA xss ps).length = l
    generalize inS xss ps = s
    generalize inT xss ps = t
    clear hb1 ho1
    go_wp2
    have BA := below_alloc ((w1.setCell ⟨w.heap.size + 1, 0, none⟩ (.int .i64 z)).setCell ⟨w.heap.size + 1, 1, none⟩ (.slice none 0 0)) (.cells #[.int .i64 z, .int .i64 s, .int .i64 t, .slice a1 l k1] 66)
    have m0 := cell_later BA (a := ⟨w.heap.size + 1, 0, none⟩) (v := .int .i64 z) (by simp [go_sem, q0])
    have m1 := cell_later BA (a := ⟨w.heap.size + 1, 1, none⟩) (v := .slice none 0 0) (by simp [go_sem, q1])
    exact bodyPost_ret (v := .agg #[.int .i64 z, .slice none 0 0]) (by simp [results, Try.results11, go_sem, m0, m1]) rfl ⟨_, rfl, ((HB.out.setCell (by simp) _).setCell (by simp) _).trans (BA.mono (by simp; omega)), OwT_nil _ _⟩


set_option maxHeartbeats 2000000 in
set_option maxRecDepth 4000 in
theorem specPlanInstall {S T : Nat → Prop} {w : World} {u v : Value} {xss : List (List Int)} {ps : List (Int × List Int)} (hu : RdII S w u xss) (hv : RdP T w v ps) (hs : Small xss ps) :
    Calls Try.prog 9 #[.agg #[u, v]] w (EndsT (pnF xss ps) (pnT xss ps) w) := by
  unfold EndsT pnF pnT
  obtain ⟨ao, c, rfl, _⟩ := hu.shape
  obtain ⟨ao', c', rfl, _⟩ := hv.shape
  have HIn := hide (fun (w' : World) (hb : Below w.heap.size w w') => specHeaderIn (hu.later hb) (hv.later hb) hs)
  have HU := hide hu
  have HV := hide hv
  have HS := hide hs
  obtain ⟨n, hn⟩ : ∃ n, xss.length = n := ⟨_, rfl⟩
  obtain ⟨m, hm⟩ : ∃ m, ps.length = m := ⟨_, rfl⟩
  have A0 := hide (below_on (below_alloc w (.cells #[.slice ao n c, .slice ao' m c'] 33)) (below_alloc _ (.cells #[.int .i64 0, .slice none 0 0] 29)))
  rw [hn] at HU
  rw [hm] at HV
  by_cases h0 : inF xss ps = 0
  · obtain ⟨_, h66, hhd⟩ := in_ok h0
    obtain ⟨⟨hs1, hs2, _, _⟩, hA24, _⟩ := headF_zero hhd
    rw [if_pos h0]
    rw [h0] at HIn
    have HLI := hide (fun (w' : World) (S3 : Nat → Prop) (bh : Nat) (y : Value) (hb : Below w.heap.size w w') (hd0 : w'.cell? ⟨w.heap.size, 0, none⟩ = some (.slice ao n c)) (hd1 : w'.cell? ⟨w.heap.size, 1, none⟩ = some (.slice ao' m c')) (hh : HdAt w' bh 1 (inS xss ps) (inT xss ps) y) (hA : RdI S3 w' y (inA xss ps)) (hlt : inS xss ps < 65000) => l3Install hd0 hd1 (HU.out.later hb) (HV.out.later hb) HS.out h66 hh hA hhd hlt)
    have HTL := hide (insTs_len xss ps (inS xss ps) (inT xss ps) (inA xss ps))
    generalize insTs xss ps (inS xss ps) (inT xss ps) (inA xss ps) = ts at HTL HLI ⊢
    have h00 : inF xss ps = 0 := h0
    generalize inS xss ps = s at HIn HLI hs1 hs2 ⊢
    generalize inT xss ps = t at HIn HLI
    generalize inA xss ps = A at HIn HTL HLI hA24 ⊢
    obtain ⟨l, hl⟩ : ∃ l, A.length = l := ⟨_, rfl⟩
    have HL := hide hl
    rw [hl] at hA24 HTL HLI
    rw [hn, hm] at HIn
    rw [hn, hm, hl]
    have H00 := hide h00
    obtain ⟨cc, hcc⟩ : ∃ cc : Int, (if s = 65000 then (10 : Int) else 0) = cc := ⟨_, rfl⟩
    obtain ⟨rs, hrs⟩ : ∃ rs : List St, (if inF xss ps = 0 ∧ s ≠ 65000 ∧ l ≠ 0 then ts else []) = rs := ⟨_, rfl⟩
    rw [hcc, hrs]
    have HCC := hide hcc
    have HRS := hide hrs
    clear hu hv hs hn hm h0 h00 h66 hhd hl hcc hrs
    go_enter Try.func9, Try.ntmps9
    go_wp2_with fail
    refine (HIn.out _ A0.out).mono ?_
    rintro e w1 ⟨z1, rfl, hb1, ho1⟩
    obtain ⟨a1, k1, hz1'⟩ := ho1.shape
    rw [HL.out] at hz1'
    subst hz1'
    have bR := below_alloc w1 (.cells #[.int .i64 0, .int .i64 s, .int .i64 t, .slice a1 l k1] 66)
    have b1' := below_on hb1 bR
    have HW : Hid (Below w.heap.size w (w1.alloc (.cells #[.int .i64 0, .int .i64 s, .int .i64 t, .slice a1 l k1] 66)) ∧ Var2 (w1.alloc (.cells #[.int .i64 0, .int .i64 s, .int .i64 t, .slice a1 l k1] 66)) w.heap.size (.slice ao n c) (.slice ao' m c') ∧ Var2 (w1.alloc (.cells #[.int .i64 0, .int .i64 s, .int .i64 t, .slice a1 l k1] 66)) (w.heap.size + 1) (.int .i64 0) (.slice none 0 0) ∧ (∀ o, (w1.alloc (.cells #[.int .i64 0, .int .i64 s, .int .i64 t, .slice a1 l k1] 66)).frozen? ⟨w.heap.size + 1, o, none⟩ = false) ∧ HdAt (w1.alloc (.cells #[.int .i64 0, .int .i64 s, .int .i64 t, .slice a1 l k1] 66)) w1.heap.size 1 s t (.slice a1 l k1) ∧ RdI (fun _ => True) (w1.alloc (.cells #[.int .i64 0, .int .i64 s, .int .i64 t, .slice a1 l k1] 66)) (.slice a1 l k1) A) :=
      ⟨below_on A0.out b1', ⟨cell_later b1' (by simp [go_sem]), cell_later b1' (by simp [go_sem])⟩, ⟨cell_later b1' (by simp [go_sem]), cell_later b1' (by simp [go_sem])⟩, fun o => ((bcell b1').2 _ _ (by simp)).trans (by simp [go_sem]), ⟨by simp [go_sem], by simp [go_sem], by simp [go_sem]⟩, (ho1.rd.later bR).narrow (fun _ _ _ => trivial)⟩
    have hsz : w.heap.size + 1 < w1.heap.size := by have := hb1.size; simp at this; omega
    clear hb1 ho1 bR b1' HIn A0
    go_upto_region 4 with fail
    refine forget (fun wx => Below w.heap.size w wx ∧ Var2 wx w.heap.size (.slice ao n c) (.slice ao' m c') ∧ Var2 wx (w.heap.size + 1) (.int .i64 0) (.slice none 0 0) ∧ (∀ o, wx.frozen? ⟨w.heap.size + 1, o, none⟩ = false) ∧ HdAt wx w1.heap.size 1 s t (.slice a1 l k1) ∧ RdI (fun _ => True) wx (.slice a1 l k1) A) HW.out ?_
    obtain ⟨H, hH⟩ : ∃ H, w1.heap.size = H := ⟨_, rfl⟩
    rw [hH] at hsz ⊢
    clear HW hH
    rintro V ⟨hbV, ⟨d0, d1⟩, ⟨q0, q1⟩, qf, hHd, hRA⟩
    have HBV := hide hbV
    have HD0 := hide d0
    have HD1 := hide d1
    have HHd := hide hHd
    have HRA := hide hRA
    have h0 := hHd.seq
    have h2 := hHd.addrs
    have hHl : H < V.heap.size := World.block_lt_of_cell? _ _ h0
    have f0 := qf 0
    have f1 := qf 1
    have HQf := hide qf
    clear hbV hHd hRA d0 d1 qf
    by_cases h65 : s = 65000
    · have e1 : cc = 10 := by rw [← HCC.out, if_pos h65]
      have e2 : rs = [] := by rw [← HRS.out, if_neg (fun h => h.2.1 h65)]
      subst e1 e2 h65
      go_wp2
      exact bodyPost_ret (v := .agg #[.int .i64 10, .slice none 0 0]) (by simp [results, Try.results9, go_sem, q0, q1]) rfl ⟨_, rfl, (HBV.out.setCell (by simp) _).setCell (by simp) _, OwT_nil _ _⟩
    · have e1 : cc = 0 := by rw [← HCC.out, if_neg h65]
      have h65' : ¬ 65000 ≤ s := by omega
      subst e1
      by_cases hl0 : l = 0
      · have e2 : rs = [] := by rw [← HRS.out, if_neg (fun h => h.2.2 hl0)]
        subst e2 hl0
        go_wp2
        exact bodyPost_ret (v := .agg #[.int .i64 0, .slice none 0 0]) (by simp [results, Try.results9, go_sem, q0, q1]) rfl ⟨_, rfl, (HBV.out.setCell (by simp) _).setCell (by simp) _, OwT_nil _ _⟩
      · have e2 : rs = ts := by rw [← HRS.out, if_pos ⟨H00.out, h65, hl0⟩]
        subst e2
        have hl0' : ¬ (l : Int) = 0 := by omega
        have HSt := hide (HLI.out V _ H _ HBV.out HD0.out HD1.out HHd.out HRA.out (by omega))
        go_wp2_with fail
        refine HSt.out.mono ?_
        rintro e w6 ⟨z6, rfl, hb6, ho6⟩
        obtain ⟨a6, k6, rfl⟩ := ho6.shape
        have v0 := cell_later hb6 q0
        have v1 := cell_later hb6 q1
        have g0 := ((bcell hb6).2 _ _ (by omega)).trans f0
        have g1 := ((bcell hb6).2 _ _ (by omega)).trans f1
        have HFin := hide (ret_steps (x := .int .i64 0) (below_on HBV.out hb6) (r := w.heap.size + 1) (by omega) (ho6.ow HTL.out (by omega)) (fun b hb => ⟨by have := hb.1; omega, hb.2⟩))
        clear hb6 ho6 q0 q1 f0 f1 h0 h2
        go_wp2
        exact bodyPost_ret (v := .agg #[.int .i64 0, .slice a6 (l + 3) k6]) (by simp [results, Try.results9, go_sem, v0, v1]) rfl ⟨_, rfl, HFin.out.1, HFin.out.2⟩
  · rw [if_neg h0, if_neg (fun h => h0 h.1)]
    rw [hn, hm] at HIn
    rw [hn, hm]
    clear hu hv hs hn hm HU HV
    generalize inF xss ps = z at HIn h0 ⊢
    go_enter Try.func9, Try.ntmps9
    go_wp2_with fail
    refine (HIn.out _ A0.out).mono ?_
    rintro e w1 ⟨z1, rfl, hb1, ho1⟩
    obtain ⟨a1, k1, rfl⟩ := ho1.shape
    have q0 : w1.cell? ⟨w.heap.size + 1, 0, none⟩ = some (.int .i64 0) := cell_later hb1 (by simp [go_sem])
    have q1 : w1.cell? ⟨w.heap.size + 1, 1, none⟩ = some (.slice none 0 0) := cell_later hb1 (by simp [go_sem])
    have f0 : w1.frozen? ⟨w.heap.size + 1, 0, none⟩ = false := ((bcell hb1).2 _ _ (by simp)).trans (by simp [go_sem])
    have f1 : w1.frozen? ⟨w.heap.size + 1, 1, none⟩ = false := ((bcell hb1).2 _ _ (by simp)).trans (by simp [go_sem])
    have hlt : w.heap.size + 1 < w1.heap.size := World.block_lt_of_cell? _ _ q0
    have HB := hide (below_on A0.out hb1)
    generalize (inA xss ps).length = l
    generalize inS xss ps = s
    generalize inT xss ps = t
    clear hb1 ho1
    go_wp2
    have BA := below_alloc ((w1.setCell ⟨w.heap.size + 1, 0, none⟩ (.int .i64 z)).setCell ⟨w.heap.size + 1, 1, none⟩ (.slice none 0 0)) (.cells #[.int .i64 z, .int .i64 s, .int .i64 t, .slice a1 l k1] 66)
    have m0 := cell_later BA (a := ⟨w.heap.size + 1, 0, none⟩) (v := .int .i64 z) (by simp [go_sem, q0])
    have m1 := cell_later BA (a := ⟨w.heap.size + 1, 1, none⟩) (v := .slice none 0 0) (by simp [go_sem, q1])
    exact bodyPost_ret (v := .agg #[.int .i64 z, .slice none 0 0]) (by simp [results, Try.results9, go_sem, m0, m1]) rfl ⟨_, rfl, ((HB.out.setCell (by simp) _).setCell (by simp) _).trans (BA.mono (by simp; omega)), OwT_nil _ _⟩

theorem totS_most {ts : List St} {B : Nat} (h : ∀ i, i < ts.length → (ts.getD i st0).2.2.length ≤ B) : ∀ i, i ≤ ts.length → totS ts i ≤ i * (B + 2) := by
  intro i
  induction i with
  | zero => intro _; rw [totS_zero]; omega
  | succ i ih =>
    intro hi
    rw [totS_succ ts i (by omega), Nat.succ_mul]
    have := ih (by omega)
    have := h i (by omega)
    omega
theorem pn_bound {xss : List (List Int)} {ps : List (Int × List Int)} (hs : Small xss ps) : totS (pnT xss ps) (pnT xss ps).length ≤ 1073741824 := by
  unfold pnT
  split
  · rename_i h
    obtain ⟨_, h66, hhd⟩ := in_ok h.1
    obtain ⟨_, hA24, _⟩ := headF_zero hhd
    have hl := insTs_len xss ps (inS xss ps) (inT xss ps) (inA xss ps)
    have := totS_most (ts := insTs xss ps (inS xss ps) (inT xss ps) (inA xss ps)) (B := 1048576) (fun i hi => by
      rw [hl] at hi
      by_cases h1 : i < (inA xss ps).length
      · rw [insTs_at _ _ _ _ _ _ h1]; exact slotW_len hs h66 _ _
      · have : i = (inA xss ps).length ∨ i = (inA xss ps).length + 1 ∨ i = (inA xss ps).length + 2 := by omega
        rcases this with rfl | rfl | rfl
        · rw [insTs_0]; simp
        · rw [insTs_1, packL_len (by simp)]; omega
        · rw [insTs_2]; simp) _ (Nat.le_refl _)
    rw [hl] at this ⊢
    have h2 : ((inA xss ps).length + 3) * (1048576 + 2) ≤ 27 * (1048576 + 2) := Nat.mul_le_mul_right _ (by omega)
    omega
  · simp [totS]
end Go.Proofs.Ytdjdfkhgkadhgaa
