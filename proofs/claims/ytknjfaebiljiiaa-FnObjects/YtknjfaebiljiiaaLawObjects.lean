/- The law 'FnObjects' walked. Made by program (genlawobj.py). -/
import Derived.Test.YtknjfaebiljiiaaDraw13
import Derived.Test.YtknjfaebiljiiaaObj7
import Derived.Test.YtknjfaebiljiiaaLw
import Derived.Test.YtknjfaebiljiiaaMath5
import Derived.Test.YtknjfaebiljiiaaZero
import Derived.Test.YtknjfaebiljiiaaFld5
namespace Go.Proofs.Ytknjfaebiljiiaa
open Go.RowKit

theorem RdB.fresh {s : Nat} {w : World} {v : Value} {bs : List Nat} (h : RdB s w v bs) : RdB (w.heap.size + 1) w v bs := by
  obtain ⟨ao, c, e1, e2, e3⟩ := h
  refine ⟨ao, c, e1, e2, fun hne => ?_⟩
  obtain ⟨b, off, f1, f2, f3⟩ := e3 hne
  have := World.block_lt_of_cell? _ _ (f3 0 (List.length_pos_iff.2 hne)).1
  exact ⟨b, off, f1, by simp at this; omega, f3⟩

set_option maxHeartbeats 8000000 in
set_option maxRecDepth 4000 in
theorem lawObjects {s0 : Nat} {w : World} {v : Value} {bs : List Nat} (hv : RdB s0 w v bs) (hsm : bs.length ≤ 1048576) :
    Calls Try.prog 3 #[v] w fun e w' => e = .returned (.bool true) ∧ Below w.heap.size w w' := by
  have HV : Hid (RdB (w.heap.size + 1) w v bs) := RdB.fresh hv
  obtain ⟨ao, c, rfl, hle, h3⟩ := hv
  clear h3
  go_enter Try.func3, Try.ntmps3
  go_wp2_with fail
  refine (lwBig ao bs.length c w (by omega)).mono ?_
  rintro e wx ⟨he, hwx⟩
  rw [decide_eq_false (by omega : ¬ (1048576 < bs.length))] at he
  rw [he, hwx]
  clear he hwx wx
  have BB := hide (Below.refl w.heap.size w)
  go_wp2_with fail
  refine (drawMerge HV.out).mono ?_
  rintro e w1 ⟨z, ws, a, b, y, xs, rfl, hb, hwl, hxl, ho, hp⟩
  obtain ⟨az, cz, rfl⟩ := ho.shape
  obtain ⟨ay, cy, rfl⟩ := hp.shape
  have BC := hide (below_on BB.out hb)
  have z_w1 : w.heap.size ≤ w1.heap.size := by have := hb.size; simpa using this
  have N_ws := hide (ho.rd)
  have N_xs := hide (hp.rd)
  clear BB
  have BB := BC
  clear BC
  have F_ws := N_ws
  clear N_ws
  have F_xs := N_xs
  clear N_xs
  clear hb
  clear ho hp
  obtain ⟨l, hl⟩ : ∃ l, ws.length = l := ⟨_, rfl⟩
  obtain ⟨n, hn⟩ : ∃ n, xs.length = n := ⟨_, rfl⟩
  have HL := hide hl
  have HN := hide hn
  rw [hl] at hwl F_ws ⊢
  rw [hn] at hxl F_xs ⊢
  clear hl hn
  obtain ⟨C, hC⟩ : ∃ C, mrgC ws a b xs = C := ⟨_, rfl⟩
  obtain ⟨R, hR⟩ : ∃ R, mrgR ws a b xs = R := ⟨_, rfl⟩
  obtain ⟨m, hm⟩ : ∃ m, R.length = m := ⟨_, rfl⟩
  have HC := hide hC
  have HR := hide hR
  have HM := hide hm
  clear hC hR hm
  go_wp2_with fail
  refine (implMergeObject a b (F_ws.out.later (below_alloc _ (.cells #[.int .i64 a, .int .i64 b, .slice ay n cy] 26))) (F_xs.out.later (below_alloc _ (.cells #[.int .i64 a, .int .i64 b, .slice ay n cy] 26)))).mono ?_
  rintro e w2 ⟨zR, heR, hb, ho⟩
  obtain ⟨aoR, cR, hzR⟩ := ho.shape
  rw [HC.out] at heR
  rw [HR.out, HM.out] at hzR
  rw [HR.out] at ho
  subst hzR
  subst heR
  have G_ws := hide ((F_ws.out.later (below_alloc _ (.cells #[.int .i64 a, .int .i64 b, .slice ay n cy] 26))).later hb)
  have G_xs := hide ((F_xs.out.later (below_alloc _ (.cells #[.int .i64 a, .int .i64 b, .slice ay n cy] 26))).later hb)
  have BC := hide (below_on (below_on BB.out (below_alloc _ (.cells #[.int .i64 a, .int .i64 b, .slice ay n cy] 26))) hb)
  have z_w2 : w1.heap.size + 1 ≤ w2.heap.size := by have := hb.size; simpa using this
  have N_R := hide (ho.rd)
  have N_vo := hide ((Var3_new w1 (.int .i64 a) (.int .i64 b) (.slice ay n cy) 26).later hb)
  clear F_ws
  have F_ws := G_ws
  clear G_ws
  clear F_xs
  have F_xs := G_xs
  clear G_xs
  clear BB
  have BB := BC
  clear BC
  have F_R := N_R
  clear N_R
  have F_vo := N_vo
  clear N_vo
  clear hb
  clear ho
  by_cases hC0 : C = 0
  · skip
    subst hC0
    obtain ⟨q1, q2⟩ := mrgC_zero HC.out
    obtain ⟨⟨p1, p2, p3, p4⟩, p5, p6⟩ := objF_zero q2
    rw [HN.out] at p5
    obtain ⟨f, rfl⟩ : ∃ f : Nat, b = (f : Int) := ⟨b.toNat, (Int.toNat_of_nonneg p3).symm⟩
    have HRm : Hid (R = mrgL ws f xs) := by rw [Hid, ← HR.out]; unfold mrgR; rw [if_pos q1, if_pos q2, Int.toNat_natCast]
    have HW0 := hide q1
    have HWm : Hid (wordsF R = 0) := by rw [Hid, HRm.out]; exact mrg_words q1 p6 (by rw [HN.out]; omega)
    have HOf := hide q2
    have hfn : f + n ≤ 64 := by omega
    have hn1 : 1 ≤ n := by omega
    clear q1 q2 p1 p2 p3 p4 p5 p6 HC HR hxl hwl
    have K : Hid (∀ (ys : List Int) (i k : Nat), wordsF ys = 0 → i + k ≤ 64 → readC ys (i : Int) (k : Int) = 0 ∧ rdL ys (i : Int) (k : Int) = readL ys i k) := fun ys i k h1 h2 => read_ok h1 h2
    have Ea := hide (K.out R f n HWm.out (by omega))
    have Eb := hide (K.out ws 0 f HW0.out (by omega))
    have Ec := hide (K.out R 0 f HWm.out (by omega))
    have Ed := hide (K.out ws (f + n) (64 - f - n) HW0.out (by omega))
    have Ee := hide (K.out R (f + n) (64 - f - n) HWm.out (by omega))
    have hd1 : ((f + n : Nat) : Int) = (f : Int) + (n : Int) := by omega
    have hd2 : ((64 - f - n : Nat) : Int) = 64 - (f : Int) - (n : Int) := by omega
    have h00 : ((0 : Nat) : Int) = 0 := rfl
    rw [hd1, hd2] at Ed Ee
    rw [h00] at Eb Ec
    clear hd1 hd2 h00 K
    obtain ⟨La, hLa⟩ : ∃ L, readL R f n = L := ⟨_, rfl⟩
    obtain ⟨Lb, hLb⟩ : ∃ L, readL ws 0 f = L := ⟨_, rfl⟩
    obtain ⟨Ld, hLd⟩ : ∃ L, readL ws (f + n) (64 - f - n) = L := ⟨_, rfl⟩
    have hLc : readL R 0 f = Lb := by rw [← hLb, HRm.out]; exact (mrg_ahead ws f xs).symm
    have hLe : readL R (f + n) (64 - f - n) = Ld := by rw [← hLd, HRm.out, ← HN.out]; exact (mrg_behind ws f xs _).symm
    have hLx : La = xs := by rw [← hLa, HRm.out, ← HN.out]; exact mrg_there ws f xs
    have ha : La.length = n := by rw [hLx]; exact HN.out
    have hb0 : Lb.length = f := by rw [← hLb]; exact readL_len _ _ _
    have hd0 : Ld.length = 64 - f - n := by rw [← hLd]; exact readL_len _ _ _
    obtain ⟨md, hmd⟩ : ∃ md, 64 - f - n = md := ⟨_, rfl⟩
    rw [hmd] at hd0
    rw [hLa] at Ea
    rw [hLb] at Eb
    rw [hLc] at Ec
    rw [hLd] at Ed
    rw [hLe] at Ee
    have HLx := hide hLx
    have Ha := hide ha
    have Hb := hide hb0
    have Hd := hide hd0
    have hm1 : (0 : Int) ≤ (f : Int) := by omega
    have hm2 : (f : Int) ≤ 64 := by omega
    have hm3 : (n : Int) ≤ 64 := by omega
    have hm4 : (f : Int) + (n : Int) ≤ 64 := by omega
    clear hLa hLb hLc hLd hLe hLx ha hb0 hd0 hmd
    have olt := F_vo.out.lt
    obtain ⟨o0, o1, o2⟩ := F_vo.out
    go_wp2_with fail
    refine (implReadObject (f : Int) (n : Int) (F_R.out.later (below_alloc _ (.cells #[.int .i64 0, .slice aoR m cR] 30)))).mono ?_
    rintro e w3 ⟨za, hea, hb, ho⟩
    obtain ⟨aoa, ca, hza⟩ := ho.shape
    rw [Ea.out.1] at hea
    rw [Ea.out.2] at ho
    rw [Ea.out.2, Ha.out] at hza
    subst hza
    subst hea
    have G_ws := hide ((F_ws.out.later (below_alloc _ (.cells #[.int .i64 0, .slice aoR m cR] 30))).later hb)
    have G_xs := hide ((F_xs.out.later (below_alloc _ (.cells #[.int .i64 0, .slice aoR m cR] 30))).later hb)
    have G_R := hide ((F_R.out.later (below_alloc _ (.cells #[.int .i64 0, .slice aoR m cR] 30))).later hb)
    have G_vo := hide ((F_vo.out.later (below_alloc _ (.cells #[.int .i64 0, .slice aoR m cR] 30))).later hb)
    have BC := hide (below_on (below_on BB.out (below_alloc _ (.cells #[.int .i64 0, .slice aoR m cR] 30))) hb)
    have z_w3 : w2.heap.size + 1 ≤ w3.heap.size := by have := hb.size; simpa using this
    have N_ra := hide (ho.rd)
    have N_vR := hide ((Var2_new w2 (.int .i64 0) (.slice aoR m cR) 30).later hb)
    clear olt o0 o1 o2
    clear F_ws
    have F_ws := G_ws
    clear G_ws
    clear F_xs
    have F_xs := G_xs
    clear G_xs
    clear F_R
    have F_R := G_R
    clear G_R
    clear F_vo
    have F_vo := G_vo
    clear G_vo
    clear BB
    have BB := BC
    clear BC
    have F_ra := N_ra
    clear N_ra
    have F_vR := N_vR
    clear N_vR
    clear hb
    clear ho
    have olt := F_vo.out.lt
    obtain ⟨o0, o1, o2⟩ := F_vo.out
    go_wp2_with fail
    refine (implReadObject (0 : Int) (f : Int) (F_ws.out.later (below_alloc _ (.cells #[.int .i64 0, .slice aoa n ca] 30)))).mono ?_
    rintro e w4 ⟨zb, heb, hb, ho⟩
    obtain ⟨aob, cb, hzb⟩ := ho.shape
    rw [Eb.out.1] at heb
    rw [Eb.out.2] at ho
    rw [Eb.out.2, Hb.out] at hzb
    subst hzb
    subst heb
    have G_ws := hide ((F_ws.out.later (below_alloc _ (.cells #[.int .i64 0, .slice aoa n ca] 30))).later hb)
    have G_xs := hide ((F_xs.out.later (below_alloc _ (.cells #[.int .i64 0, .slice aoa n ca] 30))).later hb)
    have G_R := hide ((F_R.out.later (below_alloc _ (.cells #[.int .i64 0, .slice aoa n ca] 30))).later hb)
    have G_vo := hide ((F_vo.out.later (below_alloc _ (.cells #[.int .i64 0, .slice aoa n ca] 30))).later hb)
    have G_ra := hide ((F_ra.out.later (below_alloc _ (.cells #[.int .i64 0, .slice aoa n ca] 30))).later hb)
    have G_vR := hide ((F_vR.out.later (below_alloc _ (.cells #[.int .i64 0, .slice aoa n ca] 30))).later hb)
    have BC := hide (below_on (below_on BB.out (below_alloc _ (.cells #[.int .i64 0, .slice aoa n ca] 30))) hb)
    have z_w4 : w3.heap.size + 1 ≤ w4.heap.size := by have := hb.size; simpa using this
    have N_rb := hide (ho.rd)
    have N_va := hide ((Var2_new w3 (.int .i64 0) (.slice aoa n ca) 30).later hb)
    clear olt o0 o1 o2
    clear F_ws
    have F_ws := G_ws
    clear G_ws
    clear F_xs
    have F_xs := G_xs
    clear G_xs
    clear F_R
    have F_R := G_R
    clear G_R
    clear F_vo
    have F_vo := G_vo
    clear G_vo
    clear F_ra
    have F_ra := G_ra
    clear G_ra
    clear F_vR
    have F_vR := G_vR
    clear G_vR
    clear BB
    have BB := BC
    clear BC
    have F_rb := N_rb
    clear N_rb
    have F_va := N_va
    clear N_va
    clear hb
    clear ho
    have olt := F_vo.out.lt
    obtain ⟨o0, o1, o2⟩ := F_vo.out
    have rlt := F_vR.out.lt
    obtain ⟨r0, r1⟩ := F_vR.out
    go_wp2_with fail
    refine (implReadObject (0 : Int) (f : Int) (F_R.out.later (below_alloc _ (.cells #[.int .i64 0, .slice aob f cb] 30)))).mono ?_
    rintro e w5 ⟨zc, hec, hb, ho⟩
    obtain ⟨aoc, cc, hzc⟩ := ho.shape
    rw [Ec.out.1] at hec
    rw [Ec.out.2] at ho
    rw [Ec.out.2, Hb.out] at hzc
    subst hzc
    subst hec
    have G_ws := hide ((F_ws.out.later (below_alloc _ (.cells #[.int .i64 0, .slice aob f cb] 30))).later hb)
    have G_xs := hide ((F_xs.out.later (below_alloc _ (.cells #[.int .i64 0, .slice aob f cb] 30))).later hb)
    have G_R := hide ((F_R.out.later (below_alloc _ (.cells #[.int .i64 0, .slice aob f cb] 30))).later hb)
    have G_vo := hide ((F_vo.out.later (below_alloc _ (.cells #[.int .i64 0, .slice aob f cb] 30))).later hb)
    have G_ra := hide ((F_ra.out.later (below_alloc _ (.cells #[.int .i64 0, .slice aob f cb] 30))).later hb)
    have G_vR := hide ((F_vR.out.later (below_alloc _ (.cells #[.int .i64 0, .slice aob f cb] 30))).later hb)
    have G_rb := hide ((F_rb.out.later (below_alloc _ (.cells #[.int .i64 0, .slice aob f cb] 30))).later hb)
    have G_va := hide ((F_va.out.later (below_alloc _ (.cells #[.int .i64 0, .slice aob f cb] 30))).later hb)
    have BC := hide (below_on (below_on BB.out (below_alloc _ (.cells #[.int .i64 0, .slice aob f cb] 30))) hb)
    have z_w5 : w4.heap.size + 1 ≤ w5.heap.size := by have := hb.size; simpa using this
    have N_rc := hide (ho.rd)
    have N_vb := hide ((Var2_new w4 (.int .i64 0) (.slice aob f cb) 30).later hb)
    clear olt o0 o1 o2
    clear rlt r0 r1
    clear F_ws
    have F_ws := G_ws
    clear G_ws
    clear F_xs
    have F_xs := G_xs
    clear G_xs
    clear F_R
    have F_R := G_R
    clear G_R
    clear F_vo
    have F_vo := G_vo
    clear G_vo
    clear F_ra
    have F_ra := G_ra
    clear G_ra
    clear F_vR
    have F_vR := G_vR
    clear G_vR
    clear F_rb
    have F_rb := G_rb
    clear G_rb
    clear F_va
    have F_va := G_va
    clear G_va
    clear BB
    have BB := BC
    clear BC
    have F_rc := N_rc
    clear N_rc
    have F_vb := N_vb
    clear N_vb
    clear hb
    clear ho
    have olt := F_vo.out.lt
    obtain ⟨o0, o1, o2⟩ := F_vo.out
    go_wp2_with fail
    refine (implReadObject ((f : Int) + (n : Int)) (64 - (f : Int) - (n : Int)) (F_ws.out.later (below_alloc _ (.cells #[.int .i64 0, .slice aoc f cc] 30)))).mono ?_
    rintro e w6 ⟨zd, hed, hb, ho⟩
    obtain ⟨aod, cd, hzd⟩ := ho.shape
    rw [Ed.out.1] at hed
    rw [Ed.out.2] at ho
    rw [Ed.out.2, Hd.out] at hzd
    subst hzd
    subst hed
    have G_ws := hide ((F_ws.out.later (below_alloc _ (.cells #[.int .i64 0, .slice aoc f cc] 30))).later hb)
    have G_xs := hide ((F_xs.out.later (below_alloc _ (.cells #[.int .i64 0, .slice aoc f cc] 30))).later hb)
    have G_R := hide ((F_R.out.later (below_alloc _ (.cells #[.int .i64 0, .slice aoc f cc] 30))).later hb)
    have G_vo := hide ((F_vo.out.later (below_alloc _ (.cells #[.int .i64 0, .slice aoc f cc] 30))).later hb)
    have G_ra := hide ((F_ra.out.later (below_alloc _ (.cells #[.int .i64 0, .slice aoc f cc] 30))).later hb)
    have G_vR := hide ((F_vR.out.later (below_alloc _ (.cells #[.int .i64 0, .slice aoc f cc] 30))).later hb)
    have G_rb := hide ((F_rb.out.later (below_alloc _ (.cells #[.int .i64 0, .slice aoc f cc] 30))).later hb)
    have G_va := hide ((F_va.out.later (below_alloc _ (.cells #[.int .i64 0, .slice aoc f cc] 30))).later hb)
    have G_rc := hide ((F_rc.out.later (below_alloc _ (.cells #[.int .i64 0, .slice aoc f cc] 30))).later hb)
    have G_vb := hide ((F_vb.out.later (below_alloc _ (.cells #[.int .i64 0, .slice aoc f cc] 30))).later hb)
    have BC := hide (below_on (below_on BB.out (below_alloc _ (.cells #[.int .i64 0, .slice aoc f cc] 30))) hb)
    have z_w6 : w5.heap.size + 1 ≤ w6.heap.size := by have := hb.size; simpa using this
    have N_rd := hide (ho.rd)
    have N_vc := hide ((Var2_new w5 (.int .i64 0) (.slice aoc f cc) 30).later hb)
    clear olt o0 o1 o2
    clear F_ws
    have F_ws := G_ws
    clear G_ws
    clear F_xs
    have F_xs := G_xs
    clear G_xs
    clear F_R
    have F_R := G_R
    clear G_R
    clear F_vo
    have F_vo := G_vo
    clear G_vo
    clear F_ra
    have F_ra := G_ra
    clear G_ra
    clear F_vR
    have F_vR := G_vR
    clear G_vR
    clear F_rb
    have F_rb := G_rb
    clear G_rb
    clear F_va
    have F_va := G_va
    clear G_va
    clear F_rc
    have F_rc := G_rc
    clear G_rc
    clear F_vb
    have F_vb := G_vb
    clear G_vb
    clear BB
    have BB := BC
    clear BC
    have F_rd := N_rd
    clear N_rd
    have F_vc := N_vc
    clear N_vc
    clear hb
    clear ho
    have olt := F_vo.out.lt
    obtain ⟨o0, o1, o2⟩ := F_vo.out
    have rlt := F_vR.out.lt
    obtain ⟨r0, r1⟩ := F_vR.out
    go_wp2_with fail
    refine (implReadObject ((f : Int) + (n : Int)) (64 - (f : Int) - (n : Int)) (F_R.out.later (below_alloc _ (.cells #[.int .i64 0, .slice aod md cd] 30)))).mono ?_
    rintro e w7 ⟨ze, hee, hb, ho⟩
    obtain ⟨aoe, ce, hze⟩ := ho.shape
    rw [Ee.out.1] at hee
    rw [Ee.out.2] at ho
    rw [Ee.out.2, Hd.out] at hze
    subst hze
    subst hee
    have G_ws := hide ((F_ws.out.later (below_alloc _ (.cells #[.int .i64 0, .slice aod md cd] 30))).later hb)
    have G_xs := hide ((F_xs.out.later (below_alloc _ (.cells #[.int .i64 0, .slice aod md cd] 30))).later hb)
    have G_R := hide ((F_R.out.later (below_alloc _ (.cells #[.int .i64 0, .slice aod md cd] 30))).later hb)
    have G_vo := hide ((F_vo.out.later (below_alloc _ (.cells #[.int .i64 0, .slice aod md cd] 30))).later hb)
    have G_ra := hide ((F_ra.out.later (below_alloc _ (.cells #[.int .i64 0, .slice aod md cd] 30))).later hb)
    have G_vR := hide ((F_vR.out.later (below_alloc _ (.cells #[.int .i64 0, .slice aod md cd] 30))).later hb)
    have G_rb := hide ((F_rb.out.later (below_alloc _ (.cells #[.int .i64 0, .slice aod md cd] 30))).later hb)
    have G_va := hide ((F_va.out.later (below_alloc _ (.cells #[.int .i64 0, .slice aod md cd] 30))).later hb)
    have G_rc := hide ((F_rc.out.later (below_alloc _ (.cells #[.int .i64 0, .slice aod md cd] 30))).later hb)
    have G_vb := hide ((F_vb.out.later (below_alloc _ (.cells #[.int .i64 0, .slice aod md cd] 30))).later hb)
    have G_rd := hide ((F_rd.out.later (below_alloc _ (.cells #[.int .i64 0, .slice aod md cd] 30))).later hb)
    have G_vc := hide ((F_vc.out.later (below_alloc _ (.cells #[.int .i64 0, .slice aod md cd] 30))).later hb)
    have BC := hide (below_on (below_on BB.out (below_alloc _ (.cells #[.int .i64 0, .slice aod md cd] 30))) hb)
    have z_w7 : w6.heap.size + 1 ≤ w7.heap.size := by have := hb.size; simpa using this
    have N_re := hide (ho.rd)
    have N_vd := hide ((Var2_new w6 (.int .i64 0) (.slice aod md cd) 30).later hb)
    clear olt o0 o1 o2
    clear rlt r0 r1
    clear F_ws
    have F_ws := G_ws
    clear G_ws
    clear F_xs
    have F_xs := G_xs
    clear G_xs
    clear F_R
    have F_R := G_R
    clear G_R
    clear F_vo
    have F_vo := G_vo
    clear G_vo
    clear F_ra
    have F_ra := G_ra
    clear G_ra
    clear F_vR
    have F_vR := G_vR
    clear G_vR
    clear F_rb
    have F_rb := G_rb
    clear G_rb
    clear F_va
    have F_va := G_va
    clear G_va
    clear F_rc
    have F_rc := G_rc
    clear G_rc
    clear F_vb
    have F_vb := G_vb
    clear G_vb
    clear F_rd
    have F_rd := G_rd
    clear G_rd
    clear F_vc
    have F_vc := G_vc
    clear G_vc
    clear BB
    have BB := BC
    clear BC
    have F_re := N_re
    clear N_re
    have F_vd := N_vd
    clear N_vd
    clear hb
    clear ho
    have olt := F_vo.out.lt
    obtain ⟨o0, o1, o2⟩ := F_vo.out
    go_wp2_with fail
    refine (implObjectFault a (f : Int) (F_xs.out.later (below_alloc _ (.cells #[.int .i64 0, .slice aoe md ce] 30)))).mono ?_
    rintro e w8 ⟨he, hb⟩
    rw [HOf.out] at he
    subst he
    have G_ws := hide ((F_ws.out.later (below_alloc _ (.cells #[.int .i64 0, .slice aoe md ce] 30))).later hb)
    have G_xs := hide ((F_xs.out.later (below_alloc _ (.cells #[.int .i64 0, .slice aoe md ce] 30))).later hb)
    have G_R := hide ((F_R.out.later (below_alloc _ (.cells #[.int .i64 0, .slice aoe md ce] 30))).later hb)
    have G_vo := hide ((F_vo.out.later (below_alloc _ (.cells #[.int .i64 0, .slice aoe md ce] 30))).later hb)
    have G_ra := hide ((F_ra.out.later (below_alloc _ (.cells #[.int .i64 0, .slice aoe md ce] 30))).later hb)
    have G_vR := hide ((F_vR.out.later (below_alloc _ (.cells #[.int .i64 0, .slice aoe md ce] 30))).later hb)
    have G_rb := hide ((F_rb.out.later (below_alloc _ (.cells #[.int .i64 0, .slice aoe md ce] 30))).later hb)
    have G_va := hide ((F_va.out.later (below_alloc _ (.cells #[.int .i64 0, .slice aoe md ce] 30))).later hb)
    have G_rc := hide ((F_rc.out.later (below_alloc _ (.cells #[.int .i64 0, .slice aoe md ce] 30))).later hb)
    have G_vb := hide ((F_vb.out.later (below_alloc _ (.cells #[.int .i64 0, .slice aoe md ce] 30))).later hb)
    have G_rd := hide ((F_rd.out.later (below_alloc _ (.cells #[.int .i64 0, .slice aoe md ce] 30))).later hb)
    have G_vc := hide ((F_vc.out.later (below_alloc _ (.cells #[.int .i64 0, .slice aoe md ce] 30))).later hb)
    have G_re := hide ((F_re.out.later (below_alloc _ (.cells #[.int .i64 0, .slice aoe md ce] 30))).later hb)
    have G_vd := hide ((F_vd.out.later (below_alloc _ (.cells #[.int .i64 0, .slice aoe md ce] 30))).later hb)
    have BC := hide (below_on (below_on BB.out (below_alloc _ (.cells #[.int .i64 0, .slice aoe md ce] 30))) hb)
    have z_w8 : w7.heap.size + 1 ≤ w8.heap.size := by have := hb.size; simpa using this
    have N_ve := hide ((Var2_new w7 (.int .i64 0) (.slice aoe md ce) 30).later hb)
    clear olt o0 o1 o2
    clear F_ws
    have F_ws := G_ws
    clear G_ws
    clear F_xs
    have F_xs := G_xs
    clear G_xs
    clear F_R
    have F_R := G_R
    clear G_R
    clear F_vo
    have F_vo := G_vo
    clear G_vo
    clear F_ra
    have F_ra := G_ra
    clear G_ra
    clear F_vR
    have F_vR := G_vR
    clear G_vR
    clear F_rb
    have F_rb := G_rb
    clear G_rb
    clear F_va
    have F_va := G_va
    clear G_va
    clear F_rc
    have F_rc := G_rc
    clear G_rc
    clear F_vb
    have F_vb := G_vb
    clear G_vb
    clear F_rd
    have F_rd := G_rd
    clear G_rd
    clear F_vc
    have F_vc := G_vc
    clear G_vc
    clear F_re
    have F_re := G_re
    clear G_re
    clear F_vd
    have F_vd := G_vd
    clear G_vd
    clear BB
    have BB := BC
    clear BC
    have F_ve := N_ve
    clear N_ve
    clear hb
    have olt := F_vo.out.lt
    obtain ⟨o0, o1, o2⟩ := F_vo.out
    have xlt := F_va.out.lt
    obtain ⟨x0, x1⟩ := F_va.out
    go_wp2_with fail
    refine (lwNums F_ra.out F_xs.out).mono ?_
    rintro e w9 ⟨he, q, hq⟩
    have hb := below_drewN w8 q
    rw [← hq] at hb
    rw [decide_eq_true (HLx.out)] at he
    subst he
    clear hq
    have G_ws := hide (F_ws.out.later hb)
    have G_xs := hide (F_xs.out.later hb)
    have G_R := hide (F_R.out.later hb)
    have G_vo := hide (F_vo.out.later hb)
    have G_ra := hide (F_ra.out.later hb)
    have G_vR := hide (F_vR.out.later hb)
    have G_rb := hide (F_rb.out.later hb)
    have G_va := hide (F_va.out.later hb)
    have G_rc := hide (F_rc.out.later hb)
    have G_vb := hide (F_vb.out.later hb)
    have G_rd := hide (F_rd.out.later hb)
    have G_vc := hide (F_vc.out.later hb)
    have G_re := hide (F_re.out.later hb)
    have G_vd := hide (F_vd.out.later hb)
    have G_ve := hide (F_ve.out.later hb)
    have BC := hide (below_on BB.out hb)
    have z_w9 : w8.heap.size ≤ w9.heap.size := by have := hb.size; simpa using this
    clear olt o0 o1 o2
    clear xlt x0 x1
    clear F_ws
    have F_ws := G_ws
    clear G_ws
    clear F_xs
    have F_xs := G_xs
    clear G_xs
    clear F_R
    have F_R := G_R
    clear G_R
    clear F_vo
    have F_vo := G_vo
    clear G_vo
    clear F_ra
    have F_ra := G_ra
    clear G_ra
    clear F_vR
    have F_vR := G_vR
    clear G_vR
    clear F_rb
    have F_rb := G_rb
    clear G_rb
    clear F_va
    have F_va := G_va
    clear G_va
    clear F_rc
    have F_rc := G_rc
    clear G_rc
    clear F_vb
    have F_vb := G_vb
    clear G_vb
    clear F_rd
    have F_rd := G_rd
    clear G_rd
    clear F_vc
    have F_vc := G_vc
    clear G_vc
    clear F_re
    have F_re := G_re
    clear G_re
    clear F_vd
    have F_vd := G_vd
    clear G_vd
    clear F_ve
    have F_ve := G_ve
    clear G_ve
    clear BB
    have BB := BC
    clear BC
    clear hb
    have xlt := F_vb.out.lt
    obtain ⟨x0, x1⟩ := F_vb.out
    have ylt := F_vc.out.lt
    obtain ⟨y0, y1⟩ := F_vc.out
    go_wp2_with fail
    refine (lwNums F_rb.out F_rc.out).mono ?_
    rintro e w10 ⟨he, q, hq⟩
    have hb := below_drewN w9 q
    rw [← hq] at hb
    rw [decide_eq_true (rfl)] at he
    subst he
    clear hq
    have G_ws := hide (F_ws.out.later hb)
    have G_xs := hide (F_xs.out.later hb)
    have G_R := hide (F_R.out.later hb)
    have G_vo := hide (F_vo.out.later hb)
    have G_ra := hide (F_ra.out.later hb)
    have G_vR := hide (F_vR.out.later hb)
    have G_rb := hide (F_rb.out.later hb)
    have G_va := hide (F_va.out.later hb)
    have G_rc := hide (F_rc.out.later hb)
    have G_vb := hide (F_vb.out.later hb)
    have G_rd := hide (F_rd.out.later hb)
    have G_vc := hide (F_vc.out.later hb)
    have G_re := hide (F_re.out.later hb)
    have G_vd := hide (F_vd.out.later hb)
    have G_ve := hide (F_ve.out.later hb)
    have BC := hide (below_on BB.out hb)
    have z_w10 : w9.heap.size ≤ w10.heap.size := by have := hb.size; simpa using this
    clear xlt x0 x1
    clear ylt y0 y1
    clear F_ws
    have F_ws := G_ws
    clear G_ws
    clear F_xs
    have F_xs := G_xs
    clear G_xs
    clear F_R
    have F_R := G_R
    clear G_R
    clear F_vo
    have F_vo := G_vo
    clear G_vo
    clear F_ra
    have F_ra := G_ra
    clear G_ra
    clear F_vR
    have F_vR := G_vR
    clear G_vR
    clear F_rb
    have F_rb := G_rb
    clear G_rb
    clear F_va
    have F_va := G_va
    clear G_va
    clear F_rc
    have F_rc := G_rc
    clear G_rc
    clear F_vb
    have F_vb := G_vb
    clear G_vb
    clear F_rd
    have F_rd := G_rd
    clear G_rd
    clear F_vc
    have F_vc := G_vc
    clear G_vc
    clear F_re
    have F_re := G_re
    clear G_re
    clear F_vd
    have F_vd := G_vd
    clear G_vd
    clear F_ve
    have F_ve := G_ve
    clear G_ve
    clear BB
    have BB := BC
    clear BC
    clear hb
    have xlt := F_vd.out.lt
    obtain ⟨x0, x1⟩ := F_vd.out
    have ylt := F_ve.out.lt
    obtain ⟨y0, y1⟩ := F_ve.out
    go_wp2_with fail
    refine (lwNums F_rd.out F_re.out).mono ?_
    rintro e w11 ⟨he, q, hq⟩
    have hb := below_drewN w10 q
    rw [← hq] at hb
    rw [decide_eq_true (rfl)] at he
    subst he
    clear hq
    have G_ws := hide (F_ws.out.later hb)
    have G_xs := hide (F_xs.out.later hb)
    have G_R := hide (F_R.out.later hb)
    have G_vo := hide (F_vo.out.later hb)
    have G_ra := hide (F_ra.out.later hb)
    have G_vR := hide (F_vR.out.later hb)
    have G_rb := hide (F_rb.out.later hb)
    have G_va := hide (F_va.out.later hb)
    have G_rc := hide (F_rc.out.later hb)
    have G_vb := hide (F_vb.out.later hb)
    have G_rd := hide (F_rd.out.later hb)
    have G_vc := hide (F_vc.out.later hb)
    have G_re := hide (F_re.out.later hb)
    have G_vd := hide (F_vd.out.later hb)
    have G_ve := hide (F_ve.out.later hb)
    have BC := hide (below_on BB.out hb)
    have z_w11 : w10.heap.size ≤ w11.heap.size := by have := hb.size; simpa using this
    clear xlt x0 x1
    clear ylt y0 y1
    clear F_ws
    have F_ws := G_ws
    clear G_ws
    clear F_xs
    have F_xs := G_xs
    clear G_xs
    clear F_R
    have F_R := G_R
    clear G_R
    clear F_vo
    have F_vo := G_vo
    clear G_vo
    clear F_ra
    have F_ra := G_ra
    clear G_ra
    clear F_vR
    have F_vR := G_vR
    clear G_vR
    clear F_rb
    have F_rb := G_rb
    clear G_rb
    clear F_va
    have F_va := G_va
    clear G_va
    clear F_rc
    have F_rc := G_rc
    clear G_rc
    clear F_vb
    have F_vb := G_vb
    clear G_vb
    clear F_rd
    have F_rd := G_rd
    clear G_rd
    clear F_vc
    have F_vc := G_vc
    clear G_vc
    clear F_re
    have F_re := G_re
    clear G_re
    clear F_vd
    have F_vd := G_vd
    clear G_vd
    clear F_ve
    have F_ve := G_ve
    clear G_ve
    clear BB
    have BB := BC
    clear BC
    clear hb
    go_wp2
    go_ret
    exact ⟨rfl, BB.out⟩
  · skip
    have V1 := hide (F_vo.out.later (below_alloc w2 (.cells #[.int .i64 C, .slice aoR m cR] 30)))
    have V2 := hide (Var2_new w2 (.int .i64 C) (.slice aoR m cR) 30)
    have R1 := hide (F_ws.out.later (below_alloc w2 (.cells #[.int .i64 C, .slice aoR m cR] 30)))
    have R2 := hide (F_xs.out.later (below_alloc w2 (.cells #[.int .i64 C, .slice aoR m cR] 30)))
    have B1 := hide (below_on BB.out (below_alloc w2 (.cells #[.int .i64 C, .slice aoR m cR] 30)))
    obtain ⟨W, hW⟩ : ∃ W, w2.alloc (.cells #[.int .i64 C, .slice aoR m cR] 30) = W := ⟨_, rfl⟩
    rw [hW] at V1 V2 R1 R2 B1
    have v1lt := V1.out.lt
    have v2lt := V2.out.lt
    obtain ⟨o0, o1, o2⟩ := V1.out
    obtain ⟨r0, r1⟩ := V2.out
    go_upto_region 6 with fail
    clear hW F_ws F_xs F_vo F_R BB
    have hfld := Try.fieldI0
    go_region_held3 (fun w' => w'.cell? ⟨w1.heap.size, 0, none⟩ = some (.int .i64 a) ∧ w'.cell? ⟨w1.heap.size, 1, none⟩ = some (.int .i64 b) ∧ w'.cell? ⟨w1.heap.size, 2, none⟩ = some (.slice ay n cy) ∧ w'.cell? ⟨w2.heap.size, 0, none⟩ = some (.int .i64 C)) (first | exact ⟨o0, o1, o2, r0⟩ | exact ⟨e0, e1, e2, e3⟩)
      ((go_at_call 11; refine (specMergeObject a b (R1.out.drewN 1) (R2.out.drewN 1)).mono ?_; rintro e W2 ⟨z2, he2, hb, ho⟩; rw [HC.out] at he2; obtain ⟨a2, c2, hz2⟩ := ho.shape; subst hz2; subst he2; have e0 := cell_later hb o0; have e1 := cell_later hb o1; have e2 := cell_later hb o2; have e3 := cell_later hb r0; have B2 := hide (below_on (below_on B1.out (below_drewN _ 1)) hb); clear hb ho))
    go_wp2
    go_ret
    exact ⟨by simp, B2.out⟩
end Go.Proofs.Ytknjfaebiljiiaa
