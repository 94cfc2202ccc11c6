/- The law 'FnTorn', walked. Made by program (genlawtorn.py). -/
import Derived.Test.YtojcjipelgjglaaDraw6
import Derived.Test.YtojcjipelgjglaaLw
import Derived.Test.YtojcjipelgjglaaMath2
namespace Go.Proofs.Ytojcjipelgjglaa
open Go.RowKit

theorem RdB.up {s s' : Nat} {w : World} {v : Value} {bs : List Nat} (h : RdB s w v bs) (hs : w.heap.size ≤ s') : RdB s' w v bs := by
  obtain ⟨ao, c, e1, e2, e3⟩ := h
  refine ⟨ao, c, e1, e2, fun hne => ?_⟩
  obtain ⟨b, off, f1, f2, f3⟩ := e3 hne
  have := World.block_lt_of_cell? _ _ (f3 0 (List.length_pos_iff.2 hne)).1
  exact ⟨b, off, f1, by simp at this; omega, f3⟩
theorem RdB.later {s : Nat} {w w' : World} {v : Value} {bs : List Nat} (h : RdB s w v bs) (hb : Below w.heap.size w w') : RdB s w' v bs := by
  obtain ⟨ao, c, e1, e2, e3⟩ := h
  refine ⟨ao, c, e1, e2, fun hne => ?_⟩
  obtain ⟨b, off, f1, f2, f3⟩ := e3 hne
  exact ⟨b, off, f1, f2, fun i hi => ⟨cell_later hb (f3 i hi).1, (f3 i hi).2⟩⟩
def u8s (bs : List Nat) : List Value := bs.map fun (x : Nat) => Value.int .u8 (x : Int)
theorem RdB.src {s : Nat} {w : World} {v : Value} {bs : List Nat} (h : RdB s w v bs) : ∃ ao c, v = .slice ao bs.length c ∧ (bs.length ≠ 0 → ∃ ad, ao = some ad ∧ ∀ j u, (u8s bs)[j]? = some u → w.cell? (ad.add j) = some u) := by
  obtain ⟨ao, c, e1, e2, e3⟩ := h
  refine ⟨ao, c, e1, fun hne => ?_⟩
  obtain ⟨b, off, f1, f2, f3⟩ := e3 (by rintro rfl; exact hne rfl)
  refine ⟨_, f1, fun j u hu => ?_⟩
  have hj : j < bs.length := by have := (List.getElem?_eq_some_iff.1 hu).1; simpa [u8s] using this
  rw [Addr.add_mid, (f3 j hj).1]
  simp only [u8s, List.getElem?_map, List.getElem?_eq_getElem hj, Option.map_some] at hu
  rw [← hu]
  simp [List.getD, hj]
theorem u8s_one (bs : List Nat) : ∀ v ∈ u8s bs, v.oneCell' = true := by
  intro v hv
  simp only [u8s, List.mem_map] at hv
  obtain ⟨i, _, rfl⟩ := hv
  rfl
/-- One byte ahead of the bytes: what append has built. -/
theorem rdB_of_owns {w : World} {B t n : Nat} {ao : Option Addr} {c : Nat} {bs : List Nat} (hn : bs.length = n) (h : w.ownsRow B t 1 (.slice ao (1 + n) c) (1 + n) ([Value.int .u8 9] ++ u8s bs)) (hm : n ≤ 1048576) (hb : ∀ i, i < bs.length → bs.getD i 0 ≤ 255) (s : Nat) (hs : w.heap.size ≤ s) : RdB s w (.slice ao (1 + n) c) (9 :: bs) := by
  subst hn
  rcases h.2 with ⟨e, e'⟩ | ⟨g, cap, cur, e, hg, hh, hnc, _⟩
  · omega
  · injection e with e1 e2 e3
    subst e1 e3
    refine ⟨_, c, by simp [Nat.add_comm], by simp; omega, fun _ => ⟨g, 0, rfl, ?_, fun i hi => ⟨?_, ?_⟩⟩⟩
    · have := (Array.getElem?_eq_some_iff.1 hh).1
      omega
    · have hi2 : i < 1 + bs.length := by simp at hi; omega
      rw [Nat.zero_add, h.cellAt i (by simpa using hi2)]
      cases i with
      | zero => rfl
      | succ j =>
        have hj : j < bs.length := by omega
        simp [u8s, List.getD, hj]
    · cases i with
      | zero => simp
      | succ j => have := hb j (by simpa using hi); simpa using this

theorem Try.fldI0 (x y : Value) (w : World) : (Instr.field 33 (.agg #[x, y]) 0).run Try.prog w = .ok x w := by
  simp [Instr.field, run_underlying Try.underlying33, asAgg, part, isAgg, run_underlying Try.underlying2]
theorem Try.fldI1 (x y : Value) (w : World) : (Instr.field 33 (.agg #[x, y]) 1).run Try.prog w = .ok y w := by
  simp [Instr.field, run_underlying Try.underlying33, asAgg, part, isAgg, run_underlying Try.underlying24]
theorem Try.fldR0 (x y z u : Value) (w : World) : (Instr.field 29 (.agg #[x, y, z, u]) 0).run Try.prog w = .ok x w := by
  simp [Instr.field, run_underlying Try.underlying29, asAgg, part, isAgg, run_underlying Try.underlying2]
theorem Try.fldR1 (x y z u : Value) (w : World) : (Instr.field 29 (.agg #[x, y, z, u]) 1).run Try.prog w = .ok (.agg #[y, z, u]) w := by
  obtain ⟨i1, h1, h2⟩ : ∃ i, Try.prog.info? 27 = some i ∧ i.size = 3 := by
    have : (Try.prog.info? 27).map (·.size) = some 3 := by kernel_rfl
    cases hq : Try.prog.info? 27 with
    | none => rw [hq] at this; cases this
    | some i => rw [hq] at this; exact ⟨i, rfl, by simpa using this⟩
  simp [Instr.field, run_underlying Try.underlying29, asAgg, part, isAgg, run_underlying Try.underlying27, sizeOf, typeInfo, h1, h2]
theorem Try.fldH0 (x y z : Value) (w : World) : (Instr.field 27 (.agg #[x, y, z]) 0).run Try.prog w = .ok x w := by
  simp [Instr.field, run_underlying Try.underlying27, asAgg, part, isAgg, run_underlying Try.underlying2]

/-- What 'FnTorn' keeps behind its draws. -/
structure TnAt (w : World) (A B X Y : Nat) (s1 t1 s2 t2 c1 c2 : Int) (a1 a2 x1 x2 : Option Addr) (n1 n2 m1 m2 k1 k2 q1 q2 : Nat) (xs1 xs2 l1 l2 : List Int) (wx : World) : Prop where
  below : Below w.heap.size w wx
  va : Var3 wx A (.int .i64 s1) (.int .i64 t1) (.slice a1 n1 k1)
  vb : Var3 wx B (.int .i64 s2) (.int .i64 t2) (.slice a2 n2 k2)
  vx : Var2 wx X (.int .i64 c1) (.slice x1 m1 q1)
  vy : Var2 wx Y (.int .i64 c2) (.slice x2 m2 q2)
  ra : ∃ S, RdI S wx (.slice a1 n1 k1) xs1
  rb : ∃ S, RdI S wx (.slice a2 n2 k2) xs2
  rx : ∃ S, RdI S wx (.slice x1 m1 q1) l1
  ry : ∃ S, RdI S wx (.slice x2 m2 q2) l2
theorem TnAt.later {w : World} {A B X Y : Nat} {s1 t1 s2 t2 c1 c2 : Int} {a1 a2 x1 x2 : Option Addr} {n1 n2 m1 m2 k1 k2 q1 q2 : Nat} {xs1 xs2 l1 l2 : List Int} {wx w' : World} (h : TnAt w A B X Y s1 t1 s2 t2 c1 c2 a1 a2 x1 x2 n1 n2 m1 m2 k1 k2 q1 q2 xs1 xs2 l1 l2 wx) (hb : Below wx.heap.size wx w') :
    TnAt w A B X Y s1 t1 s2 t2 c1 c2 a1 a2 x1 x2 n1 n2 m1 m2 k1 k2 q1 q2 xs1 xs2 l1 l2 w' :=
  ⟨below_on h.below hb, h.va.later hb, h.vb.later hb, h.vx.later hb, h.vy.later hb, let ⟨S, k⟩ := h.ra; ⟨S, k.later hb⟩, let ⟨S, k⟩ := h.rb; ⟨S, k.later hb⟩, let ⟨S, k⟩ := h.rx; ⟨S, k.later hb⟩, let ⟨S, k⟩ := h.ry; ⟨S, k.later hb⟩⟩

set_option linter.unusedSimpArgs false in
set_option maxHeartbeats 3000000 in
set_option maxRecDepth 4000 in
theorem lawTorn {w : World} {v : Value} {bs : List Nat} (hv : RdB w.heap.size w v bs) (hsm : bs.length ≤ 1048576) :
    Calls Try.prog 4 #[v] w fun e w' => e = .returned (.bool true) ∧ Below w.heap.size w w' := by
  have HV := hide hv
  have hb255 : Hid (∀ i, i < bs.length → bs.getD i 0 ≤ 255) := fun i hi => by
    obtain ⟨_, _, _, _, e3⟩ := hv
    obtain ⟨_, _, _, _, f3⟩ := e3 (by rintro rfl; exact absurd hi (Nat.not_lt_zero _))
    exact (f3 i hi).2
  obtain ⟨ao, c, rfl, h2, h3⟩ := hv
  clear h3 h2
  obtain ⟨n, hn⟩ : ∃ n, bs.length = n := ⟨_, rfl⟩
  have HN := hide hn
  rw [hn] at HV hsm ⊢
  clear hn
  obtain ⟨i8, hi8, hz8, hs8, hb8⟩ := info_parts (show (Try.prog.info? 5).map (fun i => (i.zero, i.size, i.bytes)) = some (some (.int .u8 0), 1, 1) by kernel_rfl)
  go_enter Try.func4, Try.ntmps4
  go_wp2_with fail
  refine (lwBig ao n c w (by omega)).mono ?_
  rintro e wx ⟨he, hwx⟩
  rw [decide_eq_false (by omega : ¬ 1048576 < n)] at he
  rw [he, hwx]
  clear he hwx
  go_wp2_with fail
  refine (drawPack (HV.out.up (Nat.le_succ _))).mono ?_
  rintro e w1 ⟨s1, t1, z1, xs1, rfl, hb1, hl1, ho1⟩
  obtain ⟨a1, k1, rfl⟩ := ho1.shape
  obtain ⟨n1, hn1⟩ : ∃ n, xs1.length = n := ⟨_, rfl⟩
  rw [hn1] at ho1 hl1 ⊢
  have HN1 := hide hn1
  have HB1 := hide hb1
  have HR1 := hide ho1.rd
  have hz1 := hb1.size
  clear hb1 ho1 hn1
  obtain ⟨W1, hW1⟩ : ∃ W1, w1.alloc (.cells #[.int .i64 s1, .int .i64 t1, .slice a1 n1 k1] 27) = W1 := ⟨_, rfl⟩
  have BA := below_alloc w1 (.cells #[.int .i64 s1, .int .i64 t1, .slice a1 n1 k1] 27)
  have VA := Var3_new w1 (.int .i64 s1) (.int .i64 t1) (.slice a1 n1 k1) 27
  rw [hW1] at BA VA
  have HBA := hide (below_on HB1.out BA)
  have HVA := hide VA
  have HR1 := hide (HR1.out.later BA)
  have HVb := hide (HV.out.later HBA.out)
  have hW1s : w1.heap.size < W1.heap.size := by rw [← hW1]; simp
  obtain ⟨aob, cb, esb, hsrc⟩ := HVb.out.src
  rw [HN.out] at esb hsrc
  injection esb with e1 e2 e3
  subst e1
  have OF := hide (ownsRow_full W1 [.int .u8 9] 5 (by simp))
  have HSr : Hid (n ≠ 0 → ∃ ad, ao = some ad ∧ ∀ j u, (u8s bs)[j]? = some u → (W1.alloc (.cells #[.int .u8 9] 5)).cell? (ad.add j) = some u) := fun hne => by obtain ⟨ad, e, hc⟩ := hsrc hne; exact ⟨ad, e, fun j u hu => cell_later (below_alloc _ _) (hc j u hu)⟩
  clear BA VA hsrc e2 e3
  go_wp2_with (first | (rw [hW1]; at_builtin; refine wpList_append_any _ rfl _ _ 22 rfl W1.heap.size 5 i8 (.int .u8 0) 1 1 Try.underlying22 hi8 hz8 hs8 hb8 rfl (by decide) _ 1 [.int .u8 9] (by rfl) OF.out ao n c (u8s bs) (by rfl) (by simp [u8s, HN.out]) HSr.out (u8s_one bs) (by unfold maxLen; omega) (by omega) (by simp) ?_) | (at_builtin; refine wpList_append_any _ rfl _ _ 22 rfl W1.heap.size 5 i8 (.int .u8 0) 1 1 Try.underlying22 hi8 hz8 hs8 hb8 rfl (by decide) _ 1 [.int .u8 9] (by rfl) OF.out ao n c (u8s bs) (by rfl) (by simp [u8s, HN.out]) HSr.out (u8s_one bs) (by unfold maxLen; omega) (by omega) (by simp) ?_))
  intro v2 w2 hown hgrow
  obtain ⟨ao2, c2', rfl⟩ := ownsRow_shape hown
  have HB2 := hide ((below_alloc W1 (.cells #[.int .u8 9] 5)).grown hgrow (by simp) (fun r hr => by simp [Value.ownBlock] at hr; omega))
  have HV2 := hide (rdB_of_owns HN.out hown hsm hb255.out (w2.heap.size + 1) (by omega))
  have HVA := hide (HVA.out.later HB2.out)
  have HR1 := hide (HR1.out.later HB2.out)
  have HBB := hide (below_on HBA.out HB2.out)
  clear hown hgrow OF HSr HVb hW1
  go_wp2_with fail
  refine (drawPack HV2.out).mono ?_
  rintro e w3 ⟨s2, t2, z2, xs2, rfl, hb3, hl2, ho2⟩
  obtain ⟨a2, k2, rfl⟩ := ho2.shape
  obtain ⟨n2, hn2⟩ : ∃ n, xs2.length = n := ⟨_, rfl⟩
  rw [hn2] at ho2 hl2 ⊢
  have HN2 := hide hn2
  have HR2 := hide ho2.rd
  have HVA := hide (HVA.out.later hb3)
  have HR1 := hide (HR1.out.later hb3)
  have HBB := hide (below_on HBB.out hb3)
  clear hb3 ho2 hn2 HV2
  have BB := below_alloc w3 (.cells #[.int .i64 s2, .int .i64 t2, .slice a2 n2 k2] 27)
  have HVB := hide (Var3_new w3 (.int .i64 s2) (.int .i64 t2) (.slice a2 n2 k2) 27)
  have HR1 := hide (HR1.out.later BB)
  have HR2 := hide (HR2.out.later BB)
  have HVA := hide (HVA.out.later BB)
  have HBB := hide (below_on HBB.out BB)
  obtain ⟨p0, p1, p2⟩ := HVA.out
  have plt := HVA.out.lt
  clear BB
  obtain ⟨f1, hf1⟩ : ∃ f, headF s1 t1 xs1 = f := ⟨_, rfl⟩
  obtain ⟨f2, hf2⟩ : ∃ f, headF s2 t2 xs2 = f := ⟨_, rfl⟩
  have HF1 := hide hf1
  have HF2 := hide hf2
  obtain ⟨l1, hl1'⟩ : ∃ l, (if headF s1 t1 xs1 = 0 then packL s1 t1 xs1 else []) = l := ⟨_, rfl⟩
  obtain ⟨l2, hl2'⟩ : ∃ l, (if headF s2 t2 xs2 = 0 then packL s2 t2 xs2 else []) = l := ⟨_, rfl⟩
  have HL1 := hide hl1'
  have HL2 := hide hl2'
  have HP1 := hide (fun (S : Nat → Prop) (w : World) (h : RdI S w (.slice a1 n1 k1) xs1) => implPackHeader s1 t1 h)
  have HP2 := hide (fun (S : Nat → Prop) (w : World) (h : RdI S w (.slice a2 n2 k2) xs2) => implPackHeader s2 t2 h)
  have HQ1 := hide (fun (S : Nat → Prop) (w : World) (h : RdI S w (.slice a1 n1 k1) xs1) => specPackHeader s1 t1 h)
  have HQ2 := hide (fun (S : Nat → Prop) (w : World) (h : RdI S w (.slice a2 n2 k2) xs2) => specPackHeader s2 t2 h)
  rw [hl1', hf1] at HP1 HQ1
  rw [hl2', hf2] at HP2 HQ2
  obtain ⟨m1, hm1⟩ : ∃ m, l1.length = m := ⟨_, rfl⟩
  obtain ⟨m2, hm2⟩ : ∃ m, l2.length = m := ⟨_, rfl⟩
  have HM1 := hide hm1
  have HM2 := hide hm2
  clear hf1 hf2 hl1' hl2' hm1 hm2
  go_wp2_with fail
  refine (HP1.out _ _ HR1.out).mono ?_
  rintro e w4 ⟨zx, rfl, hb4, ho4⟩
  obtain ⟨x1, q1, hzx⟩ := ho4.shape
  rw [HM1.out] at hzx
  subst hzx
  have BX := below_alloc w4 (.cells #[.int .i64 f1, .slice x1 m1 q1] 33)
  have hb4' := below_on hb4 BX
  have HVX := hide (Var2_new w4 (.int .i64 f1) (.slice x1 m1 q1) 33)
  have HRX := hide (ho4.rd.later BX)
  have HR1 := hide (HR1.out.later hb4')
  have HR2 := hide (HR2.out.later hb4')
  have HVA := hide (HVA.out.later hb4')
  have HVB := hide (HVB.out.later hb4')
  have HBB := hide (below_on HBB.out hb4')
  clear hb4 hb4' BX ho4 p0 p1 p2 plt
  obtain ⟨p0, p1, p2⟩ := HVB.out
  have plt := HVB.out.lt
  go_wp2_with fail
  refine (HP2.out _ _ HR2.out).mono ?_
  rintro e w5 ⟨zy, rfl, hb5, ho5⟩
  obtain ⟨x2, q2, hzy⟩ := ho5.shape
  rw [HM2.out] at hzy
  subst hzy
  have BY := below_alloc w5 (.cells #[.int .i64 f2, .slice x2 m2 q2] 33)
  have hb5' := below_on hb5 BY
  have HTn : Hid (TnAt w w1.heap.size w3.heap.size w4.heap.size w5.heap.size s1 t1 s2 t2 f1 f2 a1 a2 x1 x2 n1 n2 m1 m2 k1 k2 q1 q2 xs1 xs2 l1 l2 (w5.alloc (.cells #[.int .i64 f2, .slice x2 m2 q2] 33))) :=
    ⟨below_on HBB.out hb5', HVA.out.later hb5', HVB.out.later hb5', HVX.out.later hb5', Var2_new _ _ _ _, ⟨_, HR1.out.later hb5'⟩, ⟨_, HR2.out.later hb5'⟩, ⟨_, HRX.out.later hb5'⟩, ⟨_, ho5.rd.later BY⟩⟩
  clear hb5 hb5' BY ho5 p0 p1 p2 plt HVA HVB HVX HR1 HR2 HRX HBB HB1 HBA HB2
  go_upto_region 7 with fail
  refine forget (fun wx => TnAt w w1.heap.size w3.heap.size w4.heap.size w5.heap.size s1 t1 s2 t2 f1 f2 a1 a2 x1 x2 n1 n2 m1 m2 k1 k2 q1 q2 xs1 xs2 l1 l2 wx) HTn.out ?_
  clear HTn
  generalize w1.heap.size = A
  generalize w3.heap.size = B
  generalize w4.heap.size = X
  generalize w5.heap.size = Y
  rintro W hTn
  have HTn := hide hTn
  obtain ⟨ca0, ca1, ca2⟩ := hTn.va
  obtain ⟨cb0, cb1, cb2⟩ := hTn.vb
  obtain ⟨cx0, cx1⟩ := hTn.vx
  obtain ⟨cy0, cy1⟩ := hTn.vy
  clear hTn
  have fdI0 := Try.fldI0
  have fdI1 := Try.fldI1
  have fdR0 := Try.fldR0
  have fdR1 := Try.fldR1
  have fdH0 := Try.fldH0
  by_cases hbad : f1 ≠ 0 ∨ f2 ≠ 0

  · by_cases hf1 : f1 = 0
    · have hf2 : f2 ≠ 0 := by omega
      clear hbad
      subst hf1
      go_wp2_with fail
      go_region_held3 (fun w' => w'.cell? ⟨A, 0, none⟩ = some (.int .i64 s1) ∧ w'.cell? ⟨A, 1, none⟩ = some (.int .i64 t1) ∧ w'.cell? ⟨A, 2, none⟩ = some (.slice a1 n1 k1) ∧ w'.cell? ⟨B, 0, none⟩ = some (.int .i64 s2) ∧ w'.cell? ⟨B, 1, none⟩ = some (.int .i64 t2) ∧ w'.cell? ⟨B, 2, none⟩ = some (.slice a2 n2 k2) ∧ w'.cell? ⟨X, 0, none⟩ = some (.int .i64 0) ∧ w'.cell? ⟨Y, 0, none⟩ = some (.int .i64 f2)) (first | exact ⟨ca0, ca1, ca2, cb0, cb1, cb2, cx0, cy0⟩ | exact ⟨e0, e1, e2, e3, e4, e5, e6, e7⟩ | exact ⟨i0, i1, i2, i3, i4, i5, i6, i7⟩)
        (first | (go_at_call 17; obtain ⟨Sb, hrb⟩ := HT6.out.rb; refine (HQ2.out _ _ hrb).mono ?_; rintro e w7 ⟨z7, rfl, hb7, ho7⟩; obtain ⟨ao7, c7, hz7⟩ := ho7.shape; rw [HM2.out] at hz7; subst hz7; have i0 := cell_later hb7 e0; have i1 := cell_later hb7 e1; have i2 := cell_later hb7 e2; have i3 := cell_later hb7 e3; have i4 := cell_later hb7 e4; have i5 := cell_later hb7 e5; have i6 := cell_later hb7 e6; have i7 := cell_later hb7 e7; have HT7 := hide (HT6.out.later hb7); clear hb7 ho7 hrb) | (go_at_call 17; obtain ⟨Sa, hra⟩ := HTn.out.ra; refine (HQ1.out _ _ (hra.drewN 1)).mono ?_; rintro e w6 ⟨z6, rfl, hb6, ho6⟩; obtain ⟨ao6, c6, hz6⟩ := ho6.shape; rw [HM1.out] at hz6; subst hz6; have e0 := cell_later hb6 ca0; have e1 := cell_later hb6 ca1; have e2 := cell_later hb6 ca2; have e3 := cell_later hb6 cb0; have e4 := cell_later hb6 cb1; have e5 := cell_later hb6 cb2; have e6 := cell_later hb6 cx0; have e7 := cell_later hb6 cy0; have HT6 := hide (HTn.out.later (below_on (below_drewN W 1) hb6)); clear hb6 ho6 hra))
      go_wp2
      go_ret
      exact ⟨by simp, HT7.out.below⟩
    · clear hbad
      go_wp2_with fail
      go_region_held3 (fun w' => w'.cell? ⟨A, 0, none⟩ = some (.int .i64 s1) ∧ w'.cell? ⟨A, 1, none⟩ = some (.int .i64 t1) ∧ w'.cell? ⟨A, 2, none⟩ = some (.slice a1 n1 k1) ∧ w'.cell? ⟨B, 0, none⟩ = some (.int .i64 s2) ∧ w'.cell? ⟨B, 1, none⟩ = some (.int .i64 t2) ∧ w'.cell? ⟨B, 2, none⟩ = some (.slice a2 n2 k2) ∧ w'.cell? ⟨X, 0, none⟩ = some (.int .i64 f1) ∧ w'.cell? ⟨Y, 0, none⟩ = some (.int .i64 f2)) (first | exact ⟨ca0, ca1, ca2, cb0, cb1, cb2, cx0, cy0⟩ | exact ⟨e0, e1, e2, e3, e4, e5, e6, e7⟩ | exact ⟨i0, i1, i2, i3, i4, i5, i6, i7⟩)
        (first | (go_at_call 17; obtain ⟨Sb, hrb⟩ := HT6.out.rb; refine (HQ2.out _ _ hrb).mono ?_; rintro e w7 ⟨z7, rfl, hb7, ho7⟩; obtain ⟨ao7, c7, hz7⟩ := ho7.shape; rw [HM2.out] at hz7; subst hz7; have i0 := cell_later hb7 e0; have i1 := cell_later hb7 e1; have i2 := cell_later hb7 e2; have i3 := cell_later hb7 e3; have i4 := cell_later hb7 e4; have i5 := cell_later hb7 e5; have i6 := cell_later hb7 e6; have i7 := cell_later hb7 e7; have HT7 := hide (HT6.out.later hb7); clear hb7 ho7 hrb) | (go_at_call 17; obtain ⟨Sa, hra⟩ := HTn.out.ra; refine (HQ1.out _ _ (hra.drewN 1)).mono ?_; rintro e w6 ⟨z6, rfl, hb6, ho6⟩; obtain ⟨ao6, c6, hz6⟩ := ho6.shape; rw [HM1.out] at hz6; subst hz6; have e0 := cell_later hb6 ca0; have e1 := cell_later hb6 ca1; have e2 := cell_later hb6 ca2; have e3 := cell_later hb6 cb0; have e4 := cell_later hb6 cb1; have e5 := cell_later hb6 cb2; have e6 := cell_later hb6 cx0; have e7 := cell_later hb6 cy0; have HT6 := hide (HTn.out.later (below_on (below_drewN W 1) hb6)); clear hb6 ho6 hra))
      go_wp2
      go_ret
      exact ⟨by simp, HT7.out.below⟩
  · have hf1 : f1 = 0 := by omega
    have hf2 : f2 = 0 := by omega
    subst hf1 hf2
    clear hbad
    have hl1 : l1 = packL s1 t1 xs1 := by rw [← HL1.out, if_pos HF1.out]
    have hl2 : l2 = packL s2 t2 xs2 := by rw [← HL2.out, if_pos HF2.out]
    have hm1 : m1 = 64 := by rw [← HM1.out, hl1, packL_len (by have := (headF_zero HF1.out).2.1; omega)]
    have hm2 : m2 = 64 := by rw [← HM2.out, hl2, packL_len (by have := (headF_zero HF2.out).2.1; omega)]
    have HLL1 := hide hl1
    have HLL2 := hide hl2
    subst hm1 hm2
    clear hl1 hl2
    by_cases hseq : s1 = s2
    · subst hseq
      go_wp2
      go_ret
      exact ⟨rfl, HTn.out.below⟩
    · have HNe := hide hseq
      have hbe : (s1 == s2) = false := by simpa using hseq
      have HTr : Hid (∀ (S T : Nat → Prop) (w : World) (u v : Value) (p : Int), 0 ≤ p → p ≤ 3 → RdI S w u l1 → RdI T w v l2 → Calls Try.prog 18 #[u, v, .int .i64 p] w (EndsI 0 (tearXs l1 l2 p) w)) := fun S T w u v p h0 h3 hu hv => by
        have := implTear p hu hv
        have ht := (tear_packs HF1.out HF2.out p h0 h3).1
        rw [HLL1.out, HLL2.out] at this ⊢
        rw [ht] at this
        exact this
      have HU2 : Hid (∀ p : Int, p = 2 ∨ p = 3 → unpF (tearXs l1 l2 p) = 5) := by
        intro p hp
        rw [HLL1.out, HLL2.out]
        rcases hp with rfl | rfl
        · rw [(tear_packs HF1.out HF2.out 2 (by omega) (by omega)).2, if_pos (by omega), if_neg (by omega)]
          exact torn_none HF2.out HF1.out (fun e => HNe.out e.symm)
        · rw [(tear_packs HF1.out HF2.out 3 (by omega) (by omega)).2, if_neg (by omega), if_pos (by omega)]
          exact torn_none HF1.out HF2.out HNe.out
      have HU1 : Hid (unpS (tearXs l1 l2 1) = s2) := by
        unfold Hid
        rw [HLL1.out, HLL2.out, (tear_packs HF1.out HF2.out 1 (by omega) (by omega)).2, if_pos (by omega), if_pos (by omega)]
        exact (packL_unp HF2.out).2.1
      clear ca0 ca1 ca2 cb0 cb1 cb2 cx0 cx1 cy0 cy1
      obtain ⟨ca0, ca1, ca2⟩ := HTn.out.va
      obtain ⟨cb0, cb1, cb2⟩ := HTn.out.vb
      obtain ⟨cx0, cx1⟩ := HTn.out.vx
      obtain ⟨cy0, cy1⟩ := HTn.out.vy
      go_wp2
      try rw [hbe]
      clear ca0 ca1 ca2 cb0 cb1 cb2 cx0 cx1 cy0 cy1
      go_loopw [7] (fun i wr => ∃ k : Nat, 2 ≤ k ∧ k ≤ 4 ∧ i = .int .i64 k ∧ Hid (TnAt w A B X Y s1 t1 s2 t2 0 0 a1 a2 x1 x2 n1 n2 64 64 k1 k2 q1 q2 xs1 xs2 l1 l2 wr)) (fun i _ => 4 - (intOf i).toNat)
      case atStart => exact ⟨2, by omega, by omega, rfl, HTn.out⟩
      case round =>
        obtain ⟨k, hk2, hk4, rfl, HT⟩ := hrel
        clear HTn
        obtain ⟨cb0, cb1, cb2⟩ := HT.out.vb
        obtain ⟨cx0, cx1⟩ := HT.out.vx
        obtain ⟨cy0, cy1⟩ := HT.out.vy
        obtain ⟨Sx, hrx⟩ := HT.out.rx
        obtain ⟨Sy, hry⟩ := HT.out.ry
        by_cases hlt : k < 4
        · have HUk := hide (HU2.out (k : Int) (by omega))
          have HC := hide (HTr.out _ _ _ _ _ (k : Int) (by omega) (by omega) hrx hry)
          clear hrx hry
          generalize tearXs l1 l2 (k : Int) = lt at HC HUk
          obtain ⟨m, hm⟩ : ∃ m, lt.length = m := ⟨_, rfl⟩
          have HMt := hide hm
          clear hm
          go_wp2_with fail
          refine HC.out.mono ?_
          rintro e w6 ⟨z6, rfl, hb6, ho6⟩
          obtain ⟨ao6, c6, hz6⟩ := ho6.shape
          rw [HMt.out] at hz6
          subst hz6
          have BT := below_alloc w6 (.cells #[.int .i64 0, .slice ao6 m c6] 33)
          have HR6 := hide (ho6.rd.later BT)
          have HT6 := hide (HT.out.later (below_on hb6 BT))
          clear hb6 ho6 BT cb0 cb1 cb2 cx0 cx1 cy0 cy1
          go_wp2_with fail
          refine (implUnpack HR6.out).mono ?_
          rintro e w7 ⟨z7, rfl, hb7, ho7⟩
          rw [HUk.out]
          obtain ⟨ao7, c7, rfl⟩ := ho7.shape
          have HT7 := hide (HT6.out.later hb7)
          clear hb7 ho7
          go_wp2
          go_roundw
          case rel => exact ⟨k + 1, by omega, by omega, by go_num, HT7.out⟩
          case measure => simp [intOf]; omega
        · have hk : k = 4 := by omega
          subst hk
          have HC := hide (fun (q : Nat) => HTr.out _ _ (wr.drewN q) _ _ 1 (by omega) (by omega) (hrx.drewN q) (hry.drewN q))
          clear hrx hry
          generalize tearXs l1 l2 1 = lt at HC HU1
          obtain ⟨m, hm⟩ : ∃ m, lt.length = m := ⟨_, rfl⟩
          have HMt := hide hm
          clear hm
          have HUn := hide (fun (S : Nat → Prop) (w : World) (y : Value) (h : RdI S w y lt) => implUnpack h)
          rw [HU1.out] at HUn
          generalize unpF lt = uf at HUn
          generalize unpT lt = ut at HUn
          generalize unpA lt = ua at HUn
          obtain ⟨mu, hmu⟩ : ∃ m, ua.length = m := ⟨_, rfl⟩
          have HMu := hide hmu
          clear hmu
          go_wp2_with fail
          go_region_held3 (fun w' => w'.cell? ⟨X, 1, none⟩ = some (.slice x1 64 q1) ∧ w'.cell? ⟨Y, 1, none⟩ = some (.slice x2 64 q2) ∧ w'.cell? ⟨B, 0, none⟩ = some (.int .i64 s2)) (first | exact ⟨cx1, cy1, cb0⟩ | exact ⟨e0, e1, e2⟩ | exact ⟨i0, i1, i2⟩)
            (first | (go_at_call 18; refine (HC.out 1).mono ?_; rintro e w6 ⟨z6, rfl, hb6, ho6⟩; obtain ⟨ao6, c6, hz6⟩ := ho6.shape; rw [HMt.out] at hz6; subst hz6; have e0 := cell_later hb6 cx1; have e1 := cell_later hb6 cy1; have e2 := cell_later hb6 cb0; have HT6 := hide (HT.out.later (below_on (below_drewN wr 1) hb6)); have HR6 := hide ho6.rd; clear hb6 ho6) | (go_at_call 9; refine (HUn.out _ _ _ HR6.out).mono ?_; rintro e w7 ⟨z7, rfl, hb7, ho7⟩; obtain ⟨ao7, c7, hz7⟩ := ho7.shape; rw [HMu.out] at hz7; subst hz7; have i0 := cell_later hb7 e0; have i1 := cell_later hb7 e1; have i2 := cell_later hb7 e2; have HT7 := hide (HT6.out.later hb7); clear hb7 ho7))
          go_wp2
          go_ret
          exact ⟨by simp, HT7.out.below⟩
end Go.Proofs.Ytojcjipelgjglaa
