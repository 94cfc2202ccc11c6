/- PlanI Inst3 PlanI2 PlanP PlanP2 PlanP3 ApTs Puts3 Own3 Behind PlanB PlanC PlanA PlanD in one text: what each says stands at its head below. -/
import Derived.Test.YtdjdfkhgkadhgaaBuiltT
import Derived.Test.YtdjdfkhgkadhgaaLog
import Derived.Test.YtdjdfkhgkadhgaaImpl2c
import Derived.Test.YtdjdfkhgkadhgaaIvT
import Derived.Test.YtdjdfkhgkadhgaaSlot
import Derived.Test.YtdjdfkhgkadhgaaSpec2b
import Derived.Test.YtdjdfkhgkadhgaaLog2
import Derived.Test.YtdjdfkhgkadhgaaFault2
import Derived.Test.YtdjdfkhgkadhgaaImpl2
import Derived.Test.YtdjdfkhgkadhgaaZero
import Derived.Test.YtdjdfkhgkadhgaaFault3
import Derived.Test.YtdjdfkhgkadhgaaSpec2
import Derived.Test.YtdjdfkhgkadhgaaImpl2g
import Derived.Test.YtdjdfkhgkadhgaaBuilt
/- Chapter 3, the program's side: the steps of an install: its closure, 'stepsOf' over addresses, walked. -/
namespace Go.Proofs.Ytdjdfkhgkadhgaa
open Go.RowKit

theorem Try.infoStep : (Try.prog.info? 73).map (fun i => (i.zero, i.size, i.bytes)) = some (some (.agg #[.bool false, .int .i64 0, .slice none 0 0]), 3, 40) := by kernel_rfl
theorem field_words (x y : Value) (w : World) : (Instr.field 110 (.agg #[x, y]) 1).run Try.prog w = .ok y w := by
  simp [Instr.field, run_underlying Try.underlying110, asAgg, part, isAgg, run_underlying Try.underlying45]
theorem set3_away {w : World} {b h o : Nat} {x y z : Value} (hb : b ≠ h) : (((w.setCell ⟨h, 0, none⟩ x).setCell ⟨h, 1, none⟩ y).setCell ⟨h, 2, none⟩ z).cell? ⟨b, o, none⟩ = w.cell? ⟨b, o, none⟩ := by
  rw [World.cell?_setCell_other _ _ _ _ (by intro e; injection e with e1 _; exact hb e1.symm), World.cell?_setCell_other _ _ _ _ (by intro e; injection e with e1 _; exact hb e1.symm), World.cell?_setCell_other _ _ _ _ (by intro e; injection e with e1 _; exact hb e1.symm)]

/-- The end of a function that stores a step into its result's variable. -/
theorem ret_step {w w3 : World} {B r : Nat} {z x y : Value} {xs : List Int} (hb : Below w.heap.size w w3) (hr : w.heap.size ≤ r) (ho : OwI B w3 z xs) (hB : r < B) :
    Below w.heap.size w (((w3.setCell ⟨r, 0, none⟩ x).setCell ⟨r, 1, none⟩ y).setCell ⟨r, 2, none⟩ z) ∧ OwI B (((w3.setCell ⟨r, 0, none⟩ x).setCell ⟨r, 1, none⟩ y).setCell ⟨r, 2, none⟩ z) z xs := by
  have hw : Wr (fun y => y = r) w3 (((w3.setCell ⟨r, 0, none⟩ x).setCell ⟨r, 1, none⟩ y).setCell ⟨r, 2, none⟩ z) := (((Wr.refl (fun y => y = r) _).setCell (p := ⟨r, 0, none⟩) rfl _).setCell (p := ⟨r, 1, none⟩) rfl _).setCell (p := ⟨r, 2, none⟩) rfl _
  exact ⟨((hb.setCell (p := ⟨r, 0, none⟩) hr _).setCell (p := ⟨r, 1, none⟩) hr _).setCell (p := ⟨r, 2, none⟩) hr _, ho.wr hw (fun b h1 _ e => by omega)⟩

set_option maxHeartbeats 1000000 in
set_option maxRecDepth 4000 in
/-- The closure of 'PlanInstall'. -/
theorem planIn1 {S T : Nat → Prop} {w : World} {D H : Nat} {u v : Value} {xss : List (List Int)} {ps : List (Int × List Int)} {s t : Int} {ay : Option Addr} {l cy : Nat} (i addr : Int) (hd0 : w.cell? ⟨D, 0, none⟩ = some u) (hd1 : w.cell? ⟨D, 1, none⟩ = some v) (hh : HdAt w H 0 s t (.slice ay l cy))
    (hu : RdII S w u xss) (hv : RdP T w v ps) (hs : Small xss ps) (h66 : xss.length = 66) (ht : 0 ≤ t) (ht' : t ≤ 23) (hi : 0 ≤ i) (hi' : i ≤ 1048576) (ha : 0 ≤ addr) (ha' : addr ≤ 39) :
    Calls Try.prog 41 #[.int .i64 i, .int .i64 addr, .pointer (some ⟨D, 0, none⟩), .pointer (some ⟨H, 0, none⟩)] w fun e w' => ∃ z, e = .returned (.agg #[.bool false, .int .i64 (26 + addr), z]) ∧ Below w.heap.size w w' ∧ OwI w.heap.size w' z (slotW xss ps t i) := by
  obtain ⟨ao, c, rfl, _⟩ := hu.shape
  obtain ⟨ao', c', rfl, _⟩ := hv.shape
  have HSW := hide (fun (w' : World) (hb : Below w.heap.size w w') => slotWords s t i ay l cy (hu.later hb) (hv.later hb) hs h66 ht ht' hi hi')
  generalize slotW xss ps t i = ws at HSW ⊢
  generalize xss.length = n at HSW hd0
  generalize ps.length = m at HSW hd1
  have h0 := hh.seq
  have h1 := hh.start
  have h2 := hh.addrs
  clear hu hv hs h66 ht ht' hh
  have hDl := World.block_lt_of_cell? _ _ hd0
  have hHl := World.block_lt_of_cell? _ _ h0
  go_enter Try.func41, Try.ntmps41
  go_wp2_with fail
  refine (HSW.out _ (below_alloc _ _)).mono ?_
  rintro e w1 ⟨z, rfl, hb, ho⟩
  obtain ⟨az, cz, rfl⟩ := ho.shape
  have v0 : w1.cell? ⟨w.heap.size, 0, none⟩ = some (.bool false) := cell_later hb (by simp [go_sem])
  have v1 : w1.cell? ⟨w.heap.size, 1, none⟩ = some (.int .i64 0) := cell_later hb (by simp [go_sem])
  have v2 : w1.cell? ⟨w.heap.size, 2, none⟩ = some (.slice none 0 0) := cell_later hb (by simp [go_sem])
  have f0 : w1.frozen? ⟨w.heap.size, 0, none⟩ = false := ((bcell hb).2 _ _ (by simp)).trans (by simp [go_sem])
  have f1 : w1.frozen? ⟨w.heap.size, 1, none⟩ = false := ((bcell hb).2 _ _ (by simp)).trans (by simp [go_sem])
  have f2 : w1.frozen? ⟨w.heap.size, 2, none⟩ = false := ((bcell hb).2 _ _ (by simp)).trans (by simp [go_sem])
  have HB := hide (below_on (below_alloc _ _) hb)
  have HO := hide ho
  clear hb ho
  go_wp2
  have hfin := ret_step (x := .bool false) (y := .int .i64 (26 + addr)) HB.out (r := w.heap.size) (Nat.le_refl _) HO.out (by simp)
  exact bodyPost_ret (v := .agg #[.bool false, .int .i64 (26 + addr), .slice az ws.length cz]) (by simp [results, Try.results41, go_sem, v0, v1, v2]) rfl ⟨_, rfl, hfin.1, hfin.2.mono (by simp)⟩

set_option maxHeartbeats 4000000 in
set_option maxRecDepth 4000 in
/-- 'stepsOf' over addresses, by what its function value answers. -/
theorem stepsOfI {S S2 : Nat → Prop} {w : World} {D H : Nat} {y y2 : Value} {A xs : List Int} (s t : Int) (ts : List St) (hA : RdI S w y A) (hl24 : A.length ≤ 24) (hy2 : RdI S2 w y2 xs) (hhd : headF s t xs = 0) (hts : ts.length = A.length + 3)
    (e0 : ts.getD A.length st0 = (true, 0, [])) (e1 : ts.getD (A.length + 1) st0 = (false, s % 2, packL s t xs)) (e2 : ts.getD (A.length + 2) st0 = (true, 0, []))
    (hput : ∀ i, i < A.length → (ts.getD i st0).1 = false ∧ ∀ w', Below w.heap.size w w' → Calls Try.prog 41 #[.int .i64 (i : Int), .int .i64 (A.getD i 0), .pointer (some ⟨D, 0, none⟩), .pointer (some ⟨H, 0, none⟩)] w' fun e w'' => ∃ z, e = .returned (.agg #[.bool false, .int .i64 (ts.getD i st0).2.1, z]) ∧ Below w'.heap.size w' w'' ∧ OwI w'.heap.size w'' z (ts.getD i st0).2.2) :
    Calls Try.prog 44 #[y, .func (.func 41) #[] #[.pointer (some ⟨D, 0, none⟩), .pointer (some ⟨H, 0, none⟩)], .agg #[.int .i64 s, .int .i64 t, y2]] w fun e w' => ∃ z, e = .returned z ∧ Below w.heap.size w w' ∧ BuiltT (w.heap.size ≤ ·) w' z ts.length ts := by
  obtain ⟨i0, hi, hz0, hz1, hz2⟩ := info_parts Try.infoStep
  obtain ⟨ay, cy, rfl⟩ := hA.shape
  obtain ⟨a2, c2, rfl⟩ := hy2.shape
  have hs1 := (headF_zero hhd).1
  have HPk := hide (fun (w' : World) (hb : Below w.heap.size w w') => implPackHeader s t (hy2.later hb))
  rw [hhd, if_pos rfl] at HPk
  have HPl := hide (fun (w' : World) => headerPlace s (by omega) w')
  have HPut := hide hput
  have HR := hide hA
  have E0 := hide e0
  have E1 := hide e1
  have E2 := hide e2
  have HTs := hide hts
  have hfld := field_words
  obtain ⟨l2, hl2⟩ : ∃ l2, xs.length = l2 := ⟨_, rfl⟩
  rw [hl2] at HPk ⊢
  obtain ⟨l, hl⟩ : ∃ l, A.length = l := ⟨_, rfl⟩
  have HL := hide hl
  rw [hl] at hl24 HPut HR E0 E1 E2 HTs ⊢
  obtain ⟨p, hp⟩ : ∃ p, s % 2 = p := ⟨_, rfl⟩
  rw [hp] at HPl E1
  have HWl := hide (packL_len (s := s) (t := t) (xs := xs) (by have := (headF_zero hhd).2.1; omega))
  obtain ⟨ws, hws⟩ : ∃ ws, packL s t xs = ws := ⟨_, rfl⟩
  rw [hws] at HPk E1 HWl
  clear hA hy2 hhd hts e0 e1 e2 hput hl hl2 hp hws
  go_enter Try.func44, Try.ntmps44
  go_wp2
  go_loopw [7, 12] (fun v i wr => ∃ k : Nat, k ≤ l ∧ i = .int .i64 k ∧ Hid (BuiltT (w.heap.size + 1 ≤ ·) wr v k ts) ∧ Hid (Below w.heap.size w wr) ∧ Hid (w.heap.size < wr.heap.size) ∧ Hid (HdAt wr w.heap.size 0 s t (.slice a2 l2 c2))) (fun _ i _ => l - (intOf i).toNat)
  case atStart => exact ⟨0, Nat.zero_le _, rfl, BuiltT.nil _ _ _, below_alloc _ _, (by simp : w.heap.size < (w.alloc _).heap.size), HdAt_new _ _ _ _ _⟩
  case round =>
    obtain ⟨k, hk, rfl, HBu, HB, HSz, HHd⟩ := hrel
    have hsz := HSz.out
    by_cases hlt : k < l
    · obtain ⟨b, off, rfl, hx⟩ := (HR.out).at (k := k) (by rw [HL.out]; exact hlt)
      have hx' := cell_later HB.out hx
      obtain ⟨hfl, hC⟩ := HPut.out k hlt
      have HC := hide (hC wr HB.out)
      obtain ⟨x, hxe⟩ : ∃ x, A.getD k 0 = x := ⟨_, rfl⟩
      rw [hxe] at hx' HC
      clear hx hxe hC
      have HFl := hide hfl
      obtain ⟨ak, hak⟩ : ∃ ak, (ts.getD k st0).2.1 = ak := ⟨_, rfl⟩
      obtain ⟨wk, hwk⟩ : ∃ wk, (ts.getD k st0).2.2 = wk := ⟨_, rfl⟩
      have HAk := hide hak
      have HWk := hide hwk
      rw [hak, hwk] at HC
      have hk0 : (0 : Int) ≤ (k : Int) := Int.natCast_nonneg _
      have hk1 : (k : Int) < (l : Int) := by omega
      clear hfl hak hwk
      go_wp2_with fail
      refine HC.out.mono ?_
      rintro e w1 ⟨z, rfl, hb1, ho1⟩
      obtain ⟨ao4, c4, rfl⟩ := ho1.shape
      obtain ⟨V2, Bk2, hown, hpr, hin⟩ := HBu.out
      have HOw := hide (ownsRow_later (ownsRow_later hown hb1) (below_alloc w1 (.cells #[.bool false, .int .i64 ak, .slice ao4 wk.length c4] 73)))
      have HB1 := hide hb1
      have HO1 := hide ho1
      have HIn := hide hin
      have HPr := hide hpr
      have HOw0 := hide hown
      have hz1' := hb1.size
      clear hb1 ho1 hin hown hpr
      go_wp2_with (at_builtin; refine wpList_append_lies _ rfl _ _ _ rfl 0 73 i0 (.agg #[.bool false, .int .i64 0, .slice none 0 0]) 3 40 Try.underlying27 hi hz0 hz1 hz2 rfl (by omega) _ k _ (by rfl) HOw.out ⟨w1.heap.size, 0, none⟩ 1 1 [.bool false, .int .i64 ak, .slice ao4 wk.length c4] (by rfl) (by rfl) (World.news_of_block (cs := #[.bool false, .int .i64 ak, .slice ao4 wk.length c4]) (t := 73) (fr := (0, 0)) (heap_alloc_new w1 _)) cells3_one (by omega) (by unfold maxLen; omega) (by omega) (Nat.zero_le _) (w1.heap.size + 1) (by simp) ?_)
      intro g cap w3 hown3 hgrow hat hlt3
      have HS := hide (BuiltT.step (P' := (w.heap.size + 1 ≤ ·)) HIn.out HOw0.out HPr.out (fun _ h => h) (fun b hb => by omega) HB1.out (by rw [HWk.out]; exact HO1.out) (below_alloc w1 (.cells #[.bool false, .int .i64 ak, .slice ao4 wk.length c4] 73)) (by rw [HFl.out, HAk.out]; exact hown3) hgrow (by simpa using hat))
      have HB3 := hide ((below_on (below_on HB.out HB1.out) (below_alloc w1 (.cells #[.bool false, .int .i64 ak, .slice ao4 wk.length c4] 73))).grown hgrow (by simp; omega) (fun r hr => by have := HPr.out r hr; omega))
      have far : ∀ o, w3.cell? ⟨w.heap.size, o, none⟩ = wr.cell? ⟨w.heap.size, o, none⟩ := fun o => (hgrow.cell_far ⟨w.heap.size, o, none⟩ (by simp; omega) (fun e => by have := HPr.out _ e.symm; dsimp only at this; omega)).trans (((bcell (below_alloc w1 _)).1 _ _ (by omega)).trans ((bcell HB1.out).1 _ _ hsz))
      have HH3 : Hid (HdAt w3 w.heap.size 0 s t (.slice a2 l2 c2)) := ⟨(far _).trans HHd.out.seq, (far _).trans HHd.out.start, (far _).trans HHd.out.addrs⟩
      have hsz3 := hgrow.size
      simp only [World.size_alloc] at hsz3
      have HS3 : Hid (w.heap.size < w3.heap.size) := (by omega : w.heap.size < w3.heap.size)
      clear hown3 hgrow hat far
      go_wp2
      go_roundw
      case rel => exact ⟨k + 1, hlt, by go_num, HS.out, HB3.out, HS3.out, HH3.out⟩
      case measure => simp [intOf]; omega
    · have hkl : k = l := by omega
      subst hkl
      have h0 := HHd.out.seq
      have h1 := HHd.out.start
      have h2 := HHd.out.addrs
      simp only [Nat.zero_add] at h0 h1 h2
      obtain ⟨V2, Bk2, hown, hpr, hin⟩ := HBu.out
      obtain ⟨av, cv, rfl⟩ := HBu.out.shape
      have HIn := hide hin
      have HPr := hide hpr
      have HOw0 := hide hown
      clear hin hown hpr
      obtain ⟨W1, hW1⟩ : ∃ W1, wr.drew = W1 := ⟨_, rfl⟩
      obtain ⟨W2, hW2⟩ : ∃ W2, (wr.alloc (.cells #[.bool false, .int .i64 0, .slice none 0 0] 73)).drew = W2 := ⟨_, rfl⟩
      have b1 : Below wr.heap.size wr W1 := by rw [← hW1]; exact below_drewN wr 1
      have b2 : Below wr.heap.size wr W2 := by rw [← hW2]; exact below_on (below_alloc wr _) (below_drewN _ 1)
      have z1 : W1.heap.size = wr.heap.size := by rw [← hW1]; rfl
      have z2 : W2.heap.size = wr.heap.size + 1 := by rw [← hW2]; show (wr.alloc _).heap.size = _; simp
      have m0 : W2.cell? ⟨wr.heap.size, 0, none⟩ = some (.bool false) := by rw [← hW2]; show (wr.alloc _).cell? _ = _; simp [go_sem]
      have m1 : W2.cell? ⟨wr.heap.size, 1, none⟩ = some (.int .i64 0) := by rw [← hW2]; show (wr.alloc _).cell? _ = _; simp [go_sem]
      have m2 : W2.cell? ⟨wr.heap.size, 2, none⟩ = some (.slice none 0 0) := by rw [← hW2]; show (wr.alloc _).cell? _ = _; simp [go_sem]
      have mf : ∀ o, W2.frozen? ⟨wr.heap.size, o, none⟩ = false := by rw [← hW2]; intro o; show (wr.alloc _).frozen? _ = _; simp [go_sem]
      have Q1 := hide (And.intro b1 z1)
      have Q2 := hide (And.intro (And.intro b2 z2) (And.intro m0 (And.intro m1 (And.intro m2 mf))))
      have HW1 := hide hW1
      have HW2 := hide hW2
      have hr0 : ¬ w.heap.size = wr.heap.size := by omega
      clear hW1 hW2 b1 b2 z1 z2 m0 m1 m2 mf
      go_wp2_with fail
      go_region_held3 (fun w' => w'.cell? ⟨w.heap.size, 0, none⟩ = some (.int .i64 s) ∧ w'.cell? ⟨w.heap.size, 1, none⟩ = some (.int .i64 t) ∧ w'.cell? ⟨w.heap.size, 2, none⟩ = some (.slice a2 l2 c2)) (simp [go_sem, *])
        (first
          | (go_at_call 78; refine (HPl.out _).mono ?_; rintro e wq ⟨rfl, rfl⟩)
          | (go_at_call 79; rw [HW1.out]; refine (HPk.out W1 (below_on HB.out Q1.out.1)).mono ?_; rintro e w4 ⟨z4, rfl, hb4, ho4⟩; obtain ⟨a4, k4, hz4⟩ := ho4.shape; rw [HWl.out] at hz4; subst hz4; have c0 := cell_later hb4 (cell_later Q1.out.1 h0); have c1 := cell_later hb4 (cell_later Q1.out.1 h1); have c3 := cell_later hb4 (cell_later Q1.out.1 h2); have HB4 := hide (below_on Q1.out.1 hb4); have HO4 := hide (ho4.mono (B' := wr.heap.size) (by rw [Q1.out.2]; exact Nat.le_refl _)); have hz4' : wr.heap.size ≤ w4.heap.size := HB4.out.size; have hw4 : w.heap.size < w4.heap.size := Nat.lt_of_lt_of_le hsz hz4'; have hr4 : ¬ w.heap.size = w4.heap.size := (by omega); clear hb4 ho4)
          | (go_at_call 79; rw [HW2.out]; refine (HPk.out W2 (below_on HB.out Q2.out.1.1)).mono ?_; rintro e w4 ⟨z4, rfl, hb4, ho4⟩; obtain ⟨a4, k4, hz4⟩ := ho4.shape; rw [HWl.out] at hz4; subst hz4; have c0 := cell_later hb4 (cell_later Q2.out.1.1 h0); have c1 := cell_later hb4 (cell_later Q2.out.1.1 h1); have c3 := cell_later hb4 (cell_later Q2.out.1.1 h2); have n0 := cell_later hb4 Q2.out.2.1; have n1 := cell_later hb4 Q2.out.2.2.1; have n2 := cell_later hb4 Q2.out.2.2.2.1; have nf0 := ((bcell hb4).2 _ 0 (by rw [Q2.out.1.2]; exact Nat.lt_succ_self _)).trans (Q2.out.2.2.2.2 0); have nf1 := ((bcell hb4).2 _ 1 (by rw [Q2.out.1.2]; exact Nat.lt_succ_self _)).trans (Q2.out.2.2.2.2 1); have nf2 := ((bcell hb4).2 _ 2 (by rw [Q2.out.1.2]; exact Nat.lt_succ_self _)).trans (Q2.out.2.2.2.2 2); have HB4 := hide (below_on Q2.out.1.1 hb4); have HO4 := hide (ho4.mono (B' := wr.heap.size + 1) (by rw [Q2.out.1.2]; exact Nat.le_refl _)); have hw4 : wr.heap.size < w4.heap.size := World.block_lt_of_cell? _ _ n0; clear hb4 ho4))
      · clear h0 h1 h2 c0 c1 c3
        obtain ⟨V5, hV5⟩ : ∃ V5, w4.alloc (.cells #[.bool false, .int .i64 p, .slice a4 64 k4] 73) = V5 := ⟨_, rfl⟩
        have n0 : V5.cell? ⟨w4.heap.size, 0, none⟩ = some (.bool false) := by rw [← hV5]; simp [go_sem]
        have n1 : V5.cell? ⟨w4.heap.size, 1, none⟩ = some (.int .i64 p) := by rw [← hV5]; simp [go_sem]
        have n2 : V5.cell? ⟨w4.heap.size, 2, none⟩ = some (.slice a4 64 k4) := by rw [← hV5]; simp [go_sem]
        have b5 : Hid (Below wr.heap.size wr V5) := by rw [← hV5]; exact below_on HB4.out (below_alloc _ _)
        have o5 : Hid (OwI wr.heap.size V5 (.slice a4 64 k4) ws) := by rw [← hV5]; exact HO4.out.later (below_alloc _ _)
        rw [hV5]
        obtain ⟨N, hN⟩ : ∃ N, w4.heap.size = N := ⟨_, rfl⟩
        rw [hN] at n0 n1 n2 ⊢
        clear hV5 hN HB4 HO4
        have hz5 := b5.out.size
        have HOwF := hide (ownsRow_later (ownsRow_later HOw0.out b5.out) (below_alloc V5 (.cells #[.bool true, .int .i64 0, .slice none 0 0, .bool false, .int .i64 p, .slice a4 64 k4, .bool true, .int .i64 0, .slice none 0 0] 73)))
        go_wp2_with (at_builtin; refine wpList_append_lies _ rfl _ _ _ rfl 0 73 i0 (.agg #[.bool false, .int .i64 0, .slice none 0 0]) 3 40 Try.underlying27 hi hz0 hz1 hz2 rfl (by omega) _ k _ (by rfl) HOwF.out ⟨V5.heap.size, 0, none⟩ 3 3 [.bool true, .int .i64 0, .slice none 0 0, .bool false, .int .i64 p, .slice a4 64 k4, .bool true, .int .i64 0, .slice none 0 0] (by rfl) (by rfl) (World.news_of_block (cs := #[.bool true, .int .i64 0, .slice none 0 0, .bool false, .int .i64 p, .slice a4 64 k4, .bool true, .int .i64 0, .slice none 0 0]) (t := 73) (fr := (0, 0)) (heap_alloc_new V5 _)) cells9_one (by omega) (by unfold maxLen; omega) (by omega) (Nat.zero_le _) (V5.heap.size + 1) (by simp) ?_)
        intro g cap w6 hown6 hgrow hat hlt6
        have HS := hide (BuiltT.three (P' := (w.heap.size ≤ ·)) HIn.out HOw0.out HPr.out E0.out E1.out E2.out (fun b hb => by omega) (fun b hb => by omega) b5.out o5.out (below_alloc V5 (.cells #[.bool true, .int .i64 0, .slice none 0 0, .bool false, .int .i64 p, .slice a4 64 k4, .bool true, .int .i64 0, .slice none 0 0] 73)) hown6 hgrow (by simpa using hat))
        have HB6 := hide ((below_on (below_on HB.out b5.out) (below_alloc V5 (.cells #[.bool true, .int .i64 0, .slice none 0 0, .bool false, .int .i64 p, .slice a4 64 k4, .bool true, .int .i64 0, .slice none 0 0] 73))).grown hgrow (by simp; omega) (fun r hr => by have := HPr.out r hr; omega))
        clear hown6 hgrow hat hlt6 n0 n1 n2
        go_wp2
        go_ret
        exact ⟨_, rfl, HB6.out, by rw [HTs.out]; exact HS.out⟩
      · clear h0 h1 h2 c0 c1 c3
        obtain ⟨V5, hV5⟩ : ∃ V5, ((w4.setCell ⟨wr.heap.size, 0, none⟩ (.bool false)).setCell ⟨wr.heap.size, 1, none⟩ (.int .i64 p)).setCell ⟨wr.heap.size, 2, none⟩ (.slice a4 64 k4) = V5 := ⟨_, rfl⟩
        have m0 : V5.cell? ⟨wr.heap.size, 0, none⟩ = some (.bool false) := by rw [← hV5]; simp [go_sem, n0]
        have m1 : V5.cell? ⟨wr.heap.size, 1, none⟩ = some (.int .i64 p) := by rw [← hV5]; simp [go_sem, n1]
        have m2 : V5.cell? ⟨wr.heap.size, 2, none⟩ = some (.slice a4 64 k4) := by rw [← hV5]; simp [go_sem, n2]
        have b5 : Hid (Below wr.heap.size wr V5) := by rw [← hV5]; exact ((HB4.out.setCell (p := ⟨wr.heap.size, 0, none⟩) (Nat.le_refl _) _).setCell (p := ⟨wr.heap.size, 1, none⟩) (Nat.le_refl _) _).setCell (p := ⟨wr.heap.size, 2, none⟩) (Nat.le_refl _) _
        have o5 : Hid (OwI wr.heap.size V5 (.slice a4 64 k4) ws) := by
          rw [← hV5]
          exact (HO4.out.wr (((((Wr.refl (fun y => y = wr.heap.size) w4).setCell (p := ⟨wr.heap.size, 0, none⟩) rfl _).setCell (p := ⟨wr.heap.size, 1, none⟩) rfl _).setCell (p := ⟨wr.heap.size, 2, none⟩) rfl _)) (fun b hb _ e => by omega)).mono (by omega)
        rw [hV5]
        clear n0 n1 n2 nf0 nf1 nf2
        have n0 := m0
        have n1 := m1
        have n2 := m2
        clear m0 m1 m2
        clear hV5 HB4 HO4
        have hz5 := b5.out.size
        have HOwF := hide (ownsRow_later (ownsRow_later HOw0.out b5.out) (below_alloc V5 (.cells #[.bool true, .int .i64 0, .slice none 0 0, .bool false, .int .i64 p, .slice a4 64 k4, .bool true, .int .i64 0, .slice none 0 0] 73)))
        go_wp2_with (at_builtin; refine wpList_append_lies _ rfl _ _ _ rfl 0 73 i0 (.agg #[.bool false, .int .i64 0, .slice none 0 0]) 3 40 Try.underlying27 hi hz0 hz1 hz2 rfl (by omega) _ k _ (by rfl) HOwF.out ⟨V5.heap.size, 0, none⟩ 3 3 [.bool true, .int .i64 0, .slice none 0 0, .bool false, .int .i64 p, .slice a4 64 k4, .bool true, .int .i64 0, .slice none 0 0] (by rfl) (by rfl) (World.news_of_block (cs := #[.bool true, .int .i64 0, .slice none 0 0, .bool false, .int .i64 p, .slice a4 64 k4, .bool true, .int .i64 0, .slice none 0 0]) (t := 73) (fr := (0, 0)) (heap_alloc_new V5 _)) cells9_one (by omega) (by unfold maxLen; omega) (by omega) (Nat.zero_le _) (V5.heap.size + 1) (by simp) ?_)
        intro g cap w6 hown6 hgrow hat hlt6
        have HS := hide (BuiltT.three (P' := (w.heap.size ≤ ·)) HIn.out HOw0.out HPr.out E0.out E1.out E2.out (fun b hb => by omega) (fun b hb => by omega) b5.out o5.out (below_alloc V5 (.cells #[.bool true, .int .i64 0, .slice none 0 0, .bool false, .int .i64 p, .slice a4 64 k4, .bool true, .int .i64 0, .slice none 0 0] 73)) hown6 hgrow (by simpa using hat))
        have HB6 := hide ((below_on (below_on HB.out b5.out) (below_alloc V5 (.cells #[.bool true, .int .i64 0, .slice none 0 0, .bool false, .int .i64 p, .slice a4 64 k4, .bool true, .int .i64 0, .slice none 0 0] 73))).grown hgrow (by simp; omega) (fun r hr => by have := HPr.out r hr; omega))
        clear hown6 hgrow hat hlt6 n0 n1 n2
        go_wp2
        go_ret
        exact ⟨_, rfl, HB6.out, by rw [HTs.out]; exact HS.out⟩
      · clear h0 h1 h2 c0 c1 c3
        obtain ⟨V5, hV5⟩ : ∃ V5, ((w4.setCell ⟨wr.heap.size, 0, none⟩ (.bool false)).setCell ⟨wr.heap.size, 1, none⟩ (.int .i64 p)).setCell ⟨wr.heap.size, 2, none⟩ (.slice a4 64 k4) = V5 := ⟨_, rfl⟩
        have m0 : V5.cell? ⟨wr.heap.size, 0, none⟩ = some (.bool false) := by rw [← hV5]; simp [go_sem, n0]
        have m1 : V5.cell? ⟨wr.heap.size, 1, none⟩ = some (.int .i64 p) := by rw [← hV5]; simp [go_sem, n1]
        have m2 : V5.cell? ⟨wr.heap.size, 2, none⟩ = some (.slice a4 64 k4) := by rw [← hV5]; simp [go_sem, n2]
        have b5 : Hid (Below wr.heap.size wr V5) := by rw [← hV5]; exact ((HB4.out.setCell (p := ⟨wr.heap.size, 0, none⟩) (Nat.le_refl _) _).setCell (p := ⟨wr.heap.size, 1, none⟩) (Nat.le_refl _) _).setCell (p := ⟨wr.heap.size, 2, none⟩) (Nat.le_refl _) _
        have o5 : Hid (OwI wr.heap.size V5 (.slice a4 64 k4) ws) := by
          rw [← hV5]
          exact (HO4.out.wr (((((Wr.refl (fun y => y = wr.heap.size) w4).setCell (p := ⟨wr.heap.size, 0, none⟩) rfl _).setCell (p := ⟨wr.heap.size, 1, none⟩) rfl _).setCell (p := ⟨wr.heap.size, 2, none⟩) rfl _)) (fun b hb _ e => by omega)).mono (by omega)
        rw [hV5]
        clear n0 n1 n2 nf0 nf1 nf2
        have n0 := m0
        have n1 := m1
        have n2 := m2
        clear m0 m1 m2
        clear hV5 HB4 HO4
        have hz5 := b5.out.size
        have HOwF := hide (ownsRow_later (ownsRow_later HOw0.out b5.out) (below_alloc V5 (.cells #[.bool true, .int .i64 0, .slice none 0 0, .bool false, .int .i64 p, .slice a4 64 k4, .bool true, .int .i64 0, .slice none 0 0] 73)))
        go_wp2_with (at_builtin; refine wpList_append_lies _ rfl _ _ _ rfl 0 73 i0 (.agg #[.bool false, .int .i64 0, .slice none 0 0]) 3 40 Try.underlying27 hi hz0 hz1 hz2 rfl (by omega) _ k _ (by rfl) HOwF.out ⟨V5.heap.size, 0, none⟩ 3 3 [.bool true, .int .i64 0, .slice none 0 0, .bool false, .int .i64 p, .slice a4 64 k4, .bool true, .int .i64 0, .slice none 0 0] (by rfl) (by rfl) (World.news_of_block (cs := #[.bool true, .int .i64 0, .slice none 0 0, .bool false, .int .i64 p, .slice a4 64 k4, .bool true, .int .i64 0, .slice none 0 0]) (t := 73) (fr := (0, 0)) (heap_alloc_new V5 _)) cells9_one (by omega) (by unfold maxLen; omega) (by omega) (Nat.zero_le _) (V5.heap.size + 1) (by simp) ?_)
        intro g cap w6 hown6 hgrow hat hlt6
        have HS := hide (BuiltT.three (P' := (w.heap.size ≤ ·)) HIn.out HOw0.out HPr.out E0.out E1.out E2.out (fun b hb => by omega) (fun b hb => by omega) b5.out o5.out (below_alloc V5 (.cells #[.bool true, .int .i64 0, .slice none 0 0, .bool false, .int .i64 p, .slice a4 64 k4, .bool true, .int .i64 0, .slice none 0 0] 73)) hown6 hgrow (by simpa using hat))
        have HB6 := hide ((below_on (below_on HB.out b5.out) (below_alloc V5 (.cells #[.bool true, .int .i64 0, .slice none 0 0, .bool false, .int .i64 p, .slice a4 64 k4, .bool true, .int .i64 0, .slice none 0 0] 73))).grown hgrow (by simp; omega) (fun r hr => by have := HPr.out r hr; omega))
        clear hown6 hgrow hat hlt6 n0 n1 n2
        go_wp2
        go_ret
        exact ⟨_, rfl, HB6.out, by rw [HTs.out]; exact HS.out⟩
end Go.Proofs.Ytdjdfkhgkadhgaa
/- Chapter 3, the model's side: 'l3Head' and 'l3Install', walked. -/
namespace Go.Proofs.Ytdjdfkhgkadhgaa
open Go.RowKit

/-- The nine cells of a flush, a header and a flush. -/
def nine (p : Int) (z : Value) : List Value := [.bool true, .int .i64 0, .slice none 0 0, .bool false, .int .i64 p, z, .bool true, .int .i64 0, .slice none 0 0]

set_option maxHeartbeats 1000000 in
set_option maxRecDepth 4000 in
/-- 'l3Head' of a header: where its nine cells lie. -/
theorem l3Head {S : Nat → Prop} {w : World} {y : Value} {xs : List Int} (s t : Int) (hy : RdI S w y xs) (hl : xs.length ≤ 24) (hs : 0 ≤ s) :
    Calls Try.prog 73 #[.agg #[.int .i64 s, .int .i64 t, y]] w fun e w' => ∃ g a4 k4 w4, e = .returned (.slice (some ⟨g, 0, none⟩) 3 3) ∧ Below w.heap.size w w4 ∧ OwI w.heap.size w4 (.slice a4 (packL s t xs).length k4) (packL s t xs) ∧ g = w4.heap.size ∧ w' = w4.alloc (.cells (nine (s % 2) (.slice a4 (packL s t xs).length k4)).toArray 73) := by
  obtain ⟨ay, cy, rfl⟩ := hy.shape
  have hmod : Int.tmod s 2 = s % 2 := Int.tmod_eq_emod_of_nonneg hs
  obtain ⟨l, hl'⟩ : ∃ l, xs.length = l := ⟨_, rfl⟩
  obtain ⟨W, hW⟩ : ∃ W, w.alloc (.cells #[.int .i64 s, .int .i64 t, .slice ay l cy] 52) = W := ⟨_, rfl⟩
  have BW : Hid (Below w.heap.size w W) := by rw [← hW]; exact below_alloc _ _
  have hHd : HdAt W w.heap.size 0 s t (.slice ay l cy) := by rw [← hW]; exact HdAt_new _ _ _ _ _
  rw [hl'] at hy ⊢
  have HPk := hide (l2Pack (w := W.drewN 1) ⟨hHd.seq, hHd.start, hHd.addrs⟩ ((hy.later BW.out).drewN 1) (by omega))
  have c0 := hHd.seq
  have hWs : w.heap.size < W.heap.size := World.block_lt_of_cell? _ _ c0
  generalize packL s t xs = ws at HPk ⊢
  obtain ⟨p, hp⟩ : ∃ p, s % 2 = p := ⟨_, rfl⟩
  rw [hp] at hmod ⊢
  clear hy hp hl' hHd
  go_enter Try.func73, Try.ntmps73
  go_wp2_with fail
  go_region_held3 (fun w' => w'.cell? ⟨w.heap.size, 0, none⟩ = some (.int .i64 s)) (first | exact c0 | exact e0 | exact cell_later (below_alloc w4 _) e0)
    (first | (go_at_call 92; refine HPk.out.mono ?_; rintro e w4 ⟨z4, rfl, hb4, ho4⟩; obtain ⟨a4, k4, rfl⟩ := ho4.shape; have e0 := cell_later hb4 c0; have HB4 := hide (below_on (below_drewN W 1) hb4); have HO4 := hide ho4; clear hb4 ho4))
  go_wp2
  go_ret
  have hz := BW.out.size
  exact ⟨_, a4, k4, w4, rfl, below_on BW.out HB4.out, HO4.out.mono (by simpa using hz), rfl, rfl⟩


/-- The steps of an install. -/
def insTs (xss : List (List Int)) (ps : List (Int × List Int)) (s t : Int) (A : List Int) : List St :=
  ((List.range A.length).map fun (i : Nat) => ((false, 26 + A.getD i 0, slotW xss ps t (i : Int)) : St)) ++ [(true, 0, []), (false, (s + 1) % 2, packL (s + 1) ((t + (A.length : Int)) % 24) []), (true, 0, [])]
theorem insTs_len (xss : List (List Int)) (ps : List (Int × List Int)) (s t : Int) (A : List Int) : (insTs xss ps s t A).length = A.length + 3 := by simp [insTs]
theorem insTs_at (xss : List (List Int)) (ps : List (Int × List Int)) (s t : Int) (A : List Int) (i : Nat) (h : i < A.length) : (insTs xss ps s t A).getD i st0 = (false, 26 + A.getD i 0, slotW xss ps t (i : Int)) := by
  unfold insTs
  rw [List.getD, List.getElem?_append_left (by simpa using h)]
  simp [h]
theorem insTs_0 (xss : List (List Int)) (ps : List (Int × List Int)) (s t : Int) (A : List Int) : (insTs xss ps s t A).getD A.length st0 = (true, 0, []) := by
  unfold insTs
  rw [List.getD, List.getElem?_append_right (by simp)]
  simp
theorem insTs_1 (xss : List (List Int)) (ps : List (Int × List Int)) (s t : Int) (A : List Int) : (insTs xss ps s t A).getD (A.length + 1) st0 = (false, (s + 1) % 2, packL (s + 1) ((t + (A.length : Int)) % 24) []) := by
  unfold insTs
  rw [List.getD, List.getElem?_append_right (by simp)]
  simp
theorem insTs_2 (xss : List (List Int)) (ps : List (Int × List Int)) (s t : Int) (A : List Int) : (insTs xss ps s t A).getD (A.length + 2) st0 = (true, 0, []) := by
  unfold insTs
  rw [List.getD, List.getElem?_append_right (by simp)]
  simp

/-- While steps are made out of a log: the log stays, the steps share its words. -/
structure InAt (w w1 : World) (ts : List St) (V : Nat → Value) (k : Nat) (v : Value) (wr : World) : Prop where
  row : wr.ownsRow 0 73 3 v k (cellsT ts k V)
  blk : ∀ r, v.ownBlock = some r → r = w.heap.size ∨ w1.heap.size ≤ r
  size : w1.heap.size ≤ wr.heap.size
  keep : ∀ b, b < w1.heap.size → b ≠ w.heap.size → wr.heap[b]? = w1.heap[b]?
  below : Below w.heap.size w wr
theorem InAt.cell {w w1 : World} {ts : List St} {V : Nat → Value} {k : Nat} {v : Value} {wr : World} (H : InAt w w1 ts V k v wr) {b o : Nat} {x : Value} (h : w1.cell? ⟨b, o, none⟩ = some x) (hb : b ≠ w.heap.size) : wr.cell? ⟨b, o, none⟩ = some x :=
  (World.cell?_of_block (H.keep b (World.block_lt_of_cell? _ _ h) hb)).trans h
theorem InAt.step {w w1 : World} {ts : List St} {V : Nat → Value} {k g cap : Nat} {v : Value} {wr w3 : World} {o : Obj} (H : InAt w w1 ts V k v wr) (hs : w.heap.size < w1.heap.size)
    (hown : w3.ownsRow 0 73 3 (.slice (some ⟨g, 0, none⟩) (k + 1) cap) (k + 1) (cellsT ts k V ++ [.bool (ts.getD k st0).1, .int .i64 (ts.getD k st0).2.1, V k])) (hg : (wr.alloc o).grownBy w3 v.ownBlock) (hat : v.ownBlock = some g ∨ g = (wr.alloc o).heap.size) :
    InAt w w1 ts V (k + 1) (.slice (some ⟨g, 0, none⟩) (k + 1) cap) w3 := by
  have h1 := H.size
  have h2 := hg.size
  simp only [World.size_alloc] at h2
  refine ⟨by rw [cellsT_next]; exact hown, fun r hr => ?_, by omega, fun b hb hne => ?_, ?_⟩
  · injection hr with hr
    subst hr
    rcases hat with hat | hat
    · exact H.blk _ hat
    · exact Or.inr (by dsimp only; simp at hat; omega)
  · rw [hg.block b (by simp; omega) (fun e => by rcases H.blk b e.symm with h | h <;> omega), Below.heap_alloc _ _ _ (by omega)]
    exact H.keep b hb hne
  · exact (H.below.trans ((below_alloc wr o).mono (by omega))).grown hg (by simp; omega) (fun r hr => by rcases H.blk r hr with h | h <;> omega)

/-- What the steps stand on, once they have all been made. -/
theorem InAt.inner {w w1 : World} {ts : List St} {V : Nat → Value} {Bk : Nat → Nat} {k : Nat} {v z : Value} {wr : World} {lps : List (Int × List Int)} (H : InAt w w1 ts V k v wr) (hin : Inner (fun b => w.heap.size + 1 ≤ b) w1 z.ownBlock k V Bk (fun i => (lps.getD i (0, [])).2)) (hw : ∀ i, i < k → (ts.getD i st0).2.2 = (lps.getD i (0, [])).2) :
    Inner (fun b => w.heap.size ≤ b) wr v.ownBlock k V Bk (fun i => (ts.getD i st0).2.2) := by
  refine ⟨fun i hi => ?_, fun i hi hn => ?_⟩
  · have h := hin.rd i hi
    rw [hw i hi]
    obtain ⟨ao, c, e1, e2, e3⟩ := h
    refine ⟨ao, c, e1, e2, fun hne => ?_⟩
    obtain ⟨b, off, f1, f2, f3⟩ := e3 hne
    have hb := (hin.own i hi hne).1
    exact ⟨b, off, f1, f2, fun j hj => H.cell (f3 j hj) (by rw [f2]; omega)⟩
  · rw [hw i hi] at hn
    obtain ⟨h1, h2, h3, h4, h5⟩ := hin.own i hi hn
    have hsz := H.size
    refine ⟨by omega, by omega, fun o => (World.frozen?_of_block (H.keep (Bk i) h2 (by omega))).trans (h3 o), fun e => ?_, fun j hj hj' ej => h5 j hj (by rw [← hw j hj]; exact hj') ej⟩
    rcases H.blk _ e with h | h <;> omega


set_option maxHeartbeats 4000000 in
set_option maxRecDepth 4000 in
/-- 'spec.l3Install' of a disk and its header. -/
theorem l3Install {S T S3 : Nat → Prop} {w : World} {bd bh o : Nat} {u v y : Value} {xss : List (List Int)} {ps : List (Int × List Int)} {s t : Int} {A : List Int} (hd0 : w.cell? ⟨bd, 0, none⟩ = some u) (hd1 : w.cell? ⟨bd, 1, none⟩ = some v) (hu : RdII S w u xss) (hv : RdP T w v ps) (hs : Small xss ps) (h66 : xss.length = 66)
    (hh : HdAt w bh o s t y) (hA : RdI S3 w y A) (hhd : headF s t A = 0) (hs2 : s < 65000) :
    Calls Try.prog 38 #[.pointer (some ⟨bd, 0, none⟩), .pointer (some ⟨bh, o, none⟩)] w fun e w' => ∃ z, e = .returned z ∧ Below w.heap.size w w' ∧ BuiltT (w.heap.size ≤ ·) w' z (A.length + 3) (insTs xss ps s t A) := by
  obtain ⟨⟨hs1, _, ht, ht'⟩, hl24, hA39⟩ := headF_zero hhd
  obtain ⟨i0, hi, hz0, hz1, hz2⟩ := info_parts Try.infoStep
  have A0 := hide (below_alloc w (.cells #[] 73))
  have HLg := hide (l3Log (cell_later A0.out hd0) (cell_later A0.out hd1) (hu.later A0.out) (hv.later A0.out) hs h66 (hh.later A0.out) (hA.later A0.out) ht ht' hl24)
  have HSl := hide (fun (w' : World) (hb : Below w.heap.size w w') => l3Slot (A.length : Int) w' (hh.later hb) ht ht' (by omega) (by omega))
  have HPsL := hide (logPs_len xss ps t A)
  have HPsA := hide (logPs_at xss ps t A)
  have HTA := hide (insTs_at xss ps s t A)
  have HT0 := hide (insTs_0 xss ps s t A)
  have HT1 := hide (insTs_1 xss ps s t A)
  have HT2 := hide (insTs_2 xss ps s t A)
  have hsq := hh.seq
  generalize logPs xss ps t A = lps at HLg HPsL HPsA
  generalize insTs xss ps s t A = ts at HTA HT0 HT1 HT2 ⊢
  have hq1 : 0 ≤ (t + (A.length : Int)) % 24 := by omega
  generalize (t + (A.length : Int)) % 24 = q at HSl HT1 hq1
  have HA39 := hide hA39
  obtain ⟨n, hn⟩ : ∃ n, A.length = n := ⟨_, rfl⟩
  have HN := hide hn
  rw [hn] at HLg HSl HPsL HPsA HTA HT0 HT1 HT2 hl24 HA39 ⊢
  have hws : IntKind.i64.wrap (s + 1) = s + 1 := by simp [IntKind.wrap, IntKind.bits, IntKind.signed]; omega
  have HHd := hide (fun (w' : World) => l3Head (w := w') (s + 1) q (RdI_nil (fun _ => True) w' none 0) (by simp) (by omega))
  have hbl := World.block_lt_of_cell? _ _ hsq
  clear hd0 hd1 hu hv hs h66 hh hA hhd hA39 hn
  go_enter Try.func38, Try.ntmps38
  go_wp2_with fail
  refine HLg.out.mono ?_
  rintro e w1 ⟨zl, rfl, hb1, ho1⟩
  obtain ⟨V, Bk, hownL, hprL, hinL⟩ := ho1
  obtain ⟨al, cl, rfl⟩ := BuiltP.shape ⟨V, Bk, hownL, hprL, hinL⟩
  have hs1' : w.heap.size + 1 ≤ w1.heap.size := by have := hb1.size; simpa using this
  have HLog : Hid (∀ k, k < n → ∃ gl, al = some ⟨gl, 0, none⟩ ∧ w1.cell? ⟨gl, k * 2, none⟩ = some (.int .i64 (lps.getD k (0, [])).1) ∧ w1.cell? ⟨gl, k * 2 + 1, none⟩ = some (V k) ∧ w.heap.size + 1 ≤ gl) := by
    intro k hk
    rcases hownL.2 with ⟨_, e⟩ | ⟨g, cap, cur, e, hg, hh', _⟩
    · omega
    · injection e with e1 e2 e3
      subst e1
      refine ⟨g, rfl, ?_, ?_, by have := hprL g rfl; simpa using this⟩
      · subst e3
        rw [hownL.cellAt (k * 2) (by omega)]
        exact cellsP_num _ _ _ _ hk
      · subst e3
        rw [hownL.cellAt (k * 2 + 1) (by omega)]
        exact cellsP_words _ _ _ _ hk
  have HInL : Hid (Inner (fun b => w.heap.size + 1 ≤ b) w1 (Value.slice al n cl).ownBlock n V Bk (fun i => (lps.getD i (0, [])).2)) := hinL.mono (fun b hb _ => by simpa using hb)
  have HI0 : Hid (InAt w w1 ts V 0 (.slice (some ⟨w.heap.size, 0, none⟩) 0 0) w1) :=
    ⟨ownsRow_later (World.ownsRow_made w #[] 0 (Nat.zero_le _) (by unfold maxLen; omega) (by simp)) hb1, fun r hr => by injection hr with hr; exact Or.inl hr.symm, Nat.le_refl _, fun _ _ _ => rfl, below_on A0.out hb1⟩
  clear hb1 hownL hprL hinL
  go_wp2
  go_loopw [5, 7] (fun v i wr => ∃ k : Nat, k ≤ n ∧ i = .int .i64 k ∧ Hid (∃ av cv, v = .slice av k cv) ∧ Hid (InAt w w1 ts V k v wr)) (fun _ i _ => n - (intOf i).toNat)
  case atStart => exact ⟨0, Nat.zero_le _, rfl, ⟨_, _, rfl⟩, HI0.out⟩
  case round =>
    obtain ⟨k, hk, rfl, HSh, HI⟩ := hrel
    obtain ⟨av, cv, rfl⟩ := HSh.out
    by_cases hlt : k < n
    · obtain ⟨gl, rfl, g1, g2, hgl⟩ := HLog.out k hlt
      obtain ⟨ak, ck, hVk⟩ := (HInL.out.rd k hlt).shape
      have g1' := HI.out.cell g1 (by omega)
      have g2' := HI.out.cell g2 (by omega)
      obtain ⟨x, hx⟩ : ∃ x, (lps.getD k (0, [])).1 = x := ⟨_, rfl⟩
      obtain ⟨lk, hlk⟩ : ∃ lk, (lps.getD k (0, [])).2.length = lk := ⟨_, rfl⟩
      rw [hlk] at hVk
      rw [hx] at g1'
      rw [hVk] at g2'
      have hxA : A.getD k 0 = x := by rw [← hx, HPsA.out k hlt]
      have hx39 := HA39.out k hlt
      rw [hxA] at hx39
      have HTk := hide (HTA.out k hlt)
      rw [hxA] at HTk
      have HVk := hide hVk
      have hwx : IntKind.i64.wrap (26 + x) = 26 + x := by simp [IntKind.wrap, IntKind.bits, IntKind.signed]; omega
      have hk0 : (0 : Int) ≤ (k : Int) := Int.natCast_nonneg _
      have hk1 : (k : Int) < (n : Int) := by omega
      have hszw := HI.out.size
      have hglw := World.block_lt_of_cell? _ _ g1
      have hfar : Hid (∀ b, b < w1.heap.size → b ≠ w.heap.size → some b ≠ (Value.slice av k cv).ownBlock) := fun b h1 h2 e => by rcases HI.out.blk b e.symm with h | h <;> omega
      clear g1 g2 hVk hx hlk hxA
      go_wp2_with fail
      go_region_held3 (fun w' => w'.cell? ⟨gl, k * 2, none⟩ = some (.int .i64 x) ∧ w'.cell? ⟨gl, k * 2 + 1, none⟩ = some (.slice ak lk ck)) (first | exact ⟨g1', g2'⟩ | exact ⟨cell_later (below_alloc wr _) g1', cell_later (below_alloc wr _) g2'⟩ | exact ⟨cell_later (below_on (below_alloc wr _) (below_drewN _ 1)) g1', cell_later (below_on (below_alloc wr _) (below_drewN _ 1)) g2'⟩ | exact ⟨(far _).trans g1', (far _).trans g2'⟩)
        (first
          | (refine step_append_lies _ (by rfl) _ _ _ (by rfl) 0 73 i0 (.agg #[.bool false, .int .i64 0, .slice none 0 0]) 3 40 Try.underlying27 hi hz0 hz1 hz2 rfl (by omega) _ k _ (by rfl) (ownsRow_later (ownsRow_later HI.out.row (below_alloc wr (.cells #[.bool false, .int .i64 (26 + x), .slice ak lk ck] 73))) (below_drewN _ 1)) ⟨wr.heap.size, 0, none⟩ 1 1 [.bool false, .int .i64 (26 + x), .slice ak lk ck] (by rfl) (by rfl) (World.news_of_block (cs := #[.bool false, .int .i64 (26 + x), .slice ak lk ck]) (t := 73) (fr := (0, 0)) (heap_alloc_new wr _)) cells3_one (by omega) (by unfold maxLen; omega) (by omega) (Nat.zero_le _) (wr.heap.size + 1) (by simp) ?_; intro g cap w3 hown3 hgrow0 hat hlt3; have hgrow : (wr.alloc (.cells #[.bool false, .int .i64 (26 + x), .slice ak lk ck] 73)).grownBy w3 (Value.slice av k cv).ownBlock := ⟨hgrow0.os, hgrow0.tape, hgrow0.output, hgrow0.size, hgrow0.block⟩; clear hgrow0; have far : ∀ o, w3.cell? ⟨gl, o, none⟩ = wr.cell? ⟨gl, o, none⟩ := fun o => (hgrow.cell_far ⟨gl, o, none⟩ (by simp; omega) (hfar.out gl hglw (by omega))).trans ((bcell (below_alloc wr _)).1 _ _ (by omega))))
      have HS := hide (InAt.step HI.out (by omega) (by rw [HTk.out, HVk.out]; exact hown3) hgrow (by simpa using hat))
      clear hown3 hgrow hat far
      go_wp2
      go_roundw
      case rel => exact ⟨k + 1, hlt, by go_num, ⟨_, _, rfl⟩, HS.out⟩
      case measure => simp [intOf]; omega
    · have hkn : k = n := by omega
      subst hkn
      have HIn := hide (HI.out.inner HInL.out (fun i hi => by rw [HTA.out i hi, HPsA.out i hi]))
      have HPr : Hid (∀ r, (Value.slice av k cv).ownBlock = some r → w.heap.size ≤ r) := fun r hr => by rcases HI.out.blk r hr with h | h <;> omega
      have HOw0 := hide HI.out.row
      have hq0 := (HI.out.below.cell (p := ⟨bh, o, none⟩) hbl).trans hsq
      have hszw := HI.out.size
      have HBw := hide HI.out.below
      have HSlk := hide (HSl.out (wr.drewN 1) (below_on HBw.out (below_drewN wr 1)))
      have HHk := hide (HHd.out (wr.drewN 1))
      have hpl : (packL (s + 1) q []).length = 64 := packL_len (by simp)
      rw [hpl] at HHk
      generalize (s + 1) % 2 = p at HHk HT1
      generalize packL (s + 1) q [] = ws at HHk HT1
      clear hpl HI
      go_wp2_with fail
      go_region_held3 (fun w' => w'.cell? ⟨bh, o, none⟩ = some (.int .i64 s)) (first | exact hq0 | exact e0 | exact s0)
        (first
          | (go_at_call 55; refine HSlk.out.mono ?_; rintro e wq ⟨rfl, rfl⟩)
          | (refine step_append_lies _ (by rfl) _ _ _ (by rfl) 0 73 i0 (.agg #[.bool false, .int .i64 0, .slice none 0 0]) 3 40 Try.underlying27 hi hz0 hz1 hz2 rfl (by omega) _ k _ (by rfl) (ownsRow_later (ownsRow_later HOw0.out HB4.out) (below_alloc w4 (.cells (nine p (.slice a4 64 k4)).toArray 73))) ⟨w4.heap.size, 0, none⟩ 3 3 (nine p (.slice a4 64 k4)) (by rfl) (by rfl) (World.news_of_block (cs := (nine p (.slice a4 64 k4)).toArray) (t := 73) (fr := (0, 0)) (heap_alloc_new w4 _)) cells9_one (by omega) (by unfold maxLen; omega) (by omega) (Nat.zero_le _) (w4.heap.size + 1) (by simp) ?_; intro g cap w6 hown6 hgrow hat hlt6; have s0 := (hgrow.cell_far ⟨bh, o, none⟩ (by simp; omega) (fun e => by have := HPr.out _ e.symm; dsimp only at this; omega)).trans e0)
          | (go_at_call 73; (try rw [hws]); refine HHk.out.mono ?_; rintro e w5 ⟨g5, a4, k4, w4, rfl, hb4, ho4, rfl, rfl⟩; have e0 := cell_later (below_alloc w4 (.cells (nine p (.slice a4 64 k4)).toArray 73)) (cell_later hb4 hq0); have HB4 := hide (below_on (below_drewN wr 1) hb4); have HO4 := hide ho4; have hz4 : wr.heap.size ≤ w4.heap.size := hb4.size; clear hb4 ho4))
      have HS := hide (BuiltT.three (P' := (w.heap.size ≤ ·)) HIn.out HOw0.out HPr.out HT0.out HT1.out HT2.out (fun b hb => hb) (fun b hb => by omega) HB4.out HO4.out (below_alloc w4 (.cells (nine p (.slice a4 64 k4)).toArray 73)) hown6 hgrow (by simpa using hat))
      have HB6 := hide ((below_on (below_on HBw.out HB4.out) (below_alloc w4 (.cells (nine p (.slice a4 64 k4)).toArray 73))).grown hgrow (by simp; omega) (fun r hr => HPr.out r hr))
      clear hown6 hgrow hat s0 e0
      go_wp2
      go_ret
      exact ⟨_, rfl, HB6.out, HS.out⟩
end Go.Proofs.Ytdjdfkhgkadhgaa
/- Chapter 3: 'PlanInstall' of the program and of the model, walked. -/
namespace Go.Proofs.Ytdjdfkhgkadhgaa
open Go.RowKit

/-- The code of 'PlanInstall', and its steps. -/
def pnF (xss : List (List Int)) (ps : List (Int × List Int)) : Int := if inF xss ps = 0 then (if inS xss ps = 65000 then 10 else 0) else inF xss ps
def pnT (xss : List (List Int)) (ps : List (Int × List Int)) : List St := if inF xss ps = 0 ∧ inS xss ps ≠ 65000 ∧ (inA xss ps).length ≠ 0 then insTs xss ps (inS xss ps) (inT xss ps) (inA xss ps) else []

theorem head_next {s t : Int} {n : Int} (h1 : 1 ≤ s) (h2 : s < 65000) : headF (s + 1) ((t + n) % 24) [] = 0 :=
  headF_ok ⟨by omega, by omega, by omega, by omega⟩ (by simp) (fun i hi => absurd hi (Nat.not_lt_zero _))

set_option maxHeartbeats 4000000 in
set_option maxRecDepth 4000 in
theorem implPlanInstall {S T : Nat → Prop} {w : World} {u v : Value} {xss : List (List Int)} {ps : List (Int × List Int)} (hu : RdII S w u xss) (hv : RdP T w v ps) (hs : Small xss ps) :
    Calls Try.prog 11 #[.agg #[u, v]] w (EndsT (pnF xss ps) (pnT xss ps) w) := by
  unfold EndsT pnF pnT
  obtain ⟨ao, c, rfl, _⟩ := hu.shape
  obtain ⟨ao', c', rfl, _⟩ := hv.shape
  have hmf : ∀ (fn : Fn) (first cap : Array Value) (w : World), (Instr.makeFunc fn first cap).run Try.prog w = .ok (.func fn first cap) w := fun _ _ _ _ => rfl
  have HIn := hide (fun (w' : World) (hb : Below w.heap.size w w') => implHeaderIn (hu.later hb) (hv.later hb) hs)
  have HU := hide hu
  have HV := hide hv
  have HS := hide hs
  obtain ⟨n, hn⟩ : ∃ n, xss.length = n := ⟨_, rfl⟩
  obtain ⟨m, hm⟩ : ∃ m, ps.length = m := ⟨_, rfl⟩
  have A0 := hide (below_on (below_alloc w (.cells #[.slice ao n c, .slice ao' m c'] 33)) (below_alloc _ (.cells #[.int .i64 0, .slice none 0 0] 29)))
  rw [hn] at HU
  rw [hm] at HV
  by_cases h0 : inF xss ps = 0
  · obtain ⟨_, h66, hhd⟩ := in_ok h0
    obtain ⟨⟨hs1, hs2, ht1, ht2⟩, hA24, hA39⟩ := headF_zero hhd
    rw [if_pos h0]
    rw [h0] at HIn
    have HCl := hide (fun (w' : World) (H : Nat) (s i addr : Int) (ay : Option Addr) (l cy : Nat) (hb : Below w.heap.size w w') (hd0 : w'.cell? ⟨w.heap.size, 0, none⟩ = some (.slice ao n c)) (hd1 : w'.cell? ⟨w.heap.size, 1, none⟩ = some (.slice ao' m c')) (hh : HdAt w' H 0 s (inT xss ps) (.slice ay l cy)) (h1 : 0 ≤ i) (h2 : i ≤ 1048576) (h3 : 0 ≤ addr) (h4 : addr ≤ 39) => planIn1 i addr hd0 hd1 hh (HU.out.later hb) (HV.out.later hb) HS.out h66 ht1 ht2 h1 h2 h3 h4)
    have HTL := hide (insTs_len xss ps (inS xss ps) (inT xss ps) (inA xss ps))
    have HTA := hide (insTs_at xss ps (inS xss ps) (inT xss ps) (inA xss ps))
    have HT0 := hide (insTs_0 xss ps (inS xss ps) (inT xss ps) (inA xss ps))
    have HT1 := hide (insTs_1 xss ps (inS xss ps) (inT xss ps) (inA xss ps))
    have HT2 := hide (insTs_2 xss ps (inS xss ps) (inT xss ps) (inA xss ps))
    generalize insTs xss ps (inS xss ps) (inT xss ps) (inA xss ps) = ts at HTL HTA HT0 HT1 HT2 ⊢
    have h00 : inF xss ps = 0 := h0
    generalize hsx : inS xss ps = s at HIn HT1 hs1 hs2 ⊢
    generalize inT xss ps = t at HIn HCl HTA HT1 ht1 ht2
    have HA39 := hide hA39
    generalize hAx : inA xss ps = A at HIn HTL HTA HT0 HT1 HT2 hA24 HA39 ⊢
    obtain ⟨l, hl⟩ : ∃ l, A.length = l := ⟨_, rfl⟩
    have HL := hide hl
    rw [hl] at hA24
    rw [hn, hm] at HIn
    rw [hn, hm, hl]
    have H00 := hide h00
    obtain ⟨cc, hcc⟩ : ∃ cc : Int, (if s = 65000 then (10 : Int) else 0) = cc := ⟨_, rfl⟩
    obtain ⟨rs, hrs⟩ : ∃ rs : List St, (if inF xss ps = 0 ∧ s ≠ 65000 ∧ l ≠ 0 then ts else []) = rs := ⟨_, rfl⟩
    rw [hcc, hrs]
    have HCC := hide hcc
    have HRS := hide hrs
    clear hu hv hs hn hm h0 h00 h66 hhd hl hA39 hsx hAx hcc hrs
    go_enter Try.func11, Try.ntmps11
    go_wp2_with fail
    refine (HIn.out _ A0.out).mono ?_
    rintro e w1 ⟨z1, rfl, hb1, ho1⟩
    obtain ⟨a1, k1, hz1'⟩ := ho1.shape
    rw [HL.out] at hz1'
    subst hz1'
    have bR := below_alloc w1 (.cells #[.int .i64 0, .int .i64 s, .int .i64 t, .slice a1 l k1] 66)
    have bH := below_alloc (w1.alloc (.cells #[.int .i64 0, .int .i64 s, .int .i64 t, .slice a1 l k1] 66)) (.cells #[.int .i64 s, .int .i64 t, .slice a1 l k1] 52)
    have bb := below_on bR bH
    have b1' := below_on hb1 bb
    have hHd := HdAt_new (w1.alloc (.cells #[.int .i64 0, .int .i64 s, .int .i64 t, .slice a1 l k1] 66)) s t (.slice a1 l k1) 52
    rw [World.size_alloc] at hHd
    have HW : Hid (Below w.heap.size w ((w1.alloc (.cells #[.int .i64 0, .int .i64 s, .int .i64 t, .slice a1 l k1] 66)).alloc (.cells #[.int .i64 s, .int .i64 t, .slice a1 l k1] 52)) ∧ Var2 ((w1.alloc (.cells #[.int .i64 0, .int .i64 s, .int .i64 t, .slice a1 l k1] 66)).alloc (.cells #[.int .i64 s, .int .i64 t, .slice a1 l k1] 52)) w.heap.size (.slice ao n c) (.slice ao' m c') ∧ Var2 ((w1.alloc (.cells #[.int .i64 0, .int .i64 s, .int .i64 t, .slice a1 l k1] 66)).alloc (.cells #[.int .i64 s, .int .i64 t, .slice a1 l k1] 52)) (w.heap.size + 1) (.int .i64 0) (.slice none 0 0) ∧ (∀ o, ((w1.alloc (.cells #[.int .i64 0, .int .i64 s, .int .i64 t, .slice a1 l k1] 66)).alloc (.cells #[.int .i64 s, .int .i64 t, .slice a1 l k1] 52)).frozen? ⟨w.heap.size + 1, o, none⟩ = false) ∧ HdAt ((w1.alloc (.cells #[.int .i64 0, .int .i64 s, .int .i64 t, .slice a1 l k1] 66)).alloc (.cells #[.int .i64 s, .int .i64 t, .slice a1 l k1] 52)) (w1.heap.size + 1) 0 s t (.slice a1 l k1) ∧ RdI (fun _ => True) ((w1.alloc (.cells #[.int .i64 0, .int .i64 s, .int .i64 t, .slice a1 l k1] 66)).alloc (.cells #[.int .i64 s, .int .i64 t, .slice a1 l k1] 52)) (.slice a1 l k1) A) :=
      ⟨below_on A0.out b1', ⟨cell_later b1' (by simp [go_sem]), cell_later b1' (by simp [go_sem])⟩, ⟨cell_later b1' (by simp [go_sem]), cell_later b1' (by simp [go_sem])⟩, fun o => ((bcell b1').2 _ _ (by simp)).trans (by simp [go_sem]), hHd, (ho1.rd.later bb).narrow (fun _ _ _ => trivial)⟩
    have hsz : w.heap.size + 1 < w1.heap.size + 1 := by have := hb1.size; simp at this; omega
    clear hb1 ho1 bR bH bb b1' hHd HIn A0
    go_upto_region 5 with fail
    refine forget (fun wx => Below w.heap.size w wx ∧ Var2 wx w.heap.size (.slice ao n c) (.slice ao' m c') ∧ Var2 wx (w.heap.size + 1) (.int .i64 0) (.slice none 0 0) ∧ (∀ o, wx.frozen? ⟨w.heap.size + 1, o, none⟩ = false) ∧ HdAt wx (w1.heap.size + 1) 0 s t (.slice a1 l k1) ∧ RdI (fun _ => True) wx (.slice a1 l k1) A) HW.out ?_
    obtain ⟨H, hH⟩ : ∃ H, w1.heap.size + 1 = H := ⟨_, rfl⟩
    rw [hH] at hsz ⊢
    clear HW hH
    rintro V ⟨hbV, ⟨d0, d1⟩, ⟨q0, q1⟩, qf, hHd, hRA⟩
    have HBV := hide hbV
    have HD0 := hide d0
    have HD1 := hide d1
    have HQ0 := hide q0
    have HQ1 := hide q1
    have HQf := hide qf
    have HHd := hide hHd
    have HRA := hide hRA
    have h0 := hHd.seq
    have h1 := hHd.start
    have h2 := hHd.addrs
    simp only [Nat.zero_add] at h0 h1 h2
    have hHl : H < V.heap.size := World.block_lt_of_cell? _ _ h0
    have f0 := qf 0
    have f1 := qf 1
    clear hbV hHd hRA d0 d1 qf
    by_cases h65 : s = 65000
    · have e1 : cc = 10 := by rw [← HCC.out, if_pos h65]
      have e2 : rs = [] := by rw [← HRS.out, if_neg (fun h => h.2.1 h65)]
      subst e1 e2 h65
      go_wp2
      exact bodyPost_ret (v := .agg #[.int .i64 10, .slice none 0 0]) (by simp [results, Try.results11, go_sem, q0, q1]) rfl ⟨_, rfl, (HBV.out.setCell (by simp) _).setCell (by simp) _, OwT_nil _ _⟩
    · have e1 : cc = 0 := by rw [← HCC.out, if_neg h65]
      subst e1
      by_cases hl0 : l = 0
      · have e2 : rs = [] := by rw [← HRS.out, if_neg (fun h => h.2.2 hl0)]
        subst e2 hl0
        go_wp2
        exact bodyPost_ret (v := .agg #[.int .i64 0, .slice none 0 0]) (by simp [results, Try.results11, go_sem, q0, q1]) rfl ⟨_, rfl, (HBV.out.setCell (by simp) _).setCell (by simp) _, OwT_nil _ _⟩
      · have e2 : rs = ts := by rw [← HRS.out, if_pos ⟨H00.out, h65, hl0⟩]
        subst e2
        have hl0' : ¬ (l : Int) = 0 := by omega
        have HSl := hide (fun (w' : World) => slotFrom s t (l : Int) (.slice a1 l k1) w' ht1 ht2 (by omega) (by omega))
        have HNx := hide (head_next (t := t) (n := (A.length : Int)) hs1 (by omega : s < 65000))
        rw [HL.out] at HNx
        rw [HL.out] at HT1
        generalize (t + (l : Int)) % 24 = q at HSl HNx HT1
        have hws : IntKind.i64.wrap (s + 1) = s + 1 := by simp [IntKind.wrap, IntKind.bits, IntKind.signed]; omega
        obtain ⟨W1, hW1⟩ : ∃ W1, V.drew = W1 := ⟨_, rfl⟩
        obtain ⟨W2, hW2⟩ : ∃ W2, (V.alloc (.cells #[.int .i64 0, .int .i64 0, .slice none 0 0] 52)).drew = W2 := ⟨_, rfl⟩
        have b1 : Below V.heap.size V W1 := by rw [← hW1]; exact below_drewN V 1
        have b2 : Below V.heap.size V W2 := by rw [← hW2]; exact below_on (below_alloc V _) (below_drewN _ 1)
        have z2 : W2.heap.size = V.heap.size + 1 := by rw [← hW2]; show (V.alloc _).heap.size = _; simp
        have m0 : W2.cell? ⟨V.heap.size, 0, none⟩ = some (.int .i64 0) := by rw [← hW2]; show (V.alloc _).cell? _ = _; simp [go_sem]
        have m1 : W2.cell? ⟨V.heap.size, 1, none⟩ = some (.int .i64 0) := by rw [← hW2]; show (V.alloc _).cell? _ = _; simp [go_sem]
        have m2 : W2.cell? ⟨V.heap.size, 2, none⟩ = some (.slice none 0 0) := by rw [← hW2]; show (V.alloc _).cell? _ = _; simp [go_sem]
        have mf : ∀ o, W2.frozen? ⟨V.heap.size, o, none⟩ = false := by rw [← hW2]; intro o; show (V.alloc _).frozen? _ = _; simp [go_sem]
        have Q1 := hide b1
        have Q2 := hide (And.intro (And.intro b2 z2) (And.intro m0 (And.intro m1 (And.intro m2 mf))))
        have HW1 := hide hW1
        have HW2 := hide hW2
        have hr0 : ¬ H = V.heap.size := by omega
        clear hW1 hW2 b1 b2 z2 m0 m1 m2 mf q0 q1 f0 f1
        go_wp2_with fail
        go_region_held3 (fun w' => w'.cell? ⟨H, 0, none⟩ = some (.int .i64 s) ∧ w'.cell? ⟨H, 1, none⟩ = some (.int .i64 t) ∧ w'.cell? ⟨H, 2, none⟩ = some (.slice a1 l k1)) (simp [go_sem, *])
          (first
            | (go_at_call 43; rw [HW1.out]; refine (HSl.out W1).mono ?_; rintro e w4 ⟨rfl, hb4⟩; have c0 := cell_later hb4 (cell_later Q1.out h0); have c1 := cell_later hb4 (cell_later Q1.out h1); have c3 := cell_later hb4 (cell_later Q1.out h2); have HB4 := hide (below_on Q1.out hb4); have hw4 : H < w4.heap.size := World.block_lt_of_cell? _ _ c0; have hr4 : ¬ H = w4.heap.size := (by omega); clear hb4)
            | (go_at_call 43; rw [HW2.out]; refine (HSl.out W2).mono ?_; rintro e w4 ⟨rfl, hb4⟩; have c0 := cell_later hb4 (cell_later Q2.out.1.1 h0); have c1 := cell_later hb4 (cell_later Q2.out.1.1 h1); have c3 := cell_later hb4 (cell_later Q2.out.1.1 h2); have n0 := cell_later hb4 Q2.out.2.1; have n1 := cell_later hb4 Q2.out.2.2.1; have n2 := cell_later hb4 Q2.out.2.2.2.1; have nf0 := ((bcell hb4).2 _ 0 (by rw [Q2.out.1.2]; exact Nat.lt_succ_self _)).trans (Q2.out.2.2.2.2 0); have nf1 := ((bcell hb4).2 _ 1 (by rw [Q2.out.1.2]; exact Nat.lt_succ_self _)).trans (Q2.out.2.2.2.2 1); have nf2 := ((bcell hb4).2 _ 2 (by rw [Q2.out.1.2]; exact Nat.lt_succ_self _)).trans (Q2.out.2.2.2.2 2); have HB4 := hide (below_on Q2.out.1.1 hb4); have hw4 : V.heap.size < w4.heap.size := World.block_lt_of_cell? _ _ n0; clear hb4))
        · clear c0 c1 c3
          obtain ⟨V5, hV5⟩ : ∃ V5, w4.alloc (.cells #[.int .i64 (s + 1), .int .i64 q, .slice none 0 0] 52) = V5 := ⟨_, rfl⟩
          have n0 : V5.cell? ⟨w4.heap.size, 0, none⟩ = some (.int .i64 (s + 1)) := by rw [← hV5]; simp [go_sem]
          have n1 : V5.cell? ⟨w4.heap.size, 1, none⟩ = some (.int .i64 q) := by rw [← hV5]; simp [go_sem]
          have n2 : V5.cell? ⟨w4.heap.size, 2, none⟩ = some (.slice none 0 0) := by rw [← hV5]; simp [go_sem]
          have b5 : Hid (Below V.heap.size V V5) := by rw [← hV5]; exact below_on HB4.out (below_alloc _ _)
          rw [hV5]
          obtain ⟨N, hN⟩ : ∃ N, w4.heap.size = N := ⟨_, rfl⟩
          rw [hN] at n0 n1 n2 ⊢
          clear hV5 hN HB4
          have x0 := cell_later b5.out HD0.out
          have x1 := cell_later b5.out HD1.out
          have y2 := cell_later b5.out h2
          have hHd5 := HHd.out.later b5.out
          have HPut : Hid (∀ i, i < A.length → (rs.getD i st0).1 = false ∧ ∀ w', Below V5.heap.size V5 w' → Calls Try.prog 41 #[.int .i64 (i : Int), .int .i64 (A.getD i 0), .pointer (some ⟨w.heap.size, 0, none⟩), .pointer (some ⟨H, 0, none⟩)] w' fun e w'' => ∃ z, e = .returned (.agg #[.bool false, .int .i64 (rs.getD i st0).2.1, z]) ∧ Below w'.heap.size w' w'' ∧ OwI w'.heap.size w'' z (rs.getD i st0).2.2) := by
            intro i hi
            rw [HTA.out i hi]
            exact ⟨rfl, fun w' hb => HCl.out w' H s (i : Int) (A.getD i 0) a1 l k1 (below_on HBV.out (below_on b5.out hb)) (cell_later hb x0) (cell_later hb x1) (hHd5.later hb) (by omega) (by rw [HL.out] at hi; omega) (HA39.out i hi).1 (HA39.out i hi).2⟩
          have HSt := hide (stepsOfI (s + 1) q rs (HRA.out.later b5.out) (by rw [HL.out]; exact hA24) (RdI_nil (fun _ => True) V5 none 0) HNx.out HTL.out (by first | exact HT0.out | (rw [HL.out]; exact HT0.out)) (by rw [HL.out]; exact HT1.out) (by first | exact HT2.out | (rw [HL.out]; exact HT2.out)) HPut.out)
          have hHl5 : H < V5.heap.size := World.block_lt_of_cell? _ _ y2
          clear hHd5
          go_wp2_with fail
          refine HSt.out.mono ?_
          rintro e w6 ⟨z6, rfl, hb6, ho6⟩
          obtain ⟨a6, k6, hz6⟩ := ho6.shape
          rw [HTL.out, HL.out] at hz6
          subst hz6
          have hb56 := below_on b5.out hb6
          have v0 := cell_later hb56 HQ0.out
          have v1 := cell_later hb56 HQ1.out
          have f0 := ((bcell hb56).2 _ _ (by omega)).trans (HQf.out 0)
          have f1 := ((bcell hb56).2 _ _ (by omega)).trans (HQf.out 1)
          have hz56 := b5.out.size
          have HFin := hide (ret_steps (x := .int .i64 0) (below_on HBV.out hb56) (r := w.heap.size + 1) (by omega) (ho6.ow rfl (by rw [HTL.out, HL.out]; omega)) (fun b hb => ⟨by have := hb.1; omega, hb.2⟩))
          clear hb6 hb56 ho6 x0 x1 y2 n0 n1 n2
          go_wp2
          exact bodyPost_ret (v := .agg #[.int .i64 0, .slice a6 (l + 3) k6]) (by simp [results, Try.results11, go_sem, v0, v1]) rfl ⟨_, rfl, HFin.out.1, HFin.out.2⟩
        · clear c0 c1 c3
          obtain ⟨V5, hV5⟩ : ∃ V5, ((w4.setCell ⟨V.heap.size, 0, none⟩ (.int .i64 (s + 1))).setCell ⟨V.heap.size, 1, none⟩ (.int .i64 q)).setCell ⟨V.heap.size, 2, none⟩ (.slice none 0 0) = V5 := ⟨_, rfl⟩
          have m0 : V5.cell? ⟨V.heap.size, 0, none⟩ = some (.int .i64 (s + 1)) := by rw [← hV5]; simp [go_sem, n0]
          have m1 : V5.cell? ⟨V.heap.size, 1, none⟩ = some (.int .i64 q) := by rw [← hV5]; simp [go_sem, n1]
          have m2 : V5.cell? ⟨V.heap.size, 2, none⟩ = some (.slice none 0 0) := by rw [← hV5]; simp [go_sem, n2]
          have b5 : Hid (Below V.heap.size V V5) := by rw [← hV5]; exact ((HB4.out.setCell (p := ⟨V.heap.size, 0, none⟩) (Nat.le_refl _) _).setCell (p := ⟨V.heap.size, 1, none⟩) (Nat.le_refl _) _).setCell (p := ⟨V.heap.size, 2, none⟩) (Nat.le_refl _) _
          rw [hV5]
          clear n0 n1 n2 nf0 nf1 nf2
          have n0 := m0
          have n1 := m1
          have n2 := m2
          clear m0 m1 m2 hV5 HB4
          have x0 := cell_later b5.out HD0.out
          have x1 := cell_later b5.out HD1.out
          have y2 := cell_later b5.out h2
          have hHd5 := HHd.out.later b5.out
          have HPut : Hid (∀ i, i < A.length → (rs.getD i st0).1 = false ∧ ∀ w', Below V5.heap.size V5 w' → Calls Try.prog 41 #[.int .i64 (i : Int), .int .i64 (A.getD i 0), .pointer (some ⟨w.heap.size, 0, none⟩), .pointer (some ⟨H, 0, none⟩)] w' fun e w'' => ∃ z, e = .returned (.agg #[.bool false, .int .i64 (rs.getD i st0).2.1, z]) ∧ Below w'.heap.size w' w'' ∧ OwI w'.heap.size w'' z (rs.getD i st0).2.2) := by
            intro i hi
            rw [HTA.out i hi]
            exact ⟨rfl, fun w' hb => HCl.out w' H s (i : Int) (A.getD i 0) a1 l k1 (below_on HBV.out (below_on b5.out hb)) (cell_later hb x0) (cell_later hb x1) (hHd5.later hb) (by omega) (by rw [HL.out] at hi; omega) (HA39.out i hi).1 (HA39.out i hi).2⟩
          have HSt := hide (stepsOfI (s + 1) q rs (HRA.out.later b5.out) (by rw [HL.out]; exact hA24) (RdI_nil (fun _ => True) V5 none 0) HNx.out HTL.out (by first | exact HT0.out | (rw [HL.out]; exact HT0.out)) (by rw [HL.out]; exact HT1.out) (by first | exact HT2.out | (rw [HL.out]; exact HT2.out)) HPut.out)
          have hHl5 : H < V5.heap.size := World.block_lt_of_cell? _ _ y2
          clear hHd5
          go_wp2_with fail
          refine HSt.out.mono ?_
          rintro e w6 ⟨z6, rfl, hb6, ho6⟩
          obtain ⟨a6, k6, hz6⟩ := ho6.shape
          rw [HTL.out, HL.out] at hz6
          subst hz6
          have hb56 := below_on b5.out hb6
          have v0 := cell_later hb56 HQ0.out
          have v1 := cell_later hb56 HQ1.out
          have f0 := ((bcell hb56).2 _ _ (by omega)).trans (HQf.out 0)
          have f1 := ((bcell hb56).2 _ _ (by omega)).trans (HQf.out 1)
          have hz56 := b5.out.size
          have HFin := hide (ret_steps (x := .int .i64 0) (below_on HBV.out hb56) (r := w.heap.size + 1) (by omega) (ho6.ow rfl (by rw [HTL.out, HL.out]; omega)) (fun b hb => ⟨by have := hb.1; omega, hb.2⟩))
          clear hb6 hb56 ho6 x0 x1 y2 n0 n1 n2
          go_wp2
          exact bodyPost_ret (v := .agg #[.int .i64 0, .slice a6 (l + 3) k6]) (by simp [results, Try.results11, go_sem, v0, v1]) rfl ⟨_, rfl, HFin.out.1, HFin.out.2⟩
  · rw [if_neg h0, if_neg (fun h => h0 h.1)]
    rw [hn, hm] at HIn
    rw [hn, hm]
    clear hu hv hs hn hm HU HV
    generalize inF xss ps = z at HIn h0 ⊢
    go_enter Try.func11, Try.ntmps11
    go_wp2_with fail
    refine (HIn.out _ A0.out).mono ?_
    rintro e w1 ⟨z1, rfl, hb1, ho1⟩
    obtain ⟨a1, k1, rfl⟩ := ho1.shape
    have q0 : w1.cell? ⟨w.heap.size + 1, 0, none⟩ = some (.int .i64 0) := cell_later hb1 (by simp [go_sem])
    have q1 : w1.cell? ⟨w.heap.size + 1, 1, none⟩ = some (.slice none 0 0) := cell_later hb1 (by simp [go_sem])
    have f0 : w1.frozen? ⟨w.heap.size + 1, 0, none⟩ = false := ((bcell hb1).2 _ _ (by simp)).trans (by simp [go_sem])
    have f1 : w1.frozen? ⟨w.heap.size + 1, 1, none⟩ = false := ((bcell hb1).2 _ _ (by simp)).trans (by simp [go_sem])
    have hlt : w.heap.size + 1 < w1.heap.size := World.block_lt_of_cell? _ _ q0
    have HB := hide (below_on A0.out hb1)
    generalize (inA xss ps).length = l
    generalize inS xss ps = s
    generalize inT xss ps = t
    clear hb1 ho1
    go_wp2
    have BA := below_alloc ((w1.setCell ⟨w.heap.size + 1, 0, none⟩ (.int .i64 z)).setCell ⟨w.heap.size + 1, 1, none⟩ (.slice none 0 0)) (.cells #[.int .i64 z, .int .i64 s, .int .i64 t, .slice a1 l k1] 66)
    have m0 := cell_later BA (a := ⟨w.heap.size + 1, 0, none⟩) (v := .int .i64 z) (by simp [go_sem, q0])
    have m1 := cell_later BA (a := ⟨w.heap.size + 1, 1, none⟩) (v := .slice none 0 0) (by simp [go_sem, q1])
    exact bodyPost_ret (v := .agg #[.int .i64 z, .slice none 0 0]) (by simp [results, Try.results11, go_sem, m0, m1]) rfl ⟨_, rfl, ((HB.out.setCell (by simp) _).setCell (by simp) _).trans (BA.mono (by simp; omega)), OwT_nil _ _⟩


set_option maxHeartbeats 2000000 in
set_option maxRecDepth 4000 in
theorem specPlanInstall {S T : Nat → Prop} {w : World} {u v : Value} {xss : List (List Int)} {ps : List (Int × List Int)} (hu : RdII S w u xss) (hv : RdP T w v ps) (hs : Small xss ps) :
    Calls Try.prog 9 #[.agg #[u, v]] w (EndsT (pnF xss ps) (pnT xss ps) w) := by
  unfold EndsT pnF pnT
  obtain ⟨ao, c, rfl, _⟩ := hu.shape
  obtain ⟨ao', c', rfl, _⟩ := hv.shape
  have HIn := hide (fun (w' : World) (hb : Below w.heap.size w w') => specHeaderIn (hu.later hb) (hv.later hb) hs)
  have HU := hide hu
  have HV := hide hv
  have HS := hide hs
  obtain ⟨n, hn⟩ : ∃ n, xss.length = n := ⟨_, rfl⟩
  obtain ⟨m, hm⟩ : ∃ m, ps.length = m := ⟨_, rfl⟩
  have A0 := hide (below_on (below_alloc w (.cells #[.slice ao n c, .slice ao' m c'] 33)) (below_alloc _ (.cells #[.int .i64 0, .slice none 0 0] 29)))
  rw [hn] at HU
  rw [hm] at HV
  by_cases h0 : inF xss ps = 0
  · obtain ⟨_, h66, hhd⟩ := in_ok h0
    obtain ⟨⟨hs1, hs2, _, _⟩, hA24, _⟩ := headF_zero hhd
    rw [if_pos h0]
    rw [h0] at HIn
    have HLI := hide (fun (w' : World) (S3 : Nat → Prop) (bh : Nat) (y : Value) (hb : Below w.heap.size w w') (hd0 : w'.cell? ⟨w.heap.size, 0, none⟩ = some (.slice ao n c)) (hd1 : w'.cell? ⟨w.heap.size, 1, none⟩ = some (.slice ao' m c')) (hh : HdAt w' bh 1 (inS xss ps) (inT xss ps) y) (hA : RdI S3 w' y (inA xss ps)) (hlt : inS xss ps < 65000) => l3Install hd0 hd1 (HU.out.later hb) (HV.out.later hb) HS.out h66 hh hA hhd hlt)
    have HTL := hide (insTs_len xss ps (inS xss ps) (inT xss ps) (inA xss ps))
    generalize insTs xss ps (inS xss ps) (inT xss ps) (inA xss ps) = ts at HTL HLI ⊢
    have h00 : inF xss ps = 0 := h0
    generalize inS xss ps = s at HIn HLI hs1 hs2 ⊢
    generalize inT xss ps = t at HIn HLI
    generalize inA xss ps = A at HIn HTL HLI hA24 ⊢
    obtain ⟨l, hl⟩ : ∃ l, A.length = l := ⟨_, rfl⟩
    have HL := hide hl
    rw [hl] at hA24 HTL HLI
    rw [hn, hm] at HIn
    rw [hn, hm, hl]
    have H00 := hide h00
    obtain ⟨cc, hcc⟩ : ∃ cc : Int, (if s = 65000 then (10 : Int) else 0) = cc := ⟨_, rfl⟩
    obtain ⟨rs, hrs⟩ : ∃ rs : List St, (if inF xss ps = 0 ∧ s ≠ 65000 ∧ l ≠ 0 then ts else []) = rs := ⟨_, rfl⟩
    rw [hcc, hrs]
    have HCC := hide hcc
    have HRS := hide hrs
    clear hu hv hs hn hm h0 h00 h66 hhd hl hcc hrs
    go_enter Try.func9, Try.ntmps9
    go_wp2_with fail
    refine (HIn.out _ A0.out).mono ?_
    rintro e w1 ⟨z1, rfl, hb1, ho1⟩
    obtain ⟨a1, k1, hz1'⟩ := ho1.shape
    rw [HL.out] at hz1'
    subst hz1'
    have bR := below_alloc w1 (.cells #[.int .i64 0, .int .i64 s, .int .i64 t, .slice a1 l k1] 66)
    have b1' := below_on hb1 bR
    have HW : Hid (Below w.heap.size w (w1.alloc (.cells #[.int .i64 0, .int .i64 s, .int .i64 t, .slice a1 l k1] 66)) ∧ Var2 (w1.alloc (.cells #[.int .i64 0, .int .i64 s, .int .i64 t, .slice a1 l k1] 66)) w.heap.size (.slice ao n c) (.slice ao' m c') ∧ Var2 (w1.alloc (.cells #[.int .i64 0, .int .i64 s, .int .i64 t, .slice a1 l k1] 66)) (w.heap.size + 1) (.int .i64 0) (.slice none 0 0) ∧ (∀ o, (w1.alloc (.cells #[.int .i64 0, .int .i64 s, .int .i64 t, .slice a1 l k1] 66)).frozen? ⟨w.heap.size + 1, o, none⟩ = false) ∧ HdAt (w1.alloc (.cells #[.int .i64 0, .int .i64 s, .int .i64 t, .slice a1 l k1] 66)) w1.heap.size 1 s t (.slice a1 l k1) ∧ RdI (fun _ => True) (w1.alloc (.cells #[.int .i64 0, .int .i64 s, .int .i64 t, .slice a1 l k1] 66)) (.slice a1 l k1) A) :=
      ⟨below_on A0.out b1', ⟨cell_later b1' (by simp [go_sem]), cell_later b1' (by simp [go_sem])⟩, ⟨cell_later b1' (by simp [go_sem]), cell_later b1' (by simp [go_sem])⟩, fun o => ((bcell b1').2 _ _ (by simp)).trans (by simp [go_sem]), ⟨by simp [go_sem], by simp [go_sem], by simp [go_sem]⟩, (ho1.rd.later bR).narrow (fun _ _ _ => trivial)⟩
    have hsz : w.heap.size + 1 < w1.heap.size := by have := hb1.size; simp at this; omega
    clear hb1 ho1 bR b1' HIn A0
    go_upto_region 4 with fail
    refine forget (fun wx => Below w.heap.size w wx ∧ Var2 wx w.heap.size (.slice ao n c) (.slice ao' m c') ∧ Var2 wx (w.heap.size + 1) (.int .i64 0) (.slice none 0 0) ∧ (∀ o, wx.frozen? ⟨w.heap.size + 1, o, none⟩ = false) ∧ HdAt wx w1.heap.size 1 s t (.slice a1 l k1) ∧ RdI (fun _ => True) wx (.slice a1 l k1) A) HW.out ?_
    obtain ⟨H, hH⟩ : ∃ H, w1.heap.size = H := ⟨_, rfl⟩
    rw [hH] at hsz ⊢
    clear HW hH
    rintro V ⟨hbV, ⟨d0, d1⟩, ⟨q0, q1⟩, qf, hHd, hRA⟩
    have HBV := hide hbV
    have HD0 := hide d0
    have HD1 := hide d1
    have HHd := hide hHd
    have HRA := hide hRA
    have h0 := hHd.seq
    have h2 := hHd.addrs
    have hHl : H < V.heap.size := World.block_lt_of_cell? _ _ h0
    have f0 := qf 0
    have f1 := qf 1
    have HQf := hide qf
    clear hbV hHd hRA d0 d1 qf
    by_cases h65 : s = 65000
    · have e1 : cc = 10 := by rw [← HCC.out, if_pos h65]
      have e2 : rs = [] := by rw [← HRS.out, if_neg (fun h => h.2.1 h65)]
      subst e1 e2 h65
      go_wp2
      exact bodyPost_ret (v := .agg #[.int .i64 10, .slice none 0 0]) (by simp [results, Try.results9, go_sem, q0, q1]) rfl ⟨_, rfl, (HBV.out.setCell (by simp) _).setCell (by simp) _, OwT_nil _ _⟩
    · have e1 : cc = 0 := by rw [← HCC.out, if_neg h65]
      have h65' : ¬ 65000 ≤ s := by omega
      subst e1
      by_cases hl0 : l = 0
      · have e2 : rs = [] := by rw [← HRS.out, if_neg (fun h => h.2.2 hl0)]
        subst e2 hl0
        go_wp2
        exact bodyPost_ret (v := .agg #[.int .i64 0, .slice none 0 0]) (by simp [results, Try.results9, go_sem, q0, q1]) rfl ⟨_, rfl, (HBV.out.setCell (by simp) _).setCell (by simp) _, OwT_nil _ _⟩
      · have e2 : rs = ts := by rw [← HRS.out, if_pos ⟨H00.out, h65, hl0⟩]
        subst e2
        have hl0' : ¬ (l : Int) = 0 := by omega
        have HSt := hide (HLI.out V _ H _ HBV.out HD0.out HD1.out HHd.out HRA.out (by omega))
        go_wp2_with fail
        refine HSt.out.mono ?_
        rintro e w6 ⟨z6, rfl, hb6, ho6⟩
        obtain ⟨a6, k6, rfl⟩ := ho6.shape
        have v0 := cell_later hb6 q0
        have v1 := cell_later hb6 q1
        have g0 := ((bcell hb6).2 _ _ (by omega)).trans f0
        have g1 := ((bcell hb6).2 _ _ (by omega)).trans f1
        have HFin := hide (ret_steps (x := .int .i64 0) (below_on HBV.out hb6) (r := w.heap.size + 1) (by omega) (ho6.ow HTL.out (by omega)) (fun b hb => ⟨by have := hb.1; omega, hb.2⟩))
        clear hb6 ho6 q0 q1 f0 f1 h0 h2
        go_wp2
        exact bodyPost_ret (v := .agg #[.int .i64 0, .slice a6 (l + 3) k6]) (by simp [results, Try.results9, go_sem, v0, v1]) rfl ⟨_, rfl, HFin.out.1, HFin.out.2⟩
  · rw [if_neg h0, if_neg (fun h => h0 h.1)]
    rw [hn, hm] at HIn
    rw [hn, hm]
    clear hu hv hs hn hm HU HV
    generalize inF xss ps = z at HIn h0 ⊢
    go_enter Try.func9, Try.ntmps9
    go_wp2_with fail
    refine (HIn.out _ A0.out).mono ?_
    rintro e w1 ⟨z1, rfl, hb1, ho1⟩
    obtain ⟨a1, k1, rfl⟩ := ho1.shape
    have q0 : w1.cell? ⟨w.heap.size + 1, 0, none⟩ = some (.int .i64 0) := cell_later hb1 (by simp [go_sem])
    have q1 : w1.cell? ⟨w.heap.size + 1, 1, none⟩ = some (.slice none 0 0) := cell_later hb1 (by simp [go_sem])
    have f0 : w1.frozen? ⟨w.heap.size + 1, 0, none⟩ = false := ((bcell hb1).2 _ _ (by simp)).trans (by simp [go_sem])
    have f1 : w1.frozen? ⟨w.heap.size + 1, 1, none⟩ = false := ((bcell hb1).2 _ _ (by simp)).trans (by simp [go_sem])
    have hlt : w.heap.size + 1 < w1.heap.size := World.block_lt_of_cell? _ _ q0
    have HB := hide (below_on A0.out hb1)
    generalize (inA xss ps).length = l
    generalize inS xss ps = s
    generalize inT xss ps = t
    clear hb1 ho1
    go_wp2
    have BA := below_alloc ((w1.setCell ⟨w.heap.size + 1, 0, none⟩ (.int .i64 z)).setCell ⟨w.heap.size + 1, 1, none⟩ (.slice none 0 0)) (.cells #[.int .i64 z, .int .i64 s, .int .i64 t, .slice a1 l k1] 66)
    have m0 := cell_later BA (a := ⟨w.heap.size + 1, 0, none⟩) (v := .int .i64 z) (by simp [go_sem, q0])
    have m1 := cell_later BA (a := ⟨w.heap.size + 1, 1, none⟩) (v := .slice none 0 0) (by simp [go_sem, q1])
    exact bodyPost_ret (v := .agg #[.int .i64 z, .slice none 0 0]) (by simp [results, Try.results9, go_sem, m0, m1]) rfl ⟨_, rfl, ((HB.out.setCell (by simp) _).setCell (by simp) _).trans (BA.mono (by simp; omega)), OwT_nil _ _⟩

theorem totS_most {ts : List St} {B : Nat} (h : ∀ i, i < ts.length → (ts.getD i st0).2.2.length ≤ B) : ∀ i, i ≤ ts.length → totS ts i ≤ i * (B + 2) := by
  intro i
  induction i with
  | zero => intro _; rw [totS_zero]; omega
  | succ i ih =>
    intro hi
    rw [totS_succ ts i (by omega), Nat.succ_mul]
    have := ih (by omega)
    have := h i (by omega)
    omega
theorem pn_bound {xss : List (List Int)} {ps : List (Int × List Int)} (hs : Small xss ps) : totS (pnT xss ps) (pnT xss ps).length ≤ 1073741824 := by
  unfold pnT
  split
  · rename_i h
    obtain ⟨_, h66, hhd⟩ := in_ok h.1
    obtain ⟨_, hA24, _⟩ := headF_zero hhd
    have hl := insTs_len xss ps (inS xss ps) (inT xss ps) (inA xss ps)
    have := totS_most (ts := insTs xss ps (inS xss ps) (inT xss ps) (inA xss ps)) (B := 1048576) (fun i hi => by
      rw [hl] at hi
      by_cases h1 : i < (inA xss ps).length
      · rw [insTs_at _ _ _ _ _ _ h1]; exact slotW_len hs h66 _ _
      · have : i = (inA xss ps).length ∨ i = (inA xss ps).length + 1 ∨ i = (inA xss ps).length + 2 := by omega
        rcases this with rfl | rfl | rfl
        · rw [insTs_0]; simp
        · rw [insTs_1, packL_len (by simp)]; omega
        · rw [insTs_2]; simp) _ (Nat.le_refl _)
    rw [hl] at this ⊢
    have h2 : ((inA xss ps).length + 3) * (1048576 + 2) ≤ 27 * (1048576 + 2) := Nat.mul_le_mul_right _ (by omega)
    omega
  · simp [totS]
end Go.Proofs.Ytdjdfkhgkadhgaa
/- Chapter 3, the program's side: the steps of an append: 'stepsOf' over puts, walked. -/
namespace Go.Proofs.Ytdjdfkhgkadhgaa
open Go.RowKit

set_option maxHeartbeats 4000000 in
set_option maxRecDepth 4000 in
/-- 'stepsOf' over puts, by what its function value answers. -/
theorem stepsOfP {S S2 : Nat → Prop} {w : World} {D H : Nat} {y y2 : Value} {qs : List (Int × List Int)} {xs : List Int} (s t : Int) (ts : List St) (hA : RdP S w y qs) (hl24 : qs.length ≤ 24) (hy2 : RdI S2 w y2 xs) (hhd : headF s t xs = 0) (hts : ts.length = qs.length + 3)
    (e0 : ts.getD qs.length st0 = (true, 0, [])) (e1 : ts.getD (qs.length + 1) st0 = (false, s % 2, packL s t xs)) (e2 : ts.getD (qs.length + 2) st0 = (true, 0, []))
    (hput : ∀ i, i < qs.length → (ts.getD i st0).1 = false ∧ ∀ w' yv, Below w.heap.size w w' → RdI S w' yv (qs.getD i (0, [])).2 → Calls Try.prog 64 #[.int .i64 (i : Int), .agg #[.int .i64 (qs.getD i (0, [])).1, yv], .pointer (some ⟨D, 0, none⟩), .pointer (some ⟨H, 0, none⟩)] w' fun e w'' => ∃ z, e = .returned (.agg #[.bool false, .int .i64 (ts.getD i st0).2.1, z]) ∧ Below w'.heap.size w' w'' ∧ OwI w'.heap.size w'' z (ts.getD i st0).2.2) :
    Calls Try.prog 66 #[y, .func (.func 64) #[] #[.pointer (some ⟨D, 0, none⟩), .pointer (some ⟨H, 0, none⟩)], .agg #[.int .i64 s, .int .i64 t, y2]] w fun e w' => ∃ z, e = .returned z ∧ Below w.heap.size w w' ∧ BuiltT (w.heap.size ≤ ·) w' z ts.length ts := by
  obtain ⟨i0, hi, hz0, hz1, hz2⟩ := info_parts Try.infoStep
  obtain ⟨ay, cy, rfl, _⟩ := hA.shape
  obtain ⟨a2, c2, rfl⟩ := hy2.shape
  have hs1 := (headF_zero hhd).1
  have HPk := hide (fun (w' : World) (hb : Below w.heap.size w w') => implPackHeader s t (hy2.later hb))
  rw [hhd, if_pos rfl] at HPk
  have HPl := hide (fun (w' : World) => headerPlace s (by omega) w')
  have HPut := hide hput
  have HR := hide hA
  have E0 := hide e0
  have E1 := hide e1
  have E2 := hide e2
  have HTs := hide hts
  have hfld := field_words
  obtain ⟨l2, hl2⟩ : ∃ l2, xs.length = l2 := ⟨_, rfl⟩
  rw [hl2] at HPk ⊢
  obtain ⟨l, hl⟩ : ∃ l, qs.length = l := ⟨_, rfl⟩
  have HL := hide hl
  rw [hl] at hl24 HPut HR E0 E1 E2 HTs ⊢
  obtain ⟨p, hp⟩ : ∃ p, s % 2 = p := ⟨_, rfl⟩
  rw [hp] at HPl E1
  have HWl := hide (packL_len (s := s) (t := t) (xs := xs) (by have := (headF_zero hhd).2.1; omega))
  obtain ⟨ws, hws⟩ : ∃ ws, packL s t xs = ws := ⟨_, rfl⟩
  rw [hws] at HPk E1 HWl
  clear hA hy2 hhd hts e0 e1 e2 hput hl hl2 hp hws
  go_enter Try.func66, Try.ntmps66
  go_wp2
  go_loopw [7, 12] (fun v i wr => ∃ k : Nat, k ≤ l ∧ i = .int .i64 k ∧ Hid (BuiltT (w.heap.size + 1 ≤ ·) wr v k ts) ∧ Hid (Below w.heap.size w wr) ∧ Hid (w.heap.size < wr.heap.size) ∧ Hid (HdAt wr w.heap.size 0 s t (.slice a2 l2 c2))) (fun _ i _ => l - (intOf i).toNat)
  case atStart => exact ⟨0, Nat.zero_le _, rfl, BuiltT.nil _ _ _, below_alloc _ _, (by simp : w.heap.size < (w.alloc _).heap.size), HdAt_new _ _ _ _ _⟩
  case round =>
    obtain ⟨k, hk, rfl, HBu, HB, HSz, HHd⟩ := hrel
    have hsz := HSz.out
    by_cases hlt : k < l
    · obtain ⟨b, off, Vp, rfl, hx, hy, hyr⟩ := (HR.out).at (k := k) (by rw [HL.out]; exact hlt)
      have hx' := cell_later HB.out hx
      have hy' := cell_later HB.out hy
      obtain ⟨av, cv, rfl⟩ := hyr.shape
      obtain ⟨hfl, hC⟩ := HPut.out k hlt
      have HC := hide (hC wr _ HB.out (hyr.later HB.out))
      obtain ⟨x, hxe⟩ : ∃ x, (qs.getD k (0, [])).1 = x := ⟨_, rfl⟩
      obtain ⟨lv, hlv⟩ : ∃ lv, (qs.getD k (0, [])).2.length = lv := ⟨_, rfl⟩
      rw [hxe] at hx' HC
      rw [hlv] at hy' HC
      clear hx hy hyr hxe hlv hC
      have HFl := hide hfl
      obtain ⟨ak, hak⟩ : ∃ ak, (ts.getD k st0).2.1 = ak := ⟨_, rfl⟩
      obtain ⟨wk, hwk⟩ : ∃ wk, (ts.getD k st0).2.2 = wk := ⟨_, rfl⟩
      have HAk := hide hak
      have HWk := hide hwk
      rw [hak, hwk] at HC
      have hk0 : (0 : Int) ≤ (k : Int) := Int.natCast_nonneg _
      have hk1 : (k : Int) < (l : Int) := by omega
      clear hfl hak hwk
      go_wp2_with fail
      refine HC.out.mono ?_
      rintro e w1 ⟨z, rfl, hb1, ho1⟩
      obtain ⟨ao4, c4, rfl⟩ := ho1.shape
      obtain ⟨V2, Bk2, hown, hpr, hin⟩ := HBu.out
      have HOw := hide (ownsRow_later (ownsRow_later hown hb1) (below_alloc w1 (.cells #[.bool false, .int .i64 ak, .slice ao4 wk.length c4] 73)))
      have HB1 := hide hb1
      have HO1 := hide ho1
      have HIn := hide hin
      have HPr := hide hpr
      have HOw0 := hide hown
      have hz1' := hb1.size
      clear hb1 ho1 hin hown hpr
      go_wp2_with (at_builtin; refine wpList_append_lies _ rfl _ _ _ rfl 0 73 i0 (.agg #[.bool false, .int .i64 0, .slice none 0 0]) 3 40 Try.underlying27 hi hz0 hz1 hz2 rfl (by omega) _ k _ (by rfl) HOw.out ⟨w1.heap.size, 0, none⟩ 1 1 [.bool false, .int .i64 ak, .slice ao4 wk.length c4] (by rfl) (by rfl) (World.news_of_block (cs := #[.bool false, .int .i64 ak, .slice ao4 wk.length c4]) (t := 73) (fr := (0, 0)) (heap_alloc_new w1 _)) cells3_one (by omega) (by unfold maxLen; omega) (by omega) (Nat.zero_le _) (w1.heap.size + 1) (by simp) ?_)
      intro g cap w3 hown3 hgrow hat hlt3
      have HS := hide (BuiltT.step (P' := (w.heap.size + 1 ≤ ·)) HIn.out HOw0.out HPr.out (fun _ h => h) (fun b hb => by omega) HB1.out (by rw [HWk.out]; exact HO1.out) (below_alloc w1 (.cells #[.bool false, .int .i64 ak, .slice ao4 wk.length c4] 73)) (by rw [HFl.out, HAk.out]; exact hown3) hgrow (by simpa using hat))
      have HB3 := hide ((below_on (below_on HB.out HB1.out) (below_alloc w1 (.cells #[.bool false, .int .i64 ak, .slice ao4 wk.length c4] 73))).grown hgrow (by simp; omega) (fun r hr => by have := HPr.out r hr; omega))
      have far : ∀ o, w3.cell? ⟨w.heap.size, o, none⟩ = wr.cell? ⟨w.heap.size, o, none⟩ := fun o => (hgrow.cell_far ⟨w.heap.size, o, none⟩ (by simp; omega) (fun e => by have := HPr.out _ e.symm; dsimp only at this; omega)).trans (((bcell (below_alloc w1 _)).1 _ _ (by omega)).trans ((bcell HB1.out).1 _ _ hsz))
      have HH3 : Hid (HdAt w3 w.heap.size 0 s t (.slice a2 l2 c2)) := ⟨(far _).trans HHd.out.seq, (far _).trans HHd.out.start, (far _).trans HHd.out.addrs⟩
      have hsz3 := hgrow.size
      simp only [World.size_alloc] at hsz3
      have HS3 : Hid (w.heap.size < w3.heap.size) := (by omega : w.heap.size < w3.heap.size)
      clear hown3 hgrow hat far
      go_wp2
      go_roundw
      case rel => exact ⟨k + 1, hlt, by go_num, HS.out, HB3.out, HS3.out, HH3.out⟩
      case measure => simp [intOf]; omega
    · have hkl : k = l := by omega
      subst hkl
      have h0 := HHd.out.seq
      have h1 := HHd.out.start
      have h2 := HHd.out.addrs
      simp only [Nat.zero_add] at h0 h1 h2
      obtain ⟨V2, Bk2, hown, hpr, hin⟩ := HBu.out
      obtain ⟨av, cv, rfl⟩ := HBu.out.shape
      have HIn := hide hin
      have HPr := hide hpr
      have HOw0 := hide hown
      clear hin hown hpr
      obtain ⟨W1, hW1⟩ : ∃ W1, wr.drew = W1 := ⟨_, rfl⟩
      obtain ⟨W2, hW2⟩ : ∃ W2, (wr.alloc (.cells #[.bool false, .int .i64 0, .slice none 0 0] 73)).drew = W2 := ⟨_, rfl⟩
      have b1 : Below wr.heap.size wr W1 := by rw [← hW1]; exact below_drewN wr 1
      have b2 : Below wr.heap.size wr W2 := by rw [← hW2]; exact below_on (below_alloc wr _) (below_drewN _ 1)
      have z1 : W1.heap.size = wr.heap.size := by rw [← hW1]; rfl
      have z2 : W2.heap.size = wr.heap.size + 1 := by rw [← hW2]; show (wr.alloc _).heap.size = _; simp
      have m0 : W2.cell? ⟨wr.heap.size, 0, none⟩ = some (.bool false) := by rw [← hW2]; show (wr.alloc _).cell? _ = _; simp [go_sem]
      have m1 : W2.cell? ⟨wr.heap.size, 1, none⟩ = some (.int .i64 0) := by rw [← hW2]; show (wr.alloc _).cell? _ = _; simp [go_sem]
      have m2 : W2.cell? ⟨wr.heap.size, 2, none⟩ = some (.slice none 0 0) := by rw [← hW2]; show (wr.alloc _).cell? _ = _; simp [go_sem]
      have mf : ∀ o, W2.frozen? ⟨wr.heap.size, o, none⟩ = false := by rw [← hW2]; intro o; show (wr.alloc _).frozen? _ = _; simp [go_sem]
      have Q1 := hide (And.intro b1 z1)
      have Q2 := hide (And.intro (And.intro b2 z2) (And.intro m0 (And.intro m1 (And.intro m2 mf))))
      have HW1 := hide hW1
      have HW2 := hide hW2
      have hr0 : ¬ w.heap.size = wr.heap.size := by omega
      clear hW1 hW2 b1 b2 z1 z2 m0 m1 m2 mf
      go_wp2_with fail
      go_region_held3 (fun w' => w'.cell? ⟨w.heap.size, 0, none⟩ = some (.int .i64 s) ∧ w'.cell? ⟨w.heap.size, 1, none⟩ = some (.int .i64 t) ∧ w'.cell? ⟨w.heap.size, 2, none⟩ = some (.slice a2 l2 c2)) (simp [go_sem, *])
        (first
          | (go_at_call 78; refine (HPl.out _).mono ?_; rintro e wq ⟨rfl, rfl⟩)
          | (go_at_call 79; rw [HW1.out]; refine (HPk.out W1 (below_on HB.out Q1.out.1)).mono ?_; rintro e w4 ⟨z4, rfl, hb4, ho4⟩; obtain ⟨a4, k4, hz4⟩ := ho4.shape; rw [HWl.out] at hz4; subst hz4; have c0 := cell_later hb4 (cell_later Q1.out.1 h0); have c1 := cell_later hb4 (cell_later Q1.out.1 h1); have c3 := cell_later hb4 (cell_later Q1.out.1 h2); have HB4 := hide (below_on Q1.out.1 hb4); have HO4 := hide (ho4.mono (B' := wr.heap.size) (by rw [Q1.out.2]; exact Nat.le_refl _)); have hz4' : wr.heap.size ≤ w4.heap.size := HB4.out.size; have hw4 : w.heap.size < w4.heap.size := Nat.lt_of_lt_of_le hsz hz4'; have hr4 : ¬ w.heap.size = w4.heap.size := (by omega); clear hb4 ho4)
          | (go_at_call 79; rw [HW2.out]; refine (HPk.out W2 (below_on HB.out Q2.out.1.1)).mono ?_; rintro e w4 ⟨z4, rfl, hb4, ho4⟩; obtain ⟨a4, k4, hz4⟩ := ho4.shape; rw [HWl.out] at hz4; subst hz4; have c0 := cell_later hb4 (cell_later Q2.out.1.1 h0); have c1 := cell_later hb4 (cell_later Q2.out.1.1 h1); have c3 := cell_later hb4 (cell_later Q2.out.1.1 h2); have n0 := cell_later hb4 Q2.out.2.1; have n1 := cell_later hb4 Q2.out.2.2.1; have n2 := cell_later hb4 Q2.out.2.2.2.1; have nf0 := ((bcell hb4).2 _ 0 (by rw [Q2.out.1.2]; exact Nat.lt_succ_self _)).trans (Q2.out.2.2.2.2 0); have nf1 := ((bcell hb4).2 _ 1 (by rw [Q2.out.1.2]; exact Nat.lt_succ_self _)).trans (Q2.out.2.2.2.2 1); have nf2 := ((bcell hb4).2 _ 2 (by rw [Q2.out.1.2]; exact Nat.lt_succ_self _)).trans (Q2.out.2.2.2.2 2); have HB4 := hide (below_on Q2.out.1.1 hb4); have HO4 := hide (ho4.mono (B' := wr.heap.size + 1) (by rw [Q2.out.1.2]; exact Nat.le_refl _)); have hw4 : wr.heap.size < w4.heap.size := World.block_lt_of_cell? _ _ n0; clear hb4 ho4))
      · clear h0 h1 h2 c0 c1 c3
        obtain ⟨V5, hV5⟩ : ∃ V5, w4.alloc (.cells #[.bool false, .int .i64 p, .slice a4 64 k4] 73) = V5 := ⟨_, rfl⟩
        have n0 : V5.cell? ⟨w4.heap.size, 0, none⟩ = some (.bool false) := by rw [← hV5]; simp [go_sem]
        have n1 : V5.cell? ⟨w4.heap.size, 1, none⟩ = some (.int .i64 p) := by rw [← hV5]; simp [go_sem]
        have n2 : V5.cell? ⟨w4.heap.size, 2, none⟩ = some (.slice a4 64 k4) := by rw [← hV5]; simp [go_sem]
        have b5 : Hid (Below wr.heap.size wr V5) := by rw [← hV5]; exact below_on HB4.out (below_alloc _ _)
        have o5 : Hid (OwI wr.heap.size V5 (.slice a4 64 k4) ws) := by rw [← hV5]; exact HO4.out.later (below_alloc _ _)
        rw [hV5]
        obtain ⟨N, hN⟩ : ∃ N, w4.heap.size = N := ⟨_, rfl⟩
        rw [hN] at n0 n1 n2 ⊢
        clear hV5 hN HB4 HO4
        have hz5 := b5.out.size
        have HOwF := hide (ownsRow_later (ownsRow_later HOw0.out b5.out) (below_alloc V5 (.cells #[.bool true, .int .i64 0, .slice none 0 0, .bool false, .int .i64 p, .slice a4 64 k4, .bool true, .int .i64 0, .slice none 0 0] 73)))
        go_wp2_with (at_builtin; refine wpList_append_lies _ rfl _ _ _ rfl 0 73 i0 (.agg #[.bool false, .int .i64 0, .slice none 0 0]) 3 40 Try.underlying27 hi hz0 hz1 hz2 rfl (by omega) _ k _ (by rfl) HOwF.out ⟨V5.heap.size, 0, none⟩ 3 3 [.bool true, .int .i64 0, .slice none 0 0, .bool false, .int .i64 p, .slice a4 64 k4, .bool true, .int .i64 0, .slice none 0 0] (by rfl) (by rfl) (World.news_of_block (cs := #[.bool true, .int .i64 0, .slice none 0 0, .bool false, .int .i64 p, .slice a4 64 k4, .bool true, .int .i64 0, .slice none 0 0]) (t := 73) (fr := (0, 0)) (heap_alloc_new V5 _)) cells9_one (by omega) (by unfold maxLen; omega) (by omega) (Nat.zero_le _) (V5.heap.size + 1) (by simp) ?_)
        intro g cap w6 hown6 hgrow hat hlt6
        have HS := hide (BuiltT.three (P' := (w.heap.size ≤ ·)) HIn.out HOw0.out HPr.out E0.out E1.out E2.out (fun b hb => by omega) (fun b hb => by omega) b5.out o5.out (below_alloc V5 (.cells #[.bool true, .int .i64 0, .slice none 0 0, .bool false, .int .i64 p, .slice a4 64 k4, .bool true, .int .i64 0, .slice none 0 0] 73)) hown6 hgrow (by simpa using hat))
        have HB6 := hide ((below_on (below_on HB.out b5.out) (below_alloc V5 (.cells #[.bool true, .int .i64 0, .slice none 0 0, .bool false, .int .i64 p, .slice a4 64 k4, .bool true, .int .i64 0, .slice none 0 0] 73))).grown hgrow (by simp; omega) (fun r hr => by have := HPr.out r hr; omega))
        clear hown6 hgrow hat hlt6 n0 n1 n2
        go_wp2
        go_ret
        exact ⟨_, rfl, HB6.out, by rw [HTs.out]; exact HS.out⟩
      · clear h0 h1 h2 c0 c1 c3
        obtain ⟨V5, hV5⟩ : ∃ V5, ((w4.setCell ⟨wr.heap.size, 0, none⟩ (.bool false)).setCell ⟨wr.heap.size, 1, none⟩ (.int .i64 p)).setCell ⟨wr.heap.size, 2, none⟩ (.slice a4 64 k4) = V5 := ⟨_, rfl⟩
        have m0 : V5.cell? ⟨wr.heap.size, 0, none⟩ = some (.bool false) := by rw [← hV5]; simp [go_sem, n0]
        have m1 : V5.cell? ⟨wr.heap.size, 1, none⟩ = some (.int .i64 p) := by rw [← hV5]; simp [go_sem, n1]
        have m2 : V5.cell? ⟨wr.heap.size, 2, none⟩ = some (.slice a4 64 k4) := by rw [← hV5]; simp [go_sem, n2]
        have b5 : Hid (Below wr.heap.size wr V5) := by rw [← hV5]; exact ((HB4.out.setCell (p := ⟨wr.heap.size, 0, none⟩) (Nat.le_refl _) _).setCell (p := ⟨wr.heap.size, 1, none⟩) (Nat.le_refl _) _).setCell (p := ⟨wr.heap.size, 2, none⟩) (Nat.le_refl _) _
        have o5 : Hid (OwI wr.heap.size V5 (.slice a4 64 k4) ws) := by
          rw [← hV5]
          exact (HO4.out.wr (((((Wr.refl (fun y => y = wr.heap.size) w4).setCell (p := ⟨wr.heap.size, 0, none⟩) rfl _).setCell (p := ⟨wr.heap.size, 1, none⟩) rfl _).setCell (p := ⟨wr.heap.size, 2, none⟩) rfl _)) (fun b hb _ e => by omega)).mono (by omega)
        rw [hV5]
        clear n0 n1 n2 nf0 nf1 nf2
        have n0 := m0
        have n1 := m1
        have n2 := m2
        clear m0 m1 m2
        clear hV5 HB4 HO4
        have hz5 := b5.out.size
        have HOwF := hide (ownsRow_later (ownsRow_later HOw0.out b5.out) (below_alloc V5 (.cells #[.bool true, .int .i64 0, .slice none 0 0, .bool false, .int .i64 p, .slice a4 64 k4, .bool true, .int .i64 0, .slice none 0 0] 73)))
        go_wp2_with (at_builtin; refine wpList_append_lies _ rfl _ _ _ rfl 0 73 i0 (.agg #[.bool false, .int .i64 0, .slice none 0 0]) 3 40 Try.underlying27 hi hz0 hz1 hz2 rfl (by omega) _ k _ (by rfl) HOwF.out ⟨V5.heap.size, 0, none⟩ 3 3 [.bool true, .int .i64 0, .slice none 0 0, .bool false, .int .i64 p, .slice a4 64 k4, .bool true, .int .i64 0, .slice none 0 0] (by rfl) (by rfl) (World.news_of_block (cs := #[.bool true, .int .i64 0, .slice none 0 0, .bool false, .int .i64 p, .slice a4 64 k4, .bool true, .int .i64 0, .slice none 0 0]) (t := 73) (fr := (0, 0)) (heap_alloc_new V5 _)) cells9_one (by omega) (by unfold maxLen; omega) (by omega) (Nat.zero_le _) (V5.heap.size + 1) (by simp) ?_)
        intro g cap w6 hown6 hgrow hat hlt6
        have HS := hide (BuiltT.three (P' := (w.heap.size ≤ ·)) HIn.out HOw0.out HPr.out E0.out E1.out E2.out (fun b hb => by omega) (fun b hb => by omega) b5.out o5.out (below_alloc V5 (.cells #[.bool true, .int .i64 0, .slice none 0 0, .bool false, .int .i64 p, .slice a4 64 k4, .bool true, .int .i64 0, .slice none 0 0] 73)) hown6 hgrow (by simpa using hat))
        have HB6 := hide ((below_on (below_on HB.out b5.out) (below_alloc V5 (.cells #[.bool true, .int .i64 0, .slice none 0 0, .bool false, .int .i64 p, .slice a4 64 k4, .bool true, .int .i64 0, .slice none 0 0] 73))).grown hgrow (by simp; omega) (fun r hr => by have := HPr.out r hr; omega))
        clear hown6 hgrow hat hlt6 n0 n1 n2
        go_wp2
        go_ret
        exact ⟨_, rfl, HB6.out, by rw [HTs.out]; exact HS.out⟩
      · clear h0 h1 h2 c0 c1 c3
        obtain ⟨V5, hV5⟩ : ∃ V5, ((w4.setCell ⟨wr.heap.size, 0, none⟩ (.bool false)).setCell ⟨wr.heap.size, 1, none⟩ (.int .i64 p)).setCell ⟨wr.heap.size, 2, none⟩ (.slice a4 64 k4) = V5 := ⟨_, rfl⟩
        have m0 : V5.cell? ⟨wr.heap.size, 0, none⟩ = some (.bool false) := by rw [← hV5]; simp [go_sem, n0]
        have m1 : V5.cell? ⟨wr.heap.size, 1, none⟩ = some (.int .i64 p) := by rw [← hV5]; simp [go_sem, n1]
        have m2 : V5.cell? ⟨wr.heap.size, 2, none⟩ = some (.slice a4 64 k4) := by rw [← hV5]; simp [go_sem, n2]
        have b5 : Hid (Below wr.heap.size wr V5) := by rw [← hV5]; exact ((HB4.out.setCell (p := ⟨wr.heap.size, 0, none⟩) (Nat.le_refl _) _).setCell (p := ⟨wr.heap.size, 1, none⟩) (Nat.le_refl _) _).setCell (p := ⟨wr.heap.size, 2, none⟩) (Nat.le_refl _) _
        have o5 : Hid (OwI wr.heap.size V5 (.slice a4 64 k4) ws) := by
          rw [← hV5]
          exact (HO4.out.wr (((((Wr.refl (fun y => y = wr.heap.size) w4).setCell (p := ⟨wr.heap.size, 0, none⟩) rfl _).setCell (p := ⟨wr.heap.size, 1, none⟩) rfl _).setCell (p := ⟨wr.heap.size, 2, none⟩) rfl _)) (fun b hb _ e => by omega)).mono (by omega)
        rw [hV5]
        clear n0 n1 n2 nf0 nf1 nf2
        have n0 := m0
        have n1 := m1
        have n2 := m2
        clear m0 m1 m2
        clear hV5 HB4 HO4
        have hz5 := b5.out.size
        have HOwF := hide (ownsRow_later (ownsRow_later HOw0.out b5.out) (below_alloc V5 (.cells #[.bool true, .int .i64 0, .slice none 0 0, .bool false, .int .i64 p, .slice a4 64 k4, .bool true, .int .i64 0, .slice none 0 0] 73)))
        go_wp2_with (at_builtin; refine wpList_append_lies _ rfl _ _ _ rfl 0 73 i0 (.agg #[.bool false, .int .i64 0, .slice none 0 0]) 3 40 Try.underlying27 hi hz0 hz1 hz2 rfl (by omega) _ k _ (by rfl) HOwF.out ⟨V5.heap.size, 0, none⟩ 3 3 [.bool true, .int .i64 0, .slice none 0 0, .bool false, .int .i64 p, .slice a4 64 k4, .bool true, .int .i64 0, .slice none 0 0] (by rfl) (by rfl) (World.news_of_block (cs := #[.bool true, .int .i64 0, .slice none 0 0, .bool false, .int .i64 p, .slice a4 64 k4, .bool true, .int .i64 0, .slice none 0 0]) (t := 73) (fr := (0, 0)) (heap_alloc_new V5 _)) cells9_one (by omega) (by unfold maxLen; omega) (by omega) (Nat.zero_le _) (V5.heap.size + 1) (by simp) ?_)
        intro g cap w6 hown6 hgrow hat hlt6
        have HS := hide (BuiltT.three (P' := (w.heap.size ≤ ·)) HIn.out HOw0.out HPr.out E0.out E1.out E2.out (fun b hb => by omega) (fun b hb => by omega) b5.out o5.out (below_alloc V5 (.cells #[.bool true, .int .i64 0, .slice none 0 0, .bool false, .int .i64 p, .slice a4 64 k4, .bool true, .int .i64 0, .slice none 0 0] 73)) hown6 hgrow (by simpa using hat))
        have HB6 := hide ((below_on (below_on HB.out b5.out) (below_alloc V5 (.cells #[.bool true, .int .i64 0, .slice none 0 0, .bool false, .int .i64 p, .slice a4 64 k4, .bool true, .int .i64 0, .slice none 0 0] 73))).grown hgrow (by simp; omega) (fun r hr => by have := HPr.out r hr; omega))
        clear hown6 hgrow hat hlt6 n0 n1 n2
        go_wp2
        go_ret
        exact ⟨_, rfl, HB6.out, by rw [HTs.out]; exact HS.out⟩
end Go.Proofs.Ytdjdfkhgkadhgaa
/- Chapter 3, the program's side: 'homePutsFault' and the closure of an append, walked. -/
namespace Go.Proofs.Ytdjdfkhgkadhgaa
open Go.RowKit

/-- The fault of puts that go into homes. -/
def hpF (most : Nat) (ps : List (Int × List Int)) : Int := if most < ps.length then 2 else firstP 40 ps

set_option maxHeartbeats 1000000 in
set_option maxRecDepth 4000 in
theorem homePutsFault {T : Nat → Prop} {w : World} {v : Value} {ps : List (Int × List Int)} (most : Nat) (hv : RdP T w v ps) :
    Calls Try.prog 63 #[v, .int .i64 (most : Int)] w fun e w' => e = .returned (.int .i64 (hpF most ps)) ∧ Below w.heap.size w w' := by
  obtain ⟨ao, c, rfl, hm'⟩ := hv.shape
  have HV := hide hv
  obtain ⟨m, hm⟩ : ∃ m, ps.length = m := ⟨_, rfl⟩
  have HM := hide hm
  rw [hm] at HV hm' ⊢
  clear hv hm
  by_cases h70 : most < m
  · have HZ := hide (show hpF most ps = 2 by unfold hpF; rw [if_pos (by rw [HM.out]; exact h70)])
    go_enter Try.func63, Try.ntmps63
    go_wp2
    go_ret
    exact ⟨ret_int HZ.out.symm, Below.refl _ _⟩
  · have HE := hide (show hpF most ps = firstP 40 ps by unfold hpF; rw [if_neg (by rw [HM.out]; exact h70)])
    go_enter Try.func63, Try.ntmps63
    go_wp2
    go_loopw [14] (fun i wr => ∃ j : Nat, j ≤ m ∧ i = .int .i64 j ∧ Hid (firstP 40 ps = firstP 40 (ps.drop j)) ∧ Hid (Below w.heap.size w wr)) (fun i _ => m - (intOf i).toNat)
    case atStart => exact ⟨0, Nat.zero_le _, rfl, by simp [Hid], Below.refl _ _⟩
    case round =>
      obtain ⟨j, hj, rfl, HG, HB2⟩ := hrel
      by_cases hlt2 : j < m
      · obtain ⟨b2, off2, V2, rfl, q1, q2, q3⟩ := HV.out.at (k := j) (by rw [HM.out]; exact hlt2)
        obtain ⟨ao3, c3, rfl⟩ := q3.shape
        have g1 := cell_later HB2.out q1
        have g2 := cell_later HB2.out q2
        have R2 := hide (q3.later HB2.out)
        obtain ⟨x, hx⟩ : ∃ x, (ps.getD j (0, [])).1 = x := ⟨_, rfl⟩
        obtain ⟨l, hl⟩ : ∃ l, (ps.getD j (0, [])).2.length = l := ⟨_, rfl⟩
        have HX := hide hx
        have HL := hide hl
        rw [hx] at g1
        rw [hl] at g2 R2
        clear q1 q2 q3 hx hl
        by_cases hat : 0 ≤ x ∧ x < 40
        · obtain ⟨ha1, ha2⟩ := hat
          have hn1 : ¬ x < 0 := by omega
          have hn2 : ¬ 40 ≤ x := by omega
          by_cases hw : wordsF (ps.getD j (0, [])).2 = 0
          · have HF2 := hide (HG.out.trans (firstP_ok (by rw [HM.out]; exact hlt2) (by rw [HX.out]; exact ⟨ha1, ha2⟩) hw))
            have HW := hide hw
            clear hw
            go_wp2_with fail
            refine (isHome_yes x ha1 ha2 _).mono ?_
            rintro e w' ⟨rfl, rfl⟩
            go_wp2_with fail
            refine (wordsFault (R2.out.later (below_alloc _ _))).mono ?_
            rintro e w' ⟨he, q, rfl⟩
            rw [HW.out] at he
            subst he
            go_wp2
            go_roundw
            case rel => exact ⟨j + 1, by omega, by go_num, HF2.out, below_on HB2.out (below_on (below_alloc _ _) (below_drewN _ q))⟩
            case measure => simp [intOf]; omega
          · have HF2 := hide (HE.out.trans (HG.out.trans (firstP_no (by rw [HM.out]; exact hlt2) (by rw [HX.out]; exact ⟨ha1, ha2⟩) hw)))
            obtain ⟨z, hz⟩ : ∃ z, wordsF (ps.getD j (0, [])).2 = z := ⟨_, rfl⟩
            have HW := hide hz
            rw [hz] at hw
            clear hz
            go_wp2_with fail
            refine (isHome_yes x ha1 ha2 _).mono ?_
            rintro e w' ⟨rfl, rfl⟩
            go_wp2_with fail
            refine (wordsFault (R2.out.later (below_alloc _ _))).mono ?_
            rintro e w' ⟨he, q, rfl⟩
            rw [HW.out] at he
            subst he
            go_wp2
            go_ret
            exact ⟨ret_int (by rw [HF2.out, HW.out]), below_on HB2.out (below_on (below_alloc _ _) (below_drewN _ q))⟩
        · have HZ := hide (HE.out.trans (HG.out.trans (firstP_at (n := 40) (by rw [HM.out]; exact hlt2) (by rw [HX.out]; exact hat))))
          have HA := hide hat
          clear hat
          go_wp2_with fail
          refine (isHome_no x HA.out _).mono ?_
          rintro e w' ⟨rfl, rfl⟩
          go_wp2
          go_ret
          exact ⟨ret_int HZ.out.symm, below_on HB2.out (below_alloc _ _)⟩
      · have HZ := hide (HE.out.trans (HG.out.trans (firstP_end (by rw [HM.out]; omega))))
        go_wp2
        go_ret
        exact ⟨ret_int HZ.out.symm, HB2.out⟩
end Go.Proofs.Ytdjdfkhgkadhgaa
/- Chapter 3, the program's side: the closure of an append, walked. -/
namespace Go.Proofs.Ytdjdfkhgkadhgaa
open Go.RowKit

set_option maxHeartbeats 1000000 in
set_option maxRecDepth 4000 in
/-- The closure of 'PlanAppend'. -/
theorem planAp1 {S : Nat → Prop} {w : World} {H B : Nat} {yv : Value} {xs : List Int} {s t n : Int} {ay : Option Addr} {l cy : Nat} (i at_ : Int) (hh : HdAt w H 0 s t (.slice ay l cy)) (hB : w.cell? ⟨B, 0, none⟩ = some (.int .i64 n))
    (hy : RdI S w yv xs) (hm : xs.length ≤ 1048576) (ht : 0 ≤ t) (ht' : t ≤ 23) (hn : 0 ≤ n) (hn' : n ≤ 24) (hi : 0 ≤ i) (hi' : i ≤ 24) :
    Calls Try.prog 64 #[.int .i64 i, .agg #[.int .i64 at_, yv], .pointer (some ⟨H, 0, none⟩), .pointer (some ⟨B, 0, none⟩)] w fun e w' => ∃ z, e = .returned (.agg #[.bool false, .int .i64 (2 + (t + (n + i)) % 24), z]) ∧ Below w.heap.size w w' ∧ OwI w.heap.size w' z xs := by
  obtain ⟨av, cv, rfl⟩ := hy.shape
  have HSl := hide (fun (w' : World) => slotFrom s t (n + i) (.slice ay l cy) w' ht ht' (by omega) (by omega))
  have HCp := hide (fun (w' : World) (hb : Below w.heap.size w w') => copyWords (hy.later hb) hm)
  obtain ⟨q, hq⟩ : ∃ q, (t + (n + i)) % 24 = q := ⟨_, rfl⟩
  have hq1 : 0 ≤ q := by omega
  have hq2 : q ≤ 23 := by omega
  rw [hq] at HSl ⊢
  have hwr : IntKind.i64.wrap (n + i) = n + i := by simp [IntKind.wrap, IntKind.bits, IntKind.signed]; omega
  have hwq : IntKind.i64.wrap (2 + q) = 2 + q := by simp [IntKind.wrap, IntKind.bits, IntKind.signed]; omega
  have h0 := hh.seq
  have h1 := hh.start
  have h2 := hh.addrs
  obtain ⟨lv, hlv⟩ : ∃ lv, xs.length = lv := ⟨_, rfl⟩
  have HL := hide hlv
  rw [hlv] at HCp ⊢
  clear hy hh hq ht ht' hlv
  simp only [Nat.zero_add] at h1 h2
  have hBl := World.block_lt_of_cell? _ _ hB
  have hHl := World.block_lt_of_cell? _ _ h0
  obtain ⟨W, hW⟩ : ∃ W, (w.alloc (.cells #[.int .i64 at_, .slice av lv cv] 83)).alloc (.cells #[.bool false, .int .i64 0, .slice none 0 0] 73) = W := ⟨_, rfl⟩
  have BW : Hid (Below w.heap.size w W) := by rw [← hW]; exact below_on (below_alloc _ _) (below_alloc _ _)
  have ZW : Hid (W.heap.size = w.heap.size + 2) := by rw [← hW]; simp [Hid]
  have c0 := cell_later BW.out h0
  have c1 := cell_later BW.out h1
  have c2 := cell_later BW.out h2
  have c3 := cell_later BW.out hB
  have c4 : W.cell? ⟨w.heap.size, 1, none⟩ = some (.slice av lv cv) := by rw [← hW]; simp [go_sem]
  have r0 : W.cell? ⟨w.heap.size + 1, 0, none⟩ = some (.bool false) := by rw [← hW]; simp [go_sem]
  have r1 : W.cell? ⟨w.heap.size + 1, 1, none⟩ = some (.int .i64 0) := by rw [← hW]; simp [go_sem]
  have r2 : W.cell? ⟨w.heap.size + 1, 2, none⟩ = some (.slice none 0 0) := by rw [← hW]; simp [go_sem]
  have rf : Hid (∀ o, W.frozen? ⟨w.heap.size + 1, o, none⟩ = false) := by rw [← hW]; intro o; simp [go_sem]
  have HWr := hide hwr
  clear hwr
  clear h0 h1 h2 hB
  go_enter Try.func64, Try.ntmps64
  go_wp2_with fail
  clear hW
  go_region_held3 (fun w' => w'.cell? ⟨H, 0, none⟩ = some (.int .i64 s) ∧ w'.cell? ⟨H, 1, none⟩ = some (.int .i64 t) ∧ w'.cell? ⟨H, 2, none⟩ = some (.slice ay l cy) ∧ w'.cell? ⟨B, 0, none⟩ = some (.int .i64 n) ∧ w'.cell? ⟨w.heap.size, 1, none⟩ = some (.slice av lv cv)) (first | exact ⟨c0, c1, c2, c3, c4⟩ | exact ⟨e0, e1, e2, e3, e4⟩ | exact ⟨i0, i1, i2, i3, i4⟩ | (simp [go_sem, *]))
    (first
      | (go_at_call 65; refine (HCp.out _ (below_on BW.out HB1.out)).mono ?_; rintro e w2 ⟨z, rfl, hb2, ho2⟩; obtain ⟨a2, k2, rfl⟩ := ho2.shape; have i0 := cell_later hb2 e0; have i1 := cell_later hb2 e1; have i2 := cell_later hb2 e2; have i3 := cell_later hb2 e3; have i4 := cell_later hb2 e4; have v0 := cell_later hb2 u0; have v1 := cell_later hb2 u1; have v2 := cell_later hb2 u2; have f0 := ((bcell hb2).2 _ 0 (World.block_lt_of_cell? _ _ u0)).trans (uf.out 0); have f1 := ((bcell hb2).2 _ 1 (World.block_lt_of_cell? _ _ u0)).trans (uf.out 1); have f2 := ((bcell hb2).2 _ 2 (World.block_lt_of_cell? _ _ u0)).trans (uf.out 2); have HB2 := hide hb2; have HO2 := hide ho2; clear hb2 ho2)
      | (go_at_call 43; rw [HWr.out]; refine (HSl.out _).mono ?_; rintro e w1 ⟨rfl, hb1⟩; have e0 := cell_later hb1 c0; have e1 := cell_later hb1 c1; have e2 := cell_later hb1 c2; have e3 := cell_later hb1 c3; have e4 := cell_later hb1 c4; have u0 := cell_later hb1 r0; have u1 := cell_later hb1 r1; have u2 := cell_later hb1 r2; have uf : Hid (∀ o, w1.frozen? ⟨w.heap.size + 1, o, none⟩ = false) := (fun o => ((bcell hb1).2 _ o (World.block_lt_of_cell? _ _ r0)).trans (rf.out o)); have HB1 := hide (below_on (below_drewN W 1) hb1); clear hb1))
  go_wp2
  have hz0 := BW.out.size
  have hz1 := HB1.out.size
  have hzW := ZW.out
  have hfin := ret_step (x := .bool false) (y := .int .i64 (2 + q)) (below_on BW.out (below_on HB1.out HB2.out)) (r := w.heap.size + 1) (by omega) HO2.out (by omega)
  exact bodyPost_ret (v := .agg #[.bool false, .int .i64 (2 + q), .slice a2 xs.length k2]) (by simp [results, Try.results64, go_sem, v0, v1, v2]) rfl ⟨_, rfl, hfin.1, hfin.2.mono (by omega)⟩
end Go.Proofs.Ytdjdfkhgkadhgaa
/- Chapter 3: the steps of an append, and its codes. -/
namespace Go.Proofs.Ytdjdfkhgkadhgaa
open Go.RowKit

/-- The steps of an append. -/
def apTs (s t : Int) (A : List Int) (qs : List (Int × List Int)) : List St :=
  ((List.range qs.length).map fun (i : Nat) => ((false, 2 + (t + ((A.length : Int) + (i : Int))) % 24, (qs.getD i (0, [])).2) : St)) ++ [(true, 0, []), (false, (s + 1) % 2, packL (s + 1) t (A ++ qs.map Prod.fst)), (true, 0, [])]
theorem apTs_len (s t : Int) (A : List Int) (qs : List (Int × List Int)) : (apTs s t A qs).length = qs.length + 3 := by simp [apTs]
theorem apTs_at (s t : Int) (A : List Int) (qs : List (Int × List Int)) (i : Nat) (h : i < qs.length) : (apTs s t A qs).getD i st0 = (false, 2 + (t + ((A.length : Int) + (i : Int))) % 24, (qs.getD i (0, [])).2) := by
  unfold apTs
  rw [List.getD, List.getElem?_append_left (by simpa using h)]
  simp [h]
theorem apTs_0 (s t : Int) (A : List Int) (qs : List (Int × List Int)) : (apTs s t A qs).getD qs.length st0 = (true, 0, []) := by
  unfold apTs
  rw [List.getD, List.getElem?_append_right (by simp)]
  simp
theorem apTs_1 (s t : Int) (A : List Int) (qs : List (Int × List Int)) : (apTs s t A qs).getD (qs.length + 1) st0 = (false, (s + 1) % 2, packL (s + 1) t (A ++ qs.map Prod.fst)) := by
  unfold apTs
  rw [List.getD, List.getElem?_append_right (by simp)]
  simp
theorem apTs_2 (s t : Int) (A : List Int) (qs : List (Int × List Int)) : (apTs s t A qs).getD (qs.length + 2) st0 = (true, 0, []) := by
  unfold apTs
  rw [List.getD, List.getElem?_append_right (by simp)]
  simp

theorem hpF_zero {m : Nat} {qs : List (Int × List Int)} (h : hpF m qs = 0) : qs.length ≤ m ∧ ∀ i, i < qs.length → (0 ≤ (qs.getD i (0, [])).1 ∧ (qs.getD i (0, [])).1 < 40) ∧ wordsF (qs.getD i (0, [])).2 = 0 := by
  unfold hpF at h
  by_cases hm : m < qs.length
  · rw [if_pos hm] at h; exact absurd h (by decide)
  · rw [if_neg hm] at h; exact ⟨by omega, firstP_zero h⟩

/-- The header behind an append has no fault. -/
theorem head_behind {s t : Int} {A : List Int} {qs : List (Int × List Int)} (hh : headF s t A = 0) (hs : s < 65000) (hq : hpF 12 qs = 0) (hn : A.length + qs.length ≤ 24) : headF (s + 1) t (A ++ qs.map Prod.fst) = 0 := by
  obtain ⟨⟨h1, _, h3, h4⟩, _, hA⟩ := headF_zero hh
  obtain ⟨_, hQ⟩ := hpF_zero hq
  refine headF_ok ⟨by omega, by omega, h3, h4⟩ (by simp; omega) (fun i hi => ?_)
  by_cases hlt : i < A.length
  · have e : (A ++ qs.map Prod.fst).getD i 0 = A.getD i 0 := by rw [List.getD, List.getD, List.getElem?_append_left hlt]
    rw [e]; exact hA i hlt
  · have hi' : i - A.length < qs.length := by simp at hi; omega
    have e : (A ++ qs.map Prod.fst).getD i 0 = (qs.getD (i - A.length) (0, [])).1 := by
      rw [List.getD, List.getElem?_append_right (by omega)]
      simp [List.getD, hi']
    rw [e]
    have := (hQ _ hi').1
    omega

/-- The code of 'PlanAppend', and its steps. -/
def apF (xss : List (List Int)) (ps qs : List (Int × List Int)) : Int :=
  if inF xss ps = 0 then (if hpF 12 qs = 0 then (if inS xss ps = 65000 then 10 else if qs.length = 0 then 0 else if 24 < (inA xss ps).length + qs.length then 8 else 0) else hpF 12 qs) else inF xss ps
def apT (xss : List (List Int)) (ps qs : List (Int × List Int)) : List St :=
  if inF xss ps = 0 ∧ hpF 12 qs = 0 ∧ inS xss ps ≠ 65000 ∧ qs.length ≠ 0 ∧ (inA xss ps).length + qs.length ≤ 24 then apTs (inS xss ps) (inT xss ps) (inA xss ps) qs else []
end Go.Proofs.Ytdjdfkhgkadhgaa
/- Chapter 3, the model's side: 'l3Puts', walked. -/
namespace Go.Proofs.Ytdjdfkhgkadhgaa
open Go.RowKit

set_option maxHeartbeats 1000000 in
set_option maxRecDepth 4000 in
theorem l3Puts {T : Nat → Prop} {w : World} {v : Value} {ps : List (Int × List Int)} (hv : RdP T w v ps) :
    Calls Try.prog 60 #[v] w fun e w' => e = .returned (.int .i64 (hpF 12 ps)) ∧ ∃ q, w' = w.drewN q := by
  obtain ⟨ao, c, rfl, hm'⟩ := hv.shape
  have HV := hide hv
  obtain ⟨m, hm⟩ : ∃ m, ps.length = m := ⟨_, rfl⟩
  have HM := hide hm
  rw [hm] at HV hm' ⊢
  clear hv hm
  by_cases h70 : 12 < m
  · have HZ := hide (show hpF 12 ps = 2 by unfold hpF; rw [if_pos (by rw [HM.out]; exact h70)])
    go_enter Try.func60, Try.ntmps60
    go_wp2
    go_ret
    exact ⟨ret_int HZ.out.symm, 0, rfl⟩
  · have HE := hide (show hpF 12 ps = firstP 40 ps by unfold hpF; rw [if_neg (by rw [HM.out]; exact h70)])
    go_enter Try.func60, Try.ntmps60
    go_wp2
    go_loopw [3] (fun i wr => ∃ j : Nat, j ≤ m ∧ i = .int .i64 j ∧ Hid (firstP 40 ps = firstP 40 (ps.drop j)) ∧ Hid (∃ q, wr = w.drewN q)) (fun i _ => m - (intOf i).toNat)
    case atStart => exact ⟨0, Nat.zero_le _, rfl, by simp [Hid], ⟨0, rfl⟩⟩
    case round =>
      obtain ⟨j, hj, rfl, HG, HB2⟩ := hrel
      by_cases hlt2 : j < m
      · obtain ⟨b2, off2, V2, rfl, q1, q2, q3⟩ := HV.out.at (k := j) (by rw [HM.out]; exact hlt2)
        have g1 := (drewN_cell HB2.out _).trans q1
        have g2 := (drewN_cell HB2.out _).trans q2
        have R2 : Hid (RdI T wr V2 (ps.getD j (0, [])).2) := by obtain ⟨q, rfl⟩ := HB2; exact q3
        obtain ⟨x, hx⟩ : ∃ x, (ps.getD j (0, [])).1 = x := ⟨_, rfl⟩
        have HX := hide hx
        rw [hx] at g1
        clear q1 q2 q3 hx
        by_cases hat : 0 ≤ x ∧ x < 40
        · obtain ⟨ha1, ha2⟩ := hat
          by_cases hw : wordsF (ps.getD j (0, [])).2 = 0
          · have HF2 := hide (HG.out.trans (firstP_ok (by rw [HM.out]; exact hlt2) (by rw [HX.out]; exact ⟨ha1, ha2⟩) hw))
            have HW := hide hw
            clear hw
            go_wp2_with fail
            refine (l2Home_yes x ha1 (by omega) _).mono ?_
            rintro e w1 ⟨rfl, rfl⟩
            go_wp2_with fail
            refine (l1Words R2.out).mono ?_
            rintro e w' ⟨he, hq⟩
            rw [HW.out] at he
            subst he
            have HB3 := hide (drewN_on HB2.out hq)
            clear hq
            go_wp2
            go_roundw
            case rel => exact ⟨j + 1, by omega, by go_num, HF2.out, HB3.out⟩
            case measure => simp [intOf]; omega
          · have HF2 := hide (HE.out.trans (HG.out.trans (firstP_no (by rw [HM.out]; exact hlt2) (by rw [HX.out]; exact ⟨ha1, ha2⟩) hw)))
            obtain ⟨z, hz⟩ : ∃ z, wordsF (ps.getD j (0, [])).2 = z := ⟨_, rfl⟩
            have HW := hide hz
            rw [hz] at hw
            clear hz
            go_wp2_with fail
            refine (l2Home_yes x ha1 (by omega) _).mono ?_
            rintro e w1 ⟨rfl, rfl⟩
            go_wp2_with fail
            refine (l1Words R2.out).mono ?_
            rintro e w' ⟨he, hq⟩
            rw [HW.out] at he
            subst he
            have HB3 := hide (drewN_on HB2.out hq)
            clear hq
            go_wp2
            go_ret
            exact ⟨ret_int (by rw [HF2.out, HW.out]), HB3.out⟩
        · have HZ := hide (HE.out.trans (HG.out.trans (firstP_at (n := 40) (by rw [HM.out]; exact hlt2) (by rw [HX.out]; exact hat))))
          have HA := hide (show x < 0 ∨ 39 < x by omega)
          clear hat
          go_wp2_with fail
          refine (l2Home_no x HA.out _).mono ?_
          rintro e w1 ⟨rfl, rfl⟩
          go_wp2
          go_ret
          exact ⟨ret_int HZ.out.symm, HB2.out⟩
      · have HZ := hide (HE.out.trans (HG.out.trans (firstP_end (by rw [HM.out]; omega))))
        go_wp2
        go_ret
        exact ⟨ret_int HZ.out.symm, HB2.out⟩
end Go.Proofs.Ytdjdfkhgkadhgaa
/- Copies that may be appended to: 'copyWords' and 'copyHeader' of the program, with the row that they have built. -/
namespace Go.Proofs.Ytdjdfkhgkadhgaa
open Go.RowKit

theorem owns_shape {w : World} {B e s : Nat} {v : Value} {n : Nat} {xs : List Value} (h : w.ownsRow B e s v n xs) : ∃ ao c, v = .slice ao n c := by
  rcases h.2 with ⟨rfl, rfl⟩ | ⟨g, cap, cur, rfl, _⟩
  · exact ⟨_, _, rfl⟩
  · exact ⟨_, _, rfl⟩
theorem ownsRow_wr3 {w : World} {B e s n r : Nat} {v x y z : Value} {xs : List Value} (h : w.ownsRow B e s v n xs) (hr : r < B) :
    (((w.setCell ⟨r, 0, none⟩ x).setCell ⟨r, 1, none⟩ y).setCell ⟨r, 2, none⟩ z).ownsRow B e s v n xs := by
  have hw : Wr (fun y => y = r) w (((w.setCell ⟨r, 0, none⟩ x).setCell ⟨r, 1, none⟩ y).setCell ⟨r, 2, none⟩ z) := (((Wr.refl (fun y => y = r) _).setCell (p := ⟨r, 0, none⟩) rfl _).setCell (p := ⟨r, 1, none⟩) rfl _).setCell (p := ⟨r, 2, none⟩) rfl _
  obtain ⟨h1, h2⟩ := h
  refine ⟨h1, ?_⟩
  rcases h2 with h2 | ⟨g, cap, cur, hv, hg, hh, q⟩
  · exact Or.inl h2
  · have hne : g ≠ r := by omega
    exact Or.inr ⟨g, cap, cur, hv, hg, by rw [hw.block g (Array.getElem?_eq_some_iff.1 hh).1 (fun e => hne e)]; exact hh, q⟩

/-- 'impl.copyWords' of a reading: the row that it has built. -/
theorem copyWordsOwn {S : Nat → Prop} {w : World} {v : Value} {xs : List Int} (hv : RdI S w v xs) (hm : xs.length ≤ 1048576) :
    Calls Try.prog 65 #[v] w fun e w' => ∃ u, e = .returned u ∧ Below w.heap.size w w' ∧ w'.ownsRow w.heap.size 2 1 u xs.length (xs.map (Value.int .i64)) := by
  obtain ⟨ao, c, rfl, hsrc⟩ := hv.src
  obtain ⟨i0, hi, hz0, hz1, hz2⟩ := info_parts Try.infoInt
  have HS := hide hsrc
  clear hsrc hv
  go_enter Try.func65, Try.ntmps65
  go_wp2_with (at_builtin; refine wpList_append_any _ rfl _ _ 45 rfl w.heap.size 2 i0 (.int .i64 0) 1 8 Try.underlying45 hi hz0 hz1 hz2 rfl (by decide) _ _ _ rfl (World.ownsRow_nil _ _ _ _) ao xs.length c (xs.map (Value.int .i64)) rfl (by simp) HS.out (ints_oneCell _ _) (by unfold maxLen; omega) (by omega) (Nat.le_refl _) ?_)
  intro v' w1 hown hgrow
  have HO := hide hown
  have HG := hide hgrow
  clear hown hgrow
  go_wp2
  go_ret
  refine ⟨v', rfl, (Below.refl _ _).grown HG.out (Nat.le_refl _) (fun k hk => by cases hk), by simpa using HO.out⟩


set_option maxHeartbeats 1000000 in
set_option maxRecDepth 4000 in
theorem copyHeaderOwn {S : Nat → Prop} {w : World} {y : Value} {xs : List Int} (s t : Int) (hy : RdI S w y xs) (hm : xs.length ≤ 1048576) :
    Calls Try.prog 88 #[.agg #[.int .i64 s, .int .i64 t, y]] w fun e w' => ∃ z, e = .returned (.agg #[.int .i64 s, .int .i64 t, z]) ∧ Below w.heap.size w w' ∧ w'.ownsRow (w.heap.size + 2) 2 1 z xs.length (xs.map (Value.int .i64)) := by
  have HY := hide hy
  obtain ⟨ay, cy, rfl⟩ := hy.shape
  obtain ⟨l, hl⟩ : ∃ l, xs.length = l := ⟨_, rfl⟩
  have HL := hide hl
  rw [hl] at HY ⊢
  clear hy hl
  obtain ⟨W, hW⟩ : ∃ W, (w.alloc (.cells #[.int .i64 s, .int .i64 t, .slice ay l cy] 52)).alloc (.cells #[.int .i64 0, .int .i64 0, .slice none 0 0] 52) = W := ⟨_, rfl⟩
  have BW : Hid (Below w.heap.size w W) := by rw [← hW]; exact below_on (below_alloc _ _) (below_alloc _ _)
  have hWs : W.heap.size = w.heap.size + 2 := by rw [← hW]; simp
  have c0 : W.cell? ⟨w.heap.size, 0, none⟩ = some (.int .i64 s) := by rw [← hW]; simp [go_sem]
  have c1 : W.cell? ⟨w.heap.size, 1, none⟩ = some (.int .i64 t) := by rw [← hW]; simp [go_sem]
  have c2 : W.cell? ⟨w.heap.size, 2, none⟩ = some (.slice ay l cy) := by rw [← hW]; simp [go_sem]
  have v0 : W.cell? ⟨w.heap.size + 1, 0, none⟩ = some (.int .i64 0) := by rw [← hW]; simp [go_sem]
  have v1 : W.cell? ⟨w.heap.size + 1, 1, none⟩ = some (.int .i64 0) := by rw [← hW]; simp [go_sem]
  have v2 : W.cell? ⟨w.heap.size + 1, 2, none⟩ = some (.slice none 0 0) := by rw [← hW]; simp [go_sem]
  have vf : ∀ o, W.frozen? ⟨w.heap.size + 1, o, none⟩ = false := by rw [← hW]; intro o; simp [go_sem]
  have hbv : w.heap.size ≠ w.heap.size + 1 := by omega
  go_enter Try.func88, Try.ntmps88
  go_wp2_with fail
  go_region_held3 (fun w' => w'.cell? ⟨w.heap.size, 0, none⟩ = some (.int .i64 s) ∧ w'.cell? ⟨w.heap.size, 1, none⟩ = some (.int .i64 t) ∧ w'.cell? ⟨w.heap.size, 2, none⟩ = some (.slice ay l cy)) (first | exact ⟨c0, c1, c2⟩ | exact ⟨e0, e1, e2⟩ | exact ⟨(set3_far hbv).trans e0, (set3_far hbv).trans e1, (set3_far hbv).trans e2⟩)
    (first | (go_at_call 65; refine (copyWordsOwn ((HY.out.later BW.out).drewN 1) hm).mono ?_; rintro e w1 ⟨z, rfl, hb1, ho1⟩; obtain ⟨az, cz, hz1⟩ := owns_shape ho1; rw [HL.out] at hz1; subst hz1; have e0 := cell_later hb1 c0; have e1 := cell_later hb1 c1; have e2 := cell_later hb1 c2; have x0 := cell_later hb1 v0; have x1 := cell_later hb1 v1; have x2 := cell_later hb1 v2; have y0 := ((bcell hb1).2 _ _ (show w.heap.size + 1 < W.heap.size by omega)).trans (vf 0); have y1 := ((bcell hb1).2 _ _ (show w.heap.size + 1 < W.heap.size by omega)).trans (vf 1); have y2 := ((bcell hb1).2 _ _ (show w.heap.size + 1 < W.heap.size by omega)).trans (vf 2); have HB := hide (below_on BW.out (below_on (below_drewN _ 1) hb1)); have HO := hide ho1; clear hb1 ho1))
  go_wp2
  refine bodyPost_ret (v := .agg #[.int .i64 s, .int .i64 t, .slice az l cz]) (by simp [results, Try.results88, go_sem, x0, x1, x2]) rfl ⟨_, rfl, ?_, ?_⟩
  · repeat (first | refine Below.setCell ?_ (by first | (simp; done) | (simp; omega) | omega) _ | exact HB.out)
  · have h := ownsRow_wr3 (r := w.heap.size + 1) (x := .int .i64 s) (y := .int .i64 t) (z := .slice az l cz) HO.out (by show w.heap.size + 1 < W.heap.size; omega)
    rw [show (W.drewN 1).heap.size = w.heap.size + 2 from hWs] at h
    rw [HL.out] at h
    exact h
end Go.Proofs.Ytdjdfkhgkadhgaa
/- Chapter 3, the program's side: 'headerBehind', walked. -/
namespace Go.Proofs.Ytdjdfkhgkadhgaa
open Go.RowKit

theorem ownsRow_base {w : World} {B B' e s n : Nat} {v : Value} {xs : List Value} (h : w.ownsRow B e s v n xs) (hB : B' ≤ B) : w.ownsRow B' e s v n xs := by
  obtain ⟨h1, h2⟩ := h
  refine ⟨h1, ?_⟩
  rcases h2 with h2 | ⟨g, cap, cur, hv, hg, q⟩
  · exact Or.inl h2
  · exact Or.inr ⟨g, cap, cur, hv, by omega, q⟩
theorem ownsRow_wr1 {w : World} {B e s n r o : Nat} {v x : Value} {xs : List Value} (h : w.ownsRow B e s v n xs) (hr : v.ownBlock ≠ some r) : (w.setCell ⟨r, o, none⟩ x).ownsRow B e s v n xs := by
  have hw : Wr (fun y => y = r) w (w.setCell ⟨r, o, none⟩ x) := (Wr.refl (fun y => y = r) _).setCell (p := ⟨r, o, none⟩) rfl _
  obtain ⟨h1, h2⟩ := h
  refine ⟨h1, ?_⟩
  rcases h2 with h2 | ⟨g, cap, cur, hv, hg, hh, q⟩
  · exact Or.inl h2
  · exact Or.inr ⟨g, cap, cur, hv, hg, by rw [hw.block g (Array.getElem?_eq_some_iff.1 hh).1 (fun e => hr (by rw [hv, e]; rfl))]; exact hh, q⟩

/-- What 'headerBehind' keeps while it appends. -/
structure BhAt (w : World) (N : Nat) (s t : Int) (L : List Int) (n : Nat) (ao : Option Addr) (c : Nat) (wr : World) : Prop where
  own : wr.ownsRow (w.heap.size + 2) 2 1 (.slice ao n c) n (L.map (Value.int .i64))
  below : Below w.heap.size w wr
  hd : HdAt wr N 0 s t (.slice ao n c)
  lt : N < wr.heap.size
  fr : ∀ o, wr.frozen? ⟨N, o, none⟩ = false
  ne : (Value.slice ao n c).ownBlock ≠ some N
  r0 : wr.cell? ⟨w.heap.size + 1, 0, none⟩ = some (.int .i64 0)
  r1 : wr.cell? ⟨w.heap.size + 1, 1, none⟩ = some (.int .i64 0)
  r2 : wr.cell? ⟨w.heap.size + 1, 2, none⟩ = some (.slice none 0 0)
  rf : ∀ o, wr.frozen? ⟨w.heap.size + 1, o, none⟩ = false
  rl : w.heap.size + 1 < N
theorem BhAt.step {w wr U w3 : World} {N n c g cap : Nat} {s t x : Int} {L : List Int} {ao : Option Addr} (h : BhAt w N s t L n ao c wr) (hb : Below wr.heap.size wr U)
    (hown : w3.ownsRow (w.heap.size + 2) 2 1 (.slice (some ⟨g, 0, none⟩) (n + 1) cap) (n + 1) ((L.map (Value.int .i64)) ++ [.int .i64 x])) (hg : U.grownBy w3 (Value.slice ao n c).ownBlock) (hat : (Value.slice ao n c).ownBlock = some g ∨ g = U.heap.size) :
    BhAt w N s t (L ++ [x]) (n + 1) (some ⟨g, 0, none⟩) cap (w3.setCell ⟨N, 2, none⟩ (.slice (some ⟨g, 0, none⟩) (n + 1) cap)) := by
  have hz := hb.size
  have hz3 := hg.size
  have hNU : N < U.heap.size := Nat.lt_of_lt_of_le h.lt hz
  have hgN : g ≠ N := by
    rcases hat with e | e
    · intro e2; exact h.ne (by rw [e, e2])
    · have := h.lt; omega
  have hrl := h.rl
  have hgr : (Value.slice ao n c).ownBlock ≠ some (w.heap.size + 1) := fun e => by have := (h.own.lt _ e).1; omega
  have cN : ∀ o, w3.cell? ⟨N, o, none⟩ = wr.cell? ⟨N, o, none⟩ := fun o => (World.cell?_of_block (hg.block N hNU (Ne.symm h.ne))).trans ((bcell hb).1 _ _ h.lt)
  have fN : ∀ o, w3.frozen? ⟨N, o, none⟩ = wr.frozen? ⟨N, o, none⟩ := fun o => (World.frozen?_of_block (hg.block N hNU (Ne.symm h.ne))).trans ((bcell hb).2 _ _ h.lt)
  have hrU : w.heap.size + 1 < U.heap.size := by omega
  have cR : ∀ o, w3.cell? ⟨w.heap.size + 1, o, none⟩ = wr.cell? ⟨w.heap.size + 1, o, none⟩ := fun o => (World.cell?_of_block (hg.block _ hrU (Ne.symm hgr))).trans ((bcell hb).1 _ _ (by have := h.lt; omega))
  have fR : ∀ o, w3.frozen? ⟨w.heap.size + 1, o, none⟩ = wr.frozen? ⟨w.heap.size + 1, o, none⟩ := fun o => (World.frozen?_of_block (hg.block _ hrU (Ne.symm hgr))).trans ((bcell hb).2 _ _ (by have := h.lt; omega))
  have hoth : ∀ b o, b ≠ N ∨ o ≠ 2 → (w3.setCell ⟨N, 2, none⟩ (.slice (some ⟨g, 0, none⟩) (n + 1) cap)).cell? ⟨b, o, none⟩ = w3.cell? ⟨b, o, none⟩ := fun b o hne => World.cell?_setCell_other _ _ _ _ (by intro e; injection e with e1 e2; rcases hne with h1 | h1 <;> simp_all)
  have hNr : w.heap.size + 1 ≠ N := by omega
  refine ⟨?_, ?_, ⟨?_, ?_, ?_⟩, ?_, ?_, ?_, ?_, ?_, ?_, ?_, hrl⟩
  · refine ownsRow_wr1 (by simpa using hown) (by simp [Value.ownBlock]; exact hgN)
  · exact ((below_on h.below hb).grown hg (by omega) (fun r hr => by have := (h.own.lt r hr).1; omega)).setCell (p := ⟨N, 2, none⟩) (by show w.heap.size ≤ N; omega) _
  · rw [hoth _ _ (Or.inr (by omega)), cN]; exact h.hd.seq
  · rw [hoth _ _ (Or.inr (by omega)), cN]; exact h.hd.start
  · have h2 := h.hd.addrs
    simp only [Nat.zero_add] at h2 ⊢
    have := cN 2
    rw [h2] at this
    simp [go_sem, this]
  · simp; omega
  · intro o; simp [go_sem, fN, h.fr]
  · simp [Value.ownBlock]; exact hgN
  · rw [hoth _ _ (Or.inl hNr), cR]; exact h.r0
  · rw [hoth _ _ (Or.inl hNr), cR]; exact h.r1
  · rw [hoth _ _ (Or.inl hNr), cR]; exact h.r2
  · intro o; simp [go_sem, fR, h.rf]

set_option maxHeartbeats 1000000 in
set_option maxRecDepth 4000 in
theorem headerBehind {S T : Nat → Prop} {w : World} {y v : Value} {xs : List Int} {ps : List (Int × List Int)} (s t : Int) (hy : RdI S w y xs) (hv : RdP T w v ps) (hm : xs.length ≤ 24) (hm2 : ps.length ≤ 24) (hs : 0 ≤ s) (hs' : s ≤ 65000) :
    Calls Try.prog 67 #[.agg #[.int .i64 s, .int .i64 t, y], v] w fun e w' => ∃ z, e = .returned (.agg #[.int .i64 (s + 1), .int .i64 t, z]) ∧ Below w.heap.size w w' ∧ OwI w.heap.size w' z (xs ++ ps.map Prod.fst) := by
  obtain ⟨i0, hi, hz0, hz1, hz2⟩ := info_parts Try.infoInt
  obtain ⟨ay, cy, rfl⟩ := hy.shape
  obtain ⟨av, cv, rfl, _⟩ := hv.shape
  obtain ⟨l, hl⟩ : ∃ l, xs.length = l := ⟨_, rfl⟩
  obtain ⟨m, hmm⟩ : ∃ m, ps.length = m := ⟨_, rfl⟩
  have HCp := hide (fun (w' : World) (hb : Below w.heap.size w w') => copyHeaderOwn s t (hy.later hb) (by omega))
  have HV := hide hv
  have HL := hide hl
  have HM := hide hmm
  rw [hl] at HCp hm
  rw [hmm] at HV hm2
  rw [hl, hmm]
  clear hy hv hl hmm
  go_enter Try.func67, Try.ntmps67
  go_wp2_with fail
  refine (HCp.out _ (by first | exact below_on (below_alloc _ _) (below_alloc _ _) | exact below_alloc _ _)).mono ?_
  rintro e w1 ⟨z, rfl, hb1, ho1⟩
  obtain ⟨az, cz, rfl⟩ := owns_shape ho1
  have HB1 := hide hb1
  have HO1 := hide ho1
  have hz1' := hb1.size
  simp at hz1'
  have k0 : w1.cell? ⟨w.heap.size + 1, 0, none⟩ = some (.int .i64 0) := cell_later hb1 (by simp [go_sem])
  have k1 : w1.cell? ⟨w.heap.size + 1, 1, none⟩ = some (.int .i64 0) := cell_later hb1 (by simp [go_sem])
  have k2 : w1.cell? ⟨w.heap.size + 1, 2, none⟩ = some (.slice none 0 0) := cell_later hb1 (by simp [go_sem])
  have kf : ∀ o, w1.frozen? ⟨w.heap.size + 1, o, none⟩ = false := fun o => ((bcell hb1).2 _ _ (by simp)).trans (by simp [go_sem])
  have HSt : Hid (BhAt w w1.heap.size (s + 1) t xs l az cz (w1.alloc (.cells #[.int .i64 (s + 1), .int .i64 t, .slice az l cz] 52))) := by
    have hbA := below_alloc w1 (.cells #[.int .i64 (s + 1), .int .i64 t, .slice az l cz] 52)
    have hoA := ownsRow_later ho1 hbA
    exact ⟨ownsRow_base hoA (by simp), below_on (below_on (below_on (below_alloc _ _) (below_alloc _ _)) hb1) hbA, HdAt_new _ _ _ _ _, by simp, fun o => by simp [go_sem], fun e => by have := (ho1.lt _ e).2; omega, cell_later hbA k0, cell_later hbA k1, cell_later hbA k2, fun o => ((bcell hbA).2 _ _ (by omega)).trans (kf o), by omega⟩
  clear hb1 ho1 k0 k1 k2 kf
  go_wp2
  go_loopw [16] (fun i wr => ∃ (k : Nat) (ao : Option Addr) (c : Nat), k ≤ m ∧ i = .int .i64 k ∧ Hid (BhAt w w1.heap.size (s + 1) t (xs ++ (ps.map Prod.fst).take k) (l + k) ao c wr)) (fun i _ => m - (intOf i).toNat)
  case atStart => exact ⟨0, az, cz, Nat.zero_le _, rfl, by have := HSt.out; simpa [Hid] using this⟩
  case round =>
    obtain ⟨k, ao, c, hk, rfl, HS⟩ := hrel
    have h0 := HS.out.hd.seq
    have h1 := HS.out.hd.start
    have h2 := HS.out.hd.addrs
    simp only [Nat.zero_add] at h0 h1 h2
    have hlt' := HS.out.lt
    have f0 := HS.out.fr 0
    have f2 := HS.out.fr 2
    by_cases hlt : k < m
    · obtain ⟨b2, off2, V2, rfl, q1, q2, q3⟩ := HV.out.at (k := k) (by rw [HM.out]; exact hlt)
      obtain ⟨ao3, c3, rfl⟩ := q3.shape
      have g1 := cell_later HS.out.below q1
      have g2 := cell_later HS.out.below q2
      obtain ⟨x, hx⟩ : ∃ x, (ps.getD k (0, [])).1 = x := ⟨_, rfl⟩
      obtain ⟨l3, hl3⟩ : ∃ l3, (ps.getD k (0, [])).2.length = l3 := ⟨_, rfl⟩
      have HX := hide hx
      rw [hx] at g1
      rw [hl3] at g2
      have hne1 : ¬ w1.heap.size = wr.heap.size := by omega
      have HOw := hide (ownsRow_later (ownsRow_later HS.out.own (below_alloc wr (.cells #[.int .i64 x, .slice ao3 l3 c3] 83))) (below_alloc _ (.cells #[.int .i64 x] 2)))
      clear q1 q2 q3 hx hl3
      go_wp2_with (at_builtin; refine wpList_append_lies _ rfl _ _ _ rfl (w.heap.size + 2) 2 i0 (.int .i64 0) 1 8 Try.underlying45 hi hz0 hz1 hz2 rfl (by omega) _ (l + k) _ (by rfl) HOw.out ⟨wr.heap.size + 1, 0, none⟩ 1 1 [.int .i64 x] (by simp [go_sem]) (by rfl) (by intro j u hu; cases j <;> simp at hu; subst hu; simp [go_sem]) (by simp [Value.oneCell']) (by omega) (by unfold maxLen; omega) (by omega) (by simp; omega) (wr.heap.size + 2) (by simp) ?_)
      intro g cap w3 hown hgrow hat hlt3
      have HS3 := hide (HS.out.step (below_on (below_alloc wr (.cells #[.int .i64 x, .slice ao3 l3 c3] 83)) (below_alloc _ (.cells #[.int .i64 x] 2))) (x := x) (cap := cap) (by simpa [List.map_append, List.append_assoc, List.map_take] using hown) hgrow (by simpa using hat))
      have hNU : w1.heap.size < ((wr.alloc (.cells #[.int .i64 x, .slice ao3 l3 c3] 83)).alloc (.cells #[.int .i64 x] 2)).heap.size := by simp; omega
      have y2 : w3.cell? ⟨w1.heap.size, 2, none⟩ = some (.slice ao (l + k) c) := (World.cell?_of_block (hgrow.block _ hNU (Ne.symm HS.out.ne))).trans (cell_later (below_alloc _ _) (cell_later (below_alloc _ _) h2))
      have yf : w3.frozen? ⟨w1.heap.size, 2, none⟩ = false := (World.frozen?_of_block (hgrow.block _ hNU (Ne.symm HS.out.ne))).trans (((bcell (below_alloc _ _)).2 _ _ (by simp; omega)).trans (((bcell (below_alloc _ _)).2 _ _ (by omega)).trans f2))
      clear hown hgrow hat hlt3
      go_wp2
      go_roundw
      case rel =>
        refine ⟨k + 1, some ⟨g, 0, none⟩, cap, hlt, by go_num, ?_⟩
        have h := HS3.out
        have hkl : k < (ps.map Prod.fst).length := by rw [List.length_map, HM.out]; exact hlt
        have hkl' : k < ps.length := by rw [HM.out]; exact hlt
        have e : (ps.map Prod.fst).take (k + 1) = (ps.map Prod.fst).take k ++ [x] := by rw [List.take_succ_eq_append_getElem hkl, ← HX.out]; simp [List.getD, hkl']
        rw [Hid, e, ← List.append_assoc]
        exact h
      case measure => simp [intOf]; omega
    · have hkm : k = m := by omega
      subst hkm
      have v0 := HS.out.r0
      have v1 := HS.out.r1
      have v2 := HS.out.r2
      have r0f := HS.out.rf 0
      have r1f := HS.out.rf 1
      have r2f := HS.out.rf 2
      have hfin := hide (ownsRow_wr3 (r := w.heap.size + 1) (x := .int .i64 (s + 1)) (y := .int .i64 t) (z := .slice ao (l + k) c) HS.out.own (by omega))
      have hbel : Hid (Below w.heap.size w (((wr.setCell ⟨w.heap.size + 1, 0, none⟩ (.int .i64 (s + 1))).setCell ⟨w.heap.size + 1, 1, none⟩ (.int .i64 t)).setCell ⟨w.heap.size + 1, 2, none⟩ (.slice ao (l + k) c))) := ((HS.out.below.setCell (p := ⟨w.heap.size + 1, 0, none⟩) (Nat.le_succ _) _).setCell (p := ⟨w.heap.size + 1, 1, none⟩) (Nat.le_succ _) _).setCell (p := ⟨w.heap.size + 1, 2, none⟩) (Nat.le_succ _) _
      go_wp2
      refine bodyPost_ret (v := .agg #[.int .i64 (s + 1), .int .i64 t, .slice ao (l + k) c]) (by simp [results, Try.results67, go_sem, v0, v1, v2]) rfl ⟨_, rfl, hbel.out, ?_⟩
      have h := hfin.out
      rw [List.take_of_length_le (by rw [List.length_map, HM.out]; exact Nat.le_refl _)] at h
      exact (ow_of_owns (by rw [List.length_append, List.length_map, HL.out, HM.out]) h (by rw [List.length_append, List.length_map, HL.out, HM.out]; omega)).mono (by omega)
end Go.Proofs.Ytdjdfkhgkadhgaa
/- Chapter 3, the model's side: 'l3Append', walked: steps and addresses grow side by side. -/
namespace Go.Proofs.Ytdjdfkhgkadhgaa
open Go.RowKit

theorem ownsRow_keep {w w' : World} {B e s n : Nat} {v : Value} {xs : List Value} (h : w.ownsRow B e s v n xs) (hk : ∀ b, b < w.heap.size → v.ownBlock = some b → w'.heap[b]? = w.heap[b]?) : w'.ownsRow B e s v n xs := by
  obtain ⟨h1, h2⟩ := h
  refine ⟨h1, ?_⟩
  rcases h2 with h2 | ⟨g, cap, cur, hv, hg, hh, q⟩
  · exact Or.inl h2
  · exact Or.inr ⟨g, cap, cur, hv, hg, by rw [hk g (Array.getElem?_eq_some_iff.1 hh).1 (by rw [hv]; rfl)]; exact hh, q⟩
theorem Inner.keep {P : Nat → Prop} {w w' : World} {row : Option Nat} {k : Nat} {V : Nat → Value} {Bk : Nat → Nat} {X : Nat → List Int} (h : Inner P w row k V Bk X) (hs : w.heap.size ≤ w'.heap.size) (hk : ∀ b, b < w.heap.size → P b → w'.heap[b]? = w.heap[b]?) : Inner P w' row k V Bk X := by
  refine ⟨fun i hi => ?_, fun i hi hn => ?_⟩
  · obtain ⟨ao, c, e1, e2, e3⟩ := h.rd i hi
    refine ⟨ao, c, e1, e2, fun hne => ?_⟩
    obtain ⟨b, off, f1, f2, f3⟩ := e3 hne
    obtain ⟨h1, h2, _⟩ := h.own i hi hne
    subst f2
    exact ⟨_, off, f1, rfl, fun j hj => (World.cell?_of_block (hk _ h2 h1)).trans (f3 j hj)⟩
  · obtain ⟨h1, h2, h3, h4, h5⟩ := h.own i hi hn
    exact ⟨h1, by omega, fun o => (World.frozen?_of_block (hk _ h2 h1)).trans (h3 o), h4, h5⟩
theorem BuiltT.keep {P : Nat → Prop} {w w' : World} {v : Value} {k : Nat} {ts : List St} (h : BuiltT P w v k ts) (hs : w.heap.size ≤ w'.heap.size) (hk : ∀ b, b < w.heap.size → P b → w'.heap[b]? = w.heap[b]?) : BuiltT P w' v k ts := by
  obtain ⟨V, Bk, h1, h2, h3⟩ := h
  exact ⟨V, Bk, ownsRow_keep h1 (fun b hb e => hk b hb (h2 b e)), h2, h3.keep hs hk⟩

/-- While steps and the addresses of the next header grow. -/
structure ApAt (w : World) (N : Nat) (s t : Int) (L : List Int) (n : Nat) (ao : Option Addr) (c : Nat) (v : Value) (k : Nat) (ts : List St) (wr : World) : Prop where
  own : wr.ownsRow w.heap.size 2 1 (.slice ao n c) n (L.map (Value.int .i64))
  below : Below w.heap.size w wr
  hd : HdAt wr N 0 s t (.slice ao n c)
  ge : w.heap.size ≤ N
  lt : N < wr.heap.size
  fr : ∀ o, wr.frozen? ⟨N, o, none⟩ = false
  ne : (Value.slice ao n c).ownBlock ≠ some N
  out : BuiltT (fun b => w.heap.size ≤ b ∧ b ≠ N ∧ (Value.slice ao n c).ownBlock ≠ some b) wr v k ts
theorem ApAt.put {w wr w1 w2 w3 : World} {N n c k g cap : Nat} {s t : Int} {L : List Int} {ao : Option Addr} {v z : Value} {ts : List St} {V : Nat → Value} {Bk : Nat → Nat} (h : ApAt w N s t L n ao c v k ts wr)
    (hin : Inner (fun b => w.heap.size ≤ b ∧ b ≠ N ∧ (Value.slice ao n c).ownBlock ≠ some b) wr v.ownBlock k V Bk (fun i => (ts.getD i st0).2.2)) (hr : wr.ownsRow 0 73 3 v k (cellsT ts k V)) (hpr : ∀ r, v.ownBlock = some r → w.heap.size ≤ r ∧ r ≠ N ∧ (Value.slice ao n c).ownBlock ≠ some r)
    (hb1 : Below wr.heap.size wr w1) (hz : OwI wr.heap.size w1 z (ts.getD k st0).2.2) (hb2 : Below w1.heap.size w1 w2)
    (hown : w3.ownsRow 0 73 3 (.slice (some ⟨g, 0, none⟩) (k + 1) cap) (k + 1) (cellsT ts k V ++ [.bool (ts.getD k st0).1, .int .i64 (ts.getD k st0).2.1, z])) (hg : w2.grownBy w3 v.ownBlock) (hat : v.ownBlock = some g ∨ g = w2.heap.size) :
    ApAt w N s t L n ao c (.slice (some ⟨g, 0, none⟩) (k + 1) cap) (k + 1) ts w3 := by
  have z0 := h.below.size
  have z1 := hb1.size
  have z2 := hb2.size
  have z3 := hg.size
  have zN := h.lt
  have K : ∀ b, b < wr.heap.size → v.ownBlock ≠ some b → w3.heap[b]? = wr.heap[b]? := fun b hb hne => (hg.block b (by omega) (Ne.symm hne)).trans ((hb2.block b (by omega)).trans (hb1.block b hb))
  have hvN : v.ownBlock ≠ some N := fun e => (hpr N e).2.1 rfl
  have KN := K N zN hvN
  refine ⟨ownsRow_keep h.own (fun b hb e => K b hb (fun e' => (hpr b e').2.2 e)), (below_on (below_on h.below hb1) hb2).grown hg (by omega) (fun r hr' => (hpr r hr').1), ⟨(World.cell?_of_block KN).trans h.hd.seq, (World.cell?_of_block KN).trans h.hd.start, (World.cell?_of_block KN).trans h.hd.addrs⟩, h.ge, by omega, fun o => (World.frozen?_of_block KN).trans (h.fr o), h.ne, ?_⟩
  exact BuiltT.step hin hr hpr (fun _ hh => hh) (fun b hb => ⟨by omega, by omega, fun e => by have := (h.own.lt b e).2; omega⟩) hb1 hz hb2 hown hg hat
theorem ApAt.addr {w wr U w3 : World} {N n c k g cap : Nat} {s t x : Int} {L : List Int} {ao : Option Addr} {v : Value} {ts : List St} (h : ApAt w N s t L n ao c v k ts wr) (hb : Below wr.heap.size wr U)
    (hown : w3.ownsRow w.heap.size 2 1 (.slice (some ⟨g, 0, none⟩) (n + 1) cap) (n + 1) ((L.map (Value.int .i64)) ++ [.int .i64 x])) (hg : U.grownBy w3 (Value.slice ao n c).ownBlock) (hat : (Value.slice ao n c).ownBlock = some g ∨ g = U.heap.size) :
    ApAt w N s t (L ++ [x]) (n + 1) (some ⟨g, 0, none⟩) cap v k ts (w3.setCell ⟨N, 2, none⟩ (.slice (some ⟨g, 0, none⟩) (n + 1) cap)) := by
  have hz := hb.size
  have hz3 := hg.size
  have hlt := h.lt
  have hge := h.ge
  have z0 := h.below.size
  have hNU : N < U.heap.size := Nat.lt_of_lt_of_le h.lt hz
  have hgN : g ≠ N := by
    rcases hat with e | e
    · intro e2; exact h.ne (by rw [e, e2])
    · omega
  have cN : ∀ o, w3.cell? ⟨N, o, none⟩ = wr.cell? ⟨N, o, none⟩ := fun o => (World.cell?_of_block (hg.block N hNU (Ne.symm h.ne))).trans ((bcell hb).1 _ _ h.lt)
  have fN : ∀ o, w3.frozen? ⟨N, o, none⟩ = wr.frozen? ⟨N, o, none⟩ := fun o => (World.frozen?_of_block (hg.block N hNU (Ne.symm h.ne))).trans ((bcell hb).2 _ _ h.lt)
  have hoth : ∀ b o, b ≠ N ∨ o ≠ 2 → (w3.setCell ⟨N, 2, none⟩ (.slice (some ⟨g, 0, none⟩) (n + 1) cap)).cell? ⟨b, o, none⟩ = w3.cell? ⟨b, o, none⟩ := fun b o hne => World.cell?_setCell_other _ _ _ _ (by intro e; injection e with e1 e2; rcases hne with h1 | h1 <;> simp_all)
  have hw : Wr (fun y => y = N) w3 (w3.setCell ⟨N, 2, none⟩ (.slice (some ⟨g, 0, none⟩) (n + 1) cap)) := (Wr.refl (fun y => y = N) _).setCell (p := ⟨N, 2, none⟩) rfl _
  refine ⟨?_, ?_, ⟨?_, ?_, ?_⟩, hge, ?_, ?_, ?_, ?_⟩
  · exact ownsRow_wr1 (by simpa using hown) (by simp [Value.ownBlock]; exact hgN)
  · exact ((below_on h.below hb).grown hg (by omega) (fun r hr => by have := (h.own.lt r hr).1; omega)).setCell (p := ⟨N, 2, none⟩) (by show w.heap.size ≤ N; omega) _
  · rw [hoth _ _ (Or.inr (by omega)), cN]; exact h.hd.seq
  · rw [hoth _ _ (Or.inr (by omega)), cN]; exact h.hd.start
  · have h2 := h.hd.addrs
    simp only [Nat.zero_add] at h2 ⊢
    have := cN 2
    rw [h2] at this
    simp [go_sem, this]
  · simp; omega
  · intro o; simp [go_sem, fN, h.fr]
  · simp [Value.ownBlock]; exact hgN
  · have o1 : BuiltT (fun b => (w.heap.size ≤ b ∧ b ≠ N ∧ (Value.slice ao n c).ownBlock ≠ some b) ∧ b ≠ g) wr v k ts := h.out.mono (fun b hP hlt' => ⟨hP, by
      rcases hat with e | e
      · intro e2; exact hP.2.2 (by rw [e, e2])
      · omega⟩)
    refine (o1.keep (w' := w3.setCell ⟨N, 2, none⟩ (.slice (some ⟨g, 0, none⟩) (n + 1) cap)) (by simp; omega) (fun b hb' hP => ?_)).mono (fun b hP _ => ⟨hP.1.1, hP.1.2.1, by simp [Value.ownBlock]; exact fun e => hP.2 e.symm⟩)
    exact (hw.block b (by omega) (fun e => hP.1.2.1 e)).trans ((hg.block b (by omega) (Ne.symm hP.1.2.2)).trans (hb.block b hb'))
end Go.Proofs.Ytdjdfkhgkadhgaa
/- Chapter 3, the model's side: 'l3Append', walked. -/
namespace Go.Proofs.Ytdjdfkhgkadhgaa
open Go.RowKit

set_option maxHeartbeats 4000000 in
set_option maxRecDepth 4000 in
/-- 'spec.l3Append' of a header and puts that have no fault. -/
theorem l3Append {S T : Nat → Prop} {w : World} {bh o : Nat} {y v : Value} {s t : Int} {A : List Int} {qs : List (Int × List Int)} (hh : HdAt w bh o s t y) (hA : RdI S w y A) (hq : RdP T w v qs) (hhd : headF s t A = 0) (hs2 : s < 65000) (hqf : hpF 12 qs = 0) (hn : A.length + qs.length ≤ 24) :
    Calls Try.prog 61 #[.pointer (some ⟨bh, o, none⟩), v] w fun e w' => ∃ z, e = .returned z ∧ Below w.heap.size w w' ∧ BuiltT (w.heap.size ≤ ·) w' z (qs.length + 3) (apTs s t A qs) := by
  obtain ⟨⟨hs1, _, ht, ht'⟩, hl24, _⟩ := headF_zero hhd
  obtain ⟨_, hqA⟩ := hpF_zero hqf
  obtain ⟨i0, hi, hz0, hz1, hz2⟩ := info_parts Try.infoStep
  obtain ⟨j0, hj, jz0, jz1, jz2⟩ := info_parts Try.infoInt
  obtain ⟨ay, cy, rfl⟩ := hA.shape
  obtain ⟨av, cv, rfl, _⟩ := hq.shape
  have HHd := hide (fun (w' : World) (y' : Value) (L : List Int) (hL : L = A ++ qs.map Prod.fst) (h : RdI (fun _ => True) w' y' L) => l3Head (s + 1) t h (by rw [hL]; simp; omega) (by omega))
  have HPl := hide (packL_len (s := s + 1) (t := t) (xs := A ++ qs.map Prod.fst) (by simp; omega))
  have HSl := hide (fun (w' : World) (hb : Below w.heap.size w w') (r : Nat) (hr : r ≤ 24) => l3Slot (r : Int) w' (hh.later hb) ht ht' (by omega) (by omega))
  have HLi := hide (fun (w' : World) (hb : Below w.heap.size w w') => l1IntsOwn (hA.later hb) (by omega))
  have HTA := hide (apTs_at s t A qs)
  have HT0 := hide (apTs_0 s t A qs)
  have HT1 := hide (apTs_1 s t A qs)
  have HT2 := hide (apTs_2 s t A qs)
  generalize apTs s t A qs = ts at HTA HT0 HT1 HT2 ⊢
  obtain ⟨l, hl⟩ : ∃ l, A.length = l := ⟨_, rfl⟩
  obtain ⟨m, hm⟩ : ∃ m, qs.length = m := ⟨_, rfl⟩
  have HQ := hide hq
  have HM := hide hm
  have HL := hide hl
  have HqA := hide hqA
  have HHh := hide hh
  rw [hm] at HT0 HT1 HT2 hn ⊢
  rw [hl] at HLi HTA hl24 hn
  obtain ⟨LL, hLL⟩ : ∃ LL, A ++ qs.map Prod.fst = LL := ⟨_, rfl⟩
  have HLL := hide hLL
  rw [hLL] at HT1 HPl
  have hws : IntKind.i64.wrap (s + 1) = s + 1 := by simp [IntKind.wrap, IntKind.bits, IntKind.signed]; omega
  have A0 := hide (below_alloc w (.cells #[] 73))
  have HW : Hid (Below w.heap.size w (w.alloc (.cells #[] 73)) ∧ HdAt (w.alloc (.cells #[] 73)) bh o s t (.slice ay l cy) ∧ BuiltT (w.heap.size ≤ ·) (w.alloc (.cells #[] 73)) (.slice (some ⟨w.heap.size, 0, none⟩) 0 0) 0 ts) :=
    ⟨A0.out, by have := hh.later A0.out; rw [hl] at this; exact this, BuiltT.empty w _ (Nat.le_refl _) ts⟩
  clear hh hA hq hhd hqf hqA hl hm hLL A0
  go_enter Try.func61, Try.ntmps61
  go_upto_region 2 with fail
  refine forget (fun wx => Below w.heap.size w wx ∧ HdAt wx bh o s t (.slice ay l cy) ∧ BuiltT (w.heap.size ≤ ·) wx (.slice (some ⟨w.heap.size, 0, none⟩) 0 0) 0 ts) HW.out ?_
  clear HW
  rintro V ⟨hbV, hHd, hbu⟩
  have HBV := hide hbV
  have HBu := hide hbu
  have h0 := hHd.seq
  have h1 := hHd.start
  have h2 := hHd.addrs
  have hbl : bh < V.heap.size := World.block_lt_of_cell? _ _ h0
  clear hbV hHd hbu
  obtain ⟨W1, hW1⟩ : ∃ W1, V.drew = W1 := ⟨_, rfl⟩
  obtain ⟨W2, hW2⟩ : ∃ W2, (V.alloc (.cells #[.int .i64 0, .int .i64 0, .slice none 0 0] 52)).drew = W2 := ⟨_, rfl⟩
  have b1 : Below V.heap.size V W1 := by rw [← hW1]; exact below_drewN V 1
  have z1 : W1.heap.size = V.heap.size := by rw [← hW1]; rfl
  have b2 : Below V.heap.size V W2 := by rw [← hW2]; exact below_on (below_alloc V _) (below_drewN _ 1)
  have z2 : W2.heap.size = V.heap.size + 1 := by rw [← hW2]; show (V.alloc _).heap.size = _; simp
  have m0 : W2.cell? ⟨V.heap.size, 0, none⟩ = some (.int .i64 0) := by rw [← hW2]; show (V.alloc _).cell? _ = _; simp [go_sem]
  have m1 : W2.cell? ⟨V.heap.size, 1, none⟩ = some (.int .i64 0) := by rw [← hW2]; show (V.alloc _).cell? _ = _; simp [go_sem]
  have m2 : W2.cell? ⟨V.heap.size, 2, none⟩ = some (.slice none 0 0) := by rw [← hW2]; show (V.alloc _).cell? _ = _; simp [go_sem]
  have mf : ∀ o, W2.frozen? ⟨V.heap.size, o, none⟩ = false := by rw [← hW2]; intro o; show (V.alloc _).frozen? _ = _; simp [go_sem]
  have Q1 := hide (And.intro b1 z1)
  have Q2 := hide (And.intro (And.intro b2 z2) (And.intro m0 (And.intro m1 (And.intro m2 mf))))
  have HW1 := hide hW1
  have HW2 := hide hW2
  clear hW1 hW2 b1 b2 z1 z2 m0 m1 m2 mf
  go_wp2_with fail
  go_region_held3 (fun w' => w'.cell? ⟨bh, o, none⟩ = some (.int .i64 s) ∧ w'.cell? ⟨bh, o + 1, none⟩ = some (.int .i64 t) ∧ w'.cell? ⟨bh, o + 2, none⟩ = some (.slice ay l cy)) (simp [go_sem, *])
    (first
      | (go_at_call 82; rw [HW1.out]; refine (HLi.out W1 (below_on HBV.out Q1.out.1)).mono ?_; rintro e w4 ⟨z4, rfl, hb4, ho4⟩; obtain ⟨a4, k4, rfl⟩ := owns_shape ho4; have c0 := cell_later hb4 (cell_later Q1.out.1 h0); have c1 := cell_later hb4 (cell_later Q1.out.1 h1); have c3 := cell_later hb4 (cell_later Q1.out.1 h2); have HB4 := hide (below_on Q1.out.1 hb4); have HO4 := hide ho4; have hw4 : bh < w4.heap.size := World.block_lt_of_cell? _ _ c0; have hr4 : ¬ bh = w4.heap.size := (by omega); clear hb4 ho4)
      | (go_at_call 82; rw [HW2.out]; refine (HLi.out W2 (below_on HBV.out Q2.out.1.1)).mono ?_; rintro e w4 ⟨z4, rfl, hb4, ho4⟩; obtain ⟨a4, k4, rfl⟩ := owns_shape ho4; have c0 := cell_later hb4 (cell_later Q2.out.1.1 h0); have c1 := cell_later hb4 (cell_later Q2.out.1.1 h1); have c3 := cell_later hb4 (cell_later Q2.out.1.1 h2); have n0 := cell_later hb4 Q2.out.2.1; have n1 := cell_later hb4 Q2.out.2.2.1; have n2 := cell_later hb4 Q2.out.2.2.2.1; have nf0 := ((bcell hb4).2 _ 0 (by rw [Q2.out.1.2]; exact Nat.lt_succ_self _)).trans (Q2.out.2.2.2.2 0); have nf1 := ((bcell hb4).2 _ 1 (by rw [Q2.out.1.2]; exact Nat.lt_succ_self _)).trans (Q2.out.2.2.2.2 1); have nf2 := ((bcell hb4).2 _ 2 (by rw [Q2.out.1.2]; exact Nat.lt_succ_self _)).trans (Q2.out.2.2.2.2 2); have HNf : Hid (∀ o, w4.frozen? ⟨V.heap.size, o, none⟩ = false) := (fun o => ((bcell hb4).2 _ o (by rw [Q2.out.1.2]; exact Nat.lt_succ_self _)).trans (Q2.out.2.2.2.2 o)); have HB4 := hide (below_on Q2.out.1.1 hb4); have HO4 := hide ho4; have hw4 : V.heap.size < w4.heap.size := World.block_lt_of_cell? _ _ n0; clear hb4 ho4))
  case' _ =>
    clear c0 c1 c3
    obtain ⟨V5, hV5⟩ : ∃ V5, w4.alloc (.cells #[.int .i64 (s + 1), .int .i64 t, .slice a4 l k4] 52) = V5 := ⟨_, rfl⟩
    have HSt : Hid (ApAt w w4.heap.size (s + 1) t A l a4 k4 (.slice (some ⟨w.heap.size, 0, none⟩) 0 0) 0 ts V5) := by
      rw [← hV5]
      have hbA := below_alloc w4 (.cells #[.int .i64 (s + 1), .int .i64 t, .slice a4 l k4] 52)
      have q1 := HBV.out.size
      have q2 := HB4.out.size
      have q3 := Q1.out.2
      refine ⟨ownsRow_base (ownsRow_later HO4.out hbA) (by omega), below_on (below_on HBV.out HB4.out) hbA, HdAt_new _ _ _ _ _, by omega, by simp, fun o => by simp [go_sem], fun e => by have := (HO4.out.lt _ e).2; omega, ?_⟩
      exact ((HBu.out.mono (P' := fun b => w.heap.size ≤ b ∧ b ≠ w4.heap.size ∧ (Value.slice a4 l k4).ownBlock ≠ some b) (fun b hP hb => ⟨hP, by omega, fun e => by have := (HO4.out.lt _ e).1; omega⟩)).later HB4.out).later hbA
    obtain ⟨N, hN⟩ : ∃ N, w4.heap.size = N := ⟨_, rfl⟩
    rw [hN] at HSt
    rw [hV5]
    (try rw [hN])
    clear hV5 hN hw4 hr4
  rotate_left
  case' _ =>
    clear c0 c1 c3
    obtain ⟨V5, hV5⟩ : ∃ V5, ((w4.setCell ⟨V.heap.size, 0, none⟩ (.int .i64 (s + 1))).setCell ⟨V.heap.size, 1, none⟩ (.int .i64 t)).setCell ⟨V.heap.size, 2, none⟩ (.slice a4 l k4) = V5 := ⟨_, rfl⟩
    have HSt : Hid (ApAt w V.heap.size (s + 1) t A l a4 k4 (.slice (some ⟨w.heap.size, 0, none⟩) 0 0) 0 ts V5) := by
      rw [← hV5]
      have q1 := HBV.out.size
      have q2 := HB4.out.size
      have q3 := Q2.out.1.2
      have hne : (Value.slice a4 l k4).ownBlock ≠ some V.heap.size := fun e => by have := (HO4.out.lt _ e).1; omega
      refine ⟨ownsRow_base (ownsRow_wr1 (ownsRow_wr1 (ownsRow_wr1 HO4.out hne) hne) hne) (by omega), (((below_on HBV.out HB4.out).setCell (p := ⟨V.heap.size, 0, none⟩) q1 _).setCell (p := ⟨V.heap.size, 1, none⟩) q1 _).setCell (p := ⟨V.heap.size, 2, none⟩) q1 _, ⟨by simp [go_sem, n0], by simp [go_sem, n1], by simp [go_sem, n2]⟩, q1, by simp; omega, fun o => ?_, hne, ?_⟩
      · have := HNf.out o
        simp [go_sem, this]
      · have o1 := (HBu.out.mono (P' := fun b => w.heap.size ≤ b ∧ b ≠ V.heap.size ∧ (Value.slice a4 l k4).ownBlock ≠ some b) (fun b hP hb => ⟨hP, by omega, fun e => by have := (HO4.out.lt _ e).1; omega⟩)).later HB4.out
        refine o1.keep (by simp) (fun b hb hP => ?_)
        have hw : Wr (fun y => y = V.heap.size) w4 (((w4.setCell ⟨V.heap.size, 0, none⟩ (.int .i64 (s + 1))).setCell ⟨V.heap.size, 1, none⟩ (.int .i64 t)).setCell ⟨V.heap.size, 2, none⟩ (.slice a4 l k4)) := (((Wr.refl (fun y => y = V.heap.size) _).setCell (p := ⟨V.heap.size, 0, none⟩) rfl _).setCell (p := ⟨V.heap.size, 1, none⟩) rfl _).setCell (p := ⟨V.heap.size, 2, none⟩) rfl _
        exact hw.block b hb hP.2.1
    obtain ⟨N, hN⟩ : ∃ N, V.heap.size = N := ⟨_, rfl⟩
    rw [hN] at HSt
    rw [hV5]
    (try rw [hN])
    clear hV5 hN hw4 n0 n1 n2 nf0 nf1 nf2 HNf
  all_goals
    clear HB4 HO4 h0 h1 h2 hbl HBu HBV Q1 Q2 HW1 HW2 HLi
    go_wp2
    go_loopw [5, 7] (fun vo i wr => ∃ (k r : Nat) (ao : Option Addr) (c : Nat), k ≤ m ∧ l + k = r ∧ i = .int .i64 k ∧ Hid (∃ av cv, vo = .slice av k cv) ∧ Hid (ApAt w N (s + 1) t (A ++ (qs.map Prod.fst).take k) r ao c vo k ts wr)) (fun _ i _ => m - (intOf i).toNat)
    case atStart => exact ⟨0, l, a4, k4, Nat.zero_le _, rfl, rfl, ⟨_, _, rfl⟩, by have := HSt.out; simpa [Hid] using this⟩
    case round =>
      obtain ⟨k, r, ao, c, hk, hr, rfl, HSh, HS⟩ := hrel
      obtain ⟨ap, cp, rfl⟩ := HSh.out
      have hlt' := HS.out.lt
      have x2 := HS.out.hd.addrs
      simp only [Nat.zero_add] at x2
      have hr24 : r ≤ 24 := by omega
      by_cases hlt : k < m
      · obtain ⟨b2, off2, V2, rfl, q1, q2, q3⟩ := HQ.out.at (k := k) (by rw [HM.out]; exact hlt)
        obtain ⟨ao3, c3, rfl⟩ := q3.shape
        have HBw := hide HS.out.below
        have g1 := cell_later HBw.out q1
        have g2 := cell_later HBw.out q2
        have hw64 := (wordsF_zero (HqA.out k (by rw [HM.out]; exact hlt)).2).1
        have HCp := hide (fun (w' : World) (hb : Below w.heap.size w w') => l1Ints (q3.later hb) (by omega))
        have HTk := hide (HTA.out k (by rw [HM.out]; exact hlt))
        have HSk := hide (fun (w' : World) (hb : Below w.heap.size w w') => HSl.out w' hb r hr24)
        rw [show ((l : Int) + (k : Int)) = (r : Int) by omega] at HTk
        obtain ⟨x, hx⟩ : ∃ x, (qs.getD k (0, [])).1 = x := ⟨_, rfl⟩
        obtain ⟨ws, hws'⟩ : ∃ ws, (qs.getD k (0, [])).2 = ws := ⟨_, rfl⟩
        have HX := hide hx
        rw [hx] at g1
        rw [hws'] at g2 HCp HTk hw64
        obtain ⟨l3, hl3⟩ : ∃ l3, ws.length = l3 := ⟨_, rfl⟩
        have HL3 := hide hl3
        rw [hl3] at g2 HCp
        obtain ⟨p, hp⟩ : ∃ p, (t + (r : Int)) % 24 = p := ⟨_, rfl⟩
        have hp1 : 0 ≤ p ∧ p ≤ 23 := by omega
        rw [hp] at HTk HSk
        have hwp : IntKind.i64.wrap (2 + p) = 2 + p := by simp [IntKind.wrap, IntKind.bits, IntKind.signed]; omega
        have hk0 : (0 : Int) ≤ (k : Int) := Int.natCast_nonneg _
        have hk1 : (k : Int) < (m : Int) := by omega
        obtain ⟨V3, Bk3, hown3', hpr3, hin3⟩ := HS.out.out
        have HOw := hide hown3'
        have HPr := hide hpr3
        have HIn := hide hin3
        have hbw : b2 < w.heap.size := World.block_lt_of_cell? _ _ q1
        have hzw := HBw.out.size
        clear q1 q2 q3 hx hws' hl3 hp hown3' hpr3 hin3
        go_wp2_with fail
        go_region_held3 (fun w' => w'.cell? ⟨N, 2, none⟩ = some (.slice ao r c) ∧ w'.cell? ⟨b2, off2 + k * 2 + 1, none⟩ = some (.slice ao3 l3 c3)) (first | exact ⟨x2, g2⟩ | exact ⟨e0, e1⟩ | exact ⟨cell_later (below_alloc w1 _) e0, cell_later (below_alloc w1 _) e1⟩ | exact ⟨(farN _).trans x2, (farP _).trans g2⟩)
          (first
            | (refine step_append_lies _ (by rfl) _ _ _ (by rfl) 0 73 i0 (.agg #[.bool false, .int .i64 0, .slice none 0 0]) 3 40 Try.underlying27 hi hz0 hz1 hz2 rfl (by omega) _ k _ (by rfl) (ownsRow_later (ownsRow_later HOw.out HB1.out) (below_alloc w1 (.cells #[.bool false, .int .i64 (2 + p), .slice a1 l3 k1] 73))) ⟨w1.heap.size, 0, none⟩ 1 1 [.bool false, .int .i64 (2 + p), .slice a1 l3 k1] (by rfl) (by rfl) (World.news_of_block (cs := #[.bool false, .int .i64 (2 + p), .slice a1 l3 k1]) (t := 73) (fr := (0, 0)) (heap_alloc_new w1 _)) cells3_one (by omega) (by unfold maxLen; omega) (by omega) (Nat.zero_le _) (w1.heap.size + 1) (by simp) ?_; intro g cap w3 hown3 hgrow hat hlt3; have farN : ∀ o, w3.cell? ⟨N, o, none⟩ = wr.cell? ⟨N, o, none⟩ := fun o => (hgrow.cell_far ⟨N, o, none⟩ (by simp; omega) (fun e => (HPr.out _ e.symm).2.1 rfl)).trans (((bcell (below_alloc w1 _)).1 _ _ (by omega)).trans ((bcell HB1.out).1 _ _ hlt')); have farP : ∀ o, w3.cell? ⟨b2, o, none⟩ = wr.cell? ⟨b2, o, none⟩ := fun o => (hgrow.cell_far ⟨b2, o, none⟩ (by simp; omega) (fun e => by have := (HPr.out _ e.symm).1; dsimp only at this; omega)).trans (((bcell (below_alloc w1 _)).1 _ _ (by omega)).trans ((bcell HB1.out).1 _ _ (by omega))))
            | (go_at_call 82; refine (HCp.out _ (below_on HBw.out (below_drewN wr 1))).mono ?_; rintro e w1 ⟨z, rfl, hb1, ho1⟩; obtain ⟨a1, k1, hz1'⟩ := ho1.shape; rw [HL3.out] at hz1'; subst hz1'; have e0 := cell_later hb1 x2; have e1 := cell_later hb1 g2; have HB1 := hide (below_on (below_drewN wr 1) hb1); have HO1 := hide ho1; have hz1w : wr.heap.size ≤ w1.heap.size := hb1.size; have hbw2 : b2 < w1.heap.size := World.block_lt_of_cell? _ _ e1; clear hb1 ho1)
            | (go_at_call 55; refine (HSk.out _ (by first | exact below_on HBw.out (below_drewN wr 1) | exact below_on HBw.out HB1.out)).mono ?_; rintro e wq ⟨rfl, rfl⟩))
        all_goals
          have HS3 := hide (ApAt.put HS.out HIn.out HOw.out HPr.out HB1.out (by rw [HTk.out]; exact HO1.out.mono (Nat.le_refl _)) (below_alloc w1 (.cells #[.bool false, .int .i64 (2 + p), .slice a1 l3 k1] 73)) (by rw [HTk.out]; exact hown3) hgrow (by simpa using hat))
          have y2 := (farN 2).trans x2
          have y1 := (farP (off2 + k * 2)).trans g1
          have yf := HS3.out.fr 2
          have hlt3' := HS3.out.lt
          have hz3' := HS3.out.below.size
          clear hown3 hgrow hat farN farP x2 g1 g2 e0 e1
          have d2 : (w3.drew.alloc (.cells #[.int .i64 x] 2)).cell? ⟨N, 2, none⟩ = some (.slice ao r c) := cell_later (below_alloc w3.drew _) y2
          have e2 : (w3.alloc (.cells #[.int .i64 x] 2)).cell? ⟨N, 2, none⟩ = some (.slice ao r c) := cell_later (below_alloc w3 _) y2
          have HOa : Hid ((w3.drew.alloc (.cells #[.int .i64 x] 2)).ownsRow w.heap.size 2 1 (.slice ao r c) r ((A ++ (qs.map Prod.fst).take k).map (Value.int .i64))) := ownsRow_later (ownsRow_later HS3.out.own (below_drewN _ 1)) (below_alloc _ _)
          have HTake : Hid ((qs.map Prod.fst).take (k + 1) = (qs.map Prod.fst).take k ++ [x]) := by
            unfold Hid
            have hkl : k < (qs.map Prod.fst).length := by simp [HM.out]; exact hlt
            rw [List.take_succ_eq_append_getElem hkl, ← HX.out]
            simp [List.getD, HM.out, hlt]
          go_wp2_with fail
          go_region_law (refine step_append_lies _ (by rfl) _ _ _ (by rfl) w.heap.size 2 j0 (.int .i64 0) 1 8 Try.underlying45 hj jz0 jz1 jz2 rfl (by omega) (.slice ao r c) r _ (by rfl) HOa.out ⟨w3.heap.size, 0, none⟩ 1 1 [.int .i64 x] (by rfl) (by rfl) (World.news_of_block (cs := #[.int .i64 x]) (t := 2) (fr := (0, 0)) (heap_alloc_new w3.drew _)) (by simp [Value.oneCell']) (by omega) (by unfold maxLen; omega) (by omega) (by simp; omega) (w3.heap.size + 1) (by simp) ?_; intro g6 cap6 w6 hown6 hgrow6 hat6 hlt6; have s0 := (hgrow6.cell_far ⟨N, 2, none⟩ (by simp; omega) (fun e => HS3.out.ne e.symm)).trans d2; have s1 : w6.frozen? ⟨N, 2, none⟩ = false := (hgrow6.frozen_far ⟨N, 2, none⟩ (by simp; omega) (fun e => HS3.out.ne e.symm)).trans (((bcell (below_alloc w3.drew _)).2 _ _ (by simp; omega)).trans yf))
          all_goals
            have HS6 := hide (ApAt.addr HS3.out (below_on (below_drewN w3 1) (below_alloc w3.drew (.cells #[.int .i64 x] 2))) (x := x) hown6 hgrow6 (by simpa using hat6))
            rw [List.append_assoc, ← HTake.out] at HS6
            clear hown6 hgrow6 hat6 s0 s1 d2 e2 HOa
            go_wp2
            go_roundw
            case rel => exact ⟨k + 1, r + 1, _, _, hlt, by omega, by go_num, ⟨_, _, rfl⟩, HS6.out⟩
            case measure => simp [intOf]; omega
      · have hkm : k = m := by omega
        subst hkm
        have hLf : A ++ (qs.map Prod.fst).take k = LL := by rw [← HLL.out, List.take_of_length_le (by simp [HM.out])]
        rw [hLf] at HS
        have HBw := hide HS.out.below
        obtain ⟨V3, Bk3, hown3', hpr3, hin3⟩ := HS.out.out
        have HOw := hide hown3'
        have HPr := hide hpr3
        have HIn := hide hin3
        have HRd := hide ((ow_of_owns (by rw [← HLL.out]; simp [HL.out, HM.out]; omega) HS.out.own (by rw [← HLL.out]; simp [HL.out, HM.out]; omega)).rd.narrow (fun _ _ _ => trivial) : RdI (fun _ => True) wr (.slice ao r c) LL)
        have x0 := HS.out.hd.seq
        have x1 := HS.out.hd.start
        simp only [Nat.zero_add] at x1
        have HHk := hide (HHd.out wr _ LL HLL.out.symm HRd.out)
        rw [HPl.out] at HHk
        generalize (s + 1) % 2 = p at HHk HT1
        generalize packL (s + 1) t LL = ws at HHk HT1 HPl
        have hz0' := HS.out.below.size
        clear hown3' hpr3 hin3 hLf
        go_wp2_with fail
        refine HHk.out.mono ?_
        rintro e w5 ⟨g5, a4, k4, w4, rfl, hb4, ho4, rfl, rfl⟩
        have HB4 := hide hb4
        have HO4 := hide ho4
        have hz4 := hb4.size
        clear hb4 ho4
        go_wp2_with (at_builtin; refine wpList_append_lies _ rfl _ _ _ rfl 0 73 i0 (.agg #[.bool false, .int .i64 0, .slice none 0 0]) 3 40 Try.underlying27 hi hz0 hz1 hz2 rfl (by omega) _ k _ (by rfl) (ownsRow_later (ownsRow_later HOw.out HB4.out) (below_alloc w4 (.cells (nine p (.slice a4 64 k4)).toArray 73))) ⟨w4.heap.size, 0, none⟩ 3 3 (nine p (.slice a4 64 k4)) (by rfl) (by rfl) (World.news_of_block (cs := (nine p (.slice a4 64 k4)).toArray) (t := 73) (fr := (0, 0)) (heap_alloc_new w4 _)) cells9_one (by omega) (by unfold maxLen; omega) (by omega) (Nat.zero_le _) (w4.heap.size + 1) (by simp) ?_)
        intro g cap w6 hown6 hgrow hat hlt6
        have HS6 := hide (BuiltT.three (P' := (w.heap.size ≤ ·)) HIn.out HOw.out HPr.out HT0.out HT1.out HT2.out (fun b hb => hb.1) (fun b hb => by omega) HB4.out HO4.out (below_alloc w4 (.cells (nine p (.slice a4 64 k4)).toArray 73)) hown6 hgrow (by simpa using hat))
        have HB6 := hide ((below_on (below_on HBw.out HB4.out) (below_alloc w4 (.cells (nine p (.slice a4 64 k4)).toArray 73))).grown hgrow (by simp; omega) (fun r hr => (HPr.out r hr).1))
        clear hown6 hgrow hat
        go_wp2
        go_ret
        exact ⟨_, rfl, HB6.out, HS6.out⟩
end Go.Proofs.Ytdjdfkhgkadhgaa
/- Chapter 3, the program's side: 'PlanAppend', walked. -/
namespace Go.Proofs.Ytdjdfkhgkadhgaa
open Go.RowKit

set_option maxHeartbeats 3000000 in
set_option maxRecDepth 4000 in
theorem implPlanAppend {S T S1 : Nat → Prop} {w : World} {u v y : Value} {xss : List (List Int)} {ps qs : List (Int × List Int)} (hu : RdII S w u xss) (hv : RdP T w v ps) (hy : RdP S1 w y qs) (hs : Small xss ps) :
    Calls Try.prog 31 #[.agg #[u, v], y] w (EndsT (apF xss ps qs) (apT xss ps qs) w) := by
  unfold EndsT apF apT
  obtain ⟨ao, c, rfl, _⟩ := hu.shape
  obtain ⟨ao', c', rfl, _⟩ := hv.shape
  obtain ⟨aq, cq, rfl, hqm⟩ := hy.shape
  have hmf : ∀ (fn : Fn) (first cap : Array Value) (w : World), (Instr.makeFunc fn first cap).run Try.prog w = .ok (.func fn first cap) w := fun _ _ _ _ => rfl
  have HIn := hide (fun (w' : World) (hb : Below w.heap.size w w') => implHeaderIn (hu.later hb) (hv.later hb) hs)
  have HPF : Hid (∀ w', Below w.heap.size w w' → Calls Try.prog 63 #[.slice aq qs.length cq, .int .i64 12] w' fun e w'' => e = .returned (.int .i64 (hpF 12 qs)) ∧ Below w'.heap.size w' w'') := fun w' hb => homePutsFault 12 (hy.later hb)
  have HQ := hide hy
  obtain ⟨n, hn⟩ : ∃ n, xss.length = n := ⟨_, rfl⟩
  obtain ⟨m, hm⟩ : ∃ m, ps.length = m := ⟨_, rfl⟩
  obtain ⟨k, hk⟩ : ∃ k, qs.length = k := ⟨_, rfl⟩
  have HK := hide hk
  have A0 := hide (below_on (below_alloc w (.cells #[.slice ao n c, .slice ao' m c'] 33)) (below_alloc _ (.cells #[.int .i64 0, .slice none 0 0] 29)))
  by_cases h0 : inF xss ps = 0
  · by_cases hq : hpF 12 qs = 0
    · obtain ⟨_, h66, hhd⟩ := in_ok h0
      obtain ⟨⟨hs1, hs2, ht1, ht2⟩, hA24, hA39⟩ := headF_zero hhd
      obtain ⟨hq12, hqA⟩ := hpF_zero hq
      have HqA := hide hqA
      rw [if_pos h0, if_pos hq]
      rw [h0] at HIn
      rw [hq] at HPF
      have HNx := hide (fun (h1 : inS xss ps < 65000) (h2 : (inA xss ps).length + qs.length ≤ 24) => head_behind hhd h1 hq h2)
      have HTL := hide (apTs_len (inS xss ps) (inT xss ps) (inA xss ps) qs)
      have HTA := hide (apTs_at (inS xss ps) (inT xss ps) (inA xss ps) qs)
      have HT0 := hide (apTs_0 (inS xss ps) (inT xss ps) (inA xss ps) qs)
      have HT1 := hide (apTs_1 (inS xss ps) (inT xss ps) (inA xss ps) qs)
      have HT2 := hide (apTs_2 (inS xss ps) (inT xss ps) (inA xss ps) qs)
      generalize apTs (inS xss ps) (inT xss ps) (inA xss ps) qs = ts at HTL HTA HT0 HT1 HT2 ⊢
      have H00 := hide (And.intro h0 hq)
      generalize inS xss ps = s at HIn HT1 HNx hs1 hs2 ⊢
      generalize inT xss ps = t at HIn HTA HT1 HNx ht1 ht2
      generalize inA xss ps = A at HIn HTL HTA HT0 HT1 HT2 HNx hA24 ⊢
      obtain ⟨l, hl⟩ : ∃ l, A.length = l := ⟨_, rfl⟩
      have HL := hide hl
      rw [hl] at hA24 HTA HNx
      rw [hk] at HPF HQ HTL HTA HT0 HT1 HT2 HNx hq12
      rw [hn, hm] at HIn
      rw [hn, hm, hl, hk]
      obtain ⟨cc, hcc⟩ : ∃ cc : Int, (if s = 65000 then (10 : Int) else if k = 0 then 0 else if 24 < l + k then 8 else 0) = cc := ⟨_, rfl⟩
      obtain ⟨rs, hrs⟩ : ∃ rs : List St, (if inF xss ps = 0 ∧ hpF 12 qs = 0 ∧ s ≠ 65000 ∧ k ≠ 0 ∧ l + k ≤ 24 then ts else []) = rs := ⟨_, rfl⟩
      rw [hcc, hrs]
      have HCC := hide hcc
      have HRS := hide hrs
      clear hu hv hy hs hn hm hk hqm h0 hq h66 hhd hl hA39 hqA hcc hrs
      go_enter Try.func31, Try.ntmps31
      go_wp2_with fail
      refine (HIn.out _ A0.out).mono ?_
      rintro e w1 ⟨z1, rfl, hb1, ho1⟩
      obtain ⟨a1, k1, hz1'⟩ := ho1.shape
      rw [HL.out] at hz1'
      subst hz1'
      have bR := below_alloc w1 (.cells #[.int .i64 0, .int .i64 s, .int .i64 t, .slice a1 l k1] 66)
      have b1' := below_on hb1 bR
      have HB1 := hide (below_on A0.out b1')
      have d0 : w1.cell? ⟨w.heap.size + 1, 0, none⟩ = some (.int .i64 0) := cell_later hb1 (by simp [go_sem])
      have d1 : w1.cell? ⟨w.heap.size + 1, 1, none⟩ = some (.slice none 0 0) := cell_later hb1 (by simp [go_sem])
      have df : Hid (∀ o, w1.frozen? ⟨w.heap.size + 1, o, none⟩ = false) := fun o => ((bcell hb1).2 _ _ (by simp)).trans (by simp [go_sem])
      have hlt1 : w.heap.size + 1 < w1.heap.size := World.block_lt_of_cell? _ _ d0
      have HRA := hide (ho1.rd.later bR)
      clear hb1 ho1 bR b1'
      go_wp2_with fail
      refine (HPF.out _ HB1.out).mono ?_
      rintro e w2 ⟨rfl, hb2⟩
      have r0 : w2.cell? ⟨w1.heap.size, 0, none⟩ = some (.int .i64 0) := cell_later hb2 (by simp [go_sem])
      have r1 : w2.cell? ⟨w1.heap.size, 1, none⟩ = some (.int .i64 s) := cell_later hb2 (by simp [go_sem])
      have r2 : w2.cell? ⟨w1.heap.size, 2, none⟩ = some (.int .i64 t) := cell_later hb2 (by simp [go_sem])
      have r3 : w2.cell? ⟨w1.heap.size, 3, none⟩ = some (.slice a1 l k1) := cell_later hb2 (by simp [go_sem])
      have hlt2 : w1.heap.size < w2.heap.size := World.block_lt_of_cell? _ _ r0
      have bR := below_alloc w1 (.cells #[.int .i64 0, .int .i64 s, .int .i64 t, .slice a1 l k1] 66)
      have bH := below_alloc w2 (.cells #[.int .i64 s, .int .i64 t, .slice a1 l k1] 52)
      have b2' := below_on hb2 bH
      have b12 := below_on bR b2'
      have HW : Hid (Below w.heap.size w (w2.alloc (.cells #[.int .i64 s, .int .i64 t, .slice a1 l k1] 52)) ∧ Var2 (w2.alloc (.cells #[.int .i64 s, .int .i64 t, .slice a1 l k1] 52)) (w.heap.size + 1) (.int .i64 0) (.slice none 0 0) ∧ (∀ o, (w2.alloc (.cells #[.int .i64 s, .int .i64 t, .slice a1 l k1] 52)).frozen? ⟨w.heap.size + 1, o, none⟩ = false) ∧ HdAt (w2.alloc (.cells #[.int .i64 s, .int .i64 t, .slice a1 l k1] 52)) w2.heap.size 0 s t (.slice a1 l k1) ∧ RdI (fun _ => True) (w2.alloc (.cells #[.int .i64 s, .int .i64 t, .slice a1 l k1] 52)) (.slice a1 l k1) A) :=
        ⟨below_on HB1.out b2', ⟨cell_later b12 d0, cell_later b12 d1⟩, fun o => ((bcell b12).2 _ _ hlt1).trans (df.out o), HdAt_new _ _ _ _ _, (HRA.out.later b2').narrow (fun _ _ _ => trivial)⟩
      have hsz : w.heap.size + 1 < w2.heap.size := by omega
      clear hb2 bR bH b2' b12 HIn A0 HPF HB1 HRA d0 d1 df
      go_upto_region 8 with fail
      refine forget (fun wx => Below w.heap.size w wx ∧ Var2 wx (w.heap.size + 1) (.int .i64 0) (.slice none 0 0) ∧ (∀ o, wx.frozen? ⟨w.heap.size + 1, o, none⟩ = false) ∧ HdAt wx w2.heap.size 0 s t (.slice a1 l k1) ∧ RdI (fun _ => True) wx (.slice a1 l k1) A) HW.out ?_
      obtain ⟨H, hH⟩ : ∃ H, w2.heap.size = H := ⟨_, rfl⟩
      rw [hH] at hsz ⊢
      clear HW hH r0 r1 r2 r3 hlt1 hlt2
      rintro V ⟨hbV, ⟨q0, q1⟩, qf, hHd, hRA⟩
      have HBV := hide hbV
      have HQ0 := hide q0
      have HQ1 := hide q1
      have HQf := hide qf
      have HHd := hide hHd
      have HRA := hide hRA
      have h0 := hHd.seq
      have h1 := hHd.start
      have h2 := hHd.addrs
      simp only [Nat.zero_add] at h0 h1 h2
      have hHl : H < V.heap.size := World.block_lt_of_cell? _ _ h0
      have f0 := qf 0
      have f1 := qf 1
      clear hbV hHd hRA qf
      by_cases h65 : s = 65000
      · have e1 : cc = 10 := by rw [← HCC.out, if_pos h65]
        have e2 : rs = [] := by rw [← HRS.out, if_neg (fun h => h.2.2.1 h65)]
        subst e1 e2 h65
        go_wp2
        exact bodyPost_ret (v := .agg #[.int .i64 10, .slice none 0 0]) (by simp [results, Try.results31, go_sem, q0, q1]) rfl ⟨_, rfl, (HBV.out.setCell (by simp) _).setCell (by simp) _, OwT_nil _ _⟩
      · by_cases hk0 : k = 0
        · have e1 : cc = 0 := by rw [← HCC.out, if_neg h65, if_pos hk0]
          have e2 : rs = [] := by rw [← HRS.out, if_neg (fun h => h.2.2.2.1 hk0)]
          subst e1 e2 hk0
          go_wp2
          exact bodyPost_ret (v := .agg #[.int .i64 0, .slice none 0 0]) (by simp [results, Try.results31, go_sem, q0, q1]) rfl ⟨_, rfl, (HBV.out.setCell (by simp) _).setCell (by simp) _, OwT_nil _ _⟩
        · have hk0' : ¬ (k : Int) = 0 := by omega
          have hwr : IntKind.i64.wrap ((l : Int) + (k : Int)) = (l : Int) + (k : Int) := by simp [IntKind.wrap, IntKind.bits, IntKind.signed]; omega
          by_cases h24 : 24 < l + k
          · have e1 : cc = 8 := by rw [← HCC.out, if_neg h65, if_neg hk0, if_pos h24]
            have e2 : rs = [] := by rw [← HRS.out, if_neg (fun h => by have := h.2.2.2.2; omega)]
            subst e1 e2
            have h24' : (24 : Int) < (l : Int) + (k : Int) := by omega
            have b8 := below_alloc V (.cells #[.int .i64 (l : Int)] 2)
            have v0 := cell_later b8 q0
            have v1 := cell_later b8 q1
            have g0 := ((bcell b8).2 _ _ (World.block_lt_of_cell? _ _ q0)).trans f0
            have g1 := ((bcell b8).2 _ _ (World.block_lt_of_cell? _ _ q0)).trans f1
            have HB8 := hide (below_on HBV.out b8)
            clear b8
            go_wp2
            exact bodyPost_ret (v := .agg #[.int .i64 8, .slice none 0 0]) (by simp [results, Try.results31, go_sem, v0, v1]) rfl ⟨_, rfl, (HB8.out.setCell (by simp) _).setCell (by simp) _, OwT_nil _ _⟩
          · have e1 : cc = 0 := by rw [← HCC.out, if_neg h65, if_neg hk0, if_neg h24]
            have e2 : rs = ts := by rw [← HRS.out, if_pos ⟨H00.out.1, H00.out.2, h65, hk0, by omega⟩]
            subst e1 e2
            have h24' : ¬ (24 : Int) < (l : Int) + (k : Int) := by omega
            have hln : l + k ≤ 24 := by omega
            have HN1 := hide (HNx.out (by omega) (by omega))
            obtain ⟨L, hLL⟩ : ∃ L, A ++ qs.map Prod.fst = L := ⟨_, rfl⟩
            have HLL := hide hLL
            rw [hLL] at HN1 HT1
            obtain ⟨j, hj⟩ : ∃ j, L.length = j := ⟨_, rfl⟩
            have HJ := hide hj
            clear hLL hj
            have b8 := below_alloc V (.cells #[.int .i64 (l : Int)] 2)
            have HW : Hid (Below w.heap.size w (V.alloc (.cells #[.int .i64 (l : Int)] 2)) ∧ Var2 (V.alloc (.cells #[.int .i64 (l : Int)] 2)) (w.heap.size + 1) (.int .i64 0) (.slice none 0 0) ∧ (∀ o, (V.alloc (.cells #[.int .i64 (l : Int)] 2)).frozen? ⟨w.heap.size + 1, o, none⟩ = false) ∧ HdAt (V.alloc (.cells #[.int .i64 (l : Int)] 2)) H 0 s t (.slice a1 l k1) ∧ RdI (fun _ => True) (V.alloc (.cells #[.int .i64 (l : Int)] 2)) (.slice a1 l k1) A ∧ (V.alloc (.cells #[.int .i64 (l : Int)] 2)).cell? ⟨V.heap.size, 0, none⟩ = some (.int .i64 (l : Int))) :=
              ⟨below_on HBV.out b8, ⟨cell_later b8 q0, cell_later b8 q1⟩, fun o => ((bcell b8).2 _ _ (World.block_lt_of_cell? _ _ q0)).trans (HQf.out o), HHd.out.later b8, HRA.out.later b8, by simp [go_sem]⟩
            clear b8
            go_upto_region 16 with fail
            refine forget (fun wx => Below w.heap.size w wx ∧ Var2 wx (w.heap.size + 1) (.int .i64 0) (.slice none 0 0) ∧ (∀ o, wx.frozen? ⟨w.heap.size + 1, o, none⟩ = false) ∧ HdAt wx H 0 s t (.slice a1 l k1) ∧ RdI (fun _ => True) wx (.slice a1 l k1) A ∧ wx.cell? ⟨V.heap.size, 0, none⟩ = some (.int .i64 (l : Int))) HW.out ?_
            obtain ⟨B, hB⟩ : ∃ B, V.heap.size = B := ⟨_, rfl⟩
            rw [hB]
            clear HW hB h0 h1 h2 hHl f0 f1 q0 q1 HBV HQ0 HQ1 HQf HHd HRA
            rintro V5 ⟨hbV, ⟨q0, q1⟩, qf, hHd, hRA, hB5⟩
            have HBV := hide hbV
            have HQ0 := hide q0
            have HQ1 := hide q1
            have HQf := hide qf
            have HHd := hide hHd
            have HRA := hide hRA
            have HB5 := hide hB5
            have c0 := hHd.seq
            have c1 := hHd.start
            have c2 := hHd.addrs
            simp only [Nat.zero_add] at c0 c1 c2
            clear hbV hHd hRA qf q0 q1 hB5
            go_wp2_with fail
            refine (headerBehind s t HRA.out (HQ.out.later HBV.out) (by rw [HL.out]; omega) (by rw [HK.out]; omega) (by omega) (by omega)).mono ?_
            rintro e w4 ⟨z4, rfl, hb4, ho4⟩
            rw [HLL.out] at ho4
            obtain ⟨a4, k4, hz4⟩ := ho4.shape
            rw [HJ.out] at hz4
            subst hz4
            have HB4 := hide hb4
            have HO4 := hide ho4.rd
            have HPut : Hid (∀ i, i < qs.length → (rs.getD i st0).1 = false ∧ ∀ w' yv, Below w4.heap.size w4 w' → RdI S1 w' yv (qs.getD i (0, [])).2 → Calls Try.prog 64 #[.int .i64 (i : Int), .agg #[.int .i64 (qs.getD i (0, [])).1, yv], .pointer (some ⟨H, 0, none⟩), .pointer (some ⟨B, 0, none⟩)] w' fun e w'' => ∃ z, e = .returned (.agg #[.bool false, .int .i64 (rs.getD i st0).2.1, z]) ∧ Below w'.heap.size w' w'' ∧ OwI w'.heap.size w'' z (rs.getD i st0).2.2) := by
              intro i hi
              have hi' : i < k := by rw [HK.out] at hi; exact hi
              rw [HTA.out i hi']
              exact ⟨rfl, fun w' yv hb hyv => planAp1 (xs := (qs.getD i (0, [])).2) (i : Int) _ ((HHd.out.later HB4.out).later hb) (cell_later hb (cell_later HB4.out HB5.out)) hyv (by have := (wordsF_zero (HqA.out i hi).2).1; omega) ht1 ht2 (by omega) (by omega) (by omega) (by omega)⟩
            have HSt := hide (stepsOfP (D := H) (H := B) (s + 1) t rs (HQ.out.later (below_on HBV.out HB4.out)) (by rw [HK.out]; omega) HO4.out HN1.out (by rw [HK.out]; exact HTL.out) (by rw [HK.out]; exact HT0.out) (by rw [HK.out]; exact HT1.out) (by rw [HK.out]; exact HT2.out) HPut.out)
            clear hb4 ho4 HPut
            go_wp2_with fail
            refine HSt.out.mono ?_
            rintro e w6 ⟨z6, rfl, hb6, ho6⟩
            obtain ⟨a6, k6, hz6⟩ := ho6.shape
            rw [HTL.out] at hz6
            subst hz6
            have hb56 := below_on HB4.out hb6
            have v0 := cell_later hb56 HQ0.out
            have v1 := cell_later hb56 HQ1.out
            have hq5 : w.heap.size + 1 < V5.heap.size := World.block_lt_of_cell? _ _ HQ0.out
            have f0 := ((bcell hb56).2 _ _ hq5).trans (HQf.out 0)
            have f1 := ((bcell hb56).2 _ _ hq5).trans (HQf.out 1)
            have hz56 := HB4.out.size
            have hzB := HBV.out.size
            have HFin := hide (ret_steps (x := .int .i64 0) (below_on HBV.out hb56) (r := w.heap.size + 1) (by omega) (ho6.ow rfl (by rw [HTL.out]; omega)) (fun b hb => ⟨by have := hb.1; omega, hb.2⟩))
            clear hb6 hb56 ho6 c0 c1 c2
            go_wp2
            exact bodyPost_ret (v := .agg #[.int .i64 0, .slice a6 (k + 3) k6]) (by simp [results, Try.results31, go_sem, v0, v1]) rfl ⟨_, rfl, HFin.out.1, HFin.out.2⟩
    · rw [if_pos h0, if_neg hq, if_neg (fun h => hq h.2.1)]
      rw [h0] at HIn
      rw [hn, hm] at HIn
      rw [hk] at HPF
      rw [hn, hm, hk]
      clear hu hv hy hs hn hm hk HQ h0
      generalize hpF 12 qs = z at HPF hq ⊢
      generalize (inA xss ps).length = l at HIn
      generalize inA xss ps = A at HIn
      generalize inS xss ps = s at HIn
      generalize inT xss ps = t at HIn
      obtain ⟨l, hl⟩ : ∃ l, A.length = l := ⟨_, rfl⟩
      have HL := hide hl
      clear hl
      go_enter Try.func31, Try.ntmps31
      go_wp2_with fail
      refine (HIn.out _ A0.out).mono ?_
      rintro e w1 ⟨z1, rfl, hb1, ho1⟩
      obtain ⟨a1, k1, hz1'⟩ := ho1.shape
      rw [HL.out] at hz1'
      subst hz1'
      have bR := below_alloc w1 (.cells #[.int .i64 0, .int .i64 s, .int .i64 t, .slice a1 l k1] 66)
      have HB1 := hide (below_on A0.out (below_on hb1 bR))
      have d0 : w1.cell? ⟨w.heap.size + 1, 0, none⟩ = some (.int .i64 0) := cell_later hb1 (by simp [go_sem])
      have d1 : w1.cell? ⟨w.heap.size + 1, 1, none⟩ = some (.slice none 0 0) := cell_later hb1 (by simp [go_sem])
      have df : Hid (∀ o, w1.frozen? ⟨w.heap.size + 1, o, none⟩ = false) := fun o => ((bcell hb1).2 _ _ (by simp)).trans (by simp [go_sem])
      have hlt1 : w.heap.size + 1 < w1.heap.size := World.block_lt_of_cell? _ _ d0
      clear hb1 ho1 bR
      go_wp2_with fail
      refine (HPF.out _ HB1.out).mono ?_
      rintro e w2 ⟨rfl, hb2⟩
      have b12 := below_on (below_alloc w1 (.cells #[.int .i64 0, .int .i64 s, .int .i64 t, .slice a1 l k1] 66)) hb2
      have q0 := cell_later b12 d0
      have q1 := cell_later b12 d1
      have f0 := ((bcell b12).2 _ _ hlt1).trans (df.out 0)
      have f1 := ((bcell b12).2 _ _ hlt1).trans (df.out 1)
      have HB2 := hide (below_on HB1.out hb2)
      clear hb2 b12 d0 d1 df
      go_wp2
      exact bodyPost_ret (v := .agg #[.int .i64 z, .slice none 0 0]) (by simp [results, Try.results31, go_sem, q0, q1]) rfl ⟨_, rfl, (HB2.out.setCell (by simp) _).setCell (by simp) _, OwT_nil _ _⟩
  · rw [if_neg h0, if_neg (fun h => h0 h.1)]
    rw [hn, hm] at HIn
    rw [hn, hm, hk]
    clear hu hv hy hs hn hm hk HQ HPF
    generalize inF xss ps = z at HIn h0 ⊢
    go_enter Try.func31, Try.ntmps31
    go_wp2_with fail
    refine (HIn.out _ A0.out).mono ?_
    rintro e w1 ⟨z1, rfl, hb1, ho1⟩
    obtain ⟨a1, k1, rfl⟩ := ho1.shape
    have q0 : w1.cell? ⟨w.heap.size + 1, 0, none⟩ = some (.int .i64 0) := cell_later hb1 (by simp [go_sem])
    have q1 : w1.cell? ⟨w.heap.size + 1, 1, none⟩ = some (.slice none 0 0) := cell_later hb1 (by simp [go_sem])
    have f0 : w1.frozen? ⟨w.heap.size + 1, 0, none⟩ = false := ((bcell hb1).2 _ _ (by simp)).trans (by simp [go_sem])
    have f1 : w1.frozen? ⟨w.heap.size + 1, 1, none⟩ = false := ((bcell hb1).2 _ _ (by simp)).trans (by simp [go_sem])
    have hlt : w.heap.size + 1 < w1.heap.size := World.block_lt_of_cell? _ _ q0
    have HB := hide (below_on A0.out hb1)
    generalize (inA xss ps).length = l
    generalize inS xss ps = s
    generalize inT xss ps = t
    clear hb1 ho1
    go_wp2
    have BA := below_alloc ((w1.setCell ⟨w.heap.size + 1, 0, none⟩ (.int .i64 z)).setCell ⟨w.heap.size + 1, 1, none⟩ (.slice none 0 0)) (.cells #[.int .i64 z, .int .i64 s, .int .i64 t, .slice a1 l k1] 66)
    have m0 := cell_later BA (a := ⟨w.heap.size + 1, 0, none⟩) (v := .int .i64 z) (by simp [go_sem, q0])
    have m1 := cell_later BA (a := ⟨w.heap.size + 1, 1, none⟩) (v := .slice none 0 0) (by simp [go_sem, q1])
    exact bodyPost_ret (v := .agg #[.int .i64 z, .slice none 0 0]) (by simp [results, Try.results31, go_sem, m0, m1]) rfl ⟨_, rfl, ((HB.out.setCell (by simp) _).setCell (by simp) _).trans (BA.mono (by simp; omega)), OwT_nil _ _⟩

/-- What the steps of an append hold. -/
theorem ap_bound (xss : List (List Int)) (ps qs : List (Int × List Int)) : totS (apT xss ps qs) (apT xss ps qs).length ≤ 1073741824 := by
  unfold apT
  split
  · rename_i h
    obtain ⟨_, h66, hhd⟩ := in_ok h.1
    obtain ⟨_, hA24, _⟩ := headF_zero hhd
    obtain ⟨hq12, hqA⟩ := hpF_zero h.2.1
    have hl := apTs_len (inS xss ps) (inT xss ps) (inA xss ps) qs
    have := totS_most (ts := apTs (inS xss ps) (inT xss ps) (inA xss ps) qs) (B := 1048576) (fun i hi => by
      rw [hl] at hi
      by_cases h1 : i < qs.length
      · rw [apTs_at _ _ _ _ _ h1]; have := (wordsF_zero (hqA i h1).2).1; dsimp only; omega
      · have : i = qs.length ∨ i = qs.length + 1 ∨ i = qs.length + 2 := by omega
        rcases this with rfl | rfl | rfl
        · rw [apTs_0]; simp
        · rw [apTs_1, packL_len (by simp; omega)]; omega
        · rw [apTs_2]; simp) _ (Nat.le_refl _)
    rw [hl] at this ⊢
    have h2 : (qs.length + 3) * (1048576 + 2) ≤ 27 * (1048576 + 2) := Nat.mul_le_mul_right _ (by omega)
    omega
  · simp [totS]
end Go.Proofs.Ytdjdfkhgkadhgaa
/- Chapter 3, the model's side: 'PlanAppend', walked. -/
namespace Go.Proofs.Ytdjdfkhgkadhgaa
open Go.RowKit

set_option maxHeartbeats 3000000 in
set_option maxRecDepth 4000 in
theorem specPlanAppend {S T S1 : Nat → Prop} {w : World} {u v y : Value} {xss : List (List Int)} {ps qs : List (Int × List Int)} (hu : RdII S w u xss) (hv : RdP T w v ps) (hy : RdP S1 w y qs) (hs : Small xss ps) :
    Calls Try.prog 29 #[.agg #[u, v], y] w (EndsT (apF xss ps qs) (apT xss ps qs) w) := by
  unfold EndsT apF apT
  obtain ⟨ao, c, rfl, _⟩ := hu.shape
  obtain ⟨ao', c', rfl, _⟩ := hv.shape
  obtain ⟨aq, cq, rfl, hqm⟩ := hy.shape
  have HIn := hide (fun (w' : World) (hb : Below w.heap.size w w') => specHeaderIn (hu.later hb) (hv.later hb) hs)
  have HPF : Hid (∀ w', Below w.heap.size w w' → Calls Try.prog 60 #[.slice aq qs.length cq] w' fun e w'' => e = .returned (.int .i64 (hpF 12 qs)) ∧ ∃ q, w'' = w'.drewN q) := fun w' hb => l3Puts (hy.later hb)
  have HQ := hide hy
  obtain ⟨n, hn⟩ : ∃ n, xss.length = n := ⟨_, rfl⟩
  obtain ⟨m, hm⟩ : ∃ m, ps.length = m := ⟨_, rfl⟩
  obtain ⟨k, hk⟩ : ∃ k, qs.length = k := ⟨_, rfl⟩
  have HK := hide hk
  have A0 := hide (below_on (below_alloc w (.cells #[.slice ao n c, .slice ao' m c'] 33)) (below_alloc _ (.cells #[.int .i64 0, .slice none 0 0] 29)))
  by_cases h0 : inF xss ps = 0
  · by_cases hq : hpF 12 qs = 0
    · obtain ⟨_, h66, hhd⟩ := in_ok h0
      obtain ⟨⟨hs1, hs2, ht1, ht2⟩, hA24, hA39⟩ := headF_zero hhd
      obtain ⟨hq12, hqA⟩ := hpF_zero hq
      rw [if_pos h0, if_pos hq]
      rw [h0] at HIn
      rw [hq] at HPF
      have HLA := hide (fun (w' : World) (bh o : Nat) (y' : Value) (hb : Below w.heap.size w w') (hh : HdAt w' bh o (inS xss ps) (inT xss ps) y') (hA : RdI (fun _ => True) w' y' (inA xss ps)) (h1 : inS xss ps < 65000) (h2 : (inA xss ps).length + qs.length ≤ 24) => l3Append hh hA (hy.later hb) hhd h1 hq h2)
      have HTL := hide (apTs_len (inS xss ps) (inT xss ps) (inA xss ps) qs)
      generalize apTs (inS xss ps) (inT xss ps) (inA xss ps) qs = ts at HTL HLA ⊢
      have H00 := hide (And.intro h0 hq)
      generalize inS xss ps = s at HIn HLA hs1 hs2 ⊢
      generalize inT xss ps = t at HIn HLA ht1 ht2
      generalize inA xss ps = A at HIn HLA hA24 ⊢
      obtain ⟨l, hl⟩ : ∃ l, A.length = l := ⟨_, rfl⟩
      have HL := hide hl
      rw [hl] at hA24 HLA
      rw [hk] at HPF HQ HTL HLA hq12
      rw [hn, hm] at HIn
      rw [hn, hm, hl, hk]
      obtain ⟨cc, hcc⟩ : ∃ cc : Int, (if s = 65000 then (10 : Int) else if k = 0 then 0 else if 24 < l + k then 8 else 0) = cc := ⟨_, rfl⟩
      obtain ⟨rs, hrs⟩ : ∃ rs : List St, (if inF xss ps = 0 ∧ hpF 12 qs = 0 ∧ s ≠ 65000 ∧ k ≠ 0 ∧ l + k ≤ 24 then ts else []) = rs := ⟨_, rfl⟩
      rw [hcc, hrs]
      have HCC := hide hcc
      have HRS := hide hrs
      clear hu hv hy hs hn hm hk hqm h0 hq h66 hhd hl hA39 hqA hcc hrs
      go_enter Try.func29, Try.ntmps29
      go_wp2_with fail
      refine (HIn.out _ A0.out).mono ?_
      rintro e w1 ⟨z1, rfl, hb1, ho1⟩
      obtain ⟨a1, k1, hz1'⟩ := ho1.shape
      rw [HL.out] at hz1'
      subst hz1'
      have bR := below_alloc w1 (.cells #[.int .i64 0, .int .i64 s, .int .i64 t, .slice a1 l k1] 66)
      have b1' := below_on hb1 bR
      have HB1 := hide (below_on A0.out b1')
      have d0 : w1.cell? ⟨w.heap.size + 1, 0, none⟩ = some (.int .i64 0) := cell_later hb1 (by simp [go_sem])
      have d1 : w1.cell? ⟨w.heap.size + 1, 1, none⟩ = some (.slice none 0 0) := cell_later hb1 (by simp [go_sem])
      have df : Hid (∀ o, w1.frozen? ⟨w.heap.size + 1, o, none⟩ = false) := fun o => ((bcell hb1).2 _ _ (by simp)).trans (by simp [go_sem])
      have hlt1 : w.heap.size + 1 < w1.heap.size := World.block_lt_of_cell? _ _ d0
      have HRA := hide (ho1.rd.later bR)
      clear hb1 ho1 bR b1'
      go_wp2_with fail
      refine (HPF.out _ HB1.out).mono ?_
      rintro e w2 ⟨rfl, qd, rfl⟩
      have bR := below_alloc w1 (.cells #[.int .i64 0, .int .i64 s, .int .i64 t, .slice a1 l k1] 66)
      have bD := below_drewN (w1.alloc (.cells #[.int .i64 0, .int .i64 s, .int .i64 t, .slice a1 l k1] 66)) qd
      have b12 := below_on bR bD
      have HW : Hid (Below w.heap.size w ((w1.alloc (.cells #[.int .i64 0, .int .i64 s, .int .i64 t, .slice a1 l k1] 66)).drewN qd) ∧ Var2 ((w1.alloc (.cells #[.int .i64 0, .int .i64 s, .int .i64 t, .slice a1 l k1] 66)).drewN qd) (w.heap.size + 1) (.int .i64 0) (.slice none 0 0) ∧ (∀ o, ((w1.alloc (.cells #[.int .i64 0, .int .i64 s, .int .i64 t, .slice a1 l k1] 66)).drewN qd).frozen? ⟨w.heap.size + 1, o, none⟩ = false) ∧ HdAt ((w1.alloc (.cells #[.int .i64 0, .int .i64 s, .int .i64 t, .slice a1 l k1] 66)).drewN qd) w1.heap.size 1 s t (.slice a1 l k1) ∧ RdI (fun _ => True) ((w1.alloc (.cells #[.int .i64 0, .int .i64 s, .int .i64 t, .slice a1 l k1] 66)).drewN qd) (.slice a1 l k1) A) :=
        ⟨below_on HB1.out bD, ⟨cell_later b12 d0, cell_later b12 d1⟩, fun o => ((bcell b12).2 _ _ hlt1).trans (df.out o), ⟨cell_later bD (by simp [go_sem]), cell_later bD (by simp [go_sem]), cell_later bD (by simp [go_sem])⟩, (HRA.out.later bD).narrow (fun _ _ _ => trivial)⟩
      clear bR bD b12 HIn A0 HPF HB1 HRA d0 d1 df
      go_upto_region 7 with fail
      refine forget (fun wx => Below w.heap.size w wx ∧ Var2 wx (w.heap.size + 1) (.int .i64 0) (.slice none 0 0) ∧ (∀ o, wx.frozen? ⟨w.heap.size + 1, o, none⟩ = false) ∧ HdAt wx w1.heap.size 1 s t (.slice a1 l k1) ∧ RdI (fun _ => True) wx (.slice a1 l k1) A) HW.out ?_
      obtain ⟨H, hH⟩ : ∃ H, w1.heap.size = H := ⟨_, rfl⟩
      rw [hH] at hlt1 ⊢
      clear HW hH
      rintro V ⟨hbV, ⟨q0, q1⟩, qf, hHd, hRA⟩
      have HBV := hide hbV
      have HQf := hide qf
      have HHd := hide hHd
      have HRA := hide hRA
      have h0 := hHd.seq
      have h2 := hHd.addrs
      have hHl : H < V.heap.size := World.block_lt_of_cell? _ _ h0
      have f0 := qf 0
      have f1 := qf 1
      clear hbV hHd hRA qf
      by_cases h65 : s = 65000
      · have e1 : cc = 10 := by rw [← HCC.out, if_pos h65]
        have e2 : rs = [] := by rw [← HRS.out, if_neg (fun h => h.2.2.1 h65)]
        subst e1 e2 h65
        go_wp2
        exact bodyPost_ret (v := .agg #[.int .i64 10, .slice none 0 0]) (by simp [results, Try.results29, go_sem, q0, q1]) rfl ⟨_, rfl, (HBV.out.setCell (by simp) _).setCell (by simp) _, OwT_nil _ _⟩
      · have h65' : ¬ 65000 ≤ s := by omega
        by_cases hk0 : k = 0
        · have e1 : cc = 0 := by rw [← HCC.out, if_neg h65, if_pos hk0]
          have e2 : rs = [] := by rw [← HRS.out, if_neg (fun h => h.2.2.2.1 hk0)]
          subst e1 e2 hk0
          go_wp2
          exact bodyPost_ret (v := .agg #[.int .i64 0, .slice none 0 0]) (by simp [results, Try.results29, go_sem, q0, q1]) rfl ⟨_, rfl, (HBV.out.setCell (by simp) _).setCell (by simp) _, OwT_nil _ _⟩
        · have hk0' : ¬ (k : Int) = 0 := by omega
          have hwr : IntKind.i64.wrap ((l : Int) + (k : Int)) = (l : Int) + (k : Int) := by simp [IntKind.wrap, IntKind.bits, IntKind.signed]; omega
          by_cases h24 : 24 < l + k
          · have e1 : cc = 8 := by rw [← HCC.out, if_neg h65, if_neg hk0, if_pos h24]
            have e2 : rs = [] := by rw [← HRS.out, if_neg (fun h => by have := h.2.2.2.2; omega)]
            subst e1 e2
            have h24' : (24 : Int) < (l : Int) + (k : Int) := by omega
            go_wp2
            exact bodyPost_ret (v := .agg #[.int .i64 8, .slice none 0 0]) (by simp [results, Try.results29, go_sem, q0, q1]) rfl ⟨_, rfl, (HBV.out.setCell (by simp) _).setCell (by simp) _, OwT_nil _ _⟩
          · have e1 : cc = 0 := by rw [← HCC.out, if_neg h65, if_neg hk0, if_neg h24]
            have e2 : rs = ts := by rw [← HRS.out, if_pos ⟨H00.out.1, H00.out.2, h65, hk0, by omega⟩]
            subst e1 e2
            have h24' : ¬ (24 : Int) < (l : Int) + (k : Int) := by omega
            have HSt := hide (HLA.out V H 1 _ HBV.out HHd.out HRA.out (by omega) (by omega))
            go_wp2_with fail
            refine HSt.out.mono ?_
            rintro e w6 ⟨z6, rfl, hb6, ho6⟩
            obtain ⟨a6, k6, rfl⟩ := ho6.shape
            have v0 := cell_later hb6 q0
            have v1 := cell_later hb6 q1
            have hq5 : w.heap.size + 1 < V.heap.size := World.block_lt_of_cell? _ _ q0
            have g0 := ((bcell hb6).2 _ _ hq5).trans f0
            have g1 := ((bcell hb6).2 _ _ hq5).trans f1
            have HFin := hide (ret_steps (x := .int .i64 0) (below_on HBV.out hb6) (r := w.heap.size + 1) (by omega) (ho6.ow HTL.out (by omega)) (fun b hb => ⟨by have := hb.1; omega, hb.2⟩))
            clear hb6 ho6 q0 q1 f0 f1 h0 h2
            go_wp2
            exact bodyPost_ret (v := .agg #[.int .i64 0, .slice a6 (k + 3) k6]) (by simp [results, Try.results29, go_sem, v0, v1]) rfl ⟨_, rfl, HFin.out.1, HFin.out.2⟩
    · rw [if_pos h0, if_neg hq, if_neg (fun h => hq h.2.1)]
      rw [h0] at HIn
      rw [hn, hm] at HIn
      rw [hk] at HPF
      rw [hn, hm, hk]
      clear hu hv hy hs hn hm hk HQ h0
      generalize hpF 12 qs = z at HPF hq ⊢
      generalize (inA xss ps).length = l at HIn
      generalize inA xss ps = A at HIn
      generalize inS xss ps = s at HIn
      generalize inT xss ps = t at HIn
      obtain ⟨l, hl⟩ : ∃ l, A.length = l := ⟨_, rfl⟩
      have HL := hide hl
      clear hl
      go_enter Try.func29, Try.ntmps29
      go_wp2_with fail
      refine (HIn.out _ A0.out).mono ?_
      rintro e w1 ⟨z1, rfl, hb1, ho1⟩
      obtain ⟨a1, k1, hz1'⟩ := ho1.shape
      rw [HL.out] at hz1'
      subst hz1'
      have bR := below_alloc w1 (.cells #[.int .i64 0, .int .i64 s, .int .i64 t, .slice a1 l k1] 66)
      have HB1 := hide (below_on A0.out (below_on hb1 bR))
      have d0 : w1.cell? ⟨w.heap.size + 1, 0, none⟩ = some (.int .i64 0) := cell_later hb1 (by simp [go_sem])
      have d1 : w1.cell? ⟨w.heap.size + 1, 1, none⟩ = some (.slice none 0 0) := cell_later hb1 (by simp [go_sem])
      have df : Hid (∀ o, w1.frozen? ⟨w.heap.size + 1, o, none⟩ = false) := fun o => ((bcell hb1).2 _ _ (by simp)).trans (by simp [go_sem])
      have hlt1 : w.heap.size + 1 < w1.heap.size := World.block_lt_of_cell? _ _ d0
      clear hb1 ho1 bR
      go_wp2_with fail
      refine (HPF.out _ HB1.out).mono ?_
      rintro e w2 ⟨rfl, qd, rfl⟩
      have hb2 := below_drewN (w1.alloc (.cells #[.int .i64 0, .int .i64 s, .int .i64 t, .slice a1 l k1] 66)) qd
      have b12 := below_on (below_alloc w1 (.cells #[.int .i64 0, .int .i64 s, .int .i64 t, .slice a1 l k1] 66)) hb2
      have q0 := cell_later b12 d0
      have q1 := cell_later b12 d1
      have f0 := ((bcell b12).2 _ _ hlt1).trans (df.out 0)
      have f1 := ((bcell b12).2 _ _ hlt1).trans (df.out 1)
      have HB2 := hide (below_on HB1.out hb2)
      clear hb2 b12 d0 d1 df
      go_wp2
      exact bodyPost_ret (v := .agg #[.int .i64 z, .slice none 0 0]) (by simp [results, Try.results29, go_sem, q0, q1]) rfl ⟨_, rfl, (HB2.out.setCell (by simp) _).setCell (by simp) _, OwT_nil _ _⟩
  · rw [if_neg h0, if_neg (fun h => h0 h.1)]
    rw [hn, hm] at HIn
    rw [hn, hm, hk]
    clear hu hv hy hs hn hm hk HQ HPF
    generalize inF xss ps = z at HIn h0 ⊢
    go_enter Try.func29, Try.ntmps29
    go_wp2_with fail
    refine (HIn.out _ A0.out).mono ?_
    rintro e w1 ⟨z1, rfl, hb1, ho1⟩
    obtain ⟨a1, k1, rfl⟩ := ho1.shape
    have q0 : w1.cell? ⟨w.heap.size + 1, 0, none⟩ = some (.int .i64 0) := cell_later hb1 (by simp [go_sem])
    have q1 : w1.cell? ⟨w.heap.size + 1, 1, none⟩ = some (.slice none 0 0) := cell_later hb1 (by simp [go_sem])
    have f0 : w1.frozen? ⟨w.heap.size + 1, 0, none⟩ = false := ((bcell hb1).2 _ _ (by simp)).trans (by simp [go_sem])
    have f1 : w1.frozen? ⟨w.heap.size + 1, 1, none⟩ = false := ((bcell hb1).2 _ _ (by simp)).trans (by simp [go_sem])
    have hlt : w.heap.size + 1 < w1.heap.size := World.block_lt_of_cell? _ _ q0
    have HB := hide (below_on A0.out hb1)
    generalize (inA xss ps).length = l
    generalize inS xss ps = s
    generalize inT xss ps = t
    clear hb1 ho1
    go_wp2
    have BA := below_alloc ((w1.setCell ⟨w.heap.size + 1, 0, none⟩ (.int .i64 z)).setCell ⟨w.heap.size + 1, 1, none⟩ (.slice none 0 0)) (.cells #[.int .i64 z, .int .i64 s, .int .i64 t, .slice a1 l k1] 66)
    have m0 := cell_later BA (a := ⟨w.heap.size + 1, 0, none⟩) (v := .int .i64 z) (by simp [go_sem, q0])
    have m1 := cell_later BA (a := ⟨w.heap.size + 1, 1, none⟩) (v := .slice none 0 0) (by simp [go_sem, q1])
    exact bodyPost_ret (v := .agg #[.int .i64 z, .slice none 0 0]) (by simp [results, Try.results29, go_sem, m0, m1]) rfl ⟨_, rfl, ((HB.out.setCell (by simp) _).setCell (by simp) _).trans (BA.mono (by simp; omega)), OwT_nil _ _⟩

end Go.Proofs.Ytdjdfkhgkadhgaa
