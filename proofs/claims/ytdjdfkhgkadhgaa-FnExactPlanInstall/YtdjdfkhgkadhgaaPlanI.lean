/- Chapter 3, the program's side: the steps of an install: its closure, 'stepsOf' over addresses, walked. -/
import Derived.Test.YtdjdfkhgkadhgaaBuiltT
import Derived.Test.YtdjdfkhgkadhgaaLog
import Derived.Test.YtdjdfkhgkadhgaaImpl2c
import Derived.Test.YtdjdfkhgkadhgaaIvT
namespace Go.Proofs.Ytdjdfkhgkadhgaa
open Go.RowKit

theorem Try.infoStep : (Try.prog.info? 73).map (fun i => (i.zero, i.size, i.bytes)) = some (some (.agg #[.bool false, .int .i64 0, .slice none 0 0]), 3, 40) := by kernel_rfl
theorem field_words (x y : Value) (w : World) : (Instr.field 110 (.agg #[x, y]) 1).run Try.prog w = .ok y w := by
  simp [Instr.field, run_underlying Try.underlying110, asAgg, part, isAgg, run_underlying Try.underlying45]
theorem set3_away {w : World} {b h o : Nat} {x y z : Value} (hb : b ≠ h) : (((w.setCell ⟨h, 0, none⟩ x).setCell ⟨h, 1, none⟩ y).setCell ⟨h, 2, none⟩ z).cell? ⟨b, o, none⟩ = w.cell? ⟨b, o, none⟩ := by
  rw [World.cell?_setCell_other _ _ _ _ (by intro e; injection e with e1 _; exact hb e1.symm), World.cell?_setCell_other _ _ _ _ (by intro e; injection e with e1 _; exact hb e1.symm), World.cell?_setCell_other _ _ _ _ (by intro e; injection e with e1 _; exact hb e1.symm)]

/-- The end of a function that stores a step into its result's variable. -/
theorem ret_step {w w3 : World} {B r : Nat} {z x y : Value} {xs : List Int} (hb : Below w.heap.size w w3) (hr : w.heap.size ≤ r) (ho : OwI B w3 z xs) (hB : r < B) :
    Below w.heap.size w (((w3.setCell ⟨r, 0, none⟩ x).setCell ⟨r, 1, none⟩ y).setCell ⟨r, 2, none⟩ z) ∧ OwI B (((w3.setCell ⟨r, 0, none⟩ x).setCell ⟨r, 1, none⟩ y).setCell ⟨r, 2, none⟩ z) z xs := by
  have hw : Wr (fun y => y = r) w3 (((w3.setCell ⟨r, 0, none⟩ x).setCell ⟨r, 1, none⟩ y).setCell ⟨r, 2, none⟩ z) := (((Wr.refl (fun y => y = r) _).setCell (p := ⟨r, 0, none⟩) rfl _).setCell (p := ⟨r, 1, none⟩) rfl _).setCell (p := ⟨r, 2, none⟩) rfl _
  exact ⟨((hb.setCell (p := ⟨r, 0, none⟩) hr _).setCell (p := ⟨r, 1, none⟩) hr _).setCell (p := ⟨r, 2, none⟩) hr _, ho.wr hw (fun b h1 _ e => by omega)⟩

set_option maxHeartbeats 1000000 in
set_option maxRecDepth 4000 in
/-- The closure of 'PlanInstall'. -/
theorem planIn1 {S T : Nat → Prop} {w : World} {D H : Nat} {u v : Value} {xss : List (List Int)} {ps : List (Int × List Int)} {s t : Int} {ay : Option Addr} {l cy : Nat} (i addr : Int) (hd0 : w.cell? ⟨D, 0, none⟩ = some u) (hd1 : w.cell? ⟨D, 1, none⟩ = some v) (hh : HdAt w H 0 s t (.slice ay l cy))
    (hu : RdII S w u xss) (hv : RdP T w v ps) (hs : Small xss ps) (h66 : xss.length = 66) (ht : 0 ≤ t) (ht' : t ≤ 23) (hi : 0 ≤ i) (hi' : i ≤ 1048576) (ha : 0 ≤ addr) (ha' : addr ≤ 39) :
    Calls Try.prog 41 #[.int .i64 i, .int .i64 addr, .pointer (some ⟨D, 0, none⟩), .pointer (some ⟨H, 0, none⟩)] w fun e w' => ∃ z, e = .returned (.agg #[.bool false, .int .i64 (26 + addr), z]) ∧ Below w.heap.size w w' ∧ OwI w.heap.size w' z (slotW xss ps t i) := by
  obtain ⟨ao, c, rfl, _⟩ := hu.shape
  obtain ⟨ao', c', rfl, _⟩ := hv.shape
  have HSW := hide (fun (w' : World) (hb : Below w.heap.size w w') => slotWords s t i ay l cy (hu.later hb) (hv.later hb) hs h66 ht ht' hi hi')
  generalize slotW xss ps t i = ws at HSW ⊢
  generalize xss.length = n at HSW hd0
  generalize ps.length = m at HSW hd1
  have h0 := hh.seq
  have h1 := hh.start
  have h2 := hh.addrs
  clear hu hv hs h66 ht ht' hh
  have hDl := World.block_lt_of_cell? _ _ hd0
  have hHl := World.block_lt_of_cell? _ _ h0
  go_enter Try.func41, Try.ntmps41
  go_wp2_with fail
  refine (HSW.out _ (below_alloc _ _)).mono ?_
  rintro e w1 ⟨z, rfl, hb, ho⟩
  obtain ⟨az, cz, rfl⟩ := ho.shape
  have v0 : w1.cell? ⟨w.heap.size, 0, none⟩ = some (.bool false) := cell_later hb (by simp [go_sem])
  have v1 : w1.cell? ⟨w.heap.size, 1, none⟩ = some (.int .i64 0) := cell_later hb (by simp [go_sem])
  have v2 : w1.cell? ⟨w.heap.size, 2, none⟩ = some (.slice none 0 0) := cell_later hb (by simp [go_sem])
  have f0 : w1.frozen? ⟨w.heap.size, 0, none⟩ = false := ((bcell hb).2 _ _ (by simp)).trans (by simp [go_sem])
  have f1 : w1.frozen? ⟨w.heap.size, 1, none⟩ = false := ((bcell hb).2 _ _ (by simp)).trans (by simp [go_sem])
  have f2 : w1.frozen? ⟨w.heap.size, 2, none⟩ = false := ((bcell hb).2 _ _ (by simp)).trans (by simp [go_sem])
  have HB := hide (below_on (below_alloc _ _) hb)
  have HO := hide ho
  clear hb ho
  go_wp2
  have hfin := ret_step (x := .bool false) (y := .int .i64 (26 + addr)) HB.out (r := w.heap.size) (Nat.le_refl _) HO.out (by simp)
  exact bodyPost_ret (v := .agg #[.bool false, .int .i64 (26 + addr), .slice az ws.length cz]) (by simp [results, Try.results41, go_sem, v0, v1, v2]) rfl ⟨_, rfl, hfin.1, hfin.2.mono (by simp)⟩

set_option maxHeartbeats 4000000 in
set_option maxRecDepth 4000 in
/-- 'stepsOf' over addresses, by what its function value answers. -/
theorem stepsOfI {S S2 : Nat → Prop} {w : World} {D H : Nat} {y y2 : Value} {A xs : List Int} (s t : Int) (ts : List St) (hA : RdI S w y A) (hl24 : A.length ≤ 24) (hy2 : RdI S2 w y2 xs) (hhd : headF s t xs = 0) (hts : ts.length = A.length + 3)
    (e0 : ts.getD A.length st0 = (true, 0, [])) (e1 : ts.getD (A.length + 1) st0 = (false, s % 2, packL s t xs)) (e2 : ts.getD (A.length + 2) st0 = (true, 0, []))
    (hput : ∀ i, i < A.length → (ts.getD i st0).1 = false ∧ ∀ w', Below w.heap.size w w' → Calls Try.prog 41 #[.int .i64 (i : Int), .int .i64 (A.getD i 0), .pointer (some ⟨D, 0, none⟩), .pointer (some ⟨H, 0, none⟩)] w' fun e w'' => ∃ z, e = .returned (.agg #[.bool false, .int .i64 (ts.getD i st0).2.1, z]) ∧ Below w'.heap.size w' w'' ∧ OwI w'.heap.size w'' z (ts.getD i st0).2.2) :
    Calls Try.prog 44 #[y, .func (.func 41) #[] #[.pointer (some ⟨D, 0, none⟩), .pointer (some ⟨H, 0, none⟩)], .agg #[.int .i64 s, .int .i64 t, y2]] w fun e w' => ∃ z, e = .returned z ∧ Below w.heap.size w w' ∧ BuiltT (w.heap.size ≤ ·) w' z ts.length ts := by
  obtain ⟨i0, hi, hz0, hz1, hz2⟩ := info_parts Try.infoStep
  obtain ⟨ay, cy, rfl⟩ := hA.shape
  obtain ⟨a2, c2, rfl⟩ := hy2.shape
  have hs1 := (headF_zero hhd).1
  have HPk := hide (fun (w' : World) (hb : Below w.heap.size w w') => implPackHeader s t (hy2.later hb))
  rw [hhd, if_pos rfl] at HPk
  have HPl := hide (fun (w' : World) => headerPlace s (by omega) w')
  have HPut := hide hput
  have HR := hide hA
  have E0 := hide e0
  have E1 := hide e1
  have E2 := hide e2
  have HTs := hide hts
  have hfld := field_words
  obtain ⟨l2, hl2⟩ : ∃ l2, xs.length = l2 := ⟨_, rfl⟩
  rw [hl2] at HPk ⊢
  obtain ⟨l, hl⟩ : ∃ l, A.length = l := ⟨_, rfl⟩
  have HL := hide hl
  rw [hl] at hl24 HPut HR E0 E1 E2 HTs ⊢
  obtain ⟨p, hp⟩ : ∃ p, s % 2 = p := ⟨_, rfl⟩
  rw [hp] at HPl E1
  have HWl := hide (packL_len (s := s) (t := t) (xs := xs) (by have := (headF_zero hhd).2.1; omega))
  obtain ⟨ws, hws⟩ : ∃ ws, packL s t xs = ws := ⟨_, rfl⟩
  rw [hws] at HPk E1 HWl
  clear hA hy2 hhd hts e0 e1 e2 hput hl hl2 hp hws
  go_enter Try.func44, Try.ntmps44
  go_wp2
  go_loopw [7, 12] (fun v i wr => ∃ k : Nat, k ≤ l ∧ i = .int .i64 k ∧ Hid (BuiltT (w.heap.size + 1 ≤ ·) wr v k ts) ∧ Hid (Below w.heap.size w wr) ∧ Hid (w.heap.size < wr.heap.size) ∧ Hid (HdAt wr w.heap.size 0 s t (.slice a2 l2 c2))) (fun _ i _ => l - (intOf i).toNat)
  case atStart => exact ⟨0, Nat.zero_le _, rfl, BuiltT.nil _ _ _, below_alloc _ _, (by simp : w.heap.size < (w.alloc _).heap.size), HdAt_new _ _ _ _ _⟩
  case round =>
    obtain ⟨k, hk, rfl, HBu, HB, HSz, HHd⟩ := hrel
    have hsz := HSz.out
    by_cases hlt : k < l
    · obtain ⟨b, off, rfl, hx⟩ := (HR.out).at (k := k) (by rw [HL.out]; exact hlt)
      have hx' := cell_later HB.out hx
      obtain ⟨hfl, hC⟩ := HPut.out k hlt
      have HC := hide (hC wr HB.out)
      obtain ⟨x, hxe⟩ : ∃ x, A.getD k 0 = x := ⟨_, rfl⟩
      rw [hxe] at hx' HC
      clear hx hxe hC
      have HFl := hide hfl
      obtain ⟨ak, hak⟩ : ∃ ak, (ts.getD k st0).2.1 = ak := ⟨_, rfl⟩
      obtain ⟨wk, hwk⟩ : ∃ wk, (ts.getD k st0).2.2 = wk := ⟨_, rfl⟩
      have HAk := hide hak
      have HWk := hide hwk
      rw [hak, hwk] at HC
      have hk0 : (0 : Int) ≤ (k : Int) := Int.natCast_nonneg _
      have hk1 : (k : Int) < (l : Int) := by omega
      clear hfl hak hwk
      go_wp2_with fail
      refine HC.out.mono ?_
      rintro e w1 ⟨z, rfl, hb1, ho1⟩
      obtain ⟨ao4, c4, rfl⟩ := ho1.shape
      obtain ⟨V2, Bk2, hown, hpr, hin⟩ := HBu.out
      have HOw := hide (ownsRow_later (ownsRow_later hown hb1) (below_alloc w1 (.cells #[.bool false, .int .i64 ak, .slice ao4 wk.length c4] 73)))
      have HB1 := hide hb1
      have HO1 := hide ho1
      have HIn := hide hin
      have HPr := hide hpr
      have HOw0 := hide hown
      have hz1' := hb1.size
      clear hb1 ho1 hin hown hpr
      go_wp2_with (at_builtin; refine wpList_append_lies _ rfl _ _ _ rfl 0 73 i0 (.agg #[.bool false, .int .i64 0, .slice none 0 0]) 3 40 Try.underlying27 hi hz0 hz1 hz2 rfl (by omega) _ k _ (by rfl) HOw.out ⟨w1.heap.size, 0, none⟩ 1 1 [.bool false, .int .i64 ak, .slice ao4 wk.length c4] (by rfl) (by rfl) (World.news_of_block (cs := #[.bool false, .int .i64 ak, .slice ao4 wk.length c4]) (t := 73) (fr := (0, 0)) (heap_alloc_new w1 _)) cells3_one (by omega) (by unfold maxLen; omega) (by omega) (Nat.zero_le _) (w1.heap.size + 1) (by simp) ?_)
      intro g cap w3 hown3 hgrow hat hlt3
      have HS := hide (BuiltT.step (P' := (w.heap.size + 1 ≤ ·)) HIn.out HOw0.out HPr.out (fun _ h => h) (fun b hb => by omega) HB1.out (by rw [HWk.out]; exact HO1.out) (below_alloc w1 (.cells #[.bool false, .int .i64 ak, .slice ao4 wk.length c4] 73)) (by rw [HFl.out, HAk.out]; exact hown3) hgrow (by simpa using hat))
      have HB3 := hide ((below_on (below_on HB.out HB1.out) (below_alloc w1 (.cells #[.bool false, .int .i64 ak, .slice ao4 wk.length c4] 73))).grown hgrow (by simp; omega) (fun r hr => by have := HPr.out r hr; omega))
      have far : ∀ o, w3.cell? ⟨w.heap.size, o, none⟩ = wr.cell? ⟨w.heap.size, o, none⟩ := fun o => (hgrow.cell_far ⟨w.heap.size, o, none⟩ (by simp; omega) (fun e => by have := HPr.out _ e.symm; dsimp only at this; omega)).trans (((bcell (below_alloc w1 _)).1 _ _ (by omega)).trans ((bcell HB1.out).1 _ _ hsz))
      have HH3 : Hid (HdAt w3 w.heap.size 0 s t (.slice a2 l2 c2)) := ⟨(far _).trans HHd.out.seq, (far _).trans HHd.out.start, (far _).trans HHd.out.addrs⟩
      have hsz3 := hgrow.size
      simp only [World.size_alloc] at hsz3
      have HS3 : Hid (w.heap.size < w3.heap.size) := (by omega : w.heap.size < w3.heap.size)
      clear hown3 hgrow hat far
      go_wp2
      go_roundw
      case rel => exact ⟨k + 1, hlt, by go_num, HS.out, HB3.out, HS3.out, HH3.out⟩
      case measure => simp [intOf]; omega
    · have hkl : k = l := by omega
      subst hkl
      have h0 := HHd.out.seq
      have h1 := HHd.out.start
      have h2 := HHd.out.addrs
      simp only [Nat.zero_add] at h0 h1 h2
      obtain ⟨V2, Bk2, hown, hpr, hin⟩ := HBu.out
      obtain ⟨av, cv, rfl⟩ := HBu.out.shape
      have HIn := hide hin
      have HPr := hide hpr
      have HOw0 := hide hown
      clear hin hown hpr
      obtain ⟨W1, hW1⟩ : ∃ W1, wr.drew = W1 := ⟨_, rfl⟩
      obtain ⟨W2, hW2⟩ : ∃ W2, (wr.alloc (.cells #[.bool false, .int .i64 0, .slice none 0 0] 73)).drew = W2 := ⟨_, rfl⟩
      have b1 : Below wr.heap.size wr W1 := by rw [← hW1]; exact below_drewN wr 1
      have b2 : Below wr.heap.size wr W2 := by rw [← hW2]; exact below_on (below_alloc wr _) (below_drewN _ 1)
      have z1 : W1.heap.size = wr.heap.size := by rw [← hW1]; rfl
      have z2 : W2.heap.size = wr.heap.size + 1 := by rw [← hW2]; show (wr.alloc _).heap.size = _; simp
      have m0 : W2.cell? ⟨wr.heap.size, 0, none⟩ = some (.bool false) := by rw [← hW2]; show (wr.alloc _).cell? _ = _; simp [go_sem]
      have m1 : W2.cell? ⟨wr.heap.size, 1, none⟩ = some (.int .i64 0) := by rw [← hW2]; show (wr.alloc _).cell? _ = _; simp [go_sem]
      have m2 : W2.cell? ⟨wr.heap.size, 2, none⟩ = some (.slice none 0 0) := by rw [← hW2]; show (wr.alloc _).cell? _ = _; simp [go_sem]
      have mf : ∀ o, W2.frozen? ⟨wr.heap.size, o, none⟩ = false := by rw [← hW2]; intro o; show (wr.alloc _).frozen? _ = _; simp [go_sem]
      have Q1 := hide (And.intro b1 z1)
      have Q2 := hide (And.intro (And.intro b2 z2) (And.intro m0 (And.intro m1 (And.intro m2 mf))))
      have HW1 := hide hW1
      have HW2 := hide hW2
      have hr0 : ¬ w.heap.size = wr.heap.size := by omega
      clear hW1 hW2 b1 b2 z1 z2 m0 m1 m2 mf
      go_wp2_with fail
      go_region_held3 (fun w' => w'.cell? ⟨w.heap.size, 0, none⟩ = some (.int .i64 s) ∧ w'.cell? ⟨w.heap.size, 1, none⟩ = some (.int .i64 t) ∧ w'.cell? ⟨w.heap.size, 2, none⟩ = some (.slice a2 l2 c2)) (simp [go_sem, *])
        (first
          | (go_at_call 78; refine (HPl.out _).mono ?_; rintro e wq ⟨rfl, rfl⟩)
          | (go_at_call 79; rw [HW1.out]; refine (HPk.out W1 (below_on HB.out Q1.out.1)).mono ?_; rintro e w4 ⟨z4, rfl, hb4, ho4⟩; obtain ⟨a4, k4, hz4⟩ := ho4.shape; rw [HWl.out] at hz4; subst hz4; have c0 := cell_later hb4 (cell_later Q1.out.1 h0); have c1 := cell_later hb4 (cell_later Q1.out.1 h1); have c3 := cell_later hb4 (cell_later Q1.out.1 h2); have HB4 := hide (below_on Q1.out.1 hb4); have HO4 := hide (ho4.mono (B' := wr.heap.size) (by rw [Q1.out.2]; exact Nat.le_refl _)); have hz4' : wr.heap.size ≤ w4.heap.size := HB4.out.size; have hw4 : w.heap.size < w4.heap.size := Nat.lt_of_lt_of_le hsz hz4'; have hr4 : ¬ w.heap.size = w4.heap.size := (by omega); clear hb4 ho4)
          | (go_at_call 79; rw [HW2.out]; refine (HPk.out W2 (below_on HB.out Q2.out.1.1)).mono ?_; rintro e w4 ⟨z4, rfl, hb4, ho4⟩; obtain ⟨a4, k4, hz4⟩ := ho4.shape; rw [HWl.out] at hz4; subst hz4; have c0 := cell_later hb4 (cell_later Q2.out.1.1 h0); have c1 := cell_later hb4 (cell_later Q2.out.1.1 h1); have c3 := cell_later hb4 (cell_later Q2.out.1.1 h2); have n0 := cell_later hb4 Q2.out.2.1; have n1 := cell_later hb4 Q2.out.2.2.1; have n2 := cell_later hb4 Q2.out.2.2.2.1; have nf0 := ((bcell hb4).2 _ 0 (by rw [Q2.out.1.2]; exact Nat.lt_succ_self _)).trans (Q2.out.2.2.2.2 0); have nf1 := ((bcell hb4).2 _ 1 (by rw [Q2.out.1.2]; exact Nat.lt_succ_self _)).trans (Q2.out.2.2.2.2 1); have nf2 := ((bcell hb4).2 _ 2 (by rw [Q2.out.1.2]; exact Nat.lt_succ_self _)).trans (Q2.out.2.2.2.2 2); have HB4 := hide (below_on Q2.out.1.1 hb4); have HO4 := hide (ho4.mono (B' := wr.heap.size + 1) (by rw [Q2.out.1.2]; exact Nat.le_refl _)); have hw4 : wr.heap.size < w4.heap.size := World.block_lt_of_cell? _ _ n0; clear hb4 ho4))
      · clear h0 h1 h2 c0 c1 c3
        obtain ⟨V5, hV5⟩ : ∃ V5, w4.alloc (.cells #[.bool false, .int .i64 p, .slice a4 64 k4] 73) = V5 := ⟨_, rfl⟩
        have n0 : V5.cell? ⟨w4.heap.size, 0, none⟩ = some (.bool false) := by rw [← hV5]; simp [go_sem]
        have n1 : V5.cell? ⟨w4.heap.size, 1, none⟩ = some (.int .i64 p) := by rw [← hV5]; simp [go_sem]
        have n2 : V5.cell? ⟨w4.heap.size, 2, none⟩ = some (.slice a4 64 k4) := by rw [← hV5]; simp [go_sem]
        have b5 : Hid (Below wr.heap.size wr V5) := by rw [← hV5]; exact below_on HB4.out (below_alloc _ _)
        have o5 : Hid (OwI wr.heap.size V5 (.slice a4 64 k4) ws) := by rw [← hV5]; exact HO4.out.later (below_alloc _ _)
        rw [hV5]
        obtain ⟨N, hN⟩ : ∃ N, w4.heap.size = N := ⟨_, rfl⟩
        rw [hN] at n0 n1 n2 ⊢
        clear hV5 hN HB4 HO4
        have hz5 := b5.out.size
        have HOwF := hide (ownsRow_later (ownsRow_later HOw0.out b5.out) (below_alloc V5 (.cells #[.bool true, .int .i64 0, .slice none 0 0, .bool false, .int .i64 p, .slice a4 64 k4, .bool true, .int .i64 0, .slice none 0 0] 73)))
        go_wp2_with (at_builtin; refine wpList_append_lies _ rfl _ _ _ rfl 0 73 i0 (.agg #[.bool false, .int .i64 0, .slice none 0 0]) 3 40 Try.underlying27 hi hz0 hz1 hz2 rfl (by omega) _ k _ (by rfl) HOwF.out ⟨V5.heap.size, 0, none⟩ 3 3 [.bool true, .int .i64 0, .slice none 0 0, .bool false, .int .i64 p, .slice a4 64 k4, .bool true, .int .i64 0, .slice none 0 0] (by rfl) (by rfl) (World.news_of_block (cs := #[.bool true, .int .i64 0, .slice none 0 0, .bool false, .int .i64 p, .slice a4 64 k4, .bool true, .int .i64 0, .slice none 0 0]) (t := 73) (fr := (0, 0)) (heap_alloc_new V5 _)) cells9_one (by omega) (by unfold maxLen; omega) (by omega) (Nat.zero_le _) (V5.heap.size + 1) (by simp) ?_)
        intro g cap w6 hown6 hgrow hat hlt6
        have HS := hide (BuiltT.three (P' := (w.heap.size ≤ ·)) HIn.out HOw0.out HPr.out E0.out E1.out E2.out (fun b hb => by omega) (fun b hb => by omega) b5.out o5.out (below_alloc V5 (.cells #[.bool true, .int .i64 0, .slice none 0 0, .bool false, .int .i64 p, .slice a4 64 k4, .bool true, .int .i64 0, .slice none 0 0] 73)) hown6 hgrow (by simpa using hat))
        have HB6 := hide ((below_on (below_on HB.out b5.out) (below_alloc V5 (.cells #[.bool true, .int .i64 0, .slice none 0 0, .bool false, .int .i64 p, .slice a4 64 k4, .bool true, .int .i64 0, .slice none 0 0] 73))).grown hgrow (by simp; omega) (fun r hr => by have := HPr.out r hr; omega))
        clear hown6 hgrow hat hlt6 n0 n1 n2
        go_wp2
        go_ret
        exact ⟨_, rfl, HB6.out, by rw [HTs.out]; exact HS.out⟩
      · clear h0 h1 h2 c0 c1 c3
        obtain ⟨V5, hV5⟩ : ∃ V5, ((w4.setCell ⟨wr.heap.size, 0, none⟩ (.bool false)).setCell ⟨wr.heap.size, 1, none⟩ (.int .i64 p)).setCell ⟨wr.heap.size, 2, none⟩ (.slice a4 64 k4) = V5 := ⟨_, rfl⟩
        have m0 : V5.cell? ⟨wr.heap.size, 0, none⟩ = some (.bool false) := by rw [← hV5]; simp [go_sem, n0]
        have m1 : V5.cell? ⟨wr.heap.size, 1, none⟩ = some (.int .i64 p) := by rw [← hV5]; simp [go_sem, n1]
        have m2 : V5.cell? ⟨wr.heap.size, 2, none⟩ = some (.slice a4 64 k4) := by rw [← hV5]; simp [go_sem, n2]
        have b5 : Hid (Below wr.heap.size wr V5) := by rw [← hV5]; exact ((HB4.out.setCell (p := ⟨wr.heap.size, 0, none⟩) (Nat.le_refl _) _).setCell (p := ⟨wr.heap.size, 1, none⟩) (Nat.le_refl _) _).setCell (p := ⟨wr.heap.size, 2, none⟩) (Nat.le_refl _) _
        have o5 : Hid (OwI wr.heap.size V5 (.slice a4 64 k4) ws) := by
          rw [← hV5]
          exact (HO4.out.wr (((((Wr.refl (fun y => y = wr.heap.size) w4).setCell (p := ⟨wr.heap.size, 0, none⟩) rfl _).setCell (p := ⟨wr.heap.size, 1, none⟩) rfl _).setCell (p := ⟨wr.heap.size, 2, none⟩) rfl _)) (fun b hb _ e => by omega)).mono (by omega)
        rw [hV5]
        clear n0 n1 n2 nf0 nf1 nf2
        have n0 := m0
        have n1 := m1
        have n2 := m2
        clear m0 m1 m2
        clear hV5 HB4 HO4
        have hz5 := b5.out.size
        have HOwF := hide (ownsRow_later (ownsRow_later HOw0.out b5.out) (below_alloc V5 (.cells #[.bool true, .int .i64 0, .slice none 0 0, .bool false, .int .i64 p, .slice a4 64 k4, .bool true, .int .i64 0, .slice none 0 0] 73)))
        go_wp2_with (at_builtin; refine wpList_append_lies _ rfl _ _ _ rfl 0 73 i0 (.agg #[.bool false, .int .i64 0, .slice none 0 0]) 3 40 Try.underlying27 hi hz0 hz1 hz2 rfl (by omega) _ k _ (by rfl) HOwF.out ⟨V5.heap.size, 0, none⟩ 3 3 [.bool true, .int .i64 0, .slice none 0 0, .bool false, .int .i64 p, .slice a4 64 k4, .bool true, .int .i64 0, .slice none 0 0] (by rfl) (by rfl) (World.news_of_block (cs := #[.bool true, .int .i64 0, .slice none 0 0, .bool false, .int .i64 p, .slice a4 64 k4, .bool true, .int .i64 0, .slice none 0 0]) (t := 73) (fr := (0, 0)) (heap_alloc_new V5 _)) cells9_one (by omega) (by unfold maxLen; omega) (by omega) (Nat.zero_le _) (V5.heap.size + 1) (by simp) ?_)
        intro g cap w6 hown6 hgrow hat hlt6
        have HS := hide (BuiltT.three (P' := (w.heap.size ≤ ·)) HIn.out HOw0.out HPr.out E0.out E1.out E2.out (fun b hb => by omega) (fun b hb => by omega) b5.out o5.out (below_alloc V5 (.cells #[.bool true, .int .i64 0, .slice none 0 0, .bool false, .int .i64 p, .slice a4 64 k4, .bool true, .int .i64 0, .slice none 0 0] 73)) hown6 hgrow (by simpa using hat))
        have HB6 := hide ((below_on (below_on HB.out b5.out) (below_alloc V5 (.cells #[.bool true, .int .i64 0, .slice none 0 0, .bool false, .int .i64 p, .slice a4 64 k4, .bool true, .int .i64 0, .slice none 0 0] 73))).grown hgrow (by simp; omega) (fun r hr => by have := HPr.out r hr; omega))
        clear hown6 hgrow hat hlt6 n0 n1 n2
        go_wp2
        go_ret
        exact ⟨_, rfl, HB6.out, by rw [HTs.out]; exact HS.out⟩
      · clear h0 h1 h2 c0 c1 c3
        obtain ⟨V5, hV5⟩ : ∃ V5, ((w4.setCell ⟨wr.heap.size, 0, none⟩ (.bool false)).setCell ⟨wr.heap.size, 1, none⟩ (.int .i64 p)).setCell ⟨wr.heap.size, 2, none⟩ (.slice a4 64 k4) = V5 := ⟨_, rfl⟩
        have m0 : V5.cell? ⟨wr.heap.size, 0, none⟩ = some (.bool false) := by rw [← hV5]; simp [go_sem, n0]
        have m1 : V5.cell? ⟨wr.heap.size, 1, none⟩ = some (.int .i64 p) := by rw [← hV5]; simp [go_sem, n1]
        have m2 : V5.cell? ⟨wr.heap.size, 2, none⟩ = some (.slice a4 64 k4) := by rw [← hV5]; simp [go_sem, n2]
        have b5 : Hid (Below wr.heap.size wr V5) := by rw [← hV5]; exact ((HB4.out.setCell (p := ⟨wr.heap.size, 0, none⟩) (Nat.le_refl _) _).setCell (p := ⟨wr.heap.size, 1, none⟩) (Nat.le_refl _) _).setCell (p := ⟨wr.heap.size, 2, none⟩) (Nat.le_refl _) _
        have o5 : Hid (OwI wr.heap.size V5 (.slice a4 64 k4) ws) := by
          rw [← hV5]
          exact (HO4.out.wr (((((Wr.refl (fun y => y = wr.heap.size) w4).setCell (p := ⟨wr.heap.size, 0, none⟩) rfl _).setCell (p := ⟨wr.heap.size, 1, none⟩) rfl _).setCell (p := ⟨wr.heap.size, 2, none⟩) rfl _)) (fun b hb _ e => by omega)).mono (by omega)
        rw [hV5]
        clear n0 n1 n2 nf0 nf1 nf2
        have n0 := m0
        have n1 := m1
        have n2 := m2
        clear m0 m1 m2
        clear hV5 HB4 HO4
        have hz5 := b5.out.size
        have HOwF := hide (ownsRow_later (ownsRow_later HOw0.out b5.out) (below_alloc V5 (.cells #[.bool true, .int .i64 0, .slice none 0 0, .bool false, .int .i64 p, .slice a4 64 k4, .bool true, .int .i64 0, .slice none 0 0] 73)))
        go_wp2_with (at_builtin; refine wpList_append_lies _ rfl _ _ _ rfl 0 73 i0 (.agg #[.bool false, .int .i64 0, .slice none 0 0]) 3 40 Try.underlying27 hi hz0 hz1 hz2 rfl (by omega) _ k _ (by rfl) HOwF.out ⟨V5.heap.size, 0, none⟩ 3 3 [.bool true, .int .i64 0, .slice none 0 0, .bool false, .int .i64 p, .slice a4 64 k4, .bool true, .int .i64 0, .slice none 0 0] (by rfl) (by rfl) (World.news_of_block (cs := #[.bool true, .int .i64 0, .slice none 0 0, .bool false, .int .i64 p, .slice a4 64 k4, .bool true, .int .i64 0, .slice none 0 0]) (t := 73) (fr := (0, 0)) (heap_alloc_new V5 _)) cells9_one (by omega) (by unfold maxLen; omega) (by omega) (Nat.zero_le _) (V5.heap.size + 1) (by simp) ?_)
        intro g cap w6 hown6 hgrow hat hlt6
        have HS := hide (BuiltT.three (P' := (w.heap.size ≤ ·)) HIn.out HOw0.out HPr.out E0.out E1.out E2.out (fun b hb => by omega) (fun b hb => by omega) b5.out o5.out (below_alloc V5 (.cells #[.bool true, .int .i64 0, .slice none 0 0, .bool false, .int .i64 p, .slice a4 64 k4, .bool true, .int .i64 0, .slice none 0 0] 73)) hown6 hgrow (by simpa using hat))
        have HB6 := hide ((below_on (below_on HB.out b5.out) (below_alloc V5 (.cells #[.bool true, .int .i64 0, .slice none 0 0, .bool false, .int .i64 p, .slice a4 64 k4, .bool true, .int .i64 0, .slice none 0 0] 73))).grown hgrow (by simp; omega) (fun r hr => by have := HPr.out r hr; omega))
        clear hown6 hgrow hat hlt6 n0 n1 n2
        go_wp2
        go_ret
        exact ⟨_, rfl, HB6.out, by rw [HTs.out]; exact HS.out⟩
end Go.Proofs.Ytdjdfkhgkadhgaa
