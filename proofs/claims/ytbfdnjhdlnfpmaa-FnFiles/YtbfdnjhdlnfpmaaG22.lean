/- Fi7 in one text: what each says stands at its head below. -/
import Derived.Test.YtbfdnjhdlnfpmaaG07
import Derived.Test.YtbfdnjhdlnfpmaaG21
import Derived.Deep.RegionHeld3
/- Chapter 8: copies of files, and where a file of a name lies; both sides walked. -/
namespace Go.Proofs.Ytbfdnjhdlnfpmaa
open Go.RowKit

theorem set3_fi {w : World} {b h o : Nat} {x y z : Value} (hb : b ≠ h) : (((w.setCell ⟨h, 0, none⟩ x).setCell ⟨h, 1, none⟩ y).setCell ⟨h, 2, none⟩ z).cell? ⟨b, o, none⟩ = w.cell? ⟨b, o, none⟩ := by
  rw [World.cell?_setCell_other _ _ _ _ (by intro e; injection e with e1 _; exact hb e1.symm), World.cell?_setCell_other _ _ _ _ (by intro e; injection e with e1 _; exact hb e1.symm), World.cell?_setCell_other _ _ _ _ (by intro e; injection e with e1 _; exact hb e1.symm)]
/-- The k-th file is the first one of the name a. -/
def AtF (fs : List Oj) (a : Int) (k : Nat) : Prop := k < fs.length ∧ (fs.getD k oj0).1 = a ∧ ∀ j, j < k → (fs.getD j oj0).1 ≠ a
def NoF (fs : List Oj) (a : Int) : Prop := ∀ j, j < fs.length → (fs.getD j oj0).1 ≠ a
theorem at_or_no (fs : List Oj) (a : Int) : (∃ k, AtF fs a k) ∨ NoF fs a := by
  by_cases h : ∃ k, k < fs.length ∧ (fs.getD k oj0).1 = a
  · left
    obtain ⟨k, hk⟩ := h
    induction k using Nat.strongRecOn with
    | _ k ih =>
      by_cases h2 : ∃ j, j < k ∧ (fs.getD j oj0).1 = a
      · obtain ⟨j, hj, ha⟩ := h2
        exact ih j hj ⟨by omega, ha⟩
      · exact ⟨k, hk.1, hk.2, fun j hj ha => h2 ⟨j, hj, ha⟩⟩
  · right
    exact fun j hj ha => h ⟨j, hj, ha⟩

set_option maxHeartbeats 1000000 in
set_option maxRecDepth 4000 in
/-- 'spec.l8Copy' of a reading. -/
theorem l8Copy {S : Nat → Prop} {w : World} {u : Value} {ps : List Oj} (hu : RdJ S w u ps) (hm : ps.length ≤ 1048576) (hl : ∀ i, i < ps.length → (ps.getD i oj0).2.2.length ≤ 1048576) :
    Calls Try.prog 61 #[u] w fun e w' => ∃ z, e = .returned z ∧ Below w.heap.size w w' ∧ BuiltFi (w.heap.size ≤ ·) w' z ps.length ps := by
  obtain ⟨ao, c, rfl, _⟩ := hu.shape
  obtain ⟨i0, hi, hz0, hz1, hz2⟩ := info_parts Try.infoFl
  have HU := hide hu
  have HL := hide hl
  obtain ⟨n, hn⟩ : ∃ n, ps.length = n := ⟨_, rfl⟩
  rw [hn] at hm ⊢
  have HN := hide hn
  rw [hn] at HU
  clear hu hl hn
  go_enter Try.func61, Try.ntmps61
  go_wp2
  go_loopw [3, 4] (fun v i wr => ∃ k : Nat, k ≤ n ∧ i = .int .i64 k ∧ Hid (BuiltFi (w.heap.size ≤ ·) wr v k ps) ∧ Hid (Below w.heap.size w wr)) (fun _ i _ => n - (intOf i).toNat)
  case atStart => exact ⟨0, Nat.zero_le _, rfl, BuiltFi.empty _ _ (Nat.le_refl _) _, below_alloc _ _⟩
  case round =>
    obtain ⟨k, hk, rfl, HBu, HB⟩ := hrel
    by_cases hlt : k < n
    · obtain ⟨b, off, rfl, y, q1, qs, q2, q3⟩ := HU.out.file (k := k) (by rw [HN.out]; exact hlt)
      obtain ⟨ao3, c3, rfl⟩ := q3.shape
      have g1 := cell_later HB.out q1
      have gs := cell_later HB.out qs
      have g2 := cell_later HB.out q2
      obtain ⟨x, hx⟩ : ∃ x, (ps.getD k oj0).1 = x := ⟨_, rfl⟩
      obtain ⟨s, hs⟩ : ∃ s, (ps.getD k oj0).2.1 = s := ⟨_, rfl⟩
      obtain ⟨l, hl⟩ : ∃ l, (ps.getD k oj0).2.2.length = l := ⟨_, rfl⟩
      have HX := hide hx
      have HSs := hide hs
      have HLen := hide hl
      have HLk := hide (HL.out k (by rw [HN.out]; exact hlt))
      have R := hide (q3.later HB.out)
      rw [hx] at g1
      rw [hs] at gs
      rw [hl] at g2 R
      have hbl := World.block_lt_of_cell? _ _ q1
      obtain ⟨V2, Bk2, hown, hpr, hin⟩ := HBu.out
      have HOw0 := hide hown
      have HPr := hide hpr
      have HIn := hide hin
      have hz := HB.out.size
      have hk0 : (0 : Int) ≤ (k : Int) := Int.natCast_nonneg _
      have hk1 : (k : Int) < (n : Int) := by omega
      clear q1 qs q2 q3 hx hs hl hin hown hpr
      go_wp2_with fail
      go_region_held3 (fun w' => w'.cell? ⟨b, off + k * 3, none⟩ = some (.int .i64 x) ∧ w'.cell? ⟨b, off + k * 3 + 1, none⟩ = some (.int .i64 s) ∧ w'.cell? ⟨b, off + k * 3 + 2, none⟩ = some (.slice ao3 l c3)) (first | exact ⟨g1, gs, g2⟩ | exact ⟨e0, es, e1⟩ | exact ⟨cell_later (below_alloc _ _) e0, cell_later (below_alloc _ _) es, cell_later (below_alloc _ _) e1⟩ | exact ⟨s0, ss, s1⟩)
        (first
          | (go_at_call 48; refine (l1Ints (R.out.drewN 1) HLk.out).mono ?_; rintro e w1 ⟨z, rfl, hb1, ho1⟩; obtain ⟨ao4, c4, rfl⟩ := ho1.shape; have e0 : w1.cell? ⟨b, off + k * 3, none⟩ = some (.int .i64 x) := cell_later hb1 g1; have es : w1.cell? ⟨b, off + k * 3 + 1, none⟩ = some (.int .i64 s) := cell_later hb1 gs; have e1 : w1.cell? ⟨b, off + k * 3 + 2, none⟩ = some (.slice ao3 l c3) := cell_later hb1 g2; have HB1 := hide (below_on (below_drewN wr 1) hb1); have HO1 := hide ho1; have hzz : wr.heap.size ≤ w1.heap.size := hb1.size; clear hb1 ho1)
          | (refine step_append_lies _ (by rfl) _ _ _ (by rfl) 0 35 i0 (.agg #[.int .i64 0, .int .i64 0, .slice none 0 0]) 3 40 Try.underlying26 hi hz0 hz1 hz2 rfl (by omega) _ k _ (by rfl) (ownsRow_later (ownsRow_later HOw0.out HB1.out) (below_alloc w1 (.cells #[.int .i64 x, .int .i64 s, .slice ao4 (ps.getD k oj0).2.2.length c4] 35))) ⟨w1.heap.size, 0, none⟩ 1 1 [.int .i64 x, .int .i64 s, .slice ao4 (ps.getD k oj0).2.2.length c4] (by rfl) (by rfl) (World.news_of_block (cs := #[.int .i64 x, .int .i64 s, .slice ao4 (ps.getD k oj0).2.2.length c4]) (t := 35) (fr := (0, 0)) (heap_alloc_new w1 _)) cellsFi_one (by omega) (by unfold maxLen; omega) (by omega) (Nat.zero_le _) (w1.heap.size + 1) (by simp) ?_; intro g cap w3 hown3 hgrow hat hlt3; have s0 : w3.cell? ⟨b, off + k * 3, none⟩ = some (.int .i64 x) := (hgrow.cell_far _ (by simp; omega) (fun e => by have := HPr.out _ e.symm; dsimp only at this; omega)).trans (cell_later (below_alloc _ _) e0); have ss : w3.cell? ⟨b, off + k * 3 + 1, none⟩ = some (.int .i64 s) := (hgrow.cell_far _ (by simp; omega) (fun e => by have := HPr.out _ e.symm; dsimp only at this; omega)).trans (cell_later (below_alloc _ _) es); have s1 : w3.cell? ⟨b, off + k * 3 + 2, none⟩ = some (.slice ao3 l c3) := (hgrow.cell_far _ (by simp; omega) (fun e => by have := HPr.out _ e.symm; dsimp only at this; omega)).trans (cell_later (below_alloc _ _) e1)))
      have HS := hide (BuiltFi.step (P' := (w.heap.size ≤ ·)) HIn.out HOw0.out HPr.out (fun _ h => h) (fun b hb => Nat.le_trans hz hb) HB1.out HO1.out (below_alloc w1 (.cells #[.int .i64 x, .int .i64 s, .slice ao4 (ps.getD k oj0).2.2.length c4] 35)) (by rw [HX.out, HSs.out]; exact hown3) hgrow (by simpa using hat))
      have HB3 := hide ((below_on (below_on HB.out HB1.out) (below_alloc w1 (.cells #[.int .i64 x, .int .i64 s, .slice ao4 (ps.getD k oj0).2.2.length c4] 35))).grown hgrow (by simp; omega) (fun r hr => HPr.out r hr))
      clear hown3 hgrow hat s0 ss s1 e0 es e1 hzz
      go_wp2
      go_roundw
      case rel => exact ⟨k + 1, hlt, by go_num, HS.out, HB3.out⟩
      case measure => simp [intOf]; omega
    · have hkn : k = n := by omega
      subst hkn
      go_wp2
      go_ret
      exact ⟨_, rfl, HB.out, HBu.out⟩

/-- 'impl.copyFile'. -/
theorem copyFile {S : Nat → Prop} {w : World} {b off : Nat} {p : Oj} (hp : RdFp S w b off p) (hm : p.2.2.length ≤ 1048576) :
    Calls Try.prog 40 #[.pointer (some ⟨b, off, none⟩)] w fun e w' => ∃ z, e = .returned (.agg #[.int .i64 p.1, .int .i64 p.2.1, z]) ∧ Below w.heap.size w w' ∧ OwI w.heap.size w' z p.2.2 := by
  obtain ⟨y, g0, g1, g2, hy⟩ := hp
  obtain ⟨a, s, xs⟩ := p
  dsimp only at g0 g1 g2 hy hm ⊢
  obtain ⟨ay, cy, rfl⟩ := hy.shape
  have HY := hide hy
  obtain ⟨l, hl⟩ : ∃ l, xs.length = l := ⟨_, rfl⟩
  have HL := hide hl
  rw [hl] at g2 HY
  clear hy hl
  have hbv : b ≠ w.heap.size := Nat.ne_of_lt (World.block_lt_of_cell? _ _ g0)
  obtain ⟨W, hW⟩ : ∃ W, w.alloc (.cells #[.int .i64 0, .int .i64 0, .slice none 0 0] 35) = W := ⟨_, rfl⟩
  have BW : Hid (Below w.heap.size w W) := by rw [← hW]; exact below_alloc _ _
  have hWs : W.heap.size = w.heap.size + 1 := by rw [← hW]; simp
  have c0 : W.cell? ⟨b, off, none⟩ = some (.int .i64 a) := cell_later BW.out g0
  have c1 : W.cell? ⟨b, off + 1, none⟩ = some (.int .i64 s) := cell_later BW.out g1
  have c2 : W.cell? ⟨b, off + 2, none⟩ = some (.slice ay l cy) := cell_later BW.out g2
  have v0 : W.cell? ⟨w.heap.size, 0, none⟩ = some (.int .i64 0) := by rw [← hW]; simp [go_sem]
  have v1 : W.cell? ⟨w.heap.size, 1, none⟩ = some (.int .i64 0) := by rw [← hW]; simp [go_sem]
  have v2 : W.cell? ⟨w.heap.size, 2, none⟩ = some (.slice none 0 0) := by rw [← hW]; simp [go_sem]
  have vf : ∀ o, W.frozen? ⟨w.heap.size, o, none⟩ = false := by rw [← hW]; intro o; simp [go_sem]
  clear g0 g1 g2
  go_enter Try.func40, Try.ntmps40
  go_wp2_with fail
  go_region_held3 (fun w' => w'.cell? ⟨b, off, none⟩ = some (.int .i64 a) ∧ w'.cell? ⟨b, off + 1, none⟩ = some (.int .i64 s) ∧ w'.cell? ⟨b, off + 2, none⟩ = some (.slice ay l cy)) (first | exact ⟨c0, c1, c2⟩ | exact ⟨e0, e1, e2⟩ | exact ⟨(set3_fi hbv).trans e0, (set3_fi hbv).trans e1, (set3_fi hbv).trans e2⟩)
    (first | (go_at_call 51; refine (copyWords ((HY.out.later BW.out).drewN 1) hm).mono ?_; rintro e w1 ⟨z, rfl, hb1, ho1⟩; obtain ⟨az, cz, hz1⟩ := ho1.shape; rw [HL.out] at hz1; subst hz1; have e0 := cell_later hb1 c0; have e1 := cell_later hb1 c1; have e2 := cell_later hb1 c2; have x0 := cell_later hb1 v0; have x1 := cell_later hb1 v1; have x2 := cell_later hb1 v2; have y0 := ((bcell hb1).2 _ _ (show w.heap.size < W.heap.size by omega)).trans (vf 0); have y1 := ((bcell hb1).2 _ _ (show w.heap.size < W.heap.size by omega)).trans (vf 1); have y2 := ((bcell hb1).2 _ _ (show w.heap.size < W.heap.size by omega)).trans (vf 2); have HB := hide (below_on BW.out (below_on (below_drewN _ 1) hb1)); have HO := hide ho1; clear hb1 ho1))
  go_wp2
  refine bodyPost_ret (v := .agg #[.int .i64 a, .int .i64 s, .slice az l cz]) (by simp [results, Try.results40, go_sem, x0, x1, x2]) rfl ⟨_, rfl, ?_, ?_⟩
  · repeat (first | refine Below.setCell ?_ (by first | (simp; done) | (simp; omega) | omega) _ | exact HB.out)
  · refine OwI.mono (OwI.wr HO.out (T := fun b => b = w.heap.size) ?_ (fun b hb _ e => by rw [World.heap_drewN] at hb; omega)) (by rw [World.heap_drewN]; omega)
    repeat (first | refine Wr.setCell ?_ (by first | rfl | (simp; done) | (simp; omega) | omega) _ | exact Wr.refl _ _)

set_option maxHeartbeats 1000000 in
/-- 'spec.l8At': the place of a file. -/
theorem l8At {S : Nat → Prop} {w : World} {v : Value} {fs : List Oj} (a : Int) (hv : RdJ S w v fs) :
    Calls Try.prog 46 #[v, .int .i64 a] w fun e w' => w' = w ∧ ((∃ k, AtF fs a k ∧ e = .returned (.int .i64 (k : Int))) ∨ (NoF fs a ∧ e = .returned (.int .i64 (-1)))) := by
  obtain ⟨av, cv, rfl, hm⟩ := hv.shape
  have HV := hide hv
  obtain ⟨n, hn⟩ : ∃ n, fs.length = n := ⟨_, rfl⟩
  have HN := hide hn
  rw [hn] at HV hm ⊢
  clear hv hn
  go_enter Try.func46, Try.ntmps46
  go_wp2
  go_loopw [5] (fun i wr => ∃ (k : Nat), k ≤ n ∧ i = .int .i64 k ∧ Hid (∀ j, j < k → (fs.getD j oj0).1 ≠ a) ∧ wr = w) (fun i _ => n - (RowKit.intOf i).toNat)
  case atStart => exact ⟨0, Nat.zero_le _, rfl, fun j hj => absurd hj (Nat.not_lt_zero _), by first | rfl | trivial⟩
  case round =>
    obtain ⟨k, hk, rfl, HA, rfl⟩ := hrel
    by_cases hlt : k < n
    · obtain ⟨b, off, rfl, y, q0, _⟩ := HV.out.file (k := k) (by rw [HN.out]; exact hlt)
      obtain ⟨x, hx⟩ : ∃ x, (fs.getD k oj0).1 = x := ⟨_, rfl⟩
      rw [hx] at q0
      have HX := hide hx
      have hk0 : (0 : Int) ≤ (k : Int) := by omega
      have hk1 : (k : Int) < (n : Int) := by omega
      clear hx
      by_cases hxa : x = a
      · subst hxa
        have HAt : Hid (AtF fs x k) := ⟨by rw [HN.out]; exact hlt, HX.out, HA.out⟩
        go_wp2
        go_ret
        exact ⟨rfl, Or.inl ⟨k, HAt.out, rfl⟩⟩
      · have hxb : (x == a) = false := by simpa using hxa
        have HA' : Hid (∀ j, j < k + 1 → (fs.getD j oj0).1 ≠ a) := fun j hj => by
          by_cases e : j = k
          · subst e; rw [HX.out]; exact hxa
          · exact HA.out j (by omega)
        go_wp2
        go_roundw
        case rel => exact ⟨k + 1, hlt, by go_num, HA'.out, by first | rfl | trivial⟩
        case measure => simp [RowKit.intOf]; omega
    · have hkn : k = n := by omega
      subst hkn
      have HNo : Hid (NoF fs a) := fun j hj => HA.out j (by rw [← HN.out]; exact hj)
      go_wp2
      go_ret
      exact ⟨rfl, Or.inr ⟨HNo.out, rfl⟩⟩

set_option maxHeartbeats 1000000 in
/-- 'impl.fileOf': where the file of a name lies. -/
theorem fileOf {S : Nat → Prop} {w : World} {ao : Option Addr} {n c : Nat} {fs : List Oj} (a : Int) (hv : RdJ S w (.slice ao n c) fs) (hn : fs.length = n) :
    Calls Try.prog 56 #[.slice ao n c, .int .i64 a] w fun e w' => w' = w ∧ ((∃ k b off, AtF fs a k ∧ ao = some ⟨b, off, none⟩ ∧ e = .returned (.pointer (some ⟨b, off + k * 3, none⟩))) ∨ (NoF fs a ∧ e = .returned (.pointer none))) := by
  have HV := hide hv
  have HN := hide hn
  have hm : n ≤ 9223372036854775807 := by obtain ⟨_, _, _, h, _⟩ := hv; rw [hn] at h; exact h
  clear hv hn
  go_enter Try.func56, Try.ntmps56
  go_wp2
  go_loopw [8] (fun i wr => ∃ (k : Nat), k ≤ n ∧ i = .int .i64 k ∧ Hid (∀ j, j < k → (fs.getD j oj0).1 ≠ a) ∧ wr = w) (fun i _ => n - (RowKit.intOf i).toNat)
  case atStart => exact ⟨0, Nat.zero_le _, rfl, fun j hj => absurd hj (Nat.not_lt_zero _), by first | rfl | trivial⟩
  case round =>
    obtain ⟨k, hk, rfl, HA, rfl⟩ := hrel
    by_cases hlt : k < n
    · obtain ⟨b, off, rfl, y, q0, _⟩ := HV.out.file (k := k) (by rw [HN.out]; exact hlt)
      obtain ⟨x, hx⟩ : ∃ x, (fs.getD k oj0).1 = x := ⟨_, rfl⟩
      rw [hx] at q0
      have HX := hide hx
      have hk0 : (0 : Int) ≤ (k : Int) := by omega
      have hk1 : (k : Int) < (n : Int) := by omega
      clear hx
      by_cases hxa : x = a
      · subst hxa
        have HAt : Hid (AtF fs x k) := ⟨by rw [HN.out]; exact hlt, HX.out, HA.out⟩
        go_wp2
        go_ret
        exact ⟨rfl, Or.inl ⟨k, b, off, HAt.out, rfl, rfl⟩⟩
      · have hxb : (x == a) = false := by simpa using hxa
        have HA' : Hid (∀ j, j < k + 1 → (fs.getD j oj0).1 ≠ a) := fun j hj => by
          by_cases e : j = k
          · subst e; rw [HX.out]; exact hxa
          · exact HA.out j (by omega)
        go_wp2
        go_roundw
        case rel => exact ⟨k + 1, hlt, by go_num, HA'.out, by first | rfl | trivial⟩
        case measure => simp [RowKit.intOf]; omega
    · have hkn : k = n := by omega
      subst hkn
      have HNo : Hid (NoF fs a) := fun j hj => HA.out j (by rw [← HN.out]; exact hj)
      go_wp2
      go_ret
      exact ⟨rfl, Or.inr ⟨HNo.out, rfl⟩⟩

/-- 'impl.labelOf'. -/
theorem labelOf {S : Nat → Prop} {w : World} {b off : Nat} {p : Oj} (hp : RdFp S w b off p) :
    Calls Try.prog 62 #[.pointer (some ⟨b, off, none⟩)] w fun e w' => e = .returned (.agg #[.int .i64 p.1, .int .i64 p.2.1]) ∧ Below w.heap.size w w' := by
  obtain ⟨y, g0, g1, _, _⟩ := hp
  obtain ⟨a, s, xs⟩ := p
  dsimp only at g0 g1 ⊢
  have hbl := World.block_lt_of_cell? _ _ g0
  have hbn : b ≠ w.heap.size := Nat.ne_of_lt hbl
  go_enter Try.func62, Try.ntmps62
  go_wp2_with fail
  go_region
  all_goals
    go_wp2
    refine bodyPost_ret (v := .agg #[.int .i64 a, .int .i64 s]) (by simp [results, Try.results62, go_sem]) rfl ⟨rfl, ?_⟩
    repeat (first | refine Below.setCell ?_ (by first | (simp; done) | (simp; omega) | omega) _ | exact below_on (below_alloc _ _) (below_drewN _ _) | exact below_alloc _ _)
theorem labelNone (w : World) : Calls Try.prog 62 #[.pointer none] w fun e w' => e = .returned (.agg #[.int .i64 0, .int .i64 0]) ∧ Below w.heap.size w w' := by
  go_enter Try.func62, Try.ntmps62
  go_wp2
  refine bodyPost_ret (v := .agg #[.int .i64 0, .int .i64 0]) (by simp [results, Try.results62, go_sem]) rfl ⟨rfl, ?_⟩
  repeat (first | refine Below.setCell ?_ (by first | (simp; done) | (simp; omega) | omega) _ | exact below_alloc _ _)
end Go.Proofs.Ytbfdnjhdlnfpmaa
